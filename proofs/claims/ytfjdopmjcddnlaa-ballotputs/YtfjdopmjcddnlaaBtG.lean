/- Casts cloned. -/
import Derived.Test.YtfjdopmjcddnlaaBtF
import Derived.Deep.RegionLaw
set_option linter.unusedVariables false
namespace Go.Proofs.Ytfjdopmjcddnlaa
open Go.RowKit Cn Rl Bt

theorem info44 : (Try.prog.info? 44).map (fun i => (i.zero, i.size, i.bytes)) = some (some (.agg #[.int .u8 0, .bool false, .int .u8 0]), 3, 3) := by kernel_rfl
set_option maxHeartbeats 2000000 in
set_option maxRecDepth 100000 in
theorem clone3_any (a : Option Addr) (cap : Nat) (l : List Bt.Ct) (w : World) (h : AtC w a l) (hn : l.length ≤ 1000) :
    Calls Try.prog 24 #[.slice a l.length cap] w fun e w' => ∃ v', e = .returned v' ∧ w'.ownsRow w.heap.size 44 3 v' l.length (rowC l) ∧ Below w.heap.size w w' := by
  obtain ⟨i0, hi, hz0, hz1, hz2⟩ := info_parts info44
  have I : Aside (Try.prog.info? 44 = some i0 ∧ i0.zero = some (.agg #[.int .u8 0, .bool false, .int .u8 0]) ∧ i0.size = 3 ∧ i0.bytes = 3) := ⟨hi, hz0, hz1, hz2⟩
  clear hi hz0 hz1 hz2
  have q35 : ∀ (w : World) (a : Option Addr) (n c n' c' : Nat), (binOp .eql 35 (.slice a n c) (.slice none n' c')).run Try.prog w = .ok (.bool a.isNone) w := fun w a n c n' c' => Lib.run_eql_slice_nil w _ _ a n c n' c' Try.underlying35
  have u35 : ∀ w, Sem.run Try.prog (underlying 35) w = .ok (TypeDesc.slice 44) w := run_underlying Try.underlying35
  cases a with
  | none =>
    obtain rfl : l = [] := by
      rcases h with h | ⟨b, off, h, _⟩
      · exact h
      · cases h
    go_enter Try.func24, Try.ntmps24
    go_wp2
    go_ret
    exact ⟨_, rfl, World.ownsRow_nil _ _ _ _, Below.refl _ _⟩
  | some ad =>
    have A : Aside (∀ j u, (rowC l)[j]? = some u → w.cell? (ad.add j) = some u) := by
      rcases h with rfl | ⟨b, off, h, hc⟩
      · intro j u hu; simp [rowC] at hu
      · obtain rfl := Option.some.inj h
        intro j u hu
        rw [Addr.add_lit]
        exact hc j u hu
    clear h
    go_enter Try.func24, Try.ntmps24
    go_wp2_with (at_builtin; refine wpList_append_own _ rfl _ _ 35 rfl w.heap.size 44 i0 (.agg #[.int .u8 0, .bool false, .int .u8 0]) 3 3 Try.underlying35 I.out.1 I.out.2.1 I.out.2.2.1 I.out.2.2.2 rfl (by decide) _ _ _ rfl (World.ownsRow_made w #[] 0 (Nat.le_refl _) (Nat.zero_le _) (by simp)) ad l.length cap (rowC l) rfl ?qc1 ?qc2 ?qc3 ?qc4 ?qc5 ?qc6 ?_)
    case qc1 => exact rowC_len l
    case qc2 =>
      intro j u hj
      exact Lib.cell?_alloc_some _ (A.out j u hj)
    case qc3 => exact rowC_one l
    case qc4 => rw [Nat.zero_add]; unfold maxLen; omega
    case qc5 => rw [Nat.zero_add]; omega
    case qc6 => simp
    intro v' w1 hown hgrow hnil
    go_wp2
    go_ret
    refine ⟨v', rfl, by simpa using hown, ?_⟩
    exact ((Below.refl _ w).alloc (Nat.le_refl _) _).grown hgrow (by simp) (by intro k hk; simp [Value.ownBlock] at hk; omega)

end Go.Proofs.Ytfjdopmjcddnlaa
