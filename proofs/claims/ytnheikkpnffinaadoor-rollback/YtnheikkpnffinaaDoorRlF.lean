/- The changes of texts: what the document's Parse gives: the same. -/
import Derived.Test.YtnheikkpnffinaaDoorRlE
set_option linter.unusedVariables false
namespace Go.Proofs.YtnheikkpnffinaaDoor
open Go.RowKit
namespace Rl
open Cn

set_option maxHeartbeats 4000000 in
set_option maxRecDepth 100000 in
/-- What the document's Parse gives. -/
theorem rparse_any (s : ByteArray) (w : World) :
    Calls Tryd.prog 15 #[.string s] w fun e w' => e = .returned (.tuple #[chV (parse s).1 (parse s).2.1, .int .i64 ((parse s).2.2 : Nat)]) ∧ Below w.heap.size w w' := by
  have PY : Aside (∀ a i, i < 16 → txt a i = s → parse s = (a, i, 0)) := fun a i h hs => parse_yes h hs.symm
  have PN : Aside ((∀ a i, i < 16 → s ≠ txt a i) → parse s = (false, 0, 4)) := parse_no
  generalize parse s = r at PY PN ⊢
  obtain ⟨V, hV⟩ : ∃ V, V = w.alloc (.cells #[.bool false, .int .u8 0] 27) := ⟨_, rfl⟩
  have X : Aside (P2 V w.heap.size 27 (.bool false) (.int .u8 0) ∧ Below w.heap.size w V) := by
    rw [hV]
    exact ⟨P2.new w _ _ _, below_one w _⟩
  unfold chV
  go_enter Tryd.func15, Tryd.ntmps15
  go_wp2_with fail
  rw [← hV]
  clear hV
  go_loopw [4, 5, 6] (fun i _ _ wr => ∃ k : Nat, k ≤ 16 ∧ i = .int .i64 k ∧ P2 wr w.heap.size 27 (.bool false) (.int .u8 0) ∧ Below w.heap.size w wr ∧ ∀ a j, j < k → s ≠ txt a j) (fun i _ _ _ => 16 - (intOf i).toNat)
  case atStart => exact ⟨0, by omega, rfl, X.out.1, X.out.2, fun a j h => by omega⟩
  case round =>
    obtain ⟨k, hk, rfl, hp, hb, hno⟩ := hrel
    have HN : Aside (∀ a j, j < k → s ≠ txt a j) := hno
    have HP : Aside (P2 wr w.heap.size 27 (.bool false) (.int .u8 0) ∧ Below w.heap.size w wr) := ⟨hp, hb⟩
    clear hno hp hb
    by_cases hlt : k < 16
    · have t1 : (k : Int) < 16 := by omega
      have hwr : IntKind.u8.wrap (k : Int) = (k : Int) := by rw [IntKind.wrap_u8]; omega
      have T1 : Aside (∀ W, Calls Tryd.prog 17 #[.agg #[.bool true, .int .u8 (k : Int)]] W fun e w' => e = .returned (.string (txt true k)) ∧ Below W.heap.size W w') := fun W => rtext_any true k W (by omega) (.inl (by omega))
      have T2 : Aside (∀ W, Calls Tryd.prog 17 #[.agg #[.bool false, .int .u8 (k : Int)]] W fun e w' => e = .returned (.string (txt false k)) ∧ Below W.heap.size W w') := fun W => rtext_any false k W (by omega) (.inl (by omega))
      by_cases h1 : txt true k = s
      · have r1 := PY.out _ _ hlt h1
        subst r1
        rw [h1] at T1
        clear h1 PY PN HN
        obtain ⟨n0, n1⟩ := ((P2.new wr 27 (.bool true) (.int .u8 (k : Int))).alloc (.cells #[.bool false, .int .u8 (k : Int)] 27)).cells
        go_wp2_with (first
          | (go_at_call 17; refine (T1.out _).mono ?_; rintro e w1 ⟨rfl, hb1⟩; have Y1 : Aside (P2 w1 w.heap.size 27 _ _ ∧ P2 w1 wr.heap.size 27 _ _ ∧ P2 w1 (wr.heap.size + 1) 27 _ _ ∧ Below w.heap.size w w1) := ⟨((HP.out.1.alloc _).alloc _).later hb1, ((P2.new wr 27 _ _).alloc _).later hb1, (P2.new1 wr _ 27 _ _).later hb1, below_step ((HP.out.2.alloc HP.out.2.size _).alloc (Nat.le_trans HP.out.2.size (by simp)) _) hb1⟩; clear hb1 T1 n0 n1; obtain ⟨c0, c1⟩ := Y1.out.2.1.cells; obtain ⟨b0, b1⟩ := Y1.out.2.2.1.cells; obtain ⟨d0, d1⟩ := Y1.out.1.cells; have z0 := Y1.out.1.frozen 0; have z1 := Y1.out.1.frozen 1)
          | (go_at_call 17; refine (T2.out _).mono ?_; rintro e w2 ⟨rfl, hb2⟩; have Y2 : Aside (P2 w2 w.heap.size 27 _ _ ∧ P2 w2 (wr.heap.size + 1) 27 _ _ ∧ Below w.heap.size w w2) := ⟨Y1.out.1.later hb2, Y1.out.2.2.1.later hb2, below_step Y1.out.2.2.2 hb2⟩; clear hb2 c0 c1 b0 b1 d0 d1 z0 z1; obtain ⟨c0, c1⟩ := Y2.out.2.1.cells; obtain ⟨d0, d1⟩ := Y2.out.1.cells; have z0 := Y2.out.1.frozen 0; have z1 := Y2.out.1.frozen 1))
        exact bodyPost_ret (results_cell2 rfl rfl (Tryd.isAgg27 _) (Tryd.sizeOf27 _) (load_two (Y1.out.1.put _ _))) rfl ⟨rfl, below_put Y1.out.2.2.2 (Nat.le_refl _) _ _⟩
      · have e1 : ((txt true k).toList == s.toList) = false := by rw [eq_lists]; exact decide_eq_false h1
        by_cases h2 : txt false k = s
        · have r1 := PY.out _ _ hlt h2
          subst r1
          rw [h2] at T2
          clear h1 h2 PY PN HN
          generalize txt true k = x1 at T1 e1
          obtain ⟨n0, n1⟩ := ((P2.new wr 27 (.bool true) (.int .u8 (k : Int))).alloc (.cells #[.bool false, .int .u8 (k : Int)] 27)).cells
          go_wp2_with (first
          | (go_at_call 17; refine (T1.out _).mono ?_; rintro e w1 ⟨rfl, hb1⟩; have Y1 : Aside (P2 w1 w.heap.size 27 _ _ ∧ P2 w1 wr.heap.size 27 _ _ ∧ P2 w1 (wr.heap.size + 1) 27 _ _ ∧ Below w.heap.size w w1) := ⟨((HP.out.1.alloc _).alloc _).later hb1, ((P2.new wr 27 _ _).alloc _).later hb1, (P2.new1 wr _ 27 _ _).later hb1, below_step ((HP.out.2.alloc HP.out.2.size _).alloc (Nat.le_trans HP.out.2.size (by simp)) _) hb1⟩; clear hb1 T1 n0 n1; obtain ⟨c0, c1⟩ := Y1.out.2.1.cells; obtain ⟨b0, b1⟩ := Y1.out.2.2.1.cells; obtain ⟨d0, d1⟩ := Y1.out.1.cells; have z0 := Y1.out.1.frozen 0; have z1 := Y1.out.1.frozen 1)
          | (go_at_call 17; refine (T2.out _).mono ?_; rintro e w2 ⟨rfl, hb2⟩; have Y2 : Aside (P2 w2 w.heap.size 27 _ _ ∧ P2 w2 (wr.heap.size + 1) 27 _ _ ∧ Below w.heap.size w w2) := ⟨Y1.out.1.later hb2, Y1.out.2.2.1.later hb2, below_step Y1.out.2.2.2 hb2⟩; clear hb2 c0 c1 b0 b1 d0 d1 z0 z1; obtain ⟨c0, c1⟩ := Y2.out.2.1.cells; obtain ⟨d0, d1⟩ := Y2.out.1.cells; have z0 := Y2.out.1.frozen 0; have z1 := Y2.out.1.frozen 1))
          exact bodyPost_ret (results_cell2 rfl rfl (Tryd.isAgg27 _) (Tryd.sizeOf27 _) (load_two (Y2.out.1.put _ _))) rfl ⟨rfl, below_put Y2.out.2.2 (Nat.le_refl _) _ _⟩
        · have e2 : ((txt false k).toList == s.toList) = false := by rw [eq_lists]; exact decide_eq_false h2
          have hstep : Aside (∀ a j, j < k + 1 → s ≠ txt a j) := fun a j hj hs => by
            by_cases hjk : j = k
            · subst hjk
              cases a
              · exact h2 hs.symm
              · exact h1 hs.symm
            · exact HN.out a j (by omega) hs
          clear h1 h2 HN
          generalize txt true k = x1 at T1 e1
          generalize txt false k = x2 at T2 e2
          have hadd : wrap64 ((k : Int) + 1) = (k : Int) + 1 := IntWalk.wrap64_in _ ⟨by omega, by omega⟩
          obtain ⟨n0, n1⟩ := ((P2.new wr 27 (.bool true) (.int .u8 (k : Int))).alloc (.cells #[.bool false, .int .u8 (k : Int)] 27)).cells
          go_wp2_with (first
          | (go_at_call 17; refine (T1.out _).mono ?_; rintro e w1 ⟨rfl, hb1⟩; have Y1 : Aside (P2 w1 w.heap.size 27 _ _ ∧ P2 w1 wr.heap.size 27 _ _ ∧ P2 w1 (wr.heap.size + 1) 27 _ _ ∧ Below w.heap.size w w1) := ⟨((HP.out.1.alloc _).alloc _).later hb1, ((P2.new wr 27 _ _).alloc _).later hb1, (P2.new1 wr _ 27 _ _).later hb1, below_step ((HP.out.2.alloc HP.out.2.size _).alloc (Nat.le_trans HP.out.2.size (by simp)) _) hb1⟩; clear hb1 T1 n0 n1; obtain ⟨c0, c1⟩ := Y1.out.2.1.cells; obtain ⟨b0, b1⟩ := Y1.out.2.2.1.cells; obtain ⟨d0, d1⟩ := Y1.out.1.cells; have z0 := Y1.out.1.frozen 0; have z1 := Y1.out.1.frozen 1)
          | (go_at_call 17; refine (T2.out _).mono ?_; rintro e w2 ⟨rfl, hb2⟩; have Y2 : Aside (P2 w2 w.heap.size 27 _ _ ∧ P2 w2 (wr.heap.size + 1) 27 _ _ ∧ Below w.heap.size w w2) := ⟨Y1.out.1.later hb2, Y1.out.2.2.1.later hb2, below_step Y1.out.2.2.2 hb2⟩; clear hb2 c0 c1 b0 b1 d0 d1 z0 z1; obtain ⟨c0, c1⟩ := Y2.out.2.1.cells; obtain ⟨d0, d1⟩ := Y2.out.1.cells; have z0 := Y2.out.1.frozen 0; have z1 := Y2.out.1.frozen 1))
          go_roundw
          case rel => exact ⟨k + 1, by omega, by go_num, Y2.out.1, Y2.out.2.2, hstep.out⟩
          case measure => simp [intOf]; omega
    · obtain rfl : k = 16 := by omega
      have r1 := PN.out fun a i hi => HN.out a i hi
      subst r1
      clear PY PN HN
      obtain ⟨d0, d1⟩ := HP.out.1.cells
      have z0 := HP.out.1.frozen 0
      have z1 := HP.out.1.frozen 1
      go_wp2
      exact bodyPost_ret (results_cell2 rfl rfl (Tryd.isAgg27 _) (Tryd.sizeOf27 _) (load_two (HP.out.1.put _ _))) rfl ⟨rfl, below_put HP.out.2 (Nat.le_refl _) _ _⟩
end Rl
end Go.Proofs.YtnheikkpnffinaaDoor
