/- May a box be? What the document's Right gives. -/
import Derived.Test.YtfjdopmjcddnlaaBtO
import Derived.BigQuiet
set_option linter.unusedVariables false
namespace Go.Proofs.Ytfjdopmjcddnlaa
open Go.RowKit Cn Rl Bt

namespace Bt
theorem rightY_pre {v : Int} {s n : Nat} {l : List Ct} (hn : n = l.length) (h : Pre v s l n) : rightY v s l = rightB v s := by
  cases hb : rightB v s with
  | true => exact rightY_true (pre_all hb hn h)
  | false => exact rightY_false (fun h2 => by rw [h2.1] at hb; cases hb)
end Bt
set_option maxHeartbeats 8000000 in
set_option maxRecDepth 100000 in
/-- What the document's Right gives. -/
theorem rbright_any (v : Int) (s : Nat) (a : Option Addr) (c : Nat) (l : List Ct) (w : World) (hl : AtC w a l) (hs : s < 65536) (hn : l.length ≤ 1000) (h8 : ∀ z ∈ l, z.1 < 256 ∧ z.2.2 < 256) :
    Calls Try.prog 30 #[boxV v s (.slice a l.length c)] w fun e w' => e = .returned (.bool (rightY v s l)) ∧ Below w.heap.size w w' := by
  have RF : Aside (∀ w', ¬ RightX v s l → Below w.heap.size w w' → (fun (e : Ending) (w' : World) => e = .returned (.bool (rightY v s l)) ∧ Below w.heap.size w w') (.returned (.bool false)) w') := fun w' h hb => ⟨by rw [rightY_false h], hb⟩
  have RT : Aside (∀ w', rightY v s l = rightB v s → Below w.heap.size w w' → (fun (e : Ending) (w' : World) => e = .returned (.bool (rightY v s l)) ∧ Below w.heap.size w w') (.returned (.bool (rightB v s))) w') := fun w' h hb => ⟨by rw [h], hb⟩
  generalize (fun (e : Ending) (w' : World) => e = .returned (.bool (rightY v s l)) ∧ Below w.heap.size w w') = Q at RF RT ⊢
  obtain ⟨n, en⟩ : ∃ n, n = l.length := ⟨_, rfl⟩
  rw [← en] at hn ⊢
  have HA : Aside (AtC w a l ∧ n = l.length ∧ ∀ z ∈ l, z.1 < 256 ∧ z.2.2 < 256) := ⟨hl, en, h8⟩
  clear hl en h8
  have CM : Aside (∀ (e : Ct) (W : World), e.2.2 < 256 → Calls Try.prog 31 #[.agg #[.int .i64 v, .int .u16 (s : Int)], .agg #[.bool e.2.1, .int .u8 (e.2.2 : Int)]] W fun z w' => z = .returned (.tuple #[.agg #[.int .i64 (appV v s e.2.1 e.2.2), .int .u16 (appS v s e.2.1 e.2.2 : Nat)], .int .i64 (appE v s e.2.1 e.2.2 : Nat)]) ∧ Below W.heap.size W w') := fun e W h => rapply_any v s e.2.1 e.2.2 W hs h
  have CH : Aside (∀ (e : Ct) (W : World), e.1 < 256 → Calls Try.prog 23 #[.int .u16 (s : Int), .int .u8 (e.1 : Int)] W fun z w' => z = .returned (.bool (hasS s e.1)) ∧ w' = W) := fun e W h => rhas_any s e.1 W hs h
  have CR : Aside (∀ W : World, Calls Try.prog 46 #[.agg #[.int .i64 v, .int .u16 (s : Int)]] W fun z w' => z = .returned (.bool (rightB v s)) ∧ Below W.heap.size W w') := fun W => rright_any v s W
  obtain ⟨V, hV⟩ : ∃ V, V = w.alloc (.cells #[.int .i64 v, .int .u16 (s : Int), .slice a n c] 28) := ⟨_, rfl⟩
  have XV : Aside (X3 V w.heap.size 28 (.int .i64 v) (.int .u16 (s : Int)) (.slice a n c) ∧ Below w.heap.size w V) := by rw [hV]; exact ⟨X3.new w _ _ _ _, below_one w _⟩
  unfold boxV
  go_enter Try.func30, Try.ntmps30
  go_wp2_with fail
  rw [← hV]
  clear hV
  go_loopw [3] (fun i wr2 => ∃ k : Nat, k ≤ n ∧ i = .int .i64 (k : Nat) ∧ Aside (Below V.heap.size V wr2) ∧ Aside (Pre v s l k)) (fun i _ => n - (intOf i).toNat)
  case atStart => exact ⟨0, Nat.zero_le _, rfl, Below.refl _ _, pre_zero v s l⟩
  case round =>
    obtain ⟨k, hk, rfl, hB, HS⟩ := hrel
    obtain ⟨x0, x1, x2⟩ := (XV.out.1.later hB.out).cells
    by_cases hlt : k < n
    · have t1 : (k : Int) < (n : Int) := by omega
      have t0 : (0 : Int) ≤ (k : Int) := by omega
      obtain ⟨e, hke⟩ : ∃ e, l[k]? = some e := ⟨_, List.getElem?_eq_getElem (by have := HA.out.2.1; omega)⟩
      obtain ⟨b, off, rfl, y0, y1, y2⟩ := AtC.get (HA.out.1.later (below_step XV.out.2 hB.out)) hke
      have KE : Aside (l[k]? = some e) := hke
      have E8 : Aside (e.1 < 256 ∧ e.2.2 < 256) := HA.out.2.2 e (List.mem_of_getElem? hke)
      clear hke
      have OB : Aside (okC v s e = (decide (appE v s e.2.1 e.2.2 = 0) && hasS s e.1)) := rfl
      have OM : Aside (∀ W : World, _) := fun W => CM.out e W E8.out.2
      have OH : Aside (∀ W : World, _) := fun W => CH.out e W E8.out.1
      generalize appV v s e.2.1 e.2.2 = av at OM
      generalize appS v s e.2.1 e.2.2 = sv at OM
      generalize appE v s e.2.1 e.2.2 = ae at OM OB
      have PX : Aside (X3 (wr.alloc (.cells #[.int .u8 (e.1 : Int), .bool e.2.1, .int .u8 (e.2.2 : Int)] 32)) w.heap.size 28 (.int .i64 v) (.int .u16 (s : Int)) (.slice (some ⟨b, off, none⟩) n c) ∧ X3 (wr.alloc (.cells #[.int .u8 (e.1 : Int), .bool e.2.1, .int .u8 (e.2.2 : Int)] 32)) wr.heap.size 32 (.int .u8 (e.1 : Int)) (.bool e.2.1) (.int .u8 (e.2.2 : Int)) ∧ Below V.heap.size V (wr.alloc (.cells #[.int .u8 (e.1 : Int), .bool e.2.1, .int .u8 (e.2.2 : Int)] 32))) :=
        ⟨(XV.out.1.later hB.out).alloc _, X3.new _ _ _ _ _, hB.out.alloc hB.out.size _⟩
      obtain ⟨h0, h1, h2⟩ := PX.out.1.cells
      obtain ⟨d0, d1, d2⟩ := PX.out.2.1.cells
      go_wp2_with (first
        | (go_at_call 31; refine (OM.out _).mono ?_; rintro e' w1 ⟨rfl, hb⟩; have PY : Aside (X3 (w1.alloc (.cells #[.int .i64 av, .int .u16 (sv : Int)] 25)) w.heap.size 28 (.int .i64 v) (.int .u16 (s : Int)) (.slice (some ⟨b, off, none⟩) n c) ∧ X3 (w1.alloc (.cells #[.int .i64 av, .int .u16 (sv : Int)] 25)) wr.heap.size 32 (.int .u8 (e.1 : Int)) (.bool e.2.1) (.int .u8 (e.2.2 : Int)) ∧ Below V.heap.size V (w1.alloc (.cells #[.int .i64 av, .int .u16 (sv : Int)] 25))) := ⟨(PX.out.1.later hb).alloc _, (PX.out.2.1.later hb).alloc _, (below_step PX.out.2.2 hb).alloc (below_step PX.out.2.2 hb).size _⟩; clear hb x0 x1 x2 y0 y1 y2 h0 h1 h2 d0 d1 d2)
        | fail)
      generalize w1.alloc (.cells #[.int .i64 av, .int .u16 (sv : Int)] 25) = W at PY ⊢
      have BP : Aside (∀ p : Bw W, Below V.heap.size V p.w') := fun p => below_step PY.out.2.2 p.h
      have p0 : ∀ p : Bw W, p.w'.cell? ⟨w.heap.size, 0, none⟩ = some (.int .i64 v) := fun p => (PY.out.1.later p.h).cells.1
      have p1 : ∀ p : Bw W, p.w'.cell? ⟨w.heap.size, 1, none⟩ = some (.int .u16 (s : Int)) := fun p => (PY.out.1.later p.h).cells.2.1
      have p2 : ∀ p : Bw W, p.w'.cell? ⟨w.heap.size, 2, none⟩ = some (.slice (some ⟨b, off, none⟩) n c) := fun p => (PY.out.1.later p.h).cells.2.2
      have r0 : ∀ p : Bw W, p.w'.cell? ⟨wr.heap.size, 0, none⟩ = some (.int .u8 (e.1 : Int)) := fun p => (PY.out.2.1.later p.h).cells.1
      have WX : Aside (AtC W (some ⟨b, off, none⟩) l) := HA.out.1.later (below_step XV.out.2 PY.out.2.2)
      clear OM CM PX
      by_cases hz : ae = 0
      · subst hz
        cases hh : hasS s e.1 with
        | false =>
          rw [hh] at OH
          have Q1 : Aside (∀ p : Bw W, Q (.returned (.bool false)) p.w') := fun p => RF.out p.w' (not_ok KE.out (by rw [OB.out, hh]; rfl)) (below_step XV.out.2 (BP.out p))
          clear RF RT OB hh CH
          have hne := Bw.some W
          refine wp_region_wq (by kernel_rfl) (by kernel_rfl) ?_
          repeat (refine wq_step (fun K hK => ?_); go_simp; first | (refine hK _ ?_; clear hK K) | (apply Exists.intro; refine ⟨fun _ => ?_, hK _ ?_⟩; (first | (go_at_call 23; exact Calls.bw_same (OH.out _))); clear hK K))
          refine wq_nil ?_
          intro _ hw'
          obtain ⟨pq, hw''⟩ := hw'
          subst hw''
          go_wp2_with fail
          exact Q1.out _
        | true =>
          rw [hh] at OH
          have OK : Aside (okC v s e = true) := by show _ = _; rw [OB.out, hh]; rfl
          clear OB hh CH
          cases k with
          | zero =>
            have N1 : Aside (∀ p : Bw W, Below V.heap.size V p.w' ∧ Pre v s l (0 + 1)) := fun p => ⟨BP.out p, pre_next HS.out KE.out OK.out (fun p hp => absurd hp (by decide))⟩
            clear RF RT
            have hne := Bw.some W
            refine wp_region_wq (by kernel_rfl) (by kernel_rfl) ?_
            repeat (refine wq_step (fun K hK => ?_); go_simp; first | (refine hK _ ?_; clear hK K) | (apply Exists.intro; refine ⟨fun _ => ?_, hK _ ?_⟩; (first | (go_at_call 23; exact Calls.bw_same (OH.out _))); clear hK K))
            refine wq_nil ?_
            intro _ hw'
            obtain ⟨pq, hw''⟩ := hw'
            subst hw''
            go_wp2_with fail
            exact ⟨⟨0 + 1, by omega, by go_num, (N1.out pq).1, (N1.out pq).2⟩, by simp [intOf]; omega⟩
          | succ k1 =>
            obtain ⟨ep, hpe⟩ : ∃ e, l[k1]? = some e := ⟨_, List.getElem?_eq_getElem (by have := HA.out.2.1; omega)⟩
            obtain ⟨b', off', eq', q0, q1, q2⟩ := AtC.get WX.out hpe
            have eb : b = b' := congrArg Addr.block (Option.some.inj eq')
            have eo : off = off' := congrArg Addr.off (Option.some.inj eq')
            subst eb eo
            clear eq'
            have KP : Aside (l[k1]? = some ep) := hpe
            clear hpe
            have d0 : ∀ p : Bw W, p.w'.cell? ⟨b, off + k1 * 3, none⟩ = some (.int .u8 (ep.1 : Int)) := fun p => cell_later p.h q0
            clear q0 q1 q2
            have u0 : (0 : Int) ≤ (k1 : Int) := by omega
            have u1 : (k1 : Int) < (n : Int) := by omega
            have wk2 : IntKind.i64.wrap ((k1 : Int) + 1 - 1) = (k1 : Int) := by rw [IntKind.wrap_i64]; omega
            have wk3 : (k1 : Int) + 1 - 1 = (k1 : Int) := by omega
            have wk5 : IntKind.i64.wrap (k1 : Int) = (k1 : Int) := by rw [IntKind.wrap_i64]; omega
            by_cases hcv : ep.1 < e.1
            · have hge : ¬ ((e.1 : Int) ≤ (ep.1 : Int)) := by omega
              have hgn : ¬ (e.1 ≤ ep.1) := by omega
              have LT : Aside (ep.1 < e.1) := hcv
              have N1 : Aside (∀ p : Bw W, Below V.heap.size V p.w' ∧ Pre v s l (k1 + 1 + 1)) := fun p => ⟨BP.out p, pre_next HS.out KE.out OK.out (fun p _ hp => by rw [Nat.add_sub_cancel, KP.out] at hp; rw [← Option.some.inj hp]; exact LT.out)⟩
              clear RF RT hcv
              have hne := Bw.some W
              refine wp_region_wq (by kernel_rfl) (by kernel_rfl) ?_
              repeat (refine wq_step (fun K hK => ?_); go_simp; first | (refine hK _ ?_; clear hK K) | (apply Exists.intro; refine ⟨fun _ => ?_, hK _ ?_⟩; (first | (go_at_call 23; exact Calls.bw_same (OH.out _))); clear hK K))
              refine wq_nil ?_
              intro _ hw'
              obtain ⟨pq, hw''⟩ := hw'
              subst hw''
              go_wp2_with fail
              exact ⟨⟨k1 + 1 + 1, by omega, by go_num, (N1.out pq).1, (N1.out pq).2⟩, by simp [intOf]; omega⟩
            · have hge : (e.1 : Int) ≤ (ep.1 : Int) := by omega
              have hgn : e.1 ≤ ep.1 := by omega
              have Q1 : Aside (∀ p : Bw W, Q (.returned (.bool false)) p.w') := fun p => RF.out p.w' (not_srt KP.out KE.out hcv) (below_step XV.out.2 (BP.out p))
              clear RF RT hcv
              have hne := Bw.some W
              refine wp_region_wq (by kernel_rfl) (by kernel_rfl) ?_
              repeat (refine wq_step (fun K hK => ?_); go_simp; first | (refine hK _ ?_; clear hK K) | (apply Exists.intro; refine ⟨fun _ => ?_, hK _ ?_⟩; (first | (go_at_call 23; exact Calls.bw_same (OH.out _))); clear hK K))
              refine wq_nil ?_
              intro _ hw'
              obtain ⟨pq, hw''⟩ := hw'
              subst hw''
              go_wp2_with fail
              exact Q1.out _
      · have e1 : ((ae : Int) != 0) = true := by rw [bne_iff_ne]; omega
        have e2 : ¬ ((ae : Int) = 0) := by omega
        have Q1 : Aside (∀ p : Bw W, Q (.returned (.bool false)) p.w') := fun p => RF.out p.w' (not_ok KE.out (by rw [OB.out, decide_eq_false hz]; rfl)) (below_step XV.out.2 (BP.out p))
        clear RF RT OB hz CH
        have hne := Bw.some W
        refine wp_region_wq (by kernel_rfl) (by kernel_rfl) ?_
        repeat (refine wq_step (fun K hK => ?_); go_simp; first | (refine hK _ ?_; clear hK K) | (apply Exists.intro; refine ⟨fun _ => ?_, hK _ ?_⟩; (first | fail); clear hK K))
        refine wq_nil ?_
        intro _ hw'
        obtain ⟨pq, hw''⟩ := hw'
        subst hw''
        go_wp2_with fail
        exact Q1.out _
    · obtain rfl : k = n := by omega
      have Q1 : Aside (∀ w', Below w.heap.size w w' → Q (.returned (.bool (rightB v s))) w') := fun w' hb => RT.out w' (rightY_pre HA.out.2.1 HS.out) hb
      clear RT RF
      generalize rightB v s = rb at CR Q1
      go_wp2_with (first
        | (go_at_call 46; refine (CR.out _).mono ?_; rintro e' w1 ⟨rfl, hb⟩; have Q2 : Aside _ := Q1.out w1 (below_step (below_step XV.out.2 hB.out) hb); clear hb x0 x1 x2)
        | fail)
      exact Q2.out
end Go.Proofs.Ytfjdopmjcddnlaa
