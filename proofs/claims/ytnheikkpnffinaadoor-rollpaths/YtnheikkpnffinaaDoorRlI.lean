/- The walk of RollMembers. -/
import Derived.Test.YtnheikkpnffinaaDoorRlH
set_option linter.unusedVariables false
namespace Go.Proofs.YtnheikkpnffinaaDoor
open Go.RowKit
namespace Rl
open Cn

theorem appE_zero {v : Int} {s : Nat} {a : Bool} {i : Nat} (h : appE v s a i = 0) : 0 ≤ v ∧ v < 1000 ∧ i < 16 ∧ hasS s i = !a ∧ chS s a i ≠ 0 ∧ s ≠ 0 := by
  unfold appE at h
  by_cases h1 : rightB v s = true ∧ i < 16
  · rw [if_pos h1] at h
    by_cases h2 : a = true ∧ hasS s i = true
    · rw [if_pos h2] at h; exact absurd h (by decide)
    · rw [if_neg h2] at h
      by_cases h3 : a = false ∧ hasS s i = false
      · rw [if_pos h3] at h; exact absurd h (by decide)
      · rw [if_neg h3] at h
        by_cases h4 : v = 1000
        · rw [if_pos h4] at h; exact absurd h (by decide)
        · rw [if_neg h4] at h
          by_cases h5 : chS s a i = 0
          · rw [if_pos h5] at h; exact absurd h (by decide)
          · have h6 := h1.1
            unfold rightB at h6
            simp only [Bool.and_eq_true, decide_eq_true_eq] at h6
            refine ⟨h6.1, by have := h6.2.1; omega, h1.2, ?_, h5, h6.2.2⟩
            cases a
            · cases e : hasS s i
              · exact absurd ⟨rfl, e⟩ h3
              · rfl
            · cases e : hasS s i
              · rfl
              · exact absurd ⟨rfl, e⟩ h2
  · rw [if_neg h1] at h; exact absurd h (by decide)
theorem appE_ok {v : Int} {s : Nat} {a : Bool} {i : Nat} (h0 : 0 ≤ v) (h1 : v < 1000) (hi : i < 16) (hh : hasS s i = !a) (hc : chS s a i ≠ 0) (hs : s ≠ 0) : appE v s a i = 0 := by
  unfold appE
  have hr : rightB v s = true := by unfold rightB; rw [decide_eq_true h0, decide_eq_true (by omega), decide_eq_true hs]; rfl
  rw [if_pos ⟨hr, hi⟩, if_neg (fun h => by rw [h.1, h.2] at hh; exact absurd hh (by decide)), if_neg (fun h => by rw [h.1, h.2] at hh; exact absurd hh (by decide)), if_neg (by omega), if_neg hc]
theorem ch_test (s : Nat) (a : Bool) (i j : Nat) (hi : i < 16) : (chS s a i).testBit j = if j = i then a else s.testBit j := by
  unfold chS
  by_cases hj : j = i
  · subst hj
    rw [if_pos rfl]
    cases a
    · rw [if_neg (by decide), test_without]; simp; omega
    · rw [if_pos rfl, test_with]; simp; omega
  · rw [if_neg hj]
    have hij : ¬ i = j := fun h => hj h.symm
    cases a
    · rw [if_neg (by decide), test_without]; simp [hij]
    · rw [if_pos rfl, test_with]; simp [hij]
theorem ch_xor {s i : Nat} {a : Bool} (hi : i < 16) (h : hasS s i = !a) : chS s a i ^^^ s = 2 ^ i := by
  have hb : s.testBit i = !a := by
    unfold hasS at h
    rw [decide_eq_true (by omega), Bool.true_and] at h
    exact h
  apply Nat.eq_of_testBit_eq
  intro j
  rw [Nat.testBit_xor, ch_test s a i j hi, Nat.testBit_two_pow]
  by_cases hj : j = i
  · subst hj
    rw [if_pos rfl, hb, decide_eq_true rfl]
    cases a <;> rfl
  · rw [if_neg hj, decide_eq_false (fun h => hj h.symm)]
    simp
theorem ch_has {s i : Nat} {a : Bool} (hi : i < 16) : hasS (chS s a i) i = a := by
  unfold hasS
  rw [ch_test s a i i hi, if_pos rfl, decide_eq_true (by omega), Bool.true_and]

theorem wrap_shl {i : Nat} (hi : i < 16) : IntKind.u16.wrap (2 ^ min i 16) = ((2 ^ i : Nat) : Int) := by
  have e : i = 0 ∨ i = 1 ∨ i = 2 ∨ i = 3 ∨ i = 4 ∨ i = 5 ∨ i = 6 ∨ i = 7 ∨ i = 8 ∨ i = 9 ∨ i = 10 ∨ i = 11 ∨ i = 12 ∨ i = 13 ∨ i = 14 ∨ i = 15 := by omega
  rcases e with rfl | rfl | rfl | rfl | rfl | rfl | rfl | rfl | rfl | rfl | rfl | rfl | rfl | rfl | rfl | rfl <;> rfl

set_option maxHeartbeats 4000000 in
set_option maxRecDepth 100000 in
theorem members_walk (v : Int) (s : Nat) (a : Bool) (i : Nat) (w : World) (hs : s < 65536) (h8 : i < 256) :
    Calls Tryd.prog 7 #[rollV v s, chV a i] w fun e w' => e = .returned (.bool true) ∧ Below w.heap.size w w' := by
  have C9 : Aside (∀ W, _) := alive_any
  have C10 : Aside (∀ W, Calls Tryd.prog 10 #[.agg #[.int .i64 v, .int .u16 (s : Int)], .agg #[.bool a, .int .u8 (i : Int)]] W fun e w' => e = .returned (.tuple #[.agg #[.int .i64 (appV v s a i), .int .u16 (appS v s a i : Nat)], .int .i64 (appE v s a i : Nat)]) ∧ Below W.heap.size W w') := fun W => apply_any v s a i W hs
  obtain ⟨V, hV⟩ : ∃ V, V = (w.alloc (.cells #[.int .i64 v, .int .u16 (s : Int)] 25)).alloc (.cells #[.bool a, .int .u8 (i : Int)] 27) := ⟨_, rfl⟩
  have X : Aside (P2 V w.heap.size 25 (.int .i64 v) (.int .u16 (s : Int)) ∧ P2 V (w.heap.size + 1) 27 (.bool a) (.int .u8 (i : Int)) ∧ Below w.heap.size w V) := by
    rw [hV]
    exact ⟨(P2.new w _ _ _).alloc _, P2.new1 w _ _ _ _, (below_one w _).alloc (by simp) _⟩
  unfold rollV chV
  by_cases h0 : appE v s a i = 0
  · have E1 : appV v s a i = v + 1 := by unfold appV; rw [if_pos h0]
    have E2 : appS v s a i = chS s a i := by unfold appS; rw [if_pos h0]
    rw [h0, E1, E2] at C10
    obtain ⟨k0, k1, hi, hh, hc, hz⟩ := appE_zero h0
    have R12 : rightB (v + 1) (chS s a i) = true := by unfold rightB; rw [decide_eq_true (show 0 ≤ v + 1 by omega), decide_eq_true (show v + 1 ≤ 1000 by omega), decide_eq_true hc]; rfl
    have hS : chS s a i < 65536 := chS_small a i hs
    have C12 : Aside (∀ W, Calls Tryd.prog 12 #[.agg #[.int .i64 (v + 1), .int .u16 (chS s a i : Nat)]] W fun e w' => e = .returned (.bool true) ∧ Below W.heap.size W w') := fun W => by
      have := right_any (v + 1) (chS s a i) W
      rw [R12] at this
      exact this
    have C22 : Aside (∀ W, Calls Tryd.prog 22 #[.int .u16 (chS s a i : Nat), .int .u8 (i : Int)] W fun e w' => e = .returned (.bool a) ∧ w' = W) := fun W => by
      have := rhas_any (chS s a i) i W hS h8
      rw [ch_has hi] at this
      exact this
    have D22 : Aside (∀ W, Calls Tryd.prog 22 #[.int .u16 (s : Int), .int .u8 (i : Int)] W fun e w' => e = .returned (.bool (!a)) ∧ w' = W) := fun W => by
      have := rhas_any s i W hs h8
      rw [hh] at this
      exact this
    have hx := u16_xor_nat (chS s a i) s hS hs
    rw [ch_xor hi hh] at hx
    have hl := wrap_shl hi
    have hw : wrap64 (v + 1) = v + 1 := IntWalk.wrap64_in _ ⟨by omega, by omega⟩
    have hw2 : IntKind.i64.wrap (v + 1) = v + 1 := by rw [IntKind.wrap_i64]; omega
    have hp : (i : Int) ≥ 0 := by omega
    clear E1 E2 h0 R12 hS hc hz hh k0 k1 hs h8 hi
    generalize chS s a i = S1 at C10 C12 C22 hx
    have e1 : ((!a) == a) = false := by cases a <;> rfl
    have e2 : ¬ (!a) = a := by cases a <;> decide
    have e3 : (a == a) = true := by cases a <;> rfl
    generalize ((2 ^ i : Nat) : Int) = bt at hx hl
    generalize (!a) = na at D22 e1 e2
    go_enter Tryd.func7, Tryd.ntmps7
    go_wp2_with fail
    rw [← hV]
    clear hV
    go_wp2_with (first
      | (go_at_call 9; refine (C9.out _).mono ?_; rintro e w1 ⟨rfl, hb1⟩; have Y1 : Aside (P2 w1 w.heap.size 25 _ _ ∧ P2 w1 (w.heap.size + 1) 27 _ _ ∧ Below w.heap.size w w1) := ⟨X.out.1.later hb1, X.out.2.1.later hb1, below_step X.out.2.2 hb1⟩; clear hb1; obtain ⟨c0, c1⟩ := Y1.out.1.cells; obtain ⟨d0, d1⟩ := Y1.out.2.1.cells)
      | (go_at_call 10; refine (C10.out _).mono ?_; rintro e w2 ⟨rfl, hb1⟩; clear c0 c1 d0 d1; have Y2 : Aside (P2 (w2.alloc (.cells #[.int .i64 (v + 1), .int .u16 (S1 : Int)] 29)) w.heap.size 25 _ _ ∧ P2 (w2.alloc (.cells #[.int .i64 (v + 1), .int .u16 (S1 : Int)] 29)) (w.heap.size + 1) 27 _ _ ∧ P2 (w2.alloc (.cells #[.int .i64 (v + 1), .int .u16 (S1 : Int)] 29)) w2.heap.size 29 _ _ ∧ Below w.heap.size w (w2.alloc (.cells #[.int .i64 (v + 1), .int .u16 (S1 : Int)] 29))) := ⟨(Y1.out.1.later hb1).alloc _, (Y1.out.2.1.later hb1).alloc _, P2.new _ _ _ _, (below_step Y1.out.2.2 hb1).alloc (below_step Y1.out.2.2 hb1).size _⟩; clear hb1))
    have p0 : ∀ p : Bw (w2.alloc (.cells #[.int .i64 (v + 1), .int .u16 (S1 : Int)] 29)), p.w'.cell? ⟨w.heap.size, 0, none⟩ = some (.int .i64 v) := fun p => (Y2.out.1.later p.h).cells.1
    have p1 : ∀ p : Bw (w2.alloc (.cells #[.int .i64 (v + 1), .int .u16 (S1 : Int)] 29)), p.w'.cell? ⟨w.heap.size, 1, none⟩ = some (.int .u16 (s : Int)) := fun p => (Y2.out.1.later p.h).cells.2
    have p2 : ∀ p : Bw (w2.alloc (.cells #[.int .i64 (v + 1), .int .u16 (S1 : Int)] 29)), p.w'.cell? ⟨w.heap.size + 1, 0, none⟩ = some (.bool a) := fun p => (Y2.out.2.1.later p.h).cells.1
    have p3 : ∀ p : Bw (w2.alloc (.cells #[.int .i64 (v + 1), .int .u16 (S1 : Int)] 29)), p.w'.cell? ⟨w.heap.size + 1, 1, none⟩ = some (.int .u8 (i : Int)) := fun p => (Y2.out.2.1.later p.h).cells.2
    have p4 : ∀ p : Bw (w2.alloc (.cells #[.int .i64 (v + 1), .int .u16 (S1 : Int)] 29)), p.w'.cell? ⟨w2.heap.size, 0, none⟩ = some (.int .i64 (v + 1)) := fun p => (Y2.out.2.2.1.later p.h).cells.1
    have p5 : ∀ p : Bw (w2.alloc (.cells #[.int .i64 (v + 1), .int .u16 (S1 : Int)] 29)), p.w'.cell? ⟨w2.heap.size, 1, none⟩ = some (.int .u16 (S1 : Int)) := fun p => (Y2.out.2.2.1.later p.h).cells.2
    have hne := Bw.some (w2.alloc (.cells #[.int .i64 (v + 1), .int .u16 (S1 : Int)] 29))
    refine wp_region_wq (by kernel_rfl) (by kernel_rfl) ?_
    repeat (first
      | (refine wq_two Tryd.isAgg29 Tryd.sizeOf29 Y2.out.2.2.1 (.tmp 5) rfl rfl ?_ ?_; (focus (go_simp; done)); dsimp only [Act.put, Array.setIfInBounds])
      | (refine wq_step (fun K hK => ?_); go_simp; first
        | (refine hK _ ?_; clear hK K)
        | (apply Exists.intro; refine ⟨fun _ => ?_, hK _ ?_⟩; (first | (go_at_call 22; with_reducible exact Calls.bw_same (C22.out _)) | (go_at_call 22; with_reducible exact Calls.bw_same (D22.out _)) | (go_at_call 12; with_reducible exact Calls.bw_of (C12.out _))); clear hK K)))
    refine wq_nil ?_
    intro _ hw'
    obtain ⟨pq, hw''⟩ := hw'
    subst hw''
    go_wp2
    go_ret
    exact ⟨rfl, below_step Y2.out.2.2.2 pq.h⟩
  · have E1 : appV v s a i = 0 := by unfold appV; rw [if_neg h0]
    have E2 : appS v s a i = 0 := by unfold appS; rw [if_neg h0]
    have hne : (((appE v s a i : Nat) : Int) != 0) = true := by rw [bne_iff_ne]; omega
    rw [E1, E2] at C10
    have q1 : ∀ W, (binOp .eql 29 (.agg #[.int .i64 0, .int .u16 0]) (.agg #[.int .i64 0, .int .u16 0])).run Tryd.prog W = .ok (.bool true) W := fun W => by have := eql29 0 0 0 0 W; rw [decide_eq_true ⟨rfl, rfl⟩] at this; exact this
    have g1 := fun x y xs ys W => eql29_guard x y xs ys W
    clear E1 E2 h0
    generalize appE v s a i = E at C10 hne
    go_enter Tryd.func7, Tryd.ntmps7
    go_wp2_with fail
    rw [← hV]
    clear hV
    go_wp2_with (first
      | (go_at_call 9; refine (C9.out _).mono ?_; rintro e w1 ⟨rfl, hb1⟩; have Y1 : Aside (P2 w1 w.heap.size 25 _ _ ∧ P2 w1 (w.heap.size + 1) 27 _ _ ∧ Below w.heap.size w w1) := ⟨X.out.1.later hb1, X.out.2.1.later hb1, below_step X.out.2.2 hb1⟩; clear hb1; obtain ⟨c0, c1⟩ := Y1.out.1.cells; obtain ⟨d0, d1⟩ := Y1.out.2.1.cells)
      | (go_at_call 10; refine (C10.out _).mono ?_; rintro e w2 ⟨rfl, hb1⟩; clear c0 c1 d0 d1; have Y2 : Aside (P2 (w2.alloc (.cells #[.int .i64 0, .int .u16 0] 29)) w2.heap.size 29 (.int .i64 0) (.int .u16 0) ∧ Below w.heap.size w (w2.alloc (.cells #[.int .i64 0, .int .u16 0] 29))) := ⟨P2.new _ _ _ _, (below_step Y1.out.2.2 hb1).alloc (below_step Y1.out.2.2 hb1).size _⟩; clear hb1; obtain ⟨c0, c1⟩ := Y2.out.1.cells))
    go_ret
    exact ⟨rfl, Y2.out.2⟩
end Rl
end Go.Proofs.YtnheikkpnffinaaDoor
