/- The walk of RollTexts. -/
import Derived.Test.YtnheikkpnffinaaDoorRlI
set_option linter.unusedVariables false
namespace Go.Proofs.YtnheikkpnffinaaDoor
open Go.RowKit
namespace Rl
open Cn

theorem parse_cases (s : ByteArray) : (∃ a i, i < 16 ∧ s = txt a i ∧ parse s = (a, i, 0)) ∨ parse s = (false, 0, 4) := by
  by_cases h : ∃ a i, i < 16 ∧ s = txt a i
  · obtain ⟨a, i, hi, hs⟩ := h
    exact .inl ⟨a, i, hi, hs, parse_yes hi hs⟩
  · exact .inr (parse_no fun a i hi hs => h ⟨a, i, hi, hs⟩)
theorem parse_far {a : Bool} {i : Nat} (h8 : i < 256) (h : ¬ i < 16) : parse (txt a i) = (false, 0, 4) :=
  parse_no fun b j hj hs => h (by have := (txt_inj h8 hj hs).2; omega)
theorem Tab.later {w w' : World} (h : Tab w) (hb : Below w.heap.size w w') : Tab w' := Lib.tabBelow_of_tabIs h w' hb

set_option maxHeartbeats 4000000 in
set_option maxRecDepth 100000 in
theorem texts00 (a : Bool) (i : Nat) (s t : ByteArray) (w : World) (xa za : Bool) (xi zi : Nat) (h16 : (i : Int) < 16) (q2 : ∀ W, (binOp .eql 27 (.agg #[.bool za, .int .u8 (zi : Int)]) (.agg #[.bool a, .int .u8 (i : Int)])).run Tryd.prog W = .ok (.bool true) W)
    (C14 : Aside (∀ W, Calls Tryd.prog 14 #[.string s] W fun e w' => e = .returned (.tuple #[.agg #[.bool xa, .int .u8 (xi : Int)], .int .i64 0]) ∧ Below W.heap.size W w'))
    (C15 : Aside (∀ W, Calls Tryd.prog 15 #[.string s] W fun e w' => e = .returned (.tuple #[.agg #[.bool xa, .int .u8 (xi : Int)], .int .i64 0]) ∧ Below W.heap.size W w'))
    (D14 : Aside (∀ W, Calls Tryd.prog 14 #[.string t] W fun e w' => e = .returned (.tuple #[.agg #[.bool za, .int .u8 (zi : Int)], .int .i64 0]) ∧ Below W.heap.size W w'))
    (C16 : Aside (∀ W, Below w.heap.size w W → Calls Tryd.prog 16 #[.agg #[.bool a, .int .u8 (i : Int)]] W fun e w' => e = .returned (.string t) ∧ Below W.heap.size W w'))
    (C17 : Aside (∀ W, Below w.heap.size w W → Calls Tryd.prog 17 #[.agg #[.bool a, .int .u8 (i : Int)]] W fun e w' => e = .returned (.string t) ∧ Below W.heap.size W w'))
    (C16x : Aside (∀ W, Calls Tryd.prog 16 #[.agg #[.bool xa, .int .u8 (xi : Int)]] W fun e w' => e = .returned (.string s) ∧ Below W.heap.size W w'))
    (hsz : ¬ (100 : Int) < (s.size : Int)) :
    Calls Tryd.prog 4 #[.agg #[.bool a, .int .u8 (i : Int)], .string s] w fun e w' => e = .returned (.bool true) ∧ Below w.heap.size w w' := by
  have C9 : Aside (∀ W, _) := alive_any
  have q1 : ∀ W, (binOp .eql 27 (.agg #[.bool xa, .int .u8 (xi : Int)]) (.agg #[.bool xa, .int .u8 (xi : Int)])).run Tryd.prog W = .ok (.bool true) W := fun W => by rw [eql27, decide_eq_true ⟨rfl, rfl⟩]
  have g1 := fun x y xs ys W => eql27_guard x y xs ys W
  obtain ⟨V, hV⟩ : ∃ V, V = w.alloc (.cells #[.bool a, .int .u8 (i : Int)] 27) := ⟨_, rfl⟩
  have X : Aside (P2 V w.heap.size 27 (.bool a) (.int .u8 (i : Int)) ∧ Below w.heap.size w V) := by
    rw [hV]
    exact ⟨P2.new w _ _ _, below_one w _⟩
  go_enter Tryd.func4, Tryd.ntmps4
  go_wp2_with fail
  rw [← hV]
  clear hV
  go_wp2_with (first
    | (go_at_call 9; refine (C9.out _).mono ?_; rintro e w1 ⟨rfl, hb1⟩; have Y1 : Aside (P2 w1 w.heap.size 27 _ _ ∧ Below w.heap.size w w1) := ⟨X.out.1.later hb1, below_step X.out.2 hb1⟩; clear hb1)
    | (go_at_call 14; (with_reducible refine (C14.out _).mono ?_); rintro e w2 ⟨rfl, hb1⟩; have Y2 : Aside (P2 (w2.alloc (.cells #[.bool xa, .int .u8 (xi : Int)] 33)) w.heap.size 27 _ _ ∧ P2 (w2.alloc (.cells #[.bool xa, .int .u8 (xi : Int)] 33)) w2.heap.size 33 _ _ ∧ Below w.heap.size w (w2.alloc (.cells #[.bool xa, .int .u8 (xi : Int)] 33))) := ⟨(Y1.out.1.later hb1).alloc _, P2.new _ _ _ _, (below_step Y1.out.2 hb1).alloc (below_step Y1.out.2 hb1).size _⟩; clear hb1)
    | (go_at_call 15; refine (C15.out _).mono ?_; rintro e w3 ⟨rfl, hb1⟩; have Y3 : Aside (P2 (w3.alloc (.cells #[.bool xa, .int .u8 (xi : Int)] 27)) w.heap.size 27 _ _ ∧ P2 (w3.alloc (.cells #[.bool xa, .int .u8 (xi : Int)] 27)) w2.heap.size 33 _ _ ∧ P2 (w3.alloc (.cells #[.bool xa, .int .u8 (xi : Int)] 27)) w3.heap.size 27 _ _ ∧ Below w.heap.size w (w3.alloc (.cells #[.bool xa, .int .u8 (xi : Int)] 27))) := ⟨(Y2.out.1.later hb1).alloc _, (Y2.out.2.1.later hb1).alloc _, P2.new _ _ _ _, (below_step Y2.out.2.2 hb1).alloc (below_step Y2.out.2.2 hb1).size _⟩; clear hb1; obtain ⟨c0, c1⟩ := Y3.out.1.cells)
    | (go_at_call 16; (with_reducible refine (C16.out _ Y3.out.2.2.2).mono ?_); rintro e w4 ⟨rfl, hb4⟩; have H4 : Aside _ := hb4; clear hb4 c0 c1)
    | (go_at_call 14; (with_reducible refine (D14.out _).mono ?_); rintro e w5 ⟨rfl, hb5⟩; have hb1 := below_step H4.out hb5; have Y4 : Aside (P2 (w5.alloc (.cells #[.bool za, .int .u8 (zi : Int)] 33)) w.heap.size 27 _ _ ∧ P2 (w5.alloc (.cells #[.bool za, .int .u8 (zi : Int)] 33)) w2.heap.size 33 _ _ ∧ P2 (w5.alloc (.cells #[.bool za, .int .u8 (zi : Int)] 33)) w3.heap.size 27 _ _ ∧ P2 (w5.alloc (.cells #[.bool za, .int .u8 (zi : Int)] 33)) w5.heap.size 33 _ _ ∧ Below w.heap.size w (w5.alloc (.cells #[.bool za, .int .u8 (zi : Int)] 33))) := ⟨(Y3.out.1.later hb1).alloc _, (Y3.out.2.1.later hb1).alloc _, (Y3.out.2.2.1.later hb1).alloc _, P2.new _ _ _ _, (below_step Y3.out.2.2.2 hb1).alloc (below_step Y3.out.2.2.2 hb1).size _⟩; clear hb1 hb5 H4))
  have hne := Bw.some (w5.alloc (.cells #[.bool za, .int .u8 (zi : Int)] 33))
  have p3 : ∀ p : Bw (w5.alloc (.cells #[.bool za, .int .u8 (zi : Int)] 33)), p.w'.cell? ⟨w.heap.size, 1, none⟩ = some (.int .u8 (i : Int)) := fun p => (Y4.out.1.later p.h).cells.2
  refine wp_region_wq (by kernel_rfl) (by kernel_rfl) ?_
  repeat (first
    | (refine wq_two Tryd.isAgg27 Tryd.sizeOf27 Y4.out.1 (.tmp 2) rfl rfl ?_ ?_; (focus (go_simp; done)); dsimp only [Act.put, Array.setIfInBounds])
    | (refine wq_two Tryd.isAgg33 Tryd.sizeOf33 Y4.out.2.1 (.tmp 5) rfl rfl ?_ ?_; (focus (go_simp; done)); dsimp only [Act.put, Array.setIfInBounds])
    | (refine wq_two Tryd.isAgg27 Tryd.sizeOf27 Y4.out.2.2.1 (.tmp 7) rfl rfl ?_ ?_; (focus (go_simp; done)); dsimp only [Act.put, Array.setIfInBounds])
    | (refine wq_two Tryd.isAgg33 Tryd.sizeOf33 Y4.out.2.2.2.1 (.tmp 9) rfl rfl ?_ ?_; (focus (go_simp; done)); dsimp only [Act.put, Array.setIfInBounds])
    | (refine wq_step (fun K hK => ?_); go_simp; first
      | (refine hK _ ?_; clear hK K)
      | (apply Exists.intro; refine ⟨fun pp => ?_, hK _ ?_⟩; (first | (go_at_call 16; with_reducible exact Calls.bw_of (C16.out _ (below_step Y4.out.2.2.2.2 pp.h))) | (go_at_call 17; with_reducible exact Calls.bw_of (C17.out _ (below_step Y4.out.2.2.2.2 pp.h))) | (go_at_call 16; with_reducible exact Calls.bw_of (C16x.out _))); clear hK K)))
  refine wq_nil ?_
  intro _ hw'
  obtain ⟨pq, hw''⟩ := hw'
  subst hw''
  go_wp2
  go_ret
  exact ⟨rfl, below_step Y4.out.2.2.2.2 pq.h⟩

set_option maxHeartbeats 4000000 in
set_option maxRecDepth 100000 in
theorem texts04 (a : Bool) (i : Nat) (s t : ByteArray) (w : World) (xa za : Bool) (xi zi : Nat) (h16 : (16 : Int) ≤ (i : Int)) (h17 : decide ((i : Int) < 16) = false)
    (C14 : Aside (∀ W, Calls Tryd.prog 14 #[.string s] W fun e w' => e = .returned (.tuple #[.agg #[.bool xa, .int .u8 (xi : Int)], .int .i64 0]) ∧ Below W.heap.size W w'))
    (C15 : Aside (∀ W, Calls Tryd.prog 15 #[.string s] W fun e w' => e = .returned (.tuple #[.agg #[.bool xa, .int .u8 (xi : Int)], .int .i64 0]) ∧ Below W.heap.size W w'))
    (D14 : Aside (∀ W, Calls Tryd.prog 14 #[.string t] W fun e w' => e = .returned (.tuple #[.agg #[.bool za, .int .u8 (zi : Int)], .int .i64 4]) ∧ Below W.heap.size W w'))
    (C16 : Aside (∀ W, Below w.heap.size w W → Calls Tryd.prog 16 #[.agg #[.bool a, .int .u8 (i : Int)]] W fun e w' => e = .returned (.string t) ∧ Below W.heap.size W w'))
    (C17 : Aside (∀ W, Below w.heap.size w W → Calls Tryd.prog 17 #[.agg #[.bool a, .int .u8 (i : Int)]] W fun e w' => e = .returned (.string t) ∧ Below W.heap.size W w'))
    (C16x : Aside (∀ W, Calls Tryd.prog 16 #[.agg #[.bool xa, .int .u8 (xi : Int)]] W fun e w' => e = .returned (.string s) ∧ Below W.heap.size W w'))
    (hsz : ¬ (100 : Int) < (s.size : Int)) :
    Calls Tryd.prog 4 #[.agg #[.bool a, .int .u8 (i : Int)], .string s] w fun e w' => e = .returned (.bool true) ∧ Below w.heap.size w w' := by
  have C9 : Aside (∀ W, _) := alive_any
  have q1 : ∀ W, (binOp .eql 27 (.agg #[.bool xa, .int .u8 (xi : Int)]) (.agg #[.bool xa, .int .u8 (xi : Int)])).run Tryd.prog W = .ok (.bool true) W := fun W => by rw [eql27, decide_eq_true ⟨rfl, rfl⟩]
  have g1 := fun x y xs ys W => eql27_guard x y xs ys W
  obtain ⟨V, hV⟩ : ∃ V, V = w.alloc (.cells #[.bool a, .int .u8 (i : Int)] 27) := ⟨_, rfl⟩
  have X : Aside (P2 V w.heap.size 27 (.bool a) (.int .u8 (i : Int)) ∧ Below w.heap.size w V) := by
    rw [hV]
    exact ⟨P2.new w _ _ _, below_one w _⟩
  go_enter Tryd.func4, Tryd.ntmps4
  go_wp2_with fail
  rw [← hV]
  clear hV
  go_wp2_with (first
    | (go_at_call 9; refine (C9.out _).mono ?_; rintro e w1 ⟨rfl, hb1⟩; have Y1 : Aside (P2 w1 w.heap.size 27 _ _ ∧ Below w.heap.size w w1) := ⟨X.out.1.later hb1, below_step X.out.2 hb1⟩; clear hb1)
    | (go_at_call 14; (with_reducible refine (C14.out _).mono ?_); rintro e w2 ⟨rfl, hb1⟩; have Y2 : Aside (P2 (w2.alloc (.cells #[.bool xa, .int .u8 (xi : Int)] 33)) w.heap.size 27 _ _ ∧ P2 (w2.alloc (.cells #[.bool xa, .int .u8 (xi : Int)] 33)) w2.heap.size 33 _ _ ∧ Below w.heap.size w (w2.alloc (.cells #[.bool xa, .int .u8 (xi : Int)] 33))) := ⟨(Y1.out.1.later hb1).alloc _, P2.new _ _ _ _, (below_step Y1.out.2 hb1).alloc (below_step Y1.out.2 hb1).size _⟩; clear hb1)
    | (go_at_call 15; refine (C15.out _).mono ?_; rintro e w3 ⟨rfl, hb1⟩; have Y3 : Aside (P2 (w3.alloc (.cells #[.bool xa, .int .u8 (xi : Int)] 27)) w.heap.size 27 _ _ ∧ P2 (w3.alloc (.cells #[.bool xa, .int .u8 (xi : Int)] 27)) w2.heap.size 33 _ _ ∧ P2 (w3.alloc (.cells #[.bool xa, .int .u8 (xi : Int)] 27)) w3.heap.size 27 _ _ ∧ Below w.heap.size w (w3.alloc (.cells #[.bool xa, .int .u8 (xi : Int)] 27))) := ⟨(Y2.out.1.later hb1).alloc _, (Y2.out.2.1.later hb1).alloc _, P2.new _ _ _ _, (below_step Y2.out.2.2 hb1).alloc (below_step Y2.out.2.2 hb1).size _⟩; clear hb1; obtain ⟨c0, c1⟩ := Y3.out.1.cells)
    | (go_at_call 16; (with_reducible refine (C16.out _ Y3.out.2.2.2).mono ?_); rintro e w4 ⟨rfl, hb4⟩; have H4 : Aside _ := hb4; clear hb4 c0 c1)
    | (go_at_call 14; (with_reducible refine (D14.out _).mono ?_); rintro e w5 ⟨rfl, hb5⟩; have hb1 := below_step H4.out hb5; have Y4 : Aside (P2 (w5.alloc (.cells #[.bool za, .int .u8 (zi : Int)] 33)) w.heap.size 27 _ _ ∧ P2 (w5.alloc (.cells #[.bool za, .int .u8 (zi : Int)] 33)) w2.heap.size 33 _ _ ∧ P2 (w5.alloc (.cells #[.bool za, .int .u8 (zi : Int)] 33)) w3.heap.size 27 _ _ ∧ P2 (w5.alloc (.cells #[.bool za, .int .u8 (zi : Int)] 33)) w5.heap.size 33 _ _ ∧ Below w.heap.size w (w5.alloc (.cells #[.bool za, .int .u8 (zi : Int)] 33))) := ⟨(Y3.out.1.later hb1).alloc _, (Y3.out.2.1.later hb1).alloc _, (Y3.out.2.2.1.later hb1).alloc _, P2.new _ _ _ _, (below_step Y3.out.2.2.2 hb1).alloc (below_step Y3.out.2.2.2 hb1).size _⟩; clear hb1 hb5 H4))
  have hne := Bw.some (w5.alloc (.cells #[.bool za, .int .u8 (zi : Int)] 33))
  have p3 : ∀ p : Bw (w5.alloc (.cells #[.bool za, .int .u8 (zi : Int)] 33)), p.w'.cell? ⟨w.heap.size, 1, none⟩ = some (.int .u8 (i : Int)) := fun p => (Y4.out.1.later p.h).cells.2
  refine wp_region_wq (by kernel_rfl) (by kernel_rfl) ?_
  repeat (first
    | (refine wq_two Tryd.isAgg27 Tryd.sizeOf27 Y4.out.1 (.tmp 2) rfl rfl ?_ ?_; (focus (go_simp; done)); dsimp only [Act.put, Array.setIfInBounds])
    | (refine wq_two Tryd.isAgg33 Tryd.sizeOf33 Y4.out.2.1 (.tmp 5) rfl rfl ?_ ?_; (focus (go_simp; done)); dsimp only [Act.put, Array.setIfInBounds])
    | (refine wq_two Tryd.isAgg27 Tryd.sizeOf27 Y4.out.2.2.1 (.tmp 7) rfl rfl ?_ ?_; (focus (go_simp; done)); dsimp only [Act.put, Array.setIfInBounds])
    | (refine wq_two Tryd.isAgg33 Tryd.sizeOf33 Y4.out.2.2.2.1 (.tmp 9) rfl rfl ?_ ?_; (focus (go_simp; done)); dsimp only [Act.put, Array.setIfInBounds])
    | (refine wq_step (fun K hK => ?_); go_simp; first
      | (refine hK _ ?_; clear hK K)
      | (apply Exists.intro; refine ⟨fun pp => ?_, hK _ ?_⟩; (first | (go_at_call 16; with_reducible exact Calls.bw_of (C16.out _ (below_step Y4.out.2.2.2.2 pp.h))) | (go_at_call 17; with_reducible exact Calls.bw_of (C17.out _ (below_step Y4.out.2.2.2.2 pp.h))) | (go_at_call 16; with_reducible exact Calls.bw_of (C16x.out _))); clear hK K)))
  refine wq_nil ?_
  intro _ hw'
  obtain ⟨pq, hw''⟩ := hw'
  subst hw''
  go_wp2
  go_ret
  exact ⟨rfl, below_step Y4.out.2.2.2.2 pq.h⟩

set_option maxHeartbeats 4000000 in
set_option maxRecDepth 100000 in
theorem texts40 (a : Bool) (i : Nat) (s t : ByteArray) (w : World) (xa za : Bool) (xi zi : Nat) (h16 : (i : Int) < 16) (q2 : ∀ W, (binOp .eql 27 (.agg #[.bool za, .int .u8 (zi : Int)]) (.agg #[.bool a, .int .u8 (i : Int)])).run Tryd.prog W = .ok (.bool true) W)
    (C14 : Aside (∀ W, Calls Tryd.prog 14 #[.string s] W fun e w' => e = .returned (.tuple #[.agg #[.bool xa, .int .u8 (xi : Int)], .int .i64 4]) ∧ Below W.heap.size W w'))
    (C15 : Aside (∀ W, Calls Tryd.prog 15 #[.string s] W fun e w' => e = .returned (.tuple #[.agg #[.bool xa, .int .u8 (xi : Int)], .int .i64 4]) ∧ Below W.heap.size W w'))
    (D14 : Aside (∀ W, Calls Tryd.prog 14 #[.string t] W fun e w' => e = .returned (.tuple #[.agg #[.bool za, .int .u8 (zi : Int)], .int .i64 0]) ∧ Below W.heap.size W w'))
    (C16 : Aside (∀ W, Below w.heap.size w W → Calls Tryd.prog 16 #[.agg #[.bool a, .int .u8 (i : Int)]] W fun e w' => e = .returned (.string t) ∧ Below W.heap.size W w'))
    (C17 : Aside (∀ W, Below w.heap.size w W → Calls Tryd.prog 17 #[.agg #[.bool a, .int .u8 (i : Int)]] W fun e w' => e = .returned (.string t) ∧ Below W.heap.size W w'))
    (hsz : ¬ (100 : Int) < (s.size : Int)) :
    Calls Tryd.prog 4 #[.agg #[.bool a, .int .u8 (i : Int)], .string s] w fun e w' => e = .returned (.bool true) ∧ Below w.heap.size w w' := by
  have C9 : Aside (∀ W, _) := alive_any
  have q1 : ∀ W, (binOp .eql 27 (.agg #[.bool xa, .int .u8 (xi : Int)]) (.agg #[.bool xa, .int .u8 (xi : Int)])).run Tryd.prog W = .ok (.bool true) W := fun W => by rw [eql27, decide_eq_true ⟨rfl, rfl⟩]
  have g1 := fun x y xs ys W => eql27_guard x y xs ys W
  obtain ⟨V, hV⟩ : ∃ V, V = w.alloc (.cells #[.bool a, .int .u8 (i : Int)] 27) := ⟨_, rfl⟩
  have X : Aside (P2 V w.heap.size 27 (.bool a) (.int .u8 (i : Int)) ∧ Below w.heap.size w V) := by
    rw [hV]
    exact ⟨P2.new w _ _ _, below_one w _⟩
  go_enter Tryd.func4, Tryd.ntmps4
  go_wp2_with fail
  rw [← hV]
  clear hV
  go_wp2_with (first
    | (go_at_call 9; refine (C9.out _).mono ?_; rintro e w1 ⟨rfl, hb1⟩; have Y1 : Aside (P2 w1 w.heap.size 27 _ _ ∧ Below w.heap.size w w1) := ⟨X.out.1.later hb1, below_step X.out.2 hb1⟩; clear hb1)
    | (go_at_call 14; (with_reducible refine (C14.out _).mono ?_); rintro e w2 ⟨rfl, hb1⟩; have Y2 : Aside (P2 (w2.alloc (.cells #[.bool xa, .int .u8 (xi : Int)] 33)) w.heap.size 27 _ _ ∧ P2 (w2.alloc (.cells #[.bool xa, .int .u8 (xi : Int)] 33)) w2.heap.size 33 _ _ ∧ Below w.heap.size w (w2.alloc (.cells #[.bool xa, .int .u8 (xi : Int)] 33))) := ⟨(Y1.out.1.later hb1).alloc _, P2.new _ _ _ _, (below_step Y1.out.2 hb1).alloc (below_step Y1.out.2 hb1).size _⟩; clear hb1)
    | (go_at_call 15; refine (C15.out _).mono ?_; rintro e w3 ⟨rfl, hb1⟩; have Y3 : Aside (P2 (w3.alloc (.cells #[.bool xa, .int .u8 (xi : Int)] 27)) w.heap.size 27 _ _ ∧ P2 (w3.alloc (.cells #[.bool xa, .int .u8 (xi : Int)] 27)) w2.heap.size 33 _ _ ∧ P2 (w3.alloc (.cells #[.bool xa, .int .u8 (xi : Int)] 27)) w3.heap.size 27 _ _ ∧ Below w.heap.size w (w3.alloc (.cells #[.bool xa, .int .u8 (xi : Int)] 27))) := ⟨(Y2.out.1.later hb1).alloc _, (Y2.out.2.1.later hb1).alloc _, P2.new _ _ _ _, (below_step Y2.out.2.2 hb1).alloc (below_step Y2.out.2.2 hb1).size _⟩; clear hb1; obtain ⟨c0, c1⟩ := Y3.out.1.cells)
    | (go_at_call 16; (with_reducible refine (C16.out _ Y3.out.2.2.2).mono ?_); rintro e w4 ⟨rfl, hb4⟩; have H4 : Aside _ := hb4; clear hb4 c0 c1)
    | (go_at_call 14; (with_reducible refine (D14.out _).mono ?_); rintro e w5 ⟨rfl, hb5⟩; have hb1 := below_step H4.out hb5; have Y4 : Aside (P2 (w5.alloc (.cells #[.bool za, .int .u8 (zi : Int)] 33)) w.heap.size 27 _ _ ∧ P2 (w5.alloc (.cells #[.bool za, .int .u8 (zi : Int)] 33)) w2.heap.size 33 _ _ ∧ P2 (w5.alloc (.cells #[.bool za, .int .u8 (zi : Int)] 33)) w3.heap.size 27 _ _ ∧ P2 (w5.alloc (.cells #[.bool za, .int .u8 (zi : Int)] 33)) w5.heap.size 33 _ _ ∧ Below w.heap.size w (w5.alloc (.cells #[.bool za, .int .u8 (zi : Int)] 33))) := ⟨(Y3.out.1.later hb1).alloc _, (Y3.out.2.1.later hb1).alloc _, (Y3.out.2.2.1.later hb1).alloc _, P2.new _ _ _ _, (below_step Y3.out.2.2.2 hb1).alloc (below_step Y3.out.2.2.2 hb1).size _⟩; clear hb1 hb5 H4))
  have hne := Bw.some (w5.alloc (.cells #[.bool za, .int .u8 (zi : Int)] 33))
  have p3 : ∀ p : Bw (w5.alloc (.cells #[.bool za, .int .u8 (zi : Int)] 33)), p.w'.cell? ⟨w.heap.size, 1, none⟩ = some (.int .u8 (i : Int)) := fun p => (Y4.out.1.later p.h).cells.2
  refine wp_region_wq (by kernel_rfl) (by kernel_rfl) ?_
  repeat (first
    | (refine wq_two Tryd.isAgg27 Tryd.sizeOf27 Y4.out.1 (.tmp 2) rfl rfl ?_ ?_; (focus (go_simp; done)); dsimp only [Act.put, Array.setIfInBounds])
    | (refine wq_two Tryd.isAgg33 Tryd.sizeOf33 Y4.out.2.1 (.tmp 5) rfl rfl ?_ ?_; (focus (go_simp; done)); dsimp only [Act.put, Array.setIfInBounds])
    | (refine wq_two Tryd.isAgg27 Tryd.sizeOf27 Y4.out.2.2.1 (.tmp 7) rfl rfl ?_ ?_; (focus (go_simp; done)); dsimp only [Act.put, Array.setIfInBounds])
    | (refine wq_two Tryd.isAgg33 Tryd.sizeOf33 Y4.out.2.2.2.1 (.tmp 9) rfl rfl ?_ ?_; (focus (go_simp; done)); dsimp only [Act.put, Array.setIfInBounds])
    | (refine wq_step (fun K hK => ?_); go_simp; first
      | (refine hK _ ?_; clear hK K)
      | (apply Exists.intro; refine ⟨fun pp => ?_, hK _ ?_⟩; (first | (go_at_call 16; with_reducible exact Calls.bw_of (C16.out _ (below_step Y4.out.2.2.2.2 pp.h))) | (go_at_call 17; with_reducible exact Calls.bw_of (C17.out _ (below_step Y4.out.2.2.2.2 pp.h)))); clear hK K)))
  refine wq_nil ?_
  intro _ hw'
  obtain ⟨pq, hw''⟩ := hw'
  subst hw''
  go_wp2
  go_ret
  exact ⟨rfl, below_step Y4.out.2.2.2.2 pq.h⟩

set_option maxHeartbeats 4000000 in
set_option maxRecDepth 100000 in
theorem texts44 (a : Bool) (i : Nat) (s t : ByteArray) (w : World) (xa za : Bool) (xi zi : Nat) (h16 : (16 : Int) ≤ (i : Int)) (h17 : decide ((i : Int) < 16) = false)
    (C14 : Aside (∀ W, Calls Tryd.prog 14 #[.string s] W fun e w' => e = .returned (.tuple #[.agg #[.bool xa, .int .u8 (xi : Int)], .int .i64 4]) ∧ Below W.heap.size W w'))
    (C15 : Aside (∀ W, Calls Tryd.prog 15 #[.string s] W fun e w' => e = .returned (.tuple #[.agg #[.bool xa, .int .u8 (xi : Int)], .int .i64 4]) ∧ Below W.heap.size W w'))
    (D14 : Aside (∀ W, Calls Tryd.prog 14 #[.string t] W fun e w' => e = .returned (.tuple #[.agg #[.bool za, .int .u8 (zi : Int)], .int .i64 4]) ∧ Below W.heap.size W w'))
    (C16 : Aside (∀ W, Below w.heap.size w W → Calls Tryd.prog 16 #[.agg #[.bool a, .int .u8 (i : Int)]] W fun e w' => e = .returned (.string t) ∧ Below W.heap.size W w'))
    (C17 : Aside (∀ W, Below w.heap.size w W → Calls Tryd.prog 17 #[.agg #[.bool a, .int .u8 (i : Int)]] W fun e w' => e = .returned (.string t) ∧ Below W.heap.size W w'))
    (hsz : ¬ (100 : Int) < (s.size : Int)) :
    Calls Tryd.prog 4 #[.agg #[.bool a, .int .u8 (i : Int)], .string s] w fun e w' => e = .returned (.bool true) ∧ Below w.heap.size w w' := by
  have C9 : Aside (∀ W, _) := alive_any
  have q1 : ∀ W, (binOp .eql 27 (.agg #[.bool xa, .int .u8 (xi : Int)]) (.agg #[.bool xa, .int .u8 (xi : Int)])).run Tryd.prog W = .ok (.bool true) W := fun W => by rw [eql27, decide_eq_true ⟨rfl, rfl⟩]
  have g1 := fun x y xs ys W => eql27_guard x y xs ys W
  obtain ⟨V, hV⟩ : ∃ V, V = w.alloc (.cells #[.bool a, .int .u8 (i : Int)] 27) := ⟨_, rfl⟩
  have X : Aside (P2 V w.heap.size 27 (.bool a) (.int .u8 (i : Int)) ∧ Below w.heap.size w V) := by
    rw [hV]
    exact ⟨P2.new w _ _ _, below_one w _⟩
  go_enter Tryd.func4, Tryd.ntmps4
  go_wp2_with fail
  rw [← hV]
  clear hV
  go_wp2_with (first
    | (go_at_call 9; refine (C9.out _).mono ?_; rintro e w1 ⟨rfl, hb1⟩; have Y1 : Aside (P2 w1 w.heap.size 27 _ _ ∧ Below w.heap.size w w1) := ⟨X.out.1.later hb1, below_step X.out.2 hb1⟩; clear hb1)
    | (go_at_call 14; (with_reducible refine (C14.out _).mono ?_); rintro e w2 ⟨rfl, hb1⟩; have Y2 : Aside (P2 (w2.alloc (.cells #[.bool xa, .int .u8 (xi : Int)] 33)) w.heap.size 27 _ _ ∧ P2 (w2.alloc (.cells #[.bool xa, .int .u8 (xi : Int)] 33)) w2.heap.size 33 _ _ ∧ Below w.heap.size w (w2.alloc (.cells #[.bool xa, .int .u8 (xi : Int)] 33))) := ⟨(Y1.out.1.later hb1).alloc _, P2.new _ _ _ _, (below_step Y1.out.2 hb1).alloc (below_step Y1.out.2 hb1).size _⟩; clear hb1)
    | (go_at_call 15; refine (C15.out _).mono ?_; rintro e w3 ⟨rfl, hb1⟩; have Y3 : Aside (P2 (w3.alloc (.cells #[.bool xa, .int .u8 (xi : Int)] 27)) w.heap.size 27 _ _ ∧ P2 (w3.alloc (.cells #[.bool xa, .int .u8 (xi : Int)] 27)) w2.heap.size 33 _ _ ∧ P2 (w3.alloc (.cells #[.bool xa, .int .u8 (xi : Int)] 27)) w3.heap.size 27 _ _ ∧ Below w.heap.size w (w3.alloc (.cells #[.bool xa, .int .u8 (xi : Int)] 27))) := ⟨(Y2.out.1.later hb1).alloc _, (Y2.out.2.1.later hb1).alloc _, P2.new _ _ _ _, (below_step Y2.out.2.2 hb1).alloc (below_step Y2.out.2.2 hb1).size _⟩; clear hb1; obtain ⟨c0, c1⟩ := Y3.out.1.cells)
    | (go_at_call 16; (with_reducible refine (C16.out _ Y3.out.2.2.2).mono ?_); rintro e w4 ⟨rfl, hb4⟩; have H4 : Aside _ := hb4; clear hb4 c0 c1)
    | (go_at_call 14; (with_reducible refine (D14.out _).mono ?_); rintro e w5 ⟨rfl, hb5⟩; have hb1 := below_step H4.out hb5; have Y4 : Aside (P2 (w5.alloc (.cells #[.bool za, .int .u8 (zi : Int)] 33)) w.heap.size 27 _ _ ∧ P2 (w5.alloc (.cells #[.bool za, .int .u8 (zi : Int)] 33)) w2.heap.size 33 _ _ ∧ P2 (w5.alloc (.cells #[.bool za, .int .u8 (zi : Int)] 33)) w3.heap.size 27 _ _ ∧ P2 (w5.alloc (.cells #[.bool za, .int .u8 (zi : Int)] 33)) w5.heap.size 33 _ _ ∧ Below w.heap.size w (w5.alloc (.cells #[.bool za, .int .u8 (zi : Int)] 33))) := ⟨(Y3.out.1.later hb1).alloc _, (Y3.out.2.1.later hb1).alloc _, (Y3.out.2.2.1.later hb1).alloc _, P2.new _ _ _ _, (below_step Y3.out.2.2.2 hb1).alloc (below_step Y3.out.2.2.2 hb1).size _⟩; clear hb1 hb5 H4))
  have hne := Bw.some (w5.alloc (.cells #[.bool za, .int .u8 (zi : Int)] 33))
  have p3 : ∀ p : Bw (w5.alloc (.cells #[.bool za, .int .u8 (zi : Int)] 33)), p.w'.cell? ⟨w.heap.size, 1, none⟩ = some (.int .u8 (i : Int)) := fun p => (Y4.out.1.later p.h).cells.2
  refine wp_region_wq (by kernel_rfl) (by kernel_rfl) ?_
  repeat (first
    | (refine wq_two Tryd.isAgg27 Tryd.sizeOf27 Y4.out.1 (.tmp 2) rfl rfl ?_ ?_; (focus (go_simp; done)); dsimp only [Act.put, Array.setIfInBounds])
    | (refine wq_two Tryd.isAgg33 Tryd.sizeOf33 Y4.out.2.1 (.tmp 5) rfl rfl ?_ ?_; (focus (go_simp; done)); dsimp only [Act.put, Array.setIfInBounds])
    | (refine wq_two Tryd.isAgg27 Tryd.sizeOf27 Y4.out.2.2.1 (.tmp 7) rfl rfl ?_ ?_; (focus (go_simp; done)); dsimp only [Act.put, Array.setIfInBounds])
    | (refine wq_two Tryd.isAgg33 Tryd.sizeOf33 Y4.out.2.2.2.1 (.tmp 9) rfl rfl ?_ ?_; (focus (go_simp; done)); dsimp only [Act.put, Array.setIfInBounds])
    | (refine wq_step (fun K hK => ?_); go_simp; first
      | (refine hK _ ?_; clear hK K)
      | (apply Exists.intro; refine ⟨fun pp => ?_, hK _ ?_⟩; (first | (go_at_call 16; with_reducible exact Calls.bw_of (C16.out _ (below_step Y4.out.2.2.2.2 pp.h))) | (go_at_call 17; with_reducible exact Calls.bw_of (C17.out _ (below_step Y4.out.2.2.2.2 pp.h)))); clear hK K)))
  refine wq_nil ?_
  intro _ hw'
  obtain ⟨pq, hw''⟩ := hw'
  subst hw''
  go_wp2
  go_ret
  exact ⟨rfl, below_step Y4.out.2.2.2.2 pq.h⟩

set_option maxHeartbeats 4000000 in
set_option maxRecDepth 100000 in
theorem texts_walk (a : Bool) (i : Nat) (s : ByteArray) (w : World) (h8 : i < 256) (hT : Tab w) :
    Calls Tryd.prog 4 #[chV a i, .string s] w fun e w' => e = .returned (.bool true) ∧ Below w.heap.size w w' := by
  by_cases hsz : (100 : Int) < (s.size : Int)
  · have C9 : Aside (∀ W, _) := alive_any
    have B : Aside (Below w.heap.size w (w.alloc (.cells #[.bool a, .int .u8 (i : Int)] 27))) := below_one w _
    unfold chV
    go_enter Tryd.func4, Tryd.ntmps4
    go_wp2_with (go_at_call 9; refine (C9.out _).mono ?_; rintro e w1 ⟨rfl, hb1⟩; have B1 : Aside (Below w.heap.size w w1) := below_step B.out hb1; clear hb1)
    go_ret
    exact ⟨rfl, B1.out⟩
  · have C16 : Aside (∀ W, Below w.heap.size w W → Calls Tryd.prog 16 #[chV a i] W fun e w' => e = .returned (.string (txt a i)) ∧ Below W.heap.size W w') := fun W hb => text_any a i W h8 (.inr (hT.later hb))
    have C17 : Aside (∀ W, Below w.heap.size w W → Calls Tryd.prog 17 #[chV a i] W fun e w' => e = .returned (.string (txt a i)) ∧ Below W.heap.size W w') := fun W hb => rtext_any a i W h8 (.inr (hT.later hb))
    have C14 : Aside (∀ W, _) := parse_any s
    have C15 : Aside (∀ W, _) := rparse_any s
    have D14 : Aside (∀ W, _) := parse_any (txt a i)
    rcases parse_cases s with ⟨xa, xi, hx, hs, hp⟩ | hp
    · have C16x : Aside (∀ W, Calls Tryd.prog 16 #[chV xa xi] W fun e w' => e = .returned (.string s) ∧ Below W.heap.size W w') := fun W => by
        have := text_any xa xi W (by omega) (.inl (by omega))
        rw [← hs] at this
        exact this
      rw [hp] at C14 C15
      by_cases hi : i < 16
      · rw [parse_yes hi rfl] at D14
        exact texts00 a i s (txt a i) w xa a xi i (by omega) (fun W => by rw [eql27, decide_eq_true ⟨rfl, rfl⟩]) C14 C15 D14 C16 C17 C16x hsz
      · rw [parse_far h8 hi] at D14
        exact texts04 a i s (txt a i) w xa false xi 0 (by omega) (decide_eq_false (by omega)) C14 C15 D14 C16 C17 C16x hsz
    · rw [hp] at C14 C15
      by_cases hi : i < 16
      · rw [parse_yes hi rfl] at D14
        exact texts40 a i s (txt a i) w false a 0 i (by omega) (fun W => by rw [eql27, decide_eq_true ⟨rfl, rfl⟩]) C14 C15 D14 C16 C17 hsz
      · rw [parse_far h8 hi] at D14
        exact texts44 a i s (txt a i) w false false 0 0 (by omega) (decide_eq_false (by omega)) C14 C15 D14 C16 C17 hsz
end Rl
end Go.Proofs.YtnheikkpnffinaaDoor
