/- The walk of RollApplies. -/
import Derived.Test.YtnheikkpnffinaaDoorRlG
set_option linter.unusedVariables false
namespace Go.Proofs.YtnheikkpnffinaaDoor
open Go.RowKit
namespace Rl
open Cn

theorem wq_two {T : TypeId} (aE : ∀ w, (isAgg T).run Tryd.prog w = .ok true w) (zE : ∀ w, (Go.sizeOf T).run Tryd.prog w = .ok 2 w) {ops : Array Oper} {Q : Act → Prop} {a : Act} {o : Oper} {rest : List Oper} {W : World} {b : Nat} {t : TypeId} {x y : Value} (h : P2 W b t x y) (p : Operand) (ho : o.op = .load T p) (hp : a.eval p = .pointer (some ⟨b, 0, none⟩)) (hw : Region.wanted o (yielded ops a.tmps) = true)
    (hn : WQ Tryd.prog ops (fun w' => ∃ p : Bw W, w' = p.w') Q rest (a.put o.dst (.agg #[x, y]))) : WQ Tryd.prog ops (fun w' => ∃ p : Bw W, w' = p.w') Q (o :: rest) a := by
  refine wq_run (.agg #[x, y]) hw (fun w' hw' => ?_) hn
  obtain ⟨q, rfl⟩ := hw'
  exact exec_load T 2 q.w' (aE _) (zE _) #[x, y] _ (load_two (h.later q.h)) a o p ho hp

set_option maxHeartbeats 4000000 in
set_option maxRecDepth 100000 in
theorem applies_walk (v : Int) (s : Nat) (a : Bool) (i : Nat) (w : World) (hs : s < 65536) (h8 : i < 256) :
    Calls Tryd.prog 3 #[rollV v s, chV a i] w fun e w' => e = .returned (.bool true) ∧ Below w.heap.size w w' := by
  have C9 : Aside (∀ W, _) := alive_any
  have C10 : Aside (∀ W, Calls Tryd.prog 10 #[.agg #[.int .i64 v, .int .u16 (s : Int)], .agg #[.bool a, .int .u8 (i : Int)]] W fun e w' => e = .returned (.tuple #[.agg #[.int .i64 (appV v s a i), .int .u16 (appS v s a i : Nat)], .int .i64 (appE v s a i : Nat)]) ∧ Below W.heap.size W w') := fun W => apply_any v s a i W hs
  have C11 : Aside (∀ W, Calls Tryd.prog 11 #[.agg #[.int .i64 v, .int .u16 (s : Int)], .agg #[.bool a, .int .u8 (i : Int)]] W fun e w' => e = .returned (.tuple #[.agg #[.int .i64 (appV v s a i), .int .u16 (appS v s a i : Nat)], .int .i64 (appE v s a i : Nat)]) ∧ Below W.heap.size W w') := fun W => rapply_any v s a i W hs h8
  have C12 : Aside (∀ W, Calls Tryd.prog 12 #[.agg #[.int .i64 v, .int .u16 (s : Int)]] W fun e w' => e = .returned (.bool (rightB v s)) ∧ Below W.heap.size W w') := fun W => right_any v s W
  have C13 : Aside (∀ W, Calls Tryd.prog 13 #[.agg #[.int .i64 v, .int .u16 (s : Int)]] W fun e w' => e = .returned (.bool (rightB v s)) ∧ Below W.heap.size W w') := fun W => rright_any v s W
  generalize appV v s a i = V1 at C10 C11
  generalize appS v s a i = S1 at C10 C11
  generalize appE v s a i = E1 at C10 C11
  have q1 : ∀ W, (binOp .eql 25 (.agg #[.int .i64 V1, .int .u16 (S1 : Int)]) (.agg #[.int .i64 V1, .int .u16 (S1 : Int)])).run Tryd.prog W = .ok (.bool true) W := fun W => by rw [eql25, decide_eq_true ⟨rfl, rfl⟩]
  have g1 := fun x y xs ys W => eql25_guard x y xs ys W
  generalize rightB v s = b at C12 C13
  have hb : (b == b) = true := by simp
  obtain ⟨V, hV⟩ : ∃ V, V = (w.alloc (.cells #[.int .i64 v, .int .u16 (s : Int)] 25)).alloc (.cells #[.bool a, .int .u8 (i : Int)] 27) := ⟨_, rfl⟩
  have X : Aside (P2 V w.heap.size 25 (.int .i64 v) (.int .u16 (s : Int)) ∧ P2 V (w.heap.size + 1) 27 (.bool a) (.int .u8 (i : Int)) ∧ Below w.heap.size w V) := by
    rw [hV]
    exact ⟨(P2.new w _ _ _).alloc _, P2.new1 w _ _ _ _, (below_one w _).alloc (by simp) _⟩
  unfold rollV chV
  go_enter Tryd.func3, Tryd.ntmps3
  go_wp2_with fail
  rw [← hV]
  clear hV
  go_wp2_with (first
    | (go_at_call 9; refine (C9.out _).mono ?_; rintro e w1 ⟨rfl, hb1⟩; have Y1 : Aside (P2 w1 w.heap.size 25 _ _ ∧ P2 w1 (w.heap.size + 1) 27 _ _ ∧ Below w.heap.size w w1) := ⟨X.out.1.later hb1, X.out.2.1.later hb1, below_step X.out.2.2 hb1⟩; clear hb1; obtain ⟨c0, c1⟩ := Y1.out.1.cells; obtain ⟨d0, d1⟩ := Y1.out.2.1.cells)
    | (go_at_call 10; refine (C10.out _).mono ?_; rintro e w2 ⟨rfl, hb1⟩; clear c0 c1 d0 d1; have Y2 : Aside (P2 (w2.alloc (.cells #[.int .i64 V1, .int .u16 (S1 : Int)] 29)) w.heap.size 25 _ _ ∧ P2 (w2.alloc (.cells #[.int .i64 V1, .int .u16 (S1 : Int)] 29)) (w.heap.size + 1) 27 _ _ ∧ P2 (w2.alloc (.cells #[.int .i64 V1, .int .u16 (S1 : Int)] 29)) w2.heap.size 29 _ _ ∧ Below w.heap.size w (w2.alloc (.cells #[.int .i64 V1, .int .u16 (S1 : Int)] 29))) := ⟨(Y1.out.1.later hb1).alloc _, (Y1.out.2.1.later hb1).alloc _, P2.new _ _ _ _, (below_step Y1.out.2.2 hb1).alloc (below_step Y1.out.2.2 hb1).size _⟩; clear hb1; obtain ⟨c0, c1⟩ := Y2.out.1.cells; obtain ⟨d0, d1⟩ := Y2.out.2.1.cells)
    | (go_at_call 11; refine (C11.out _).mono ?_; rintro e w3 ⟨rfl, hb1⟩; clear c0 c1 d0 d1; have Y3 : Aside (P2 (w3.alloc (.cells #[.int .i64 V1, .int .u16 (S1 : Int)] 25)) w.heap.size 25 _ _ ∧ P2 (w3.alloc (.cells #[.int .i64 V1, .int .u16 (S1 : Int)] 25)) w2.heap.size 29 _ _ ∧ P2 (w3.alloc (.cells #[.int .i64 V1, .int .u16 (S1 : Int)] 25)) w3.heap.size 25 _ _ ∧ Below w.heap.size w (w3.alloc (.cells #[.int .i64 V1, .int .u16 (S1 : Int)] 25))) := ⟨(Y2.out.1.later hb1).alloc _, (Y2.out.2.2.1.later hb1).alloc _, P2.new _ _ _ _, (below_step Y2.out.2.2.2 hb1).alloc (below_step Y2.out.2.2.2 hb1).size _⟩; clear hb1))
  have hne := Bw.some (w3.alloc (.cells #[.int .i64 V1, .int .u16 (S1 : Int)] 25))
  refine wp_region_wq (by kernel_rfl) (by kernel_rfl) ?_
  repeat (first
    | (refine wq_two Tryd.isAgg25 Tryd.sizeOf25 Y3.out.1 (.tmp 2) rfl rfl ?_ ?_; (focus (go_simp; done)); dsimp only [Act.put, Array.setIfInBounds])
    | (refine wq_two Tryd.isAgg29 Tryd.sizeOf29 Y3.out.2.1 (.tmp 5) rfl rfl ?_ ?_; (focus (go_simp; done)); dsimp only [Act.put, Array.setIfInBounds])
    | (refine wq_two Tryd.isAgg25 Tryd.sizeOf25 Y3.out.2.2.1 (.tmp 7) rfl rfl ?_ ?_; (focus (go_simp; done)); dsimp only [Act.put, Array.setIfInBounds])
    | (refine wq_step (fun K hK => ?_); go_simp; first
      | (refine hK _ ?_; clear hK K)
      | (apply Exists.intro; refine ⟨fun _ => ?_, hK _ ?_⟩; (first | (go_at_call 12; with_reducible exact Calls.bw_of (C12.out _)) | (go_at_call 13; with_reducible exact Calls.bw_of (C13.out _))); clear hK K)))
  refine wq_nil ?_
  intro _ hw'
  obtain ⟨pq, hw''⟩ := hw'
  subst hw''

  go_wp2
  go_ret
  exact ⟨rfl, below_step Y3.out.2.2.2 pq.h⟩
end Rl
end Go.Proofs.YtnheikkpnffinaaDoor
