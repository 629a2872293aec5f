/- What alive's two items and three holds are. -/
import Derived.Test.YtbacnjkookakcaaHdT
set_option linter.unusedVariables false
namespace Go.Proofs.Ytbacnjkookakcaa
open Go.RowKit
namespace Hd
open Ps

def aI : It := ⟨0, 0, ⟨1, fun _ => 0, ⟨#[]⟩⟩⟩
def bI : It := ⟨0, 1, ⟨1, fun i => if i = 0 then 1 else 0, ⟨#[]⟩⟩⟩
def zF : Nat → Nat := fun _ => 0
theorem wpList_bld0 {P : Program} {w : World} {ops : Array Oper} {rest : List Oper} {o : Oper} {a : Act} {Q : Exit → Act → World → Prop} (hg : o.guard = none) (t : TypeId) (ho : o.op = .build t #[]) (v : Value)
    (hr : (Instr.build t #[]).run P w = .ok v w) (h : wpList P ops Q rest (a.put o.dst v) w) : wpList P ops Q (o :: rest) a w := by
  refine wpList_plain hg fun K hK => ?_
  unfold Oper.wp
  have : (execOp a.eval o).run P w = .ok (.value v) w := by
    generalize a.eval = ev
    generalize hB : Instr.build t #[] = B at hr
    have hB' : Instr.build t ((#[] : Array (Nat × Operand)).map fun x => match x with | (i, x) => (i, ev x)) = B := by
      rw [← hB]; congr 1; simp
    simp only [execOp, ho]
    rw [hB']
    simp [hr]
  rw [this]
  exact hK _ _ h
theorem wpList_bld1 {P : Program} {w : World} {ops : Array Oper} {rest : List Oper} {o : Oper} {a : Act} {Q : Exit → Act → World → Prop} (hg : o.guard = none) (t : TypeId) (i : Nat) (p0 : Operand) (ho : o.op = .build t #[(i, p0)]) (v0 v : Value)
    (hr : (Instr.build t #[(i, v0)]).run P w = .ok v w) (h0 : a.eval p0 = v0) (h : wpList P ops Q rest (a.put o.dst v) w) : wpList P ops Q (o :: rest) a w := by
  refine wpList_plain hg fun K hK => ?_
  unfold Oper.wp
  have : (execOp a.eval o).run P w = .ok (.value v) w := by
    generalize a.eval = ev at h0 ⊢
    generalize hB : Instr.build t #[(i, v0)] = B at hr
    have hB' : Instr.build t ((#[(i, p0)] : Array (Nat × Operand)).map fun x => match x with | (i, x) => (i, ev x)) = B := by
      rw [← hB, ← h0]; congr 1; simp
    simp only [execOp, ho]
    rw [hB']
    simp [hr]
  rw [this]
  exact hK _ _ h
theorem wpList_bld2 {P : Program} {w : World} {ops : Array Oper} {rest : List Oper} {o : Oper} {a : Act} {Q : Exit → Act → World → Prop} (hg : o.guard = none) (t : TypeId) (i j : Nat) (p0 p1 : Operand) (ho : o.op = .build t #[(i, p0), (j, p1)]) (v0 v1 v : Value)
    (hr : (Instr.build t #[(i, v0), (j, v1)]).run P w = .ok v w) (h0 : a.eval p0 = v0) (h1 : a.eval p1 = v1) (h : wpList P ops Q rest (a.put o.dst v) w) : wpList P ops Q (o :: rest) a w := by
  refine wpList_plain hg fun K hK => ?_
  unfold Oper.wp
  have : (execOp a.eval o).run P w = .ok (.value v) w := by
    generalize a.eval = ev at h0 h1 ⊢
    generalize hB : Instr.build t #[(i, v0), (j, v1)] = B at hr
    have hB' : Instr.build t ((#[(i, p0), (j, p1)] : Array (Nat × Operand)).map fun x => match x with | (i, x) => (i, ev x)) = B := by
      rw [← hB, ← h0, ← h1]; congr 1; simp
    simp only [execOp, ho]
    rw [hB']
    simp [hr]
  rw [this]
  exact hK _ _ h
set_option maxRecDepth 100000 in
theorem ba41 (W : World) : (Instr.build 41 #[(0, .int .i64 1)]).run Try.prog W = .ok (.agg (bdA aI.body)) W := run_build W 41 _ _ (by kernel_rfl)
set_option maxRecDepth 100000 in
theorem ba43 (W : World) : (Instr.build 43 #[(2, .agg (bdA aI.body))]).run Try.prog W = .ok (.agg (itA aI)) W := run_build W 43 _ _ (by kernel_rfl)
set_option maxRecDepth 100000 in
theorem bb24 (W : World) : (Instr.build 24 #[(0, .int .u16 1)]).run Try.prog W = .ok (.agg (vecA bI.body.past)) W := run_build W 24 _ _ (by kernel_rfl)
set_option maxRecDepth 100000 in
theorem bb41 (W : World) : (Instr.build 41 #[(0, .int .i64 1), (1, .agg (vecA bI.body.past))]).run Try.prog W = .ok (.agg (bdA bI.body)) W := run_build W 41 _ _ (by kernel_rfl)
set_option maxRecDepth 100000 in
theorem bb43 (W : World) : (Instr.build 43 #[(1, .int .i64 1), (2, .agg (bdA bI.body))]).run Try.prog W = .ok (.agg (itA bI)) W := run_build W 43 _ _ (by kernel_rfl)
set_option maxRecDepth 100000 in
theorem b36 (W : World) : (Instr.build 36 #[]).run Try.prog W = .ok (.agg (holdA zF (.slice none 0 0))) W := run_build W 36 _ _ (by kernel_rfl)
set_option maxRecDepth 100000 in
theorem b24 (W : World) : (Instr.build 24 #[]).run Try.prog W = .ok (.agg (vecA zF)) W := run_build W 24 _ _ (by kernel_rfl)
set_option maxRecDepth 100000 in
theorem eqbb (W : World) : (binOp .eql 43 (.agg (itA bI)) (.agg (itA bI))).run Try.prog W = .ok (.bool true) W := by kernel_rfl
theorem guard43 (x y : Operand) (xs ys : Array Value) (w : World) : (eqGuard .eql 43 x y (.agg xs) (.agg ys)).run Try.prog w = .ok () w := run_eqGuard_agg w .eql 43 x y _ _ (by kernel_rfl)
set_option maxRecDepth 100000 in
theorem pu1 : putE zF [] bI = 0 ∧ putL zF [] bI = [bI] ∧ putO zF [] bI = [] := ⟨by kernel_rfl, by kernel_rfl, by kernel_rfl⟩
set_option maxRecDepth 100000 in
theorem pu1f : (∀ i, i < 16 → putF zF [] bI i = 0) := by
  have e : putF zF [] bI = zF := by kernel_rfl
  intro i _; rw [e]; rfl
def F2 : Nat → Nat := putF zF [bI] aI
set_option maxRecDepth 100000 in
theorem pu2 : putE zF [bI] aI = 0 ∧ putL zF [bI] aI = [] ∧ putO zF [bI] aI = [aI, bI] := ⟨by kernel_rfl, by kernel_rfl, by kernel_rfl⟩
set_option maxRecDepth 100000 in
theorem pu3 : putE F2 [] aI = 6 ∧ putL F2 [] aI = [] ∧ putO F2 [] aI = [] ∧ F2 0 = 2 ∧ putF zF [] bI = zF := ⟨by kernel_rfl, by kernel_rfl, by kernel_rfl, by kernel_rfl, by kernel_rfl⟩
set_option maxRecDepth 100000 in
theorem pu4 : rightH zF [bI] = true ∧ readyI zF aI = true := ⟨by kernel_rfl, by kernel_rfl⟩
set_option maxRecDepth 100000 in
theorem F2_small : ∀ i, i < 16 → F2 i < 65536 := by
  intro i hi
  have : ∀ j : Fin 16, F2 j.val < 65536 := by decide +kernel
  exact this ⟨i, hi⟩
theorem fit_a : Fit aI := ⟨by decide, by decide, by decide, fun i _ => by show (0 : Nat) < 65536; omega⟩
theorem fit_b : Fit bI := ⟨by decide, by decide, by decide, fun i _ => by show (if i = 0 then 1 else 0) < 65536; split <;> omega⟩
theorem z_small : ∀ i, i < 16 → zF i < 65536 := fun i _ => by show (0 : Nat) < 65536; omega
theorem al1 (W : World) : Calls Try.prog 11 #[.agg (holdA zF (.slice none 0 0)), .agg (itA bI)] W fun e w' => ∃ a c a2 c2, e = .returned (.tuple #[.agg (holdA zF (.slice a 1 c)), .slice a2 0 c2, .int .i64 0]) ∧ AtI w' a [bI] ∧ Below W.heap.size W w' := by
  have h := put_any zF none 0 [] bI W (.inl rfl) (fun y hy => by cases hy) fit_b z_small (by simp)
  rw [pu1.1, pu1.2.1, pu1.2.2, pu3.2.2.2.2] at h
  refine h.mono ?_
  rintro e w' ⟨a, c, a2, c2, rfl, h1, h2, h3⟩
  exact ⟨a, c, a2, c2, rfl, h1, h3⟩
theorem al2 (W : World) (a : Option Addr) (c : Nat) (ha : AtI W a [bI]) : Calls Try.prog 11 #[.agg (holdA zF (.slice a 1 c)), .agg (itA aI)] W fun e w' => ∃ a c a2 c2, e = .returned (.tuple #[.agg (holdA F2 (.slice a 0 c)), .slice a2 2 c2, .int .i64 0]) ∧ AtI w' a2 [aI, bI] ∧ Below W.heap.size W w' := by
  have h := put_any zF a c [bI] aI W ha (fun y hy => by simp at hy; subst hy; exact fit_b) fit_a z_small (by simp)
  rw [pu2.1, pu2.2.1, pu2.2.2] at h
  refine h.mono ?_
  rintro e w' ⟨a, c, a2, c2, rfl, h1, h2, h3⟩
  exact ⟨a, c, a2, c2, rfl, h2, h3⟩
theorem al3 (W : World) (a : Option Addr) (c : Nat) : Calls Try.prog 11 #[.agg (holdA F2 (.slice a 0 c)), .agg (itA aI)] W fun e w' => ∃ a c a2 c2, e = .returned (.tuple #[.agg (holdA (putF F2 [] aI) (.slice a 0 c)), .slice a2 0 c2, .int .i64 6]) ∧ Below W.heap.size W w' := by
  have h := put_any F2 a c [] aI W (.inl rfl) (fun y hy => by cases hy) fit_a F2_small (by simp)
  rw [pu3.1, pu3.2.1, pu3.2.2.1] at h
  refine h.mono ?_
  rintro e w' ⟨a, c, a2, c2, rfl, h1, h2, h3⟩
  exact ⟨a, c, a2, c2, rfl, h3⟩
theorem al17 (W : World) (a : Option Addr) (c : Nat) (ha : AtI W a [bI]) : Calls Try.prog 17 #[.agg (holdA zF (.slice a 1 c))] W fun e w' => e = .returned (.bool true) ∧ Below W.heap.size W w' := by
  have h := right17_any zF a c [bI] W ha (fun y hy => by simp at hy; subst hy; exact fit_b) z_small (by simp)
  rw [pu4.1] at h
  exact h
theorem al15 (W : World) : Calls Try.prog 15 #[.agg (vecA zF), .agg (itA aI)] W fun e w' => e = .returned (.bool true) ∧ Below W.heap.size W w' := by
  have h := ready15_any zF aI W z_small fit_a.2.2.2
  rw [pu4.2] at h
  exact h
theorem wq_hold36 {ops : Array Oper} {Q : Act → Prop} {a : Act} {o : Oper} {rest : List Oper} {W : World} {b : Nat} {t : TypeId} {f : Nat → Nat} {s : Value} (h : H17 W b t f s) (p : Operand) (ho : o.op = .load 36 p) (hp : a.eval p = .pointer (some ⟨b, 0, none⟩)) (hw : Region.wanted o (yielded ops a.tmps) = true)
    (hn : WQ Try.prog ops (fun w' => ∃ p : Bw W, w' = p.w') Q rest (a.put o.dst (.agg (holdA f s)))) : WQ Try.prog ops (fun w' => ∃ p : Bw W, w' = p.w') Q (o :: rest) a := by
  refine wq_run (.agg (holdA f s)) hw (fun w' hw' => ?_) hn
  obtain ⟨q, rfl⟩ := hw'
  exact exec_load 36 17 q.w' (Try.isAgg36 _) (Try.sizeOf36 _) (holdA f s) _ (load_hold (h.later q.h)) a o p ho hp
theorem wq_buildN {ops : Array Oper} {C : World → Prop} {Q : Act → Prop} {a : Act} {o : Oper} {rest : List Oper} (t : TypeId) (v : Value) (ho : o.op = .build t #[]) (hr : ∀ W, (Instr.build t #[]).run Try.prog W = .ok v W) (hw : Region.wanted o (yielded ops a.tmps) = true)
    (hn : WQ Try.prog ops C Q rest (a.put o.dst v)) : WQ Try.prog ops C Q (o :: rest) a := by
  refine wq_run v hw (fun w' _ => ?_) hn
  unfold execOp
  simp [ho, hr]
theorem wq_eqbb {ops : Array Oper} {C : World → Prop} {Q : Act → Prop} {a : Act} {o : Oper} {rest : List Oper} (p q : Operand) (T : TypeId) (ho : o.op = .binOp .eql 43 p q T) (h1 : a.eval p = .agg (itA bI)) (h2 : a.eval q = .agg (itA bI)) (hw : Region.wanted o (yielded ops a.tmps) = true)
    (hn : WQ Try.prog ops C Q rest (a.put o.dst (.bool true))) : WQ Try.prog ops C Q (o :: rest) a := by
  refine wq_run (.bool true) hw (fun w' _ => ?_) hn
  generalize a.eval = ev at h1 h2 ⊢
  simp [execOp, ho, h1, h2, guard43, eqbb, go_sem]
end Hd
end Go.Proofs.Ytbacnjkookakcaa
