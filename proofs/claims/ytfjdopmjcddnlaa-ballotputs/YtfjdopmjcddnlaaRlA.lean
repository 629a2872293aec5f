/- Views and changes as values of two cells; which views may be: the program's answer and the document's. -/
import Derived.Test.YtfjdopmjcddnlaaRwA
import Derived.Deep.RegionHeld3
import Derived.Laws.StructEq
set_option linter.unusedVariables false
namespace Go.Proofs.Ytfjdopmjcddnlaa
open Go.RowKit
namespace Rl
open Cn

def P2 (w : World) (b : Nat) (t : TypeId) (v0 v1 : Value) : Prop := w.heap[b]? = some (.cells #[v0, v1] t (0, 0))
theorem below_one (w : World) (o : Obj) : Below w.heap.size w (w.alloc o) := (Below.refl _ w).alloc (Nat.le_refl _) o
theorem P2.lt {w : World} {b : Nat} {t : TypeId} {v0 v1 : Value} (h : P2 w b t v0 v1) : b < w.heap.size := (Array.getElem?_eq_some_iff.1 h).1
theorem P2.later {w w' : World} {b : Nat} {t : TypeId} {v0 v1 : Value} (h : P2 w b t v0 v1) (hb : Below w.heap.size w w') : P2 w' b t v0 v1 := (hb.block b h.lt).trans h
theorem P2.alloc {w : World} {b : Nat} {t : TypeId} {v0 v1 : Value} (h : P2 w b t v0 v1) (o : Obj) : P2 (w.alloc o) b t v0 v1 := h.later (below_one w o)
theorem P2.new (w : World) (t : TypeId) (v0 v1 : Value) : P2 (w.alloc (.cells #[v0, v1] t)) w.heap.size t v0 v1 := heap_alloc_new w _
theorem P2.new1 (w : World) (o : Obj) (t : TypeId) (v0 v1 : Value) : P2 ((w.alloc o).alloc (.cells #[v0, v1] t)) (w.heap.size + 1) t v0 v1 := by
  have h := P2.new (w.alloc o) t v0 v1
  rwa [World.size_alloc] at h
theorem P2.new2 (w : World) (o o' : Obj) (t : TypeId) (v0 v1 : Value) : P2 (((w.alloc o).alloc o').alloc (.cells #[v0, v1] t)) (w.heap.size + 1 + 1) t v0 v1 := by
  have h := P2.new ((w.alloc o).alloc o') t v0 v1
  rwa [World.size_alloc, World.size_alloc] at h
theorem P2.cells {w : World} {b : Nat} {t : TypeId} {v0 v1 : Value} (h : P2 w b t v0 v1) : w.cell? ⟨b, 0, none⟩ = some v0 ∧ w.cell? ⟨b, 1, none⟩ = some v1 :=
  ⟨cell_of_row w b 0 _ t _ h, cell_of_row w b 1 _ t _ h⟩
theorem P2.frozen {w : World} {b : Nat} {t : TypeId} {v0 v1 : Value} (h : P2 w b t v0 v1) (i : Nat) : w.frozen? ⟨b, i, none⟩ = false := frozen_of_row w b i _ t h

/-- A view, and a change, as values. -/
def rollV (v : Int) (s : Nat) : Value := .agg #[.int .i64 v, .int .u16 (s : Int)]
def chV (a : Bool) (i : Nat) : Value := .agg #[.bool a, .int .u8 (i : Int)]
def rightB (v : Int) (s : Nat) : Bool := decide (0 ≤ v) && (decide (v ≤ 1000) && decide (s ≠ 0))

set_option maxHeartbeats 2000000 in
set_option maxRecDepth 100000 in
/-- What Right gives. -/
theorem right_any (v : Int) (s : Nat) (w : World) : Calls Try.prog 37 #[rollV v s] w fun e w' => e = .returned (.bool (rightB v s)) ∧ Below w.heap.size w w' := by
  obtain ⟨c0, c1⟩ := P2.cells (P2.new w 34 (.int .i64 v) (.int .u16 (s : Int)))
  have B : Aside (Below w.heap.size w (w.alloc (.cells #[.int .i64 v, .int .u16 (s : Int)] 34))) := below_one w _
  unfold rollV rightB
  by_cases h1 : 0 ≤ v
  · by_cases h2 : v ≤ 1000
    · by_cases h3 : s = 0
      · subst h3
        rw [decide_eq_true h1, decide_eq_true h2, show decide ((0 : Nat) ≠ 0) = false from rfl]
        have h4 : (((0 : Nat) : Int) != 0) = false := rfl
        go_enter Try.func37, Try.ntmps37
        go_wp2
        go_ret
        exact ⟨rfl, B.out⟩
      · have e : decide (s ≠ 0) = true := by simp [h3]
        rw [decide_eq_true h1, decide_eq_true h2, e]
        have h4 : ((s : Int) != 0) = true := by rw [bne_iff_ne]; omega
        go_enter Try.func37, Try.ntmps37
        go_wp2
        go_ret
        exact ⟨rfl, B.out⟩
    · rw [decide_eq_true h1, decide_eq_false h2]
      go_enter Try.func37, Try.ntmps37
      go_wp2
      go_ret
      exact ⟨rfl, B.out⟩
  · rw [decide_eq_false h1]
    go_enter Try.func37, Try.ntmps37
    go_wp2
    go_ret
    exact ⟨rfl, B.out⟩
set_option maxHeartbeats 2000000 in
set_option maxRecDepth 100000 in
/-- What the document's Right gives. -/
theorem rright_any (v : Int) (s : Nat) (w : World) : Calls Try.prog 46 #[rollV v s] w fun e w' => e = .returned (.bool (rightB v s)) ∧ Below w.heap.size w w' := by
  obtain ⟨c0, c1⟩ := P2.cells (P2.new w 25 (.int .i64 v) (.int .u16 (s : Int)))
  have B : Aside (Below w.heap.size w (w.alloc (.cells #[.int .i64 v, .int .u16 (s : Int)] 25))) := below_one w _
  unfold rollV rightB
  by_cases h1 : 0 ≤ v
  · by_cases h2 : v ≤ 1000
    · by_cases h3 : s = 0
      · subst h3
        rw [decide_eq_true h1, decide_eq_true h2, show decide ((0 : Nat) ≠ 0) = false from rfl]
        have h4 : (((0 : Nat) : Int) != 0) = false := rfl
        go_enter Try.func46, Try.ntmps46
        go_wp2
        go_ret
        exact ⟨rfl, B.out⟩
      · have e : decide (s ≠ 0) = true := by simp [h3]
        rw [decide_eq_true h1, decide_eq_true h2, e]
        have h4 : ((s : Int) != 0) = true := by rw [bne_iff_ne]; omega
        go_enter Try.func46, Try.ntmps46
        go_wp2
        go_ret
        exact ⟨rfl, B.out⟩
    · rw [decide_eq_true h1, decide_eq_false h2]
      go_enter Try.func46, Try.ntmps46
      go_wp2
      go_ret
      exact ⟨rfl, B.out⟩
  · rw [decide_eq_false h1]
    go_enter Try.func46, Try.ntmps46
    go_wp2
    go_ret
    exact ⟨rfl, B.out⟩

/-- The members behind a change. -/
def chS (s : Nat) (a : Bool) (i : Nat) : Nat := if a then withS s i else withoutS s i
theorem chS_small {s : Nat} (a : Bool) (i : Nat) (h : s < 65536) : chS s a i < 65536 := by
  unfold chS; split
  · exact with_small h
  · exact without_small h

set_option maxHeartbeats 2000000 in
set_option maxRecDepth 100000 in
/-- What changed gives. -/
theorem changed_any (s : Nat) (a : Bool) (i : Nat) (w : World) (hs : s < 65536) : Calls Try.prog 38 #[.int .u16 (s : Int), chV a i] w fun e w' => e = .returned (.int .u16 (chS s a i : Nat)) ∧ Below w.heap.size w w' := by
  have C1 : Aside (∀ W, Calls Try.prog 51 #[.int .u16 (s : Int), .int .u8 (i : Int)] W fun e w' => e = .returned (.int .u16 (withS s i : Nat)) ∧ w' = W) := fun W => with_any s i W hs
  have C2 : Aside (∀ W, Calls Try.prog 52 #[.int .u16 (s : Int), .int .u8 (i : Int)] W fun e w' => e = .returned (.int .u16 (withoutS s i : Nat)) ∧ w' = W) := fun W => without_any s i W hs
  obtain ⟨c0, c1⟩ := P2.cells (P2.new w 42 (.bool a) (.int .u8 (i : Int)))
  have B : Aside (Below w.heap.size w (w.alloc (.cells #[.bool a, .int .u8 (i : Int)] 42))) := below_one w _
  unfold chV chS
  cases a with
  | true =>
    rw [if_pos rfl]
    generalize withS s i = r at C1 ⊢
    go_enter Try.func38, Try.ntmps38
    go_wp2_with (go_at_call 51; refine (C1.out _).mono ?_; rintro e w' ⟨rfl, rfl⟩)
    go_ret
    exact ⟨rfl, B.out⟩
  | false =>
    rw [if_neg (by decide)]
    generalize withoutS s i = r at C2 ⊢
    go_enter Try.func38, Try.ntmps38
    go_wp2_with (go_at_call 52; refine (C2.out _).mono ?_; rintro e w' ⟨rfl, rfl⟩)
    go_ret
    exact ⟨rfl, B.out⟩
end Rl
end Go.Proofs.Ytfjdopmjcddnlaa
