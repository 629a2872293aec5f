/- Which of a member's broadcasts a body may be: the program's answer and the document's. -/
import Derived.Test.YtbacnjkookakcaaPsG
set_option linter.unusedVariables false
namespace Go.Proofs.Ytbacnjkookakcaa
open Go.RowKit
namespace Ps

/-- A body as it comes in: its numbers are of sixteen bits. -/
def Small (b : Bd) : Prop := ∀ i, i < 16 → b.past i < 65536
def rightB (b : Bd) (frm : Nat) (seq : Int) : Bool := may b && decide (frm < 16) && decide ((b.past frm : Int) = seq)

set_option maxHeartbeats 2000000 in
set_option maxRecDepth 100000 in
/-- What Right gives. -/
theorem right_any (b : Bd) (frm : Nat) (seq : Int) (w : World) (hv : Small b) :
    Calls Try.prog 25 #[.agg (bdA b), .int .u8 (frm : Int), .int .i64 seq] w fun e w' => e = .returned (.bool (rightB b frm seq)) ∧ Below w.heap.size w w' := by
  have C : Aside (∀ W, Calls Try.prog 38 #[.agg (bdA b)] W fun e w' => e = .returned (.bool (may b)) ∧ Below W.heap.size W w') := fun W => mayBe_any b W
  have X : Aside (B18 (w.alloc (.cells (bdA b) 41)) w.heap.size 41 b) := B18.new w 41 b
  unfold rightB
  generalize may b = m at C ⊢
  cases m with
  | false =>
    rw [Bool.false_and, Bool.false_and]
    go_enter Try.func25, Try.ntmps25
    go_wp2_with (first
      | (with_reducible refine wpList_bd35 X.out rfl _ rfl rfl ?_)
      | (go_at_call 38; refine (C.out _).mono ?_; rintro e w1 ⟨rfl, hb1⟩; have B1 : Aside (Below w.heap.size w w1) := step_below ((Below.refl _ w).alloc (Nat.le_refl _) _) hb1; clear hb1))
    go_ret
    exact ⟨rfl, B1.out⟩
  | true =>
    by_cases h : frm < 16
    · rw [decide_eq_true h, Bool.true_and, Bool.true_and]
      have h1 : (frm : Int) < 16 := by omega
      have pf : Aside (∀ w1, Below (w.alloc (.cells (bdA b) 41)).heap.size (w.alloc (.cells (bdA b) 41)) w1 → w1.cell? ⟨w.heap.size, 1 + frm, none⟩ = some (.int .u16 ((b.past frm : Nat) : Int))) := fun w1 hb => (X.out.later hb).past h
      have hq := hv frm h
      generalize b.past frm = q at pf hq ⊢
      have hw : wrap64 (q : Int) = (q : Int) := by unfold wrap64; omega
      have e9 : Aside (((q : Int) == seq) = decide ((q : Int) = seq)) := by show ((q : Int) == seq) = _; by_cases e : (q : Int) = seq <;> simp [e]
      generalize decide ((q : Int) = seq) = rr at e9 ⊢
      go_enter Try.func25, Try.ntmps25
      go_wp2_with (first
        | (with_reducible refine wpList_bd35 X.out rfl _ rfl rfl ?_)
        | (go_at_call 38; refine (C.out _).mono ?_; rintro e w1 ⟨rfl, hb1⟩; have B1 : Aside (Below w.heap.size w w1) := step_below ((Below.refl _ w).alloc (Nat.le_refl _) _) hb1; have c1 := pf.out _ hb1; clear hb1))
      go_ret
      exact ⟨congrArg (fun z => Ending.returned (.bool z)) e9.out, B1.out⟩
    · rw [decide_eq_false h]
      have h1 : ¬ (frm : Int) < 16 := by omega
      rw [show (true && false && decide ((b.past frm : Int) = seq)) = false from rfl]
      go_enter Try.func25, Try.ntmps25
      go_wp2_with (first
        | (with_reducible refine wpList_bd35 X.out rfl _ rfl rfl ?_)
        | (go_at_call 38; refine (C.out _).mono ?_; rintro e w1 ⟨rfl, hb1⟩; have B1 : Aside (Below w.heap.size w w1) := step_below ((Below.refl _ w).alloc (Nat.le_refl _) _) hb1; clear hb1))
      go_ret
      exact ⟨rfl, B1.out⟩

set_option maxHeartbeats 2000000 in
set_option maxRecDepth 100000 in
/-- What the document's own Right gives. -/
theorem rright_any (b : Bd) (frm : Nat) (seq : Int) (w : World) (hv : Small b) :
    Calls Try.prog 42 #[.agg (bdA b), .int .u8 (frm : Int), .int .i64 seq] w fun e w' => e = .returned (.bool (rightB b frm seq)) ∧ Below w.heap.size w w' := by
  have C : Aside (∀ W, Calls Try.prog 46 #[.agg (bdA b)] W fun e w' => e = .returned (.bool (may b)) ∧ Below W.heap.size W w') := fun W => rmay_any b W
  have X : Aside (B18 (w.alloc (.cells (bdA b) 29)) w.heap.size 29 b) := B18.new w 29 b
  unfold rightB
  generalize may b = m at C ⊢
  cases m with
  | false =>
    rw [Bool.false_and, Bool.false_and]
    go_enter Try.func42, Try.ntmps42
    go_wp2_with (first
      | (with_reducible refine wpList_bd29 X.out rfl _ rfl rfl ?_)
      | (go_at_call 46; refine (C.out _).mono ?_; rintro e w1 ⟨rfl, hb1⟩; have B1 : Aside (Below w.heap.size w w1) := step_below ((Below.refl _ w).alloc (Nat.le_refl _) _) hb1; clear hb1))
    go_ret
    exact ⟨rfl, B1.out⟩
  | true =>
    by_cases h : frm < 16
    · rw [decide_eq_true h, Bool.true_and, Bool.true_and]
      have h1 : (frm : Int) < 16 := by omega
      have pf : Aside (∀ w1, Below (w.alloc (.cells (bdA b) 29)).heap.size (w.alloc (.cells (bdA b) 29)) w1 → w1.cell? ⟨w.heap.size, 1 + frm, none⟩ = some (.int .u16 ((b.past frm : Nat) : Int))) := fun w1 hb => (X.out.later hb).past h
      have hq := hv frm h
      generalize b.past frm = q at pf hq ⊢
      have hw : wrap64 (q : Int) = (q : Int) := by unfold wrap64; omega
      have e9 : Aside (((q : Int) == seq) = decide ((q : Int) = seq)) := by show ((q : Int) == seq) = _; by_cases e : (q : Int) = seq <;> simp [e]
      generalize decide ((q : Int) = seq) = rr at e9 ⊢
      go_enter Try.func42, Try.ntmps42
      go_wp2_with (first
        | (with_reducible refine wpList_bd29 X.out rfl _ rfl rfl ?_)
        | (go_at_call 46; refine (C.out _).mono ?_; rintro e w1 ⟨rfl, hb1⟩; have B1 : Aside (Below w.heap.size w w1) := step_below ((Below.refl _ w).alloc (Nat.le_refl _) _) hb1; have c1 := pf.out _ hb1; clear hb1))
      go_ret
      exact ⟨congrArg (fun z => Ending.returned (.bool z)) e9.out, B1.out⟩
    · rw [decide_eq_false h]
      have h1 : ¬ (frm : Int) < 16 := by omega
      rw [show (true && false && decide ((b.past frm : Int) = seq)) = false from rfl]
      go_enter Try.func42, Try.ntmps42
      go_wp2_with (first
        | (with_reducible refine wpList_bd29 X.out rfl _ rfl rfl ?_)
        | (go_at_call 46; refine (C.out _).mono ?_; rintro e w1 ⟨rfl, hb1⟩; have B1 : Aside (Below w.heap.size w w1) := step_below ((Below.refl _ w).alloc (Nat.le_refl _) _) hb1; clear hb1))
      go_ret
      exact ⟨rfl, B1.out⟩
end Ps
end Go.Proofs.Ytbacnjkookakcaa
