/- Rows of two-cell structs in memory: changes and views; the same changes under the program's own type. -/
import Derived.Test.YtfjdopmjcddnlaaRlC
import Derived.Maps.AppendAt
set_option linter.unusedVariables false
namespace Go.Proofs.Ytfjdopmjcddnlaa
open Go.RowKit
namespace Rl
open Cn

/-- The cells of pairs. -/
def c2 : List (Value × Value) → List Value
  | [] => []
  | p :: l => p.1 :: p.2 :: c2 l
theorem c2_len (l : List (Value × Value)) : (c2 l).length = l.length * 2 := by
  induction l with
  | nil => rfl
  | cons p l ih => simp only [c2, List.length_cons, ih]; omega
theorem c2_get {l : List (Value × Value)} : ∀ {j : Nat} {x y : Value}, l[j]? = some (x, y) → (c2 l)[j * 2]? = some x ∧ (c2 l)[j * 2 + 1]? = some y := by
  induction l with
  | nil => intro j x y h; simp at h
  | cons p l ih =>
    intro j x y h
    cases j with
    | zero => simp at h; subst h; exact ⟨rfl, rfl⟩
    | succ j =>
      have h' : l[j]? = some (x, y) := by simpa using h
      have := ih h'
      rw [show (j + 1) * 2 = j * 2 + 2 by omega]
      exact this
theorem c2_append (l m : List (Value × Value)) : c2 (l ++ m) = c2 l ++ c2 m := by
  induction l with
  | nil => rfl
  | cons p l ih => simp only [List.cons_append, c2, ih]
/-- Pairs lie behind an address. -/
def At2 (w : World) (a : Option Addr) (l : List (Value × Value)) : Prop :=
  l = [] ∨ ∃ b off, a = some ⟨b, off, Option.none⟩ ∧ ∀ j u, (c2 l)[j]? = some u → w.cell? ⟨b, off + j, Option.none⟩ = some u
theorem At2.later {w w' : World} {a : Option Addr} {l : List (Value × Value)} (h : At2 w a l) (hb : Below w.heap.size w w') : At2 w' a l := by
  rcases h with rfl | ⟨b, off, rfl, hc⟩
  · exact .inl rfl
  · exact .inr ⟨b, off, rfl, fun j u hu => cell_later hb (hc j u hu)⟩
theorem At2.cell {w : World} {a : Option Addr} {l : List (Value × Value)} (h : At2 w a l) {k : Nat} {x y : Value} (hk : l[k]? = some (x, y)) :
    ∃ b off, a = some ⟨b, off, Option.none⟩ ∧ w.cell? ⟨b, off + k * 2, none⟩ = some x ∧ w.cell? ⟨b, off + k * 2 + 1, none⟩ = some y := by
  rcases h with rfl | ⟨b, off, rfl, hc⟩
  · simp at hk
  · obtain ⟨h1, h2⟩ := c2_get hk
    exact ⟨b, off, rfl, hc _ _ h1, by rw [Nat.add_assoc]; exact hc _ _ h2⟩
theorem At2.take {w : World} {a : Option Addr} {l : List (Value × Value)} (h : At2 w a l) (k : Nat) : At2 w a (l.take k) := by
  rcases h with rfl | ⟨b, off, rfl, hc⟩
  · exact .inl (by simp)
  · refine .inr ⟨b, off, rfl, fun j u hu => hc j u ?_⟩
    have e : c2 l = c2 (l.take k) ++ c2 (l.drop k) := by rw [← c2_append, List.take_append_drop]
    rw [e, List.getElem?_append_left (List.getElem?_eq_some_iff.1 hu).1]; exact hu
theorem own_at2 {w : World} {B n : Nat} {v : Value} {l : List (Value × Value)} {t : TypeId} (h : w.ownsRow B t 2 v n (c2 l)) : ∃ a cap, v = .slice a n cap ∧ l.length = n ∧ At2 w a l := by
  have hl : l.length = n := by have := h.1; rw [c2_len] at this; omega
  rcases h.2 with ⟨rfl, h0⟩ | ⟨g, cap, cur, rfl, _, _, hc, _, _, _⟩
  · subst h0
    exact ⟨Option.none, 0, rfl, hl, .inl (List.eq_nil_of_length_eq_zero hl)⟩
  · refine ⟨_, cap, rfl, hl, .inr ⟨g, 0, rfl, fun j u hu => ?_⟩⟩
    have hj := (List.getElem?_eq_some_iff.1 hu).1
    rw [c2_len] at hj
    rw [Nat.zero_add, h.cellAt j (by omega)]
    exact hu

theorem own_cap {w : World} {B n m c s : Nat} {a : Option Addr} {xs : List Value} {t : TypeId} (h : w.ownsRow B t s (.slice a m c) n xs) : n ≤ c := by
  rcases h.2 with ⟨e, h0⟩ | ⟨g, cap, cur, e, _, _, hc, _, _, _⟩
  · omega
  · cases e; exact hc
def chP (c : Bool × Nat) : Value × Value := (.bool c.1, .int .u8 (c.2 : Int))
def roP (r : Int × Nat) : Value × Value := (.int .i64 r.1, .int .u16 (r.2 : Int))
/-- What a call makes: a row of pairs. -/
def Made (w : World) (l : List (Value × Value)) (e : Ending) (w' : World) : Prop := ∃ a c, e = .returned (.slice a l.length c) ∧ At2 w' a l ∧ Below w.heap.size w w' ∧ l.length ≤ c

theorem info33 : (Try.prog.info? 42).map (fun i => (i.zero, i.size, i.bytes)) = some (some (.agg #[.bool false, .int .u8 0]), 2, 2) := by kernel_rfl
theorem info29 : (Try.prog.info? 34).map (fun i => (i.zero, i.size, i.bytes)) = some (some (.agg #[.int .i64 0, .int .u16 0]), 2, 16) := by kernel_rfl
theorem info25 : (Try.prog.info? 25).map (fun i => (i.zero, i.size, i.bytes)) = some (some (.agg #[.int .i64 0, .int .u16 0]), 2, 16) := by kernel_rfl
end Rl
end Go.Proofs.Ytfjdopmjcddnlaa
