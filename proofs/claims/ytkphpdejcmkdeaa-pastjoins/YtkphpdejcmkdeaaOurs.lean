/- What Ours gives: the same fields, as the document's, in memory of its own. -/
import Derived.Test.YtkphpdejcmkdeaaOwn2
import Derived.Deep.RegionHeld3
import Derived.Deep.AppendLies
namespace Go.Proofs.Ytkphpdejcmkdeaa
open Go.RowKit

theorem info48 : (Try.prog.info? 59).map (fun i => (i.zero, i.size, i.bytes)) = some (some (.agg #[.int .i64 0, .int .u64 0, .string ⟨#[]⟩, .int .u64 0]), 4, 40) := by kernel_rfl

/-- A field's cells, as the document's own. -/
def cellsR (f : Pk.Fld) : List Value := [.int .i64 f.kind, .int .u64 (f.num.toNat : Int), .string f.text, .int .u64 (f.real.toNat : Int)]
def flatR (l : List Pk.Fld) : List Value := l.flatMap cellsR

theorem flatR_snoc (l : List Pk.Fld) (f : Pk.Fld) : flatR (l ++ [f]) = flatR l ++ cellsR f := by unfold flatR; rw [List.flatMap_append]; simp
theorem flatR_take (l : List Pk.Fld) (k : Nat) (h : k < l.length) : flatR (l.take k) ++ cellsR l[k] = flatR (l.take (k + 1)) := by
  rw [List.take_succ_eq_append_getElem h, flatR_snoc]

theorem flatR_at : ∀ (l : List Pk.Fld) (j : Nat) (f : Pk.Fld), l[j]? = some f → (flatR l)[4 * j]? = some (.int .i64 f.kind) ∧ (flatR l)[4 * j + 1]? = some (.int .u64 (f.num.toNat : Int)) ∧ (flatR l)[4 * j + 2]? = some (.string f.text) ∧ (flatR l)[4 * j + 3]? = some (.int .u64 (f.real.toNat : Int))
  | [], j, f, h => by simp at h
  | x :: l, 0, f, h => by
    simp at h; subst h
    exact ⟨rfl, rfl, rfl, rfl⟩
  | x :: l, j + 1, f, h => by
    have ih := flatR_at l j f (by simpa using h)
    have e : flatR (x :: l) = .int .i64 x.kind :: .int .u64 (x.num.toNat : Int) :: .string x.text :: .int .u64 (x.real.toNat : Int) :: flatR l := rfl
    rw [e, show 4 * (j + 1) = 4 * j + 1 + 1 + 1 + 1 by omega]
    exact ih

theorem flatR_len (l : List Pk.Fld) : (flatR l).length = l.length * 4 := by
  induction l with
  | nil => rfl
  | cons x l ih =>
    have e : flatR (x :: l) = .int .i64 x.kind :: .int .u64 (x.num.toNat : Int) :: .string x.text :: .int .u64 (x.real.toNat : Int) :: flatR l := rfl
    rw [e]; simp only [List.length_cons]; omega

/-- A row of the document's fields of one's own is a slice; its fields lie behind its address. -/
theorem owns_refs {w : World} {B n : Nat} {v : Value} {l : List Pk.Fld} (h : w.ownsRow B 59 4 v n (flatR l)) :
    ∃ a cap, v = .slice a n cap ∧ l.length = n ∧ AtR w a l := by
  have hl : l.length = n := by have := h.1; rw [flatR_len] at this; omega
  rcases h.2 with ⟨rfl, h0⟩ | ⟨g, cap, cur, rfl, _, _, hc, _, _, _⟩
  · subst h0
    exact ⟨none, 0, rfl, hl, .inl (List.eq_nil_of_length_eq_zero hl)⟩
  · refine ⟨_, cap, rfl, hl, .inr ⟨g, 0, rfl, fun j f hf => ?_⟩⟩
    have hj := (List.getElem?_eq_some_iff.1 hf).1
    obtain ⟨h0, h1, h2, h3⟩ := flatR_at l j f hf
    refine ⟨?_, ?_, ?_, ?_⟩
    · rw [Nat.zero_add, Nat.mul_comm, h.cellAt _ (by omega)]; exact h0
    · rw [Nat.zero_add, Nat.mul_comm, h.cellAt _ (by omega)]; exact h1
    · rw [Nat.zero_add, Nat.mul_comm, h.cellAt _ (by omega)]; exact h2
    · rw [Nat.zero_add, Nat.mul_comm, h.cellAt _ (by omega)]; exact h3

end Go.Proofs.Ytkphpdejcmkdeaa
