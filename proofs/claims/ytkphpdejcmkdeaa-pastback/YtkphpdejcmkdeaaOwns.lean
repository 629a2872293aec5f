/- From rows of the call's own to what lies behind an address. -/
import Derived.Test.YtkphpdejcmkdeaaIs
import Derived.Test.YtkphpdejcmkdeaaDec
namespace Go.Proofs.Ytkphpdejcmkdeaa
open Go.RowKit

/-- A row of bytes of one's own is a slice; its bytes lie behind its address. -/
theorem owns_bytes {w : World} {B n : Nat} {v : Value} {bs : List UInt8} (h : w.ownsRow B 5 1 v n (bcs bs)) :
    ∃ a cap, v = .slice a n cap ∧ n ≤ cap ∧ n = bs.length ∧ AtB w a bs := by
  have hl : n = bs.length := by have := h.1; simp [bcs] at this; omega
  rcases h.2 with ⟨rfl, h0⟩ | ⟨g, cap, cur, rfl, _, _, hc, _, _, _⟩
  · subst h0
    exact ⟨none, 0, rfl, Nat.le_refl _, hl, .inl (List.eq_nil_of_length_eq_zero hl.symm)⟩
  · refine ⟨_, cap, rfl, hc, hl, .inr ⟨g, 0, rfl, fun j hj => ?_⟩⟩
    rw [Nat.zero_add, h.cellAt j (by omega)]
    simp [bcs, hj]

theorem flatP_at : ∀ (l : List Pk.Fld) (j : Nat) (f : Pk.Fld), l[j]? = some f → (flatP l)[4 * j]? = some (.int .i64 f.kind) ∧ (flatP l)[4 * j + 1]? = some (.int .u64 (f.num.toNat : Int)) ∧ (flatP l)[4 * j + 2]? = some (.string f.text) ∧ (flatP l)[4 * j + 3]? = some (.float .f64 f.real.toNat)
  | [], j, f, h => by simp at h
  | x :: l, 0, f, h => by
    simp at h; subst h
    exact ⟨rfl, rfl, rfl, rfl⟩
  | x :: l, j + 1, f, h => by
    have ih := flatP_at l j f (by simpa using h)
    have e : flatP (x :: l) = .int .i64 x.kind :: .int .u64 (x.num.toNat : Int) :: .string x.text :: .float .f64 x.real.toNat :: flatP l := rfl
    rw [e, show 4 * (j + 1) = 4 * j + 1 + 1 + 1 + 1 by omega]
    exact ih

theorem flatP_len (l : List Pk.Fld) : (flatP l).length = l.length * 4 := by
  induction l with
  | nil => rfl
  | cons x l ih =>
    have e : flatP (x :: l) = .int .i64 x.kind :: .int .u64 (x.num.toNat : Int) :: .string x.text :: .float .f64 x.real.toNat :: flatP l := rfl
    rw [e]; simp only [List.length_cons]; omega

/-- A row of fields of one's own is a slice; its fields lie behind its address. -/
theorem owns_fields {w : World} {B n : Nat} {v : Value} {l : List Pk.Fld} (h : w.ownsRow B 51 4 v n (flatP l)) :
    ∃ a cap, v = .slice a n cap ∧ l.length = n ∧ AtP w a l := by
  have hl : l.length = n := by have := h.1; rw [flatP_len] at this; omega
  rcases h.2 with ⟨rfl, h0⟩ | ⟨g, cap, cur, rfl, _, _, hc, _, _, _⟩
  · subst h0
    exact ⟨none, 0, rfl, hl, .inl (List.eq_nil_of_length_eq_zero hl)⟩
  · refine ⟨_, cap, rfl, hl, .inr ⟨g, 0, rfl, fun j f hf => ?_⟩⟩
    have hj := (List.getElem?_eq_some_iff.1 hf).1
    obtain ⟨h0, h1, h2, h3⟩ := flatP_at l j f hf
    refine ⟨?_, ?_, ?_, ?_⟩
    · rw [Nat.zero_add, Nat.mul_comm, h.cellAt _ (by omega)]; exact h0
    · rw [Nat.zero_add, Nat.mul_comm, h.cellAt _ (by omega)]; exact h1
    · rw [Nat.zero_add, Nat.mul_comm, h.cellAt _ (by omega)]; exact h2
    · rw [Nat.zero_add, Nat.mul_comm, h.cellAt _ (by omega)]; exact h3

theorem atB_later {w w' : World} {a : Option Addr} {bs : List UInt8} (hb : Below w.heap.size w w') (h : AtB w a bs) : AtB w' a bs := by
  rcases h with rfl | ⟨b, off, rfl, hc⟩
  · exact .inl rfl
  · exact .inr ⟨b, off, rfl, fun j hj => cell_later hb (hc j hj)⟩
theorem atP_later {w w' : World} {a : Option Addr} {l : List Pk.Fld} (hb : Below w.heap.size w w') (h : AtP w a l) : AtP w' a l := by
  rcases h with rfl | ⟨b, off, rfl, hc⟩
  · exact .inl rfl
  · exact .inr ⟨b, off, rfl, fun j f hf => fldAt_later hb rfl (hc j f hf)⟩
theorem atI_later {w w' : World} {a : Option Addr} {ks : List Int} (hb : Below w.heap.size w w') (h : AtI w a ks) : AtI w' a ks := by
  rcases h with rfl | ⟨b, off, rfl, hc⟩
  · exact .inl rfl
  · exact .inr ⟨b, off, rfl, fun j f hf => cell_later hb (hc j f hf)⟩
theorem atB_take {w : World} {a : Option Addr} {bs : List UInt8} (k : Nat) (h : AtB w a bs) : AtB w a (bs.take k) := by
  rcases h with rfl | ⟨b, off, rfl, hc⟩
  · exact .inl (by simp)
  · refine .inr ⟨b, off, rfl, fun j hj => ?_⟩
    rw [List.length_take] at hj
    rw [hc j (by omega)]
    simp

end Go.Proofs.Ytkphpdejcmkdeaa
