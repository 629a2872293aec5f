/- Rows of one's own: texts and numbers that a call makes, and what lies behind an address. -/
import Derived.Test.YtimeggbjmcnnoaaCheck
namespace Go.Proofs.Ytimeggbjmcnnoaa
open Go.RowKit

theorem info3 : (Try.prog.info? 3).map (fun i => (i.zero, i.size, i.bytes)) = some (some (.int .i64 0), 1, 8) := by kernel_rfl
theorem info22 : (Try.prog.info? 22).map (fun i => (i.zero, i.size, i.bytes)) = some (some (.string ⟨#[]⟩), 1, 16) := by kernel_rfl

theorem grown_below {w wr w2 : World} {B e n s : Nat} {v : Value} {xs : List Value} {o : Obj} (hs : B ≤ wr.heap.size) (hown : wr.ownsRow B e s v n xs) (hnx : Below B w wr) (hg : (wr.alloc o).grownBy w2 v.ownBlock) : Below B w w2 := by
  refine (hnx.alloc hs o).grown hg (by simp; omega) ?_
  intro j hj
  exact (hown.lt j hj).1
theorem below_step {w w1 w2 : World} (h : Below w.heap.size w w1) (k : Below w1.heap.size w1 w2) : Below w.heap.size w w2 := h.trans (k.mono h.size)
theorem below_drew {B : Nat} {w w' : World} (h : Below B w w') (q : Nat) : Below B w (w'.drewN q) := ⟨h.os, h.tape, h.output, h.size, h.block⟩
theorem cell_later {w w' : World} (hb : Below w.heap.size w w') {a : Addr} {v : Value} (h : w.cell? a = some v) : w'.cell? a = some v := by
  rw [hb.cell (World.block_lt_of_cell? w _ h)]; exact h

theorem owns_later {w w' : World} {B e s n : Nat} {v : Value} {xs : List Value} (hb : Below w.heap.size w w') (h : w.ownsRow B e s v n xs) : w'.ownsRow B e s v n xs := by
  refine ⟨h.1, ?_⟩
  rcases h.2 with h | ⟨g, gc, cur, hv, hge, hh, rest⟩
  · exact .inl h
  · exact .inr ⟨g, gc, cur, hv, hge, by rw [hb.block g (Array.getElem?_eq_some_iff.1 hh).1]; exact hh, rest⟩
theorem owns_drew {w : World} {B e s n : Nat} {v : Value} {xs : List Value} (h : w.ownsRow B e s v n xs) (q : Nat) : (w.drewN q).ownsRow B e s v n xs := h
theorem owns_mono {w : World} {B B' e s n : Nat} {v : Value} {xs : List Value} (h : w.ownsRow B e s v n xs) (hb : B' ≤ B) : w.ownsRow B' e s v n xs := by
  refine ⟨h.1, ?_⟩
  rcases h.2 with h | ⟨g, gc, cur, hv, hge, rest⟩
  · exact .inl h
  · exact .inr ⟨g, gc, cur, hv, by omega, rest⟩

theorem cell_new1 (w : World) (a : Value) (t : TypeId) : ∀ j u, [a][j]? = some u → (w.alloc (.cells #[a] t)).cell? ((⟨w.heap.size, 0, none⟩ : Addr).add j) = some u := by
  intro j u hj
  have e : (⟨w.heap.size, 0, none⟩ : Addr).add j = ⟨w.heap.size, j, none⟩ := by unfold Addr.add; split <;> simp_all
  rw [e, World.cell?_alloc_at _ _ _ _ rfl, ← hj, ← Array.getElem?_toList]

/-- The last of a row is taken off. -/
theorem owns_pop {w : World} {B e n g cap : Nat} {xs : List Value} {x : Value} (h : w.ownsRow B e 1 (.slice (some ⟨g, 0, none⟩) (n + 1) cap) (n + 1) (xs ++ [x])) :
    w.ownsRow B e 1 (.slice (some ⟨g, 0, none⟩) n cap) n xs ∧ w.cell? ⟨g, n, none⟩ = some x ∧ n + 1 ≤ cap := by
  have hl : xs.length = n := by have := h.1; simp at this; omega
  have hc := h.cellAt n (by omega)
  rw [List.getElem?_append_right (by omega), hl, Nat.sub_self] at hc
  rcases h.2 with ⟨h2, _⟩ | ⟨g', cap', cur, hv, hge, hh, hcap, hm, hsz, ht⟩
  · cases h2
  · simp only [Value.slice.injEq, Option.some.injEq, Addr.mk.injEq, and_true, true_and] at hv
    obtain ⟨rfl, rfl⟩ := hv
    refine ⟨⟨by simp [hl], .inr ⟨g, cap, cur, rfl, hge, hh, by omega, hm, hsz, ?_⟩⟩, by simpa using hc, hcap⟩
    have : (cur.toList.take ((n + 1) * 1)).take n = (xs ++ [x]).take n := by rw [ht]
    rw [List.take_take, Nat.min_eq_left (by omega)] at this
    rw [Nat.mul_one, this, List.take_append_of_le_length (by omega), List.take_of_length_le (by omega)]

/-- A text, as the program's value. -/
def str (b : List UInt8) : Value := .string ⟨b.toArray⟩
def strs (l : List (List UInt8)) : List Value := l.map str
theorem strs_append (l k : List (List UInt8)) : strs (l ++ k) = strs l ++ strs k := by unfold strs; rw [List.map_append]
theorem strs_len (l : List (List UInt8)) : (strs l).length = l.length := by unfold strs; rw [List.length_map]

/-- Texts lie behind an address. -/
def AtS (w : World) (a : Option Addr) (l : List (List UInt8)) : Prop :=
  l = [] ∨ ∃ b off, a = some ⟨b, off, none⟩ ∧ ∀ j x, l[j]? = some x → w.cell? ⟨b, off + j, none⟩ = some (str x)

theorem atS_later {w w' : World} {a : Option Addr} {l : List (List UInt8)} (hb : Below w.heap.size w w') (h : AtS w a l) : AtS w' a l := by
  rcases h with rfl | ⟨b, off, rfl, hc⟩
  · exact .inl rfl
  · exact .inr ⟨b, off, rfl, fun j x hx => cell_later hb (hc j x hx)⟩

theorem owns_strs {w : World} {B n : Nat} {v : Value} {l : List (List UInt8)} (h : w.ownsRow B 22 1 v n (strs l)) :
    ∃ a cap, v = .slice a n cap ∧ l.length = n ∧ n ≤ cap ∧ AtS w a l := by
  have hl : l.length = n := by have := h.1; rw [strs_len] at this; omega
  rcases h.2 with ⟨rfl, h0⟩ | ⟨g, cap, cur, rfl, _, _, hc, _, _, _⟩
  · subst h0
    exact ⟨none, 0, rfl, hl, Nat.le_refl _, .inl (List.eq_nil_of_length_eq_zero hl)⟩
  · refine ⟨_, cap, rfl, hl, hc, .inr ⟨g, 0, rfl, fun j x hx => ?_⟩⟩
    have hj := (List.getElem?_eq_some_iff.1 hx).1
    rw [Nat.zero_add, h.cellAt j (by omega)]
    simp [strs, hx]

/-- A text's bytes, and its text again. -/
theorem str_of (s : ByteArray) : str s.data.toList = .string s := by unfold str; rfl
theorem str_size (b : List UInt8) : (ByteArray.mk b.toArray).size = b.length := rfl
theorem str_bytes (b : List UInt8) : (ByteArray.mk b.toArray).data.toList = b := rfl
theorem str_inj {a b : List UInt8} (h : str a = str b) : a = b := by
  unfold str at h
  simp only [Value.string.injEq, ByteArray.mk.injEq] at h
  have := congrArg Array.toList h
  simpa using this

end Go.Proofs.Ytimeggbjmcnnoaa
