/- Rows of members: what List gives, the program's and the document's own, and the document's own Size. -/
import Derived.Test.YtmhjmeedoajkjaaSzA
namespace Go.Proofs.Ytmhjmeedoajkjaa
open Go.RowKit

theorem info5 : (Try.prog.info? 5).map (fun i => (i.zero, i.size, i.bytes)) = some (some (.int .u8 0), 1, 1) := by kernel_rfl
theorem info_parts {P : Program} {t : TypeId} {z : Value} {s b : Nat} (h : (P.info? t).map (fun i => (i.zero, i.size, i.bytes)) = some (some z, s, b)) : ∃ i0, P.info? t = some i0 ∧ i0.zero = some z ∧ i0.size = s ∧ i0.bytes = b := by
  cases hi : P.info? t with
  | none => rw [hi] at h; simp at h
  | some i0 =>
    rw [hi] at h
    simp at h
    exact ⟨i0, rfl, h.1, h.2.1, h.2.2⟩

theorem grown_below {w wr w2 : World} {B e n s : Nat} {v : Value} {xs : List Value} {o : Obj} (hs : B ≤ wr.heap.size) (hown : wr.ownsRow B e s v n xs) (hnx : Below B w wr) (hg : (wr.alloc o).grownBy w2 v.ownBlock) : Below B w w2 := by
  refine (hnx.alloc hs o).grown hg (by simp; omega) ?_
  intro j hj
  exact (hown.lt j hj).1
theorem below_step {w w1 w2 : World} (h : Below w.heap.size w w1) (k : Below w1.heap.size w1 w2) : Below w.heap.size w w2 := h.trans (k.mono h.size)
theorem cell_later {w w' : World} (hb : Below w.heap.size w w') {a : Addr} {v : Value} (h : w.cell? a = some v) : w'.cell? a = some v := by
  rw [hb.cell (World.block_lt_of_cell? w _ h)]; exact h
theorem cell_new1 (w : World) (a : Value) (t : TypeId) : ∀ j u, [a][j]? = some u → (w.alloc (.cells #[a] t)).cell? ((⟨w.heap.size, 0, none⟩ : Addr).add j) = some u := by
  intro j u hj
  have e : (⟨w.heap.size, 0, none⟩ : Addr).add j = ⟨w.heap.size, j, none⟩ := by unfold Addr.add; split <;> simp_all
  rw [e, World.cell?_alloc_at _ _ _ _ rfl, ← hj, ← Array.getElem?_toList]

/-- Members, as the program's values. -/
def u8s (l : List Nat) : List Value := l.map fun (n : Nat) => .int .u8 (n : Int)
theorem u8s_len (l : List Nat) : (u8s l).length = l.length := by unfold u8s; rw [List.length_map]

/-- Members lie behind an address. -/
def AtN (w : World) (a : Option Addr) (l : List Nat) : Prop :=
  l = [] ∨ ∃ b off, a = some ⟨b, off, none⟩ ∧ ∀ (j x : Nat), l[j]? = some x → w.cell? ⟨b, off + j, none⟩ = some (.int .u8 (x : Int))
theorem atN_later {w w' : World} {a : Option Addr} {l : List Nat} (hb : Below w.heap.size w w') (h : AtN w a l) : AtN w' a l := by
  rcases h with rfl | ⟨b, off, rfl, hc⟩
  · exact .inl rfl
  · exact .inr ⟨b, off, rfl, fun j x hx => cell_later hb (hc j x hx)⟩
theorem owns_u8s {w : World} {B n : Nat} {v : Value} {l : List Nat} (h : w.ownsRow B 5 1 v n (u8s l)) :
    ∃ a cap, v = .slice a n cap ∧ l.length = n ∧ AtN w a l := by
  have hl : l.length = n := by have := h.1; rw [u8s_len] at this; omega
  rcases h.2 with ⟨rfl, h0⟩ | ⟨g, cap, cur, rfl, _, _, hc, _, _, _⟩
  · subst h0
    exact ⟨none, 0, rfl, hl, .inl (List.eq_nil_of_length_eq_zero hl)⟩
  · refine ⟨_, cap, rfl, hl, .inr ⟨g, 0, rfl, fun j x hx => ?_⟩⟩
    have hj := (List.getElem?_eq_some_iff.1 hx).1
    rw [Nat.zero_add, h.cellAt j (by omega)]
    simp [u8s, hx]

namespace Cn
/-- The members below a number. -/
def pre (s i : Nat) : List Nat := (List.range i).filter (s.testBit ·)
theorem pre_all (s : Nat) : pre s 16 = listS s := rfl
theorem pre_yes {s i : Nat} (h : s.testBit i = true) : pre s (i + 1) = pre s i ++ [i] := by
  unfold pre; rw [List.range_succ, List.filter_append]; simp [h]
theorem pre_no {s i : Nat} (h : s.testBit i = false) : pre s (i + 1) = pre s i := by
  unfold pre; rw [List.range_succ, List.filter_append]; simp [h]
theorem pre_len (s i : Nat) : (pre s i).length ≤ i := by
  unfold pre
  have := List.length_filter_le (s.testBit ·) (List.range i)
  simpa using this
end Cn

theorem pre_step {s k : Nat} (hb : s.testBit k = true) : u8s (Cn.pre s k) ++ [.int .u8 (k : Int)] = u8s (Cn.pre s (k + 1)) ∧ (Cn.pre s k).length + 1 = (Cn.pre s (k + 1)).length := by
  rw [Cn.pre_yes hb]; unfold u8s; simp

/-- What a call gives that makes a set's list. -/
def Lists (s : Nat) (w : World) (e : Ending) (w' : World) : Prop :=
  ∃ a cap, e = .returned (.slice a (Cn.sizeS s) cap) ∧ AtN w' a (Cn.listS s) ∧ Below w.heap.size w w'

end Go.Proofs.Ytmhjmeedoajkjaa
