/- What is old is let go of (DeleteFunc with the closure of tell). -/
import Derived.Test.YtbacnjkookakcaaHdK
set_option linter.unusedVariables false
namespace Go.Proofs.Ytbacnjkookakcaa
open Go.RowKit
namespace Hd
open Ps

def keep (f : Nat → Nat) (x : It) : Bool := !oldI f x
theorem below_grown {w w' : World} {r : Option Nat} (h : Below w.heap.size w w') : w.grownBy w' r := ⟨h.os, h.tape, h.output, h.size, fun k hk _ => h.block k hk⟩
theorem grown_step {a b c : World} {r : Option Nat} (h : a.grownBy b r) (k : b.grownBy c r) : a.grownBy c r :=
  ⟨k.os.trans h.os, k.tape.trans h.tape, k.output.trans h.output, Nat.le_trans h.size k.size, fun i hi hne => (k.block i (Nat.lt_of_lt_of_le hi h.size) hne).trans (h.block i hi hne)⟩
theorem grown_cells {a : World} {g : Nat} : ∀ (vs : List Value) (o : Nat) {b : World}, a.grownBy b (some g) → a.grownBy (b.setCells g o vs) (some g)
  | [], _, _, h => h
  | v :: r, o, b, h => grown_cells r (o + 1) ⟨h.os, h.tape, h.output, by simpa using h.size, fun k hk hne => (Below.heap_setCell _ _ _ k (by simpa using fun e : k = g => hne (by rw [e]))).trans (h.block k hk hne)⟩
theorem own_later20 {w w' : World} {B n : Nat} {v : Value} {xs : List Value} (h : w.ownsRow B 43 20 v n xs) (hb : Below w.heap.size w w') : w'.ownsRow B 43 20 v n xs := by
  refine ⟨h.1, ?_⟩
  rcases h.2 with h | ⟨g, cap, cur, e, hge, hh, r⟩
  · exact .inl h
  · exact .inr ⟨g, cap, cur, e, hge, (hb.block g (Array.getElem?_eq_some_iff.1 hh).1).trans hh, r⟩
/-- How far DeleteFunc came. -/
structure DelS (w wr : World) (f : Nat → Nat) (hb : Nat) (s : Value) (B g n c : Nat) (l M : List It) (i j : Nat) : Prop where
  len : M.length = n
  lt : i < j
  i_ : i = ((l.take j).filter (keep f)).length
  tk : M.take i = (l.take j).filter (keep f)
  dr : M.drop j = l.drop j
  own : wr.ownsRow B 43 20 (.slice (some ⟨g, 0, none⟩) n c) n (rowI M)
  hH : H17 wr hb 36 f s
  gr : w.grownBy wr (some g)
theorem DelS.later {w wr wr' : World} {f : Nat → Nat} {hb : Nat} {s : Value} {B g n c : Nat} {l M : List It} {i j : Nat} (h : DelS w wr f hb s B g n c l M i j) (hb' : Below wr.heap.size wr wr') : DelS w wr' f hb s B g n c l M i j :=
  ⟨h.len, h.lt, h.i_, h.tk, h.dr, own_later20 h.own hb', h.hH.later hb', grown_step h.gr (below_grown hb')⟩
theorem DelS.get {w wr : World} {f : Nat → Nat} {hb : Nat} {s : Value} {B g n c : Nat} {l M : List It} {i j : Nat} (h : DelS w wr f hb s B g n c l M i j) (hj : j < n) (hl : l.length = n) : ∃ x, l[j]? = some x ∧ M[j]? = some x ∧ ∀ i u, (itA x)[i]? = some u → wr.cell? ⟨g, 0 + j * 20 + i, none⟩ = some u := by
  have hx : l[j]? = some (l[j]'(by omega)) := List.getElem?_eq_getElem (by omega)
  have hm : M[j]? = some (l[j]'(by omega)) := by
    have h1 : (M.drop j)[0]? = M[j]? := by rw [List.getElem?_drop]; rfl
    have h2 : (l.drop j)[0]? = l[j]? := by rw [List.getElem?_drop]; rfl
    rw [← h1, h.dr, h2, hx]
  refine ⟨_, hx, hm, ?_⟩
  have hown : wr.ownsRow B 43 20 (.slice (some ⟨g, 0, none⟩) n c) M.length (rowI M) := by rw [h.len]; exact h.own
  rcases (own_at hown).2.1 with e | ⟨b, off, e, hc⟩
  · rw [e] at hm; simp at hm
  · cases e
    exact fun i u hu => hc j _ hm i u hu
theorem DelS.skip {w wr : World} {f : Nat → Nat} {hb : Nat} {s : Value} {B g n c : Nat} {l M : List It} {i j : Nat} (h : DelS w wr f hb s B g n c l M i j) {x : It} (hx : l[j]? = some x) (ho : oldI f x = true) : DelS w wr f hb s B g n c l M i (j + 1) := by
  have hj : j < l.length := (List.getElem?_eq_some_iff.1 hx).1
  have hxe : l[j] = x := by rw [List.getElem?_eq_getElem hj] at hx; exact Option.some.inj hx
  have e : (l.take (j + 1)).filter (keep f) = (l.take j).filter (keep f) := by
    rw [List.take_succ_eq_append_getElem hj, List.filter_append, hxe]
    simp [keep, ho]
  refine ⟨h.len, by have := h.lt; omega, by rw [e]; exact h.i_, by rw [e]; exact h.tk, ?_, h.own, h.hH, h.gr⟩
  rw [← List.drop_drop, h.dr, List.drop_drop]
theorem DelS.take {w wr : World} {f : Nat → Nat} {hb : Nat} {s : Value} {B g n c : Nat} {l M : List It} {i j : Nat} (h : DelS w wr f hb s B g n c l M i j) (hl : l.length = n) (hg : g ≠ hb) {x : It} (hx : l[j]? = some x) (ho : oldI f x = false) : DelS w (wr.setCells g (i * 20) (itA x).toList) f hb s B g n c l (M.set i x) (i + 1) (j + 1) := by
  have hj : j < l.length := (List.getElem?_eq_some_iff.1 hx).1
  have hxe : l[j] = x := by rw [List.getElem?_eq_getElem hj] at hx; exact Option.some.inj hx
  have e : (l.take (j + 1)).filter (keep f) = (l.take j).filter (keep f) ++ [x] := by
    rw [List.take_succ_eq_append_getElem hj, List.filter_append, hxe]
    simp [keep, ho]
  have hlt := h.lt
  have hlen := h.len
  refine ⟨by rw [List.length_set]; exact h.len, by omega, by rw [e, List.length_append, ← h.i_]; rfl, ?_, ?_, own_put20 h.own (by omega) x, (heap_cells_far _ _ _ (fun e => hg e.symm)).trans h.hH, grown_cells _ _ h.gr⟩
  · rw [e, ← h.tk]
    rw [List.take_succ_eq_append_getElem (by rw [List.length_set]; omega), List.getElem_set_self, List.take_set_of_le (Nat.le_refl _)]
  · rw [List.drop_set_of_lt (by omega), ← List.drop_drop, h.dr, List.drop_drop]
end Hd
end Go.Proofs.Ytbacnjkookakcaa
