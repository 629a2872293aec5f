/- What Put gives: mathematics, and the cells that it works on. -/
import Derived.Test.YtbacnjkookakcaaHdP
set_option linter.unusedVariables false
namespace Go.Proofs.Ytbacnjkookakcaa
open Go.RowKit
namespace Hd
open Ps

/-- The error of Put, the hold behind it, and what is told. -/
def putE (f : Nat → Nat) (l : List It) (x : It) : Nat :=
  if rightH f l = true ∧ mayI x = true then (if (wtK l l.length x.frm x.seq).isSome = true ∨ oldI f x = true then 6 else if l.length = 64 ∧ readyI f x = false then 7 else 0) else 2
def putF (f : Nat → Nat) (l : List It) (x : It) : Nat → Nat := if putE f l x = 0 then (tellT f (l ++ [x])).1 else f
def putL (f : Nat → Nat) (l : List It) (x : It) : List It := if putE f l x = 0 then (l ++ [x]).filter (keep (tellT f (l ++ [x])).1) else l
def putO (f : Nat → Nat) (l : List It) (x : It) : List It := if putE f l x = 0 then (tellT f (l ++ [x])).2 else []
/-- What Put answers: a hold, what is told, an error. -/
def PutP (w : World) (F : Nat → Nat) (L O : List It) (E : Nat) (e : Ending) (w' : World) : Prop :=
  ∃ a c a2 c2, e = .returned (.tuple #[.agg (holdA F (.slice a L.length c)), .slice a2 O.length c2, .int .i64 (E : Int)]) ∧ AtI w' a L ∧ AtI w' a2 O ∧ Below w.heap.size w w'

theorem results_cell3 {P : Program} {fn : Func} {tmps : Array Value} {w : World} {a u v : Tmp} {t k b : Nat} {arr : Array Value} (h : fn.results = #[.cell a t, .tmp u, .tmp v]) (hp : tmps.getD a undef = .pointer (some ⟨b, 0, none⟩))
    (aE : (isAgg t).run P w = .ok true w) (zE : (Go.sizeOf t).run P w = .ok k w) (hl : Sem.run P (loadCellsFrom ⟨b, 0, none⟩ 0 k #[]) w = .ok arr w) : (results fn tmps).run P w = .ok (.tuple #[.agg arr, tmps.getD u undef, tmps.getD v undef]) w := by
  have e : (loadVar t ⟨b, 0, none⟩).run P w = .ok (.agg arr) w := by simp [loadVar, aE, zE, loadCells, hl]
  generalize (⟨b, 0, none⟩ : Addr) = q at *
  have hp2 : tmps[a]?.getD undef = .pointer (some q) := by simpa using hp
  simp [results, h, hp2, asAddr, e]
/-- The cells that Put works on. -/
structure PS (w W : World) (f : Nat → Nat) (g : Option Addr) (n q : Nat) (x : It) (l : List It) : Prop where
  hH : H17 W w.heap.size 36 f (.slice g n q)
  hX : I20 W (w.heap.size + 1) 43 x
  hR : H17 W (w.heap.size + 2) 36 (fun _ => 0) (.slice none 0 0)
  own : W.ownsRow (w.heap.size + 3) 43 20 (.slice g n q) n (rowI l)
  below : Below w.heap.size w W
theorem PS.later {w W W' : World} {f : Nat → Nat} {g : Option Addr} {n q : Nat} {x : It} {l : List It} (h : PS w W f g n q x l) (hb : Below W.heap.size W W') : PS w W' f g n q x l :=
  ⟨h.hH.later hb, h.hX.later hb, h.hR.later hb, own_later20 h.own hb, step_below h.below hb⟩
theorem PS.at_ {w W : World} {f : Nat → Nat} {g : Option Addr} {n q : Nat} {x : It} {l : List It} (h : PS w W f g n q x l) (hl : l.length = n) : AtI W g l := (own_at (by rw [hl]; exact h.own)).2.1
/-- The hold's own slice is stored anew. -/
theorem PS.put {w W : World} {f : Nat → Nat} {g g' : Option Addr} {n q n' q' : Nat} {x : It} {l' : List It} (hH : H17 W w.heap.size 36 f (.slice g n q)) (hX : I20 W (w.heap.size + 1) 43 x) (hR : H17 W (w.heap.size + 2) 36 (fun _ => 0) (.slice none 0 0)) (own : W.ownsRow (w.heap.size + 3) 43 20 (.slice g' n' q') n' (rowI l')) (hb : Below w.heap.size w W) :
    PS w (W.setCell ⟨w.heap.size, 16, none⟩ (.slice g' n' q')) f g' n' q' x l' :=
  ⟨hH.setw _, hX.far (by omega) _, hR.far (by omega) _, ownsRow_setCell_below own (a := ⟨w.heap.size, 16, none⟩) (show w.heap.size < w.heap.size + 3 by omega) _, hb.setCell (p := ⟨w.heap.size, 16, none⟩) (Nat.le_refl _) _⟩
/-- With an error the hold is answered as it is. -/
theorem put_bad {w W : World} {f : Nat → Nat} {g : Option Addr} {n q : Nat} {x : It} {l : List It} {E : Nat} (h : PS w W f g n q x l) (hl : l.length = n) (hE : putE f l x = E) (h0 : E ≠ 0) :
    PutP w (putF f l x) (putL f l x) (putO f l x) (putE f l x) (.returned (.tuple #[.agg (holdA f (.slice g n q)), .slice none 0 0, .int .i64 (E : Int)])) (W.setCells (w.heap.size + 2) 0 (holdA f (.slice g n q)).toList) := by
  have hne : ¬ putE f l x = 0 := by rw [hE]; exact h0
  have e1 : putF f l x = f := by unfold putF; rw [if_neg hne]
  have e2 : putL f l x = l := by unfold putL; rw [if_neg hne]
  have e3 : putO f l x = [] := by unfold putO; rw [if_neg hne]
  rw [e1, e2, e3, hE]
  refine ⟨g, q, none, 0, by rw [hl]; rfl, ?_, .inl rfl, below_cells _ _ h.below (by omega)⟩
  have := own_keep h.own (w' := W.setCells (w.heap.size + 2) 0 (holdA f (.slice g n q)).toList) (fun j hj _ => heap_cells_far _ _ _ (by omega))
  exact (own_at (by rw [hl]; exact this)).2.1
theorem wtK_app (l : List It) (x : It) (k : Nat) (hk : k ≤ l.length) : wtK (l ++ [x]) k = wtK l k := by
  induction k with
  | zero => rfl
  | succ k ih =>
    have e : (l ++ [x])[k]? = l[k]? := List.getElem?_append_left (by omega)
    show (match (l ++ [x])[k]? with | some y => updH (wtK (l ++ [x]) k) y.frm y.seq (k : Int) | none => wtK (l ++ [x]) k) = (match l[k]? with | some y => updH (wtK l k) y.frm y.seq (k : Int) | none => wtK l k)
    rw [e, ih (by omega)]
theorem wtK_last (l : List It) (x : It) : wtK (l ++ [x]) (l.length + 1) = updH (wtK l l.length) x.frm x.seq (l.length : Int) := by
  rw [wtK_succ (l ++ [x]) (x := x) (by simp), wtK_app l x _ (Nat.le_refl _)]
/-- What a hold that may be says of its items. -/
theorem right_facts {f : Nat → Nat} {l : List It} (h : rightH f l = true) : (∀ i, i < 16 → f i ≤ 1000) ∧ l.length ≤ 64 ∧ (∀ x ∈ l, mayI x = true ∧ oldI f x = false ∧ readyI f x = false) ∧ wtN l l.length = l.length ∧ (∀ i j x y, i < j → j < l.length → l[i]? = some x → l[j]? = some y → ¬ sameK x y) := by
  unfold rightH at h
  simp only [Bool.and_eq_true, decide_eq_true_eq, List.all_eq_true] at h
  obtain ⟨⟨⟨h1, h2⟩, h3⟩, h4⟩ := h
  refine ⟨(mxV_le f 1000 16 (by omega)).1 h1, h2, fun x hx => ?_, h4, (wtN_apart l l.length (Nat.le_refl _)).1 h4⟩
  have := h3 x hx
  unfold waits at this
  simp only [Bool.and_eq_true, Bool.not_eq_true'] at this
  exact ⟨this.1.1, this.1.2, this.2⟩
theorem apart_more {l : List It} {x : It} (h : ∀ i j x y, i < j → j < l.length → l[i]? = some x → l[j]? = some y → ¬ sameK x y) (hx : wtK l l.length x.frm x.seq = none) : ∀ i j y z, i < j → j < (l ++ [x]).length → (l ++ [x])[i]? = some y → (l ++ [x])[j]? = some z → ¬ sameK y z := by
  intro i j y z hij hj hy hz
  have hj' : j < l.length + 1 := by simpa using hj
  rw [List.getElem?_append_left (by omega)] at hy
  by_cases hjl : j < l.length
  · rw [List.getElem?_append_left hjl] at hz
    exact h i j y z hij hjl hy hz
  · have : j = l.length := by omega
    subst this
    simp at hz
    subst hz
    exact wtK_none l x.frm x.seq l.length (Nat.le_refl _) hx i y hij hy
end Hd
end Go.Proofs.Ytbacnjkookakcaa
