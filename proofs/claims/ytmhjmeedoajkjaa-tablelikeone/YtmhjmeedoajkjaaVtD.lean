/- A case answered anew; ballots with one vote more. -/
import Derived.Test.YtmhjmeedoajkjaaVtC
import Derived.Deep.RegionHeld3
namespace Go.Proofs.Ytmhjmeedoajkjaa
open Go.RowKit Go.Shelf

/-- A block of five cells: a case in memory. -/
def C5 (w : World) (b : Nat) (v0 v1 v2 v3 v4 : Value) : Prop := w.heap[b]? = some (.cells #[v0, v1, v2, v3, v4] 48 (0, 0))
theorem C5.later {w w' : World} {b : Nat} {v0 v1 v2 v3 v4 : Value} (h : C5 w b v0 v1 v2 v3 v4) (hb : Below w.heap.size w w') : C5 w' b v0 v1 v2 v3 v4 :=
  (hb.block b (Array.getElem?_eq_some_iff.1 h).1).trans h
theorem C5.alloc {w : World} {b : Nat} {v0 v1 v2 v3 v4 : Value} (h : C5 w b v0 v1 v2 v3 v4) (o : Obj) : C5 (w.alloc o) b v0 v1 v2 v3 v4 := h.later ((Below.refl _ w).alloc (Nat.le_refl _) o)
theorem C5.new (w : World) (v0 v1 v2 v3 v4 : Value) : C5 (w.alloc (.cells #[v0, v1, v2, v3, v4] 48)) w.heap.size v0 v1 v2 v3 v4 := heap_alloc_new w _
theorem C5.lt {w : World} {b : Nat} {v0 v1 v2 v3 v4 : Value} (h : C5 w b v0 v1 v2 v3 v4) : b < w.heap.size := (Array.getElem?_eq_some_iff.1 h).1
theorem C5.cells {w : World} {b : Nat} {v0 v1 v2 v3 v4 : Value} (h : C5 w b v0 v1 v2 v3 v4) :
    w.cell? ⟨b, 0, none⟩ = some v0 ∧ w.cell? ⟨b, 1, none⟩ = some v1 ∧ w.cell? ⟨b, 2, none⟩ = some v2 ∧ w.cell? ⟨b, 3, none⟩ = some v3 ∧ w.cell? ⟨b, 4, none⟩ = some v4 :=
  ⟨cell_of_row w b 0 _ 48 _ h, cell_of_row w b 1 _ 48 _ h, cell_of_row w b 2 _ 48 _ h, cell_of_row w b 3 _ 48 _ h, cell_of_row w b 4 _ 48 _ h⟩
theorem C5.frozen {w : World} {b : Nat} {v0 v1 v2 v3 v4 : Value} (h : C5 w b v0 v1 v2 v3 v4) (i : Nat) : w.frozen? ⟨b, i, none⟩ = false := frozen_of_row w b i _ 48 h
theorem row_set {w : World} {b j : Nat} {cs : Array Value} {t : TypeId} (h : w.heap[b]? = some (.cells cs t (0, 0))) (v : Value) : (w.setCell ⟨b, j, none⟩ v).heap[b]? = some (.cells (cs.setIfInBounds j v) t (0, 0)) := by
  obtain ⟨hlt, hk⟩ := Array.getElem?_eq_some_iff.1 h
  show (w.heap.modify b _)[b]? = _
  rw [Array.getElem?_eq_getElem (by rw [Array.size_modify]; exact hlt), Array.getElem_modify_self, hk]
  rfl
theorem row_far {w : World} {b b' j : Nat} (h : b ≠ b') (v : Value) : (w.setCell ⟨b', j, none⟩ v).heap[b]? = w.heap[b]? := Below.heap_setCell _ _ _ b (by simpa using h)
theorem C5.far {w : World} {b b' j : Nat} {v0 v1 v2 v3 v4 : Value} (h : C5 w b v0 v1 v2 v3 v4) (hne : b ≠ b') (v : Value) : C5 (w.setCell ⟨b', j, none⟩ v) b v0 v1 v2 v3 v4 := (row_far hne v).trans h
def set5 (w : World) (b : Nat) (u0 u1 u2 u3 u4 : Value) : World := ((((w.setCell ⟨b, 0, none⟩ u0).setCell ⟨b, 1, none⟩ u1).setCell ⟨b, 2, none⟩ u2).setCell ⟨b, 3, none⟩ u3).setCell ⟨b, 4, none⟩ u4
theorem C5.set {w : World} {b : Nat} {v0 v1 v2 v3 v4 : Value} (h : C5 w b v0 v1 v2 v3 v4) (u0 u1 u2 u3 u4 : Value) :
    C5 (((((w.setCell ⟨b, 0, none⟩ u0).setCell ⟨b, 1, none⟩ u1).setCell ⟨b, 2, none⟩ u2).setCell ⟨b, 3, none⟩ u3).setCell ⟨b, 4, none⟩ u4) b u0 u1 u2 u3 u4 :=
  row_set (row_set (row_set (row_set (row_set h _) _) _) _) _
theorem below_set5 {B b : Nat} {w w' : World} (h : Below B w w') (hb : B ≤ b) (u0 u1 u2 u3 u4 : Value) :
    Below B w (((((w'.setCell ⟨b, 0, none⟩ u0).setCell ⟨b, 1, none⟩ u1).setCell ⟨b, 2, none⟩ u2).setCell ⟨b, 3, none⟩ u3).setCell ⟨b, 4, none⟩ u4) :=
  ((((h.setCell (p := ⟨b, 0, none⟩) hb _).setCell (p := ⟨b, 1, none⟩) hb _).setCell (p := ⟨b, 2, none⟩) hb _).setCell (p := ⟨b, 3, none⟩) hb _).setCell (p := ⟨b, 4, none⟩) hb _
theorem own_far {w : World} {B n b j s : Nat} {t : TypeId} {v : Value} {xs : List Value} (h : w.ownsRow B t s v n xs) (hne : v.ownBlock ≠ some b) (u : Value) : (w.setCell ⟨b, j, none⟩ u).ownsRow B t s v n xs := by
  refine h.kept (row := some b) ⟨rfl, rfl, rfl, by simp, fun k _ hk => heap_setCell_other w ⟨b, j, none⟩ k u (fun e => hk (by simp [e]))⟩ (.inr hne)
theorem own_far5 {w : World} {B n b s : Nat} {t : TypeId} {v : Value} {xs : List Value} (h : w.ownsRow B t s v n xs) (hne : v.ownBlock ≠ some b) (u0 u1 u2 u3 u4 : Value) :
    (((((w.setCell ⟨b, 0, none⟩ u0).setCell ⟨b, 1, none⟩ u1).setCell ⟨b, 2, none⟩ u2).setCell ⟨b, 3, none⟩ u3).setCell ⟨b, 4, none⟩ u4).ownsRow B t s v n xs :=
  own_far (own_far (own_far (own_far (own_far h hne _) hne _) hne _) hne _) hne _
theorem own_later {w w' : World} {B n s : Nat} {t : TypeId} {v : Value} {xs : List Value} (h : w.ownsRow B t s v n xs) (hb : Below w.heap.size w w') : w'.ownsRow B t s v n xs :=
  h.kept (row := none) ⟨hb.os, hb.tape, hb.output, hb.size, fun k hk _ => hb.block k hk⟩ (by cases v.ownBlock <;> simp)
theorem own_mono {w : World} {base base' n s : Nat} {t : TypeId} {v : Value} {xs : List Value} (h : w.ownsRow base t s v n xs) (hb : base' ≤ base) : w.ownsRow base' t s v n xs := by
  refine ⟨h.1, ?_⟩
  rcases h.2 with h2 | ⟨g, cap, cur, hv, hg, r⟩
  · exact .inl h2
  · exact .inr ⟨g, cap, cur, hv, Nat.le_trans hb hg, r⟩

/-- Two rows of one's own, apart. -/
def Two (B : Nat) (w : World) (v1 v2 : Value) (l1 l2 : Vt.Bal) : Prop :=
  w.ownsRow B 94 2 v1 l1.length (Vt.balC l1) ∧ w.ownsRow B 94 2 v2 l2.length (Vt.balC l2) ∧ (v1.ownBlock = none ∨ v1.ownBlock ≠ v2.ownBlock)
theorem two_apart {B : Nat} {w1 w2 : World} {v1 v2 : Value} {l1 l2 : Vt.Bal} (h1 : w1.ownsRow B 94 2 v1 l1.length (Vt.balC l1)) (h2 : w2.ownsRow w1.heap.size 94 2 v2 l2.length (Vt.balC l2)) (hb : Below w1.heap.size w1 w2) (hB : B ≤ w1.heap.size) : Two B w2 v1 v2 l1 l2 := by
  refine ⟨own_later h1 hb, own_mono h2 hB, ?_⟩
  cases e1 : v1.ownBlock with
  | none => exact .inl rfl
  | some k =>
    refine .inr fun e => ?_
    have a := (h1.lt k e1).2
    have b := (h2.lt k e.symm).1
    omega
theorem Two.swap {B : Nat} {w : World} {v1 v2 : Value} {l1 l2 : Vt.Bal} (h : Two B w v1 v2 l1 l2) : Two B w v2 v1 l2 l1 := by
  refine ⟨h.2.1, h.1, ?_⟩
  cases e1 : v2.ownBlock with
  | none => exact .inl rfl
  | some k =>
    refine .inr fun e => ?_
    rcases h.2.2 with e2 | e2
    · rw [e2] at e; cases e
    · exact e2 (e.symm.trans e1.symm)

/-- What anew answers. -/
def Anew (w : World) (e r d : Bool) (l1 l2 : Vt.Bal) (x : Ending) (w' : World) : Prop :=
  ∃ v1 v2, x = .returned (.agg #[.bool e, .bool r, .bool d, v1, v2]) ∧ Two w.heap.size w' v1 v2 l1 l2 ∧ Below w.heap.size w w'

set_option maxHeartbeats 4000000 in
set_option maxRecDepth 100000 in
theorem anew_any (e r d : Bool) (a1 a2 : Option Addr) (c1 c2 : Nat) (l1 l2 : Vt.Bal) (w : World) (h1 : Vt.At w a1 l1) (h2 : Vt.At w a2 l2) (n1 : l1.length ≤ 1000) (n2 : l2.length ≤ 1000) :
    Calls Try.prog 29 #[.agg #[.bool e, .bool r, .bool d, .slice a1 l1.length c1, .slice a2 l2.length c2]] w (Anew w e r d l1 l2) := by
  have K1 : Aside (∀ W, Below w.heap.size w W → Calls Try.prog 37 #[.slice a1 l1.length c1] W fun e w' => ∃ v', e = .returned v' ∧ w'.ownsRow W.heap.size 94 2 v' l1.length (Vt.balC l1) ∧ Below W.heap.size W w') := fun W hb => clone_any a1 c1 l1 W (h1.later hb) n1
  have K2 : Aside (∀ W, Below w.heap.size w W → Calls Try.prog 37 #[.slice a2 l2.length c2] W fun e w' => ∃ v', e = .returned v' ∧ w'.ownsRow W.heap.size 94 2 v' l2.length (Vt.balC l2) ∧ Below W.heap.size W w') := fun W hb => clone_any a2 c2 l2 W (h2.later hb) n2
  have R : Aside (∀ v1 v2 w', Two w.heap.size w' v1 v2 l1 l2 → Below w.heap.size w w' → Anew w e r d l1 l2 (.returned (.agg #[.bool e, .bool r, .bool d, v1, v2])) w') := fun v1 v2 w' a b => ⟨v1, v2, rfl, a, b⟩
  generalize Anew w e r d l1 l2 = Q at R ⊢
  clear h1 h2
  obtain ⟨V, hV⟩ : ∃ V, V = (w.alloc (.cells #[.bool e, .bool r, .bool d, .slice a1 l1.length c1, .slice a2 l2.length c2] 48)).alloc (.cells #[.bool false, .bool false, .bool false, .slice none 0 0, .slice none 0 0] 48) := ⟨_, rfl⟩
  have x1 : C5 V w.heap.size (.bool e) (.bool r) (.bool d) (.slice a1 l1.length c1) (.slice a2 l2.length c2) := by rw [hV]; exact (C5.new w _ _ _ _ _).alloc _
  have x2 : C5 V (w.heap.size + 1) (.bool false) (.bool false) (.bool false) (.slice none 0 0) (.slice none 0 0) := by
    rw [hV]
    have := C5.new (w.alloc (.cells #[.bool e, .bool r, .bool d, .slice a1 l1.length c1, .slice a2 l2.length c2] 48)) (.bool false) (.bool false) (.bool false) (.slice none 0 0) (.slice none 0 0)
    rwa [World.size_alloc] at this
  have x3 : Below w.heap.size w V := by rw [hV]; exact ((Below.refl _ w).alloc (Nat.le_refl _) _).alloc (by simp) _
  have x4 : V.heap.size = w.heap.size + 2 := by rw [hV]; simp
  go_enter Try.func29, Try.ntmps29
  go_wp2_with fail
  rw [← hV]
  clear hV
  have X : Aside (C5 V w.heap.size (.bool e) (.bool r) (.bool d) (.slice a1 l1.length c1) (.slice a2 l2.length c2) ∧ C5 V (w.heap.size + 1) (.bool false) (.bool false) (.bool false) (.slice none 0 0) (.slice none 0 0) ∧ Below w.heap.size w V ∧ V.heap.size = w.heap.size + 2) := ⟨x1, x2, x3, x4⟩
  obtain ⟨y0, y1, y2, y3, y4⟩ := x1.cells
  have f0 := x1.frozen
  clear x1 x2 x3 x4 n1 n2
  go_region_with
    (first
      | (go_at_call 37; refine (K1.out V.drew X.out.2.2.1.drew).mono ?_; rintro e w1 ⟨v1, rfl, o1, b1⟩; obtain ⟨ga, ca, rfl, -, -⟩ := Vt.own_at o1; have Y1 : Aside (C5 w1 w.heap.size _ _ _ _ _ ∧ C5 w1 (w.heap.size + 1) _ _ _ _ _ ∧ Below w.heap.size w w1 ∧ w1.ownsRow V.heap.size 94 2 (.slice ga l1.length ca) l1.length (Vt.balC l1) ∧ V.heap.size ≤ w1.heap.size) := ⟨C5.later (w := V.drew) X.out.1 b1, C5.later (w := V.drew) X.out.2.1 b1, below_step X.out.2.2.1.drew b1, o1, b1.size⟩; have q3 := Y1.out.1.cells.2.2.2.1; have q4 := Y1.out.1.cells.2.2.2.2; clear o1 b1)
      | (go_at_call 37; refine (K2.out w1 Y1.out.2.2.1).mono ?_; rintro e w2 ⟨v2, rfl, o2, b2⟩; obtain ⟨gb, cb, rfl, -, -⟩ := Vt.own_at o2; have Y2 : Aside (C5 w2 w.heap.size _ _ _ _ _ ∧ C5 w2 (w.heap.size + 1) _ _ _ _ _ ∧ Below w.heap.size w w2 ∧ Two V.heap.size w2 (.slice ga l1.length ca) (.slice gb l2.length cb) l1 l2) := ⟨Y1.out.1.later b2, Y1.out.2.1.later b2, below_step Y1.out.2.2.1 b2, two_apart Y1.out.2.2.2.1 o2 b2 Y1.out.2.2.2.2⟩; obtain ⟨g0, g1, g2, g3, g4⟩ := Y2.out.1.cells; have gf := Y2.out.1.frozen; clear o2 b2)
      | fail)
  all_goals
    clear K1 K2 y0 y1 y2 y3 y4 f0 q3 q4 Y1
    obtain ⟨z0, z1, z2, z3, z4⟩ := Y2.out.2.1.cells
    have zf := Y2.out.2.1.frozen
    have D : Aside (Q (.returned (.agg #[.bool e, .bool r, .bool d, (.slice ga l1.length ca), (.slice gb l2.length cb)])) (((((((w2.setCell ⟨w.heap.size, 3, none⟩ (.slice ga l1.length ca)).setCell ⟨w.heap.size, 4, none⟩ (.slice gb l2.length cb)).setCell ⟨w.heap.size + 1, 0, none⟩ (.bool e)).setCell ⟨w.heap.size + 1, 1, none⟩ (.bool r)).setCell ⟨w.heap.size + 1, 2, none⟩ (.bool d)).setCell ⟨w.heap.size + 1, 3, none⟩ (.slice ga l1.length ca)).setCell ⟨w.heap.size + 1, 4, none⟩ (.slice gb l2.length cb))) := by
      obtain ⟨t1, t2, t3⟩ := Y2.out.2.2.2
      have hV := X.out.2.2.2
      have b1 : (Value.slice ga l1.length ca).ownBlock ≠ some w.heap.size := fun e => by have := (t1.lt _ e).1; omega
      have b2 : (Value.slice gb l2.length cb).ownBlock ≠ some w.heap.size := fun e => by have := (t2.lt _ e).1; omega
      have b3 : (Value.slice ga l1.length ca).ownBlock ≠ some (w.heap.size + 1) := fun e => by have := (t1.lt _ e).1; omega
      have b4 : (Value.slice gb l2.length cb).ownBlock ≠ some (w.heap.size + 1) := fun e => by have := (t2.lt _ e).1; omega
      refine R.out (.slice ga l1.length ca) (.slice gb l2.length cb) _ ⟨own_mono (own_far5 (own_far (own_far t1 b1 _) b1 _) b3 _ _ _ _ _) (by omega), own_mono (own_far5 (own_far (own_far t2 b2 _) b2 _) b4 _ _ _ _ _) (by omega), t3⟩ ?_
      exact below_set5 ((Y2.out.2.2.1.setCell (p := ⟨w.heap.size, 3, none⟩) (Nat.le_refl _) _).setCell (p := ⟨w.heap.size, 4, none⟩) (Nat.le_refl _) _) (by omega) _ _ _ _ _
    have hD : Aside (C5 ((w2.setCell ⟨w.heap.size, 3, none⟩ (.slice ga l1.length ca)).setCell ⟨w.heap.size, 4, none⟩ (.slice gb l2.length cb)) (w.heap.size + 1) _ _ _ _ _) := (Y2.out.2.1.far (by omega) _).far (by omega) _
    go_wp2
    refine ⟨rfl, _, ?_, D.out⟩
    obtain ⟨d0, d1, d2, d3, d4⟩ := (C5.set hD.out (.bool e) (.bool r) (.bool d) (.slice ga l1.length ca) (.slice gb l2.length cb)).cells
    simp [results, Try.results29, go_sem, d0, d1, d2, d3, d4]
end Go.Proofs.Ytmhjmeedoajkjaa
