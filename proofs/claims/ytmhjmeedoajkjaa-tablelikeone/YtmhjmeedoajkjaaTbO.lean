/- A row of open broadcasts of one's own, whose cases lie elsewhere; stores into it. -/
import Derived.Test.YtmhjmeedoajkjaaTbN
import Derived.Test.YtmhjmeedoajkjaaTbG
set_option linter.unusedVariables false
namespace Go.Proofs.Ytmhjmeedoajkjaa
open Go.RowKit Go.Shelf

theorem own_put {w : World} {B n s g c j : Nat} {t : TypeId} {xs : List Value} (h : w.ownsRow B t s (.slice (some ⟨g, 0, none⟩) n c) n xs) (hj : j < n * s) (u : Value) :
    (w.setCell ⟨g, j, none⟩ u).ownsRow B t s (.slice (some ⟨g, 0, none⟩) n c) n (xs.set j u) := by
  refine ⟨by rw [List.length_set]; exact h.1, .inr ?_⟩
  rcases h.2 with ⟨e, _⟩ | ⟨g', cap, cur, e, hge, hh, hcap, hmax, hsz, ht⟩
  · cases e
  · cases e
    refine ⟨g, c, cur.setIfInBounds j u, rfl, hge, row_set hh u, hcap, hmax, by rw [Array.size_setIfInBounds]; exact hsz, ?_⟩
    rw [Array.toList_setIfInBounds, List.take_set, ht]
/-- The cases' ballots of an open broadcast lie in no row but their own. -/
def Offs (g : Nat) (e : En) : Prop := (e.o.c.echoes ≠ [] → ∀ ad, e.a1 = some ad → ad.block ≠ g) ∧ (e.o.c.readies ≠ [] → ∀ ad, e.a2 = some ad → ad.block ≠ g)
theorem At.set {w : World} {a : Option Addr} {l : Vt.Bal} {g j : Nat} (h : Vt.At w a l) (hg : l ≠ [] → ∀ ad, a = some ad → ad.block ≠ g) (u : Value) : Vt.At (w.setCell ⟨g, j, none⟩ u) a l := by
  rcases h with rfl | ⟨b, off, rfl, hc⟩
  · exact .inl rfl
  · by_cases hl : l = []
    · exact .inl hl
    · refine .inr ⟨b, off, rfl, fun i v hi => ?_⟩
      have hne : b ≠ g := hg hl _ rfl
      rw [World.cell?_setCell_other _ _ _ _ (by simp)]
      exact hc i v hi
theorem EnAt.set {w : World} {e : En} {g j : Nat} (h : EnAt w e) (ho : Offs g e) (u : Value) : EnAt (w.setCell ⟨g, j, none⟩ u) e :=
  ⟨⟨At.set h.at_.e ho.1 u, At.set h.at_.r ho.2 u, h.at_.small, h.at_.n1, h.at_.n2⟩, h.frm⟩
structure OwnT (w : World) (B : Nat) (v : Value) (es : List En) : Prop where
  row : w.ownsRow B 50 7 v es.length (rowC es)
  ats : ∀ e ∈ es, EnAt w e
  off : ∀ g, v.ownBlock = some g → ∀ e ∈ es, Offs g e
theorem OwnT.later {w w' : World} {B : Nat} {v : Value} {es : List En} (h : OwnT w B v es) (hb : Below w.heap.size w w') : OwnT w' B v es := ⟨own_later h.row hb, fun e he => (h.ats e he).later hb, h.off⟩
theorem OwnT.far {w : World} {B b j : Nat} {v : Value} {es : List En} (h : OwnT w B v es) (hne : v.ownBlock ≠ some b) (ho : ∀ e ∈ es, Offs b e) (u : Value) : OwnT (w.setCell ⟨b, j, none⟩ u) B v es :=
  ⟨own_far h.row hne u, fun e he => (h.ats e he).set (ho e he) u, h.off⟩
/-- The cells of a row, one broadcast's ballots elsewhere. -/
theorem rowC_set {l : List En} : ∀ {k : Nat} {e e' : En}, l[k]? = some e → e'.o = e.o → rowC (l.set k e') = ((rowC l).set (k * 7 + 5) (.slice e'.a1 e'.o.c.echoes.length e'.k1)).set (k * 7 + 6) (.slice e'.a2 e'.o.c.readies.length e'.k2) := by
  induction l with
  | nil => intro k e e' h; simp at h
  | cons b l ih =>
    intro k e e' h ho
    cases k with
    | zero =>
      simp at h; subst h
      simp only [List.set_cons_zero, rowC, encE, ho]
      rfl
    | succ k =>
      have h' : l[k]? = some e := by simpa using h
      have := ih h' ho
      rw [List.set_cons_succ]
      simp only [rowC]
      rw [this, show (k + 1) * 7 + 5 = k * 7 + 5 + 7 by omega, show (k + 1) * 7 + 6 = k * 7 + 6 + 7 by omega]
      have e7 : (encE b).length = 7 := rfl
      rw [List.set_append_right _ _ (by omega), List.set_append_right _ _ (by omega), e7, show k * 7 + 5 + 7 - 7 = k * 7 + 5 by omega, show k * 7 + 6 + 7 - 7 = k * 7 + 6 by omega]
def moved (e : En) (ga : Option Addr) (ca : Nat) (gb : Option Addr) (cb : Nat) : En := ⟨e.o, ga, ca, gb, cb⟩
theorem ops_set {l : List En} {k : Nat} {e e' : En} (h : l[k]? = some e) (ho : e'.o = e.o) : ops (l.set k e') = ops l := by
  unfold ops
  rw [List.map_set, ho]
  apply List.ext_getElem?
  intro i
  by_cases hik : i = k
  · subst hik
    have hlt := (List.getElem?_eq_some_iff.1 h).1
    rw [List.getElem?_set_self (by simpa using hlt), List.getElem?_map, h]; rfl
  · rw [List.getElem?_set_ne (fun e => hik e.symm)]
/-- One broadcast's ballots cloned: two stores into the row. -/
theorem OwnT.clone {w w2 : World} {B g n c k : Nat} {es : List En} {e : En} {ga gb : Option Addr} {ca cb : Nat} (h : OwnT w B (.slice (some ⟨g, 0, none⟩) n c) es) (hn : es.length = n) (hk : es[k]? = some e) (hb : Below w.heap.size w w2)
    (h2 : Two w.heap.size w2 (.slice ga e.o.c.echoes.length ca) (.slice gb e.o.c.readies.length cb) e.o.c.echoes e.o.c.readies) :
    OwnT ((w2.setCell ⟨g, k * 7 + 5, none⟩ (.slice ga e.o.c.echoes.length ca)).setCell ⟨g, k * 7 + 6, none⟩ (.slice gb e.o.c.readies.length cb)) B (.slice (some ⟨g, 0, none⟩) n c) (es.set k (moved e ga ca gb cb)) := by
  subst hn
  have hlt := (List.getElem?_eq_some_iff.1 hk).1
  have hgw : g < w.heap.size := (h.row.lt g rfl).2
  have hr := own_put (own_put (own_later h.row hb) (j := k * 7 + 5) (by omega) (.slice ga e.o.c.echoes.length ca)) (j := k * 7 + 6) (by omega) (.slice gb e.o.c.readies.length cb)
  have ho : Offs g (moved e ga ca gb cb) := ⟨fun _ ad ha => by have := (h2.1.lt ad.block (by show Value.ownBlock (.slice ga _ _) = _; rw [show ga = some ad from ha]; rfl)).1; omega, fun _ ad ha => by have := (h2.2.1.lt ad.block (by show Value.ownBlock (.slice gb _ _) = _; rw [show gb = some ad from ha]; rfl)).1; omega⟩
  have hmem : e ∈ es := List.mem_of_getElem? hk
  have ea := h.ats e hmem
  have off1 : ∀ g', (Value.slice (some ⟨g, 0, none⟩) es.length c).ownBlock = some g' → ∀ x ∈ es.set k (moved e ga ca gb cb), Offs g' x := fun g' hg' x hx => by
    obtain rfl : g = g' := by simpa [Value.ownBlock] using hg'
    rcases List.mem_or_eq_of_mem_set hx with hx | rfl
    · exact h.off g rfl x hx
    · exact ho
  refine ⟨?_, fun x hx => ?_, ?_⟩
  · rw [List.length_set, rowC_set (e' := moved e ga ca gb cb) hk rfl]
    exact hr
  · have hox : Offs g x := off1 g rfl x hx
    refine EnAt.set (EnAt.set ?_ hox _) hox _
    rcases List.mem_or_eq_of_mem_set hx with hx | rfl
    · exact (h.ats x hx).later hb
    · exact ⟨⟨(Vt.own_at h2.1).elim fun a ⟨cap, e1, _, ha⟩ => by cases e1; exact ha, (Vt.own_at h2.2.1).elim fun a ⟨cap, e1, _, ha⟩ => by cases e1; exact ha, ea.at_.small, ea.at_.n1, ea.at_.n2⟩, ea.frm⟩
  · exact off1
end Go.Proofs.Ytmhjmeedoajkjaa
