/- Of a talk: what a vote that comes changes in memory. -/
import Derived.Test.YtlekbbpancaenaaTkB
import Derived.Test.YtlekbbpancaenaaVtS
namespace Go.Proofs.Ytlekbbpancaenaa
open Go.RowKit Go.Shelf

/-- Five cells of one block stored, one behind the other. -/
def F5 (w : World) (b o : Nat) (u0 u1 u2 u3 u4 : Value) : World := ((((w.setCell ⟨b, o, none⟩ u0).setCell ⟨b, o + 1, none⟩ u1).setCell ⟨b, o + 2, none⟩ u2).setCell ⟨b, o + 3, none⟩ u3).setCell ⟨b, o + 4, none⟩ u4
theorem f5_block (w : World) {b o g : Nat} (h : g ≠ b) (u0 u1 u2 u3 u4 : Value) : (F5 w b o u0 u1 u2 u3 u4).heap[g]? = w.heap[g]? := by
  unfold F5
  rw [row_far h, row_far h, row_far h, row_far h, row_far h]
theorem f5_size (w : World) (b o : Nat) (u0 u1 u2 u3 u4 : Value) : (F5 w b o u0 u1 u2 u3 u4).heap.size = w.heap.size := by simp [F5, World.setCell]
theorem f5_frozen (w : World) (b o : Nat) (u0 u1 u2 u3 u4 : Value) (a : Addr) : (F5 w b o u0 u1 u2 u3 u4).frozen? a = w.frozen? a := by simp [F5]
theorem addr_ne {b b' o o' : Nat} (h : o ≠ o') : (⟨b, o, none⟩ : Addr) ≠ ⟨b', o', none⟩ := fun e => h (Addr.mk.inj e).2.1
theorem f5_far (w : World) {b o q : Nat} (h : q < o ∨ o + 4 < q) (u0 u1 u2 u3 u4 : Value) : (F5 w b o u0 u1 u2 u3 u4).cell? ⟨b, q, none⟩ = w.cell? ⟨b, q, none⟩ := by
  unfold F5
  rw [World.cell?_setCell_other _ _ _ _ (addr_ne (by omega)), World.cell?_setCell_other _ _ _ _ (addr_ne (by omega)), World.cell?_setCell_other _ _ _ _ (addr_ne (by omega)), World.cell?_setCell_other _ _ _ _ (addr_ne (by omega)), World.cell?_setCell_other _ _ _ _ (addr_ne (by omega))]
theorem set_keeps {w : World} {b o q : Nat} {v x : Value} (h : w.cell? ⟨b, q, none⟩ = some x) (hne : o ≠ q) : (w.setCell ⟨b, o, none⟩ v).cell? ⟨b, q, none⟩ = some x := by
  rw [World.cell?_setCell_other _ _ _ _ (addr_ne hne)]; exact h
theorem f5_in {w : World} {b o : Nat} {x0 x1 x2 x3 x4 : Value} (h0 : w.cell? ⟨b, o, none⟩ = some x0) (h1 : w.cell? ⟨b, o + 1, none⟩ = some x1) (h2 : w.cell? ⟨b, o + 2, none⟩ = some x2) (h3 : w.cell? ⟨b, o + 3, none⟩ = some x3) (h4 : w.cell? ⟨b, o + 4, none⟩ = some x4) (u0 u1 u2 u3 u4 : Value) :
    (F5 w b o u0 u1 u2 u3 u4).cell? ⟨b, o, none⟩ = some u0 ∧ (F5 w b o u0 u1 u2 u3 u4).cell? ⟨b, o + 1, none⟩ = some u1 ∧ (F5 w b o u0 u1 u2 u3 u4).cell? ⟨b, o + 2, none⟩ = some u2 ∧ (F5 w b o u0 u1 u2 u3 u4).cell? ⟨b, o + 3, none⟩ = some u3 ∧ (F5 w b o u0 u1 u2 u3 u4).cell? ⟨b, o + 4, none⟩ = some u4 := by
  unfold F5
  refine ⟨?_, ?_, ?_, ?_, ?_⟩
  · exact set_keeps (set_keeps (set_keeps (set_keeps (World.cell?_setCell_same _ _ _ h0) (by omega)) (by omega)) (by omega)) (by omega)
  · exact set_keeps (set_keeps (set_keeps (World.cell?_setCell_same _ _ _ (set_keeps h1 (by omega))) (by omega)) (by omega)) (by omega)
  · exact set_keeps (set_keeps (World.cell?_setCell_same _ _ _ (set_keeps (set_keeps h2 (by omega)) (by omega))) (by omega)) (by omega)
  · exact set_keeps (World.cell?_setCell_same _ _ _ (set_keeps (set_keeps (set_keeps h3 (by omega)) (by omega)) (by omega))) (by omega)
  · exact World.cell?_setCell_same _ _ _ (set_keeps (set_keeps (set_keeps (set_keeps h4 (by omega)) (by omega)) (by omega)) (by omega))
theorem below_f5 {B b o : Nat} {w w' : World} (h : Below B w w') (hb : B ≤ b) (u0 u1 u2 u3 u4 : Value) : Below B w (F5 w' b o u0 u1 u2 u3 u4) :=
  ((((h.setCell (p := ⟨b, o, none⟩) hb _).setCell (p := ⟨b, o + 1, none⟩) hb _).setCell (p := ⟨b, o + 2, none⟩) hb _).setCell (p := ⟨b, o + 3, none⟩) hb _).setCell (p := ⟨b, o + 4, none⟩) hb _

/-- A member's case stored. -/
theorem Talk.case {w0 w : World} {n f frm : Nat} {s : Vt.Tk} {cb sb db : Nat} {vw : Value} {a1 a2 : Nat → Option Addr} {k1 k2 : Nat → Nat} (h : Talk w0 w n f frm s cb sb db vw a1 a2 k1 k2) {to : Nat} (hto : to < n) {c : Vt.Cs} {b1 b2 : Option Addr} {j1 j2 B : Nat}
    (h1 : Vt.At w b1 c.echoes) (h2 : Vt.At w b2 c.readies) (f1 : Fr B b1) (f2 : Fr B b2) (hB : db < B) (hBw : ∀ g, vw.ownBlock = some g → g < B) (hs : c.Small) :
    Talk w0 (F5 w cb (to * 5) (.bool c.echoed) (.bool c.readied) (.bool c.done) (.slice b1 c.echoes.length j1) (.slice b2 c.readies.length j2)) n f frm { s with cs := Vt.upd s.cs to c } cb sb db vw (Vt.upd a1 to b1) (Vt.upd a2 to b2) (Vt.upd k1 to j1) (Vt.upd k2 to j2) := by
  obtain ⟨o1, o2, o3, o4⟩ := h.ord
  have ce : ∀ b o, b ≠ cb → (F5 w cb (to * 5) (.bool c.echoed) (.bool c.readied) (.bool c.done) (.slice b1 c.echoes.length j1) (.slice b2 c.readies.length j2)).cell? ⟨b, o, none⟩ = w.cell? ⟨b, o, none⟩ := fun b o hb => World.cell?_of_block (f5_block w hb _ _ _ _ _)
  have fe := f5_frozen w cb (to * 5) (.bool c.echoed) (.bool c.readied) (.bool c.done) (.slice b1 c.echoes.length j1) (.slice b2 c.readies.length j2)
  have la : ∀ a (x : Vt.Bal), Vt.At w a x → Off cb a x → Vt.At (F5 w cb (to * 5) (.bool c.echoed) (.bool c.readied) (.bool c.done) (.slice b1 c.echoes.length j1) (.slice b2 c.readies.length j2)) a x := fun a x ha ho => at_block ha ho fun _ hg => f5_block w hg _ _ _ _ _
  have C := h.c to hto
  have IN := f5_in C.1 C.2.1 C.2.2.1 C.2.2.2.1 C.2.2.2.2 (.bool c.echoed) (.bool c.readied) (.bool c.done) (.slice b1 c.echoes.length j1) (.slice b2 c.readies.length j2)
  refine ⟨(ce _ _ (by omega)).trans h.p0, (ce _ _ (by omega)).trans h.p1, (ce _ _ (by omega)).trans h.p2, (ce _ _ (by omega)).trans h.p3, (ce _ _ (by omega)).trans h.p4, (ce _ _ (by omega)).trans h.p5, (ce _ _ (by omega)).trans h.p6, fun j => (fe _).trans (h.pz j), ?_, fun j => (fe _).trans (h.cz j),
    fun i hi => (ce sb _ (by omega)).trans (h.t i hi), fun j => (fe _).trans (h.tz j), fun i hi => (ce db _ (by omega)).trans (h.d i hi), fun j => (fe _).trans (h.dz j), ?_, ?_, ?_, ⟨o1, o2, o3, by rw [f5_size]; exact o4⟩, h.way.kept fun k hk => f5_block w (by have := (h.way.lt k hk).1; omega) _ _ _ _ _, ?_, ?_, below_f5 h.below (by omega) _ _ _ _ _⟩
  · intro i hi
    by_cases e : i = to
    · subst e; simp only [Vt.upd_self]; exact IN
    · simp only [Vt.upd_ne _ _ e]
      have hf : ∀ j, j ≤ 4 → (F5 w cb (to * 5) (.bool c.echoed) (.bool c.readied) (.bool c.done) (.slice b1 c.echoes.length j1) (.slice b2 c.readies.length j2)).cell? ⟨cb, i * 5 + j, none⟩ = w.cell? ⟨cb, i * 5 + j, none⟩ := fun j hj => f5_far w (by omega) _ _ _ _ _
      exact ⟨(hf 0 (by omega)).trans (h.c i hi).1, (hf 1 (by omega)).trans (h.c i hi).2.1, (hf 2 (by omega)).trans (h.c i hi).2.2.1, (hf 3 (by omega)).trans (h.c i hi).2.2.2.1, (hf 4 (by omega)).trans (h.c i hi).2.2.2.2⟩
  · intro i hi
    by_cases e : i = to
    · subst e; simp only [Vt.upd_self]; exact la _ _ h1 (off_fr f1 (by omega))
    · simp only [Vt.upd_ne _ _ e]; exact la _ _ (h.l1 i hi) (h.off i hi cb (by omega)).1
  · intro i hi
    by_cases e : i = to
    · subst e; simp only [Vt.upd_self]; exact la _ _ h2 (off_fr f2 (by omega))
    · simp only [Vt.upd_ne _ _ e]; exact la _ _ (h.l2 i hi) (h.off i hi cb (by omega)).2
  · intro i hi
    by_cases e : i = to
    · subst e; simp only [Vt.upd_self]; exact hs
    · simp only [Vt.upd_ne _ _ e]; exact h.small i hi
  · intro i hi b hb
    by_cases e : i = to
    · subst e; simp only [Vt.upd_self]; exact ⟨off_fr f1 (by omega), off_fr f2 (by omega)⟩
    · simp only [Vt.upd_ne _ _ e]; exact h.off i hi b hb
  · intro i hi g hg
    by_cases e : i = to
    · subst e; simp only [Vt.upd_self]; exact ⟨off_fr f1 (hBw g hg), off_fr f2 (hBw g hg)⟩
    · simp only [Vt.upd_ne _ _ e]; exact h.offw i hi g hg
/-- A member is told a body. -/
theorem Talk.told {w0 w : World} {n f frm : Nat} {s : Vt.Tk} {cb sb db : Nat} {vw : Value} {a1 a2 : Nat → Option Addr} {k1 k2 : Nat → Nat} (h : Talk w0 w n f frm s cb sb db vw a1 a2 k1 k2) {to : Nat} (hto : to < n) (x : ByteArray) :
    Talk w0 ((w.setCell ⟨db, to, none⟩ (.bool true)).setCell ⟨sb, to, none⟩ (.string x)) n f frm { s with told := Vt.upd s.told to x, done := Vt.upd s.done to true } cb sb db vw a1 a2 k1 k2 := by
  obtain ⟨o1, o2, o3, o4⟩ := h.ord
  have bk : ∀ b, b ≠ db → b ≠ sb → ((w.setCell ⟨db, to, none⟩ (.bool true)).setCell ⟨sb, to, none⟩ (.string x)).heap[b]? = w.heap[b]? := fun b hd hs => (row_far hs _).trans (row_far hd _)
  have ce : ∀ b o, b ≠ db → b ≠ sb → ((w.setCell ⟨db, to, none⟩ (.bool true)).setCell ⟨sb, to, none⟩ (.string x)).cell? ⟨b, o, none⟩ = w.cell? ⟨b, o, none⟩ := fun b o hd hs => World.cell?_of_block (bk b hd hs)
  have fe : ∀ a, ((w.setCell ⟨db, to, none⟩ (.bool true)).setCell ⟨sb, to, none⟩ (.string x)).frozen? a = w.frozen? a := fun a => by simp
  have la : ∀ a (y : Vt.Bal), Vt.At w a y → Off db a y → Off sb a y → Vt.At ((w.setCell ⟨db, to, none⟩ (.bool true)).setCell ⟨sb, to, none⟩ (.string x)) a y := fun a y ha hd hs => at_block (at_block ha hd fun _ hg => row_far hg _) hs fun _ hg => row_far hg _
  have sd : ∀ o, ((w.setCell ⟨db, to, none⟩ (.bool true)).setCell ⟨sb, to, none⟩ (.string x)).cell? ⟨db, o, none⟩ = (w.setCell ⟨db, to, none⟩ (.bool true)).cell? ⟨db, o, none⟩ := fun o => World.cell?_of_block (row_far (show db ≠ sb by omega) _)
  have ss : ∀ o, (w.setCell ⟨db, to, none⟩ (.bool true)).cell? ⟨sb, o, none⟩ = w.cell? ⟨sb, o, none⟩ := fun o => World.cell?_of_block (row_far (show sb ≠ db by omega) _)
  refine ⟨(ce _ _ (by omega) (by omega)).trans h.p0, (ce _ _ (by omega) (by omega)).trans h.p1, (ce _ _ (by omega) (by omega)).trans h.p2, (ce _ _ (by omega) (by omega)).trans h.p3, (ce _ _ (by omega) (by omega)).trans h.p4, (ce _ _ (by omega) (by omega)).trans h.p5, (ce _ _ (by omega) (by omega)).trans h.p6, fun j => (fe _).trans (h.pz j),
    fun i hi => ⟨(ce cb _ (by omega) (by omega)).trans (h.c i hi).1, (ce cb _ (by omega) (by omega)).trans (h.c i hi).2.1, (ce cb _ (by omega) (by omega)).trans (h.c i hi).2.2.1, (ce cb _ (by omega) (by omega)).trans (h.c i hi).2.2.2.1, (ce cb _ (by omega) (by omega)).trans (h.c i hi).2.2.2.2⟩, fun j => (fe _).trans (h.cz j),
    ?_, fun j => (fe _).trans (h.tz j), ?_, fun j => (fe _).trans (h.dz j), fun i hi => la _ _ (h.l1 i hi) (h.off i hi db (by omega)).1 (h.off i hi sb (by omega)).1, fun i hi => la _ _ (h.l2 i hi) (h.off i hi db (by omega)).2 (h.off i hi sb (by omega)).2, h.small, ⟨o1, o2, o3, by simp [World.setCell]; exact o4⟩,
    h.way.kept fun k hk => bk k (by have := (h.way.lt k hk).1; omega) (by have := (h.way.lt k hk).1; omega), h.off, h.offw, (h.below.setCell (p := ⟨db, to, none⟩) (show w0.heap.size ≤ db by omega) _).setCell (p := ⟨sb, to, none⟩) (show w0.heap.size ≤ sb by omega) _⟩
  · intro i hi
    by_cases e : i = to
    · subst e; simp only [Vt.upd_self]; exact World.cell?_setCell_same _ _ _ ((ss i).trans (h.t i hi))
    · simp only [Vt.upd_ne _ _ e]; exact set_keeps ((ss i).trans (h.t i hi)) (by omega)
  · intro i hi
    rw [sd]
    by_cases e : i = to
    · subst e; simp only [Vt.upd_self]; exact World.cell?_setCell_same _ _ _ (h.d i hi)
    · simp only [Vt.upd_ne _ _ e]; exact set_keeps (h.d i hi) (by omega)
end Go.Proofs.Ytlekbbpancaenaa
