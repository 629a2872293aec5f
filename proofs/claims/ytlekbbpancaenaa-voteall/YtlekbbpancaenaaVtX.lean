/- The document's own echo: nine cells in a box, and what comes of an echo. -/
import Derived.Test.YtlekbbpancaenaaVtP
import Derived.Test.YtlekbbpancaenaaVtW
namespace Go.Proofs.Ytlekbbpancaenaa
open Go.RowKit Go.Shelf

/-- A block of nine cells. -/
def X9 (w : World) (b : Nat) (v0 v1 v2 v3 v4 v5 v6 v7 v8 : Value) : Prop := w.heap[b]? = some (.cells #[v0, v1, v2, v3, v4, v5, v6, v7, v8] 43 (0, 0))
theorem X9.lt {w : World} {b : Nat} {v0 v1 v2 v3 v4 v5 v6 v7 v8 : Value} (h : X9 w b v0 v1 v2 v3 v4 v5 v6 v7 v8) : b < w.heap.size := (Array.getElem?_eq_some_iff.1 h).1
theorem X9.later {w w' : World} {b : Nat} {v0 v1 v2 v3 v4 v5 v6 v7 v8 : Value} (h : X9 w b v0 v1 v2 v3 v4 v5 v6 v7 v8) (hb : Below w.heap.size w w') : X9 w' b v0 v1 v2 v3 v4 v5 v6 v7 v8 := (hb.block b h.lt).trans h
theorem X9.new (w : World) (v0 v1 v2 v3 v4 v5 v6 v7 v8 : Value) : X9 (w.alloc (.cells #[v0, v1, v2, v3, v4, v5, v6, v7, v8] 43)) w.heap.size v0 v1 v2 v3 v4 v5 v6 v7 v8 := heap_alloc_new w _
theorem X9.alloc {w : World} {b : Nat} {v0 v1 v2 v3 v4 v5 v6 v7 v8 : Value} (h : X9 w b v0 v1 v2 v3 v4 v5 v6 v7 v8) (o : Obj) : X9 (w.alloc o) b v0 v1 v2 v3 v4 v5 v6 v7 v8 := h.later ((Below.refl _ w).alloc (Nat.le_refl _) o)
theorem X9.cells {w : World} {b : Nat} {v0 v1 v2 v3 v4 v5 v6 v7 v8 : Value} (h : X9 w b v0 v1 v2 v3 v4 v5 v6 v7 v8) :
    w.cell? ⟨b, 0, none⟩ = some v0 ∧ w.cell? ⟨b, 1, none⟩ = some v1 ∧ w.cell? ⟨b, 2, none⟩ = some v2 ∧ w.cell? ⟨b, 3, none⟩ = some v3 ∧ w.cell? ⟨b, 4, none⟩ = some v4 ∧ w.cell? ⟨b, 5, none⟩ = some v5 ∧ w.cell? ⟨b, 6, none⟩ = some v6 ∧ w.cell? ⟨b, 7, none⟩ = some v7 ∧ w.cell? ⟨b, 8, none⟩ = some v8 :=
  ⟨cell_of_row w b 0 _ 43 _ h, cell_of_row w b 1 _ 43 _ h, cell_of_row w b 2 _ 43 _ h, cell_of_row w b 3 _ 43 _ h, cell_of_row w b 4 _ 43 _ h, cell_of_row w b 5 _ 43 _ h, cell_of_row w b 6 _ 43 _ h, cell_of_row w b 7 _ 43 _ h, cell_of_row w b 8 _ 43 _ h⟩
theorem X9.frozen {w : World} {b : Nat} {v0 v1 v2 v3 v4 v5 v6 v7 v8 : Value} (h : X9 w b v0 v1 v2 v3 v4 v5 v6 v7 v8) (i : Nat) : w.frozen? ⟨b, i, none⟩ = false := frozen_of_row w b i _ 43 h
theorem X9.far {w : World} {b b' j : Nat} {v0 v1 v2 v3 v4 v5 v6 v7 v8 : Value} (h : X9 w b v0 v1 v2 v3 v4 v5 v6 v7 v8) (hne : b ≠ b') (v : Value) : X9 (w.setCell ⟨b', j, none⟩ v) b v0 v1 v2 v3 v4 v5 v6 v7 v8 := (row_far hne v).trans h
/-- Nine cells stored. -/
def S9 (w : World) (b : Nat) (u0 u1 u2 u3 u4 u5 u6 u7 u8 : Value) : World :=
  ((((((((w.setCell ⟨b, 0, none⟩ u0).setCell ⟨b, 1, none⟩ u1).setCell ⟨b, 2, none⟩ u2).setCell ⟨b, 3, none⟩ u3).setCell ⟨b, 4, none⟩ u4).setCell ⟨b, 5, none⟩ u5).setCell ⟨b, 6, none⟩ u6).setCell ⟨b, 7, none⟩ u7).setCell ⟨b, 8, none⟩ u8
theorem X9.set {w : World} {b : Nat} {v0 v1 v2 v3 v4 v5 v6 v7 v8 : Value} (h : X9 w b v0 v1 v2 v3 v4 v5 v6 v7 v8) (u0 u1 u2 u3 u4 u5 u6 u7 u8 : Value) : X9 (S9 w b u0 u1 u2 u3 u4 u5 u6 u7 u8) b u0 u1 u2 u3 u4 u5 u6 u7 u8 := by
  have h0 : (w.setCell ⟨b, 0, none⟩ u0).heap[b]? = some (.cells #[u0, v1, v2, v3, v4, v5, v6, v7, v8] 43 (0, 0)) := row_set (j := 0) h u0
  have h1 : ((w.setCell ⟨b, 0, none⟩ u0).setCell ⟨b, 1, none⟩ u1).heap[b]? = some (.cells #[u0, u1, v2, v3, v4, v5, v6, v7, v8] 43 (0, 0)) := row_set (j := 1) h0 u1
  have h2 : (((w.setCell ⟨b, 0, none⟩ u0).setCell ⟨b, 1, none⟩ u1).setCell ⟨b, 2, none⟩ u2).heap[b]? = some (.cells #[u0, u1, u2, v3, v4, v5, v6, v7, v8] 43 (0, 0)) := row_set (j := 2) h1 u2
  have h3 : ((((w.setCell ⟨b, 0, none⟩ u0).setCell ⟨b, 1, none⟩ u1).setCell ⟨b, 2, none⟩ u2).setCell ⟨b, 3, none⟩ u3).heap[b]? = some (.cells #[u0, u1, u2, u3, v4, v5, v6, v7, v8] 43 (0, 0)) := row_set (j := 3) h2 u3
  have h4 : (((((w.setCell ⟨b, 0, none⟩ u0).setCell ⟨b, 1, none⟩ u1).setCell ⟨b, 2, none⟩ u2).setCell ⟨b, 3, none⟩ u3).setCell ⟨b, 4, none⟩ u4).heap[b]? = some (.cells #[u0, u1, u2, u3, u4, v5, v6, v7, v8] 43 (0, 0)) := row_set (j := 4) h3 u4
  have h5 : ((((((w.setCell ⟨b, 0, none⟩ u0).setCell ⟨b, 1, none⟩ u1).setCell ⟨b, 2, none⟩ u2).setCell ⟨b, 3, none⟩ u3).setCell ⟨b, 4, none⟩ u4).setCell ⟨b, 5, none⟩ u5).heap[b]? = some (.cells #[u0, u1, u2, u3, u4, u5, v6, v7, v8] 43 (0, 0)) := row_set (j := 5) h4 u5
  have h6 : (((((((w.setCell ⟨b, 0, none⟩ u0).setCell ⟨b, 1, none⟩ u1).setCell ⟨b, 2, none⟩ u2).setCell ⟨b, 3, none⟩ u3).setCell ⟨b, 4, none⟩ u4).setCell ⟨b, 5, none⟩ u5).setCell ⟨b, 6, none⟩ u6).heap[b]? = some (.cells #[u0, u1, u2, u3, u4, u5, u6, v7, v8] 43 (0, 0)) := row_set (j := 6) h5 u6
  have h7 : ((((((((w.setCell ⟨b, 0, none⟩ u0).setCell ⟨b, 1, none⟩ u1).setCell ⟨b, 2, none⟩ u2).setCell ⟨b, 3, none⟩ u3).setCell ⟨b, 4, none⟩ u4).setCell ⟨b, 5, none⟩ u5).setCell ⟨b, 6, none⟩ u6).setCell ⟨b, 7, none⟩ u7).heap[b]? = some (.cells #[u0, u1, u2, u3, u4, u5, u6, u7, v8] 43 (0, 0)) := row_set (j := 7) h6 u7
  have h8 : (((((((((w.setCell ⟨b, 0, none⟩ u0).setCell ⟨b, 1, none⟩ u1).setCell ⟨b, 2, none⟩ u2).setCell ⟨b, 3, none⟩ u3).setCell ⟨b, 4, none⟩ u4).setCell ⟨b, 5, none⟩ u5).setCell ⟨b, 6, none⟩ u6).setCell ⟨b, 7, none⟩ u7).setCell ⟨b, 8, none⟩ u8).heap[b]? = some (.cells #[u0, u1, u2, u3, u4, u5, u6, u7, u8] 43 (0, 0)) := row_set (j := 8) h7 u8
  exact h8
theorem X9.read {w : World} {b : Nat} {v0 v1 v2 v3 v4 v5 v6 v7 v8 : Value} (h : X9 w b v0 v1 v2 v3 v4 v5 v6 v7 v8) (u0 u1 u2 u3 u4 u5 u6 u7 u8 : Value) :
    (((((((((w.setCell ⟨b, 0, none⟩ u0).setCell ⟨b, 1, none⟩ u1).setCell ⟨b, 2, none⟩ u2).setCell ⟨b, 3, none⟩ u3).setCell ⟨b, 4, none⟩ u4).setCell ⟨b, 5, none⟩ u5).setCell ⟨b, 6, none⟩ u6).setCell ⟨b, 7, none⟩ u7).setCell ⟨b, 8, none⟩ u8).cell? ⟨b, 0, none⟩ = some u0 ∧
    (((((((((w.setCell ⟨b, 0, none⟩ u0).setCell ⟨b, 1, none⟩ u1).setCell ⟨b, 2, none⟩ u2).setCell ⟨b, 3, none⟩ u3).setCell ⟨b, 4, none⟩ u4).setCell ⟨b, 5, none⟩ u5).setCell ⟨b, 6, none⟩ u6).setCell ⟨b, 7, none⟩ u7).setCell ⟨b, 8, none⟩ u8).cell? ⟨b, 1, none⟩ = some u1 ∧
    (((((((((w.setCell ⟨b, 0, none⟩ u0).setCell ⟨b, 1, none⟩ u1).setCell ⟨b, 2, none⟩ u2).setCell ⟨b, 3, none⟩ u3).setCell ⟨b, 4, none⟩ u4).setCell ⟨b, 5, none⟩ u5).setCell ⟨b, 6, none⟩ u6).setCell ⟨b, 7, none⟩ u7).setCell ⟨b, 8, none⟩ u8).cell? ⟨b, 2, none⟩ = some u2 ∧
    (((((((((w.setCell ⟨b, 0, none⟩ u0).setCell ⟨b, 1, none⟩ u1).setCell ⟨b, 2, none⟩ u2).setCell ⟨b, 3, none⟩ u3).setCell ⟨b, 4, none⟩ u4).setCell ⟨b, 5, none⟩ u5).setCell ⟨b, 6, none⟩ u6).setCell ⟨b, 7, none⟩ u7).setCell ⟨b, 8, none⟩ u8).cell? ⟨b, 3, none⟩ = some u3 ∧
    (((((((((w.setCell ⟨b, 0, none⟩ u0).setCell ⟨b, 1, none⟩ u1).setCell ⟨b, 2, none⟩ u2).setCell ⟨b, 3, none⟩ u3).setCell ⟨b, 4, none⟩ u4).setCell ⟨b, 5, none⟩ u5).setCell ⟨b, 6, none⟩ u6).setCell ⟨b, 7, none⟩ u7).setCell ⟨b, 8, none⟩ u8).cell? ⟨b, 4, none⟩ = some u4 ∧
    (((((((((w.setCell ⟨b, 0, none⟩ u0).setCell ⟨b, 1, none⟩ u1).setCell ⟨b, 2, none⟩ u2).setCell ⟨b, 3, none⟩ u3).setCell ⟨b, 4, none⟩ u4).setCell ⟨b, 5, none⟩ u5).setCell ⟨b, 6, none⟩ u6).setCell ⟨b, 7, none⟩ u7).setCell ⟨b, 8, none⟩ u8).cell? ⟨b, 5, none⟩ = some u5 ∧
    (((((((((w.setCell ⟨b, 0, none⟩ u0).setCell ⟨b, 1, none⟩ u1).setCell ⟨b, 2, none⟩ u2).setCell ⟨b, 3, none⟩ u3).setCell ⟨b, 4, none⟩ u4).setCell ⟨b, 5, none⟩ u5).setCell ⟨b, 6, none⟩ u6).setCell ⟨b, 7, none⟩ u7).setCell ⟨b, 8, none⟩ u8).cell? ⟨b, 6, none⟩ = some u6 ∧
    (((((((((w.setCell ⟨b, 0, none⟩ u0).setCell ⟨b, 1, none⟩ u1).setCell ⟨b, 2, none⟩ u2).setCell ⟨b, 3, none⟩ u3).setCell ⟨b, 4, none⟩ u4).setCell ⟨b, 5, none⟩ u5).setCell ⟨b, 6, none⟩ u6).setCell ⟨b, 7, none⟩ u7).setCell ⟨b, 8, none⟩ u8).cell? ⟨b, 7, none⟩ = some u7 ∧
    (((((((((w.setCell ⟨b, 0, none⟩ u0).setCell ⟨b, 1, none⟩ u1).setCell ⟨b, 2, none⟩ u2).setCell ⟨b, 3, none⟩ u3).setCell ⟨b, 4, none⟩ u4).setCell ⟨b, 5, none⟩ u5).setCell ⟨b, 6, none⟩ u6).setCell ⟨b, 7, none⟩ u7).setCell ⟨b, 8, none⟩ u8).cell? ⟨b, 8, none⟩ = some u8 :=
  (h.set u0 u1 u2 u3 u4 u5 u6 u7 u8).cells
theorem below_s9 {B b : Nat} {w w' : World} (h : Below B w w') (hb : B ≤ b) (u0 u1 u2 u3 u4 u5 u6 u7 u8 : Value) : Below B w (S9 w' b u0 u1 u2 u3 u4 u5 u6 u7 u8) :=
  (((((((((h.setCell (p := ⟨b, 0, none⟩) hb _).setCell (p := ⟨b, 1, none⟩) hb _).setCell (p := ⟨b, 2, none⟩) hb _).setCell (p := ⟨b, 3, none⟩) hb _).setCell (p := ⟨b, 4, none⟩) hb _).setCell (p := ⟨b, 5, none⟩) hb _).setCell (p := ⟨b, 6, none⟩) hb _).setCell (p := ⟨b, 7, none⟩) hb _).setCell (p := ⟨b, 8, none⟩) hb _)
theorem s9_block (w : World) {b g : Nat} (h : g ≠ b) (u0 u1 u2 u3 u4 u5 u6 u7 u8 : Value) : (S9 w b u0 u1 u2 u3 u4 u5 u6 u7 u8).heap[g]? = w.heap[g]? := by
  unfold S9
  rw [row_far h, row_far h, row_far h, row_far h, row_far h, row_far h, row_far h, row_far h, row_far h]

/-- Ballots don't lie in a block. -/
def Off (b : Nat) (a : Option Addr) {A : Type} (l : List A) : Prop := ∀ ad, a = some ad → ad.block ≠ b ∨ l = []
theorem at_off {w : World} {a : Option Addr} {l : Vt.Bal} (h : Vt.At w a l) {b : Nat} (hb : w.heap.size ≤ b) : Off b a l := by
  intro ad e
  rcases h with rfl | ⟨g, off, rfl, hc⟩
  · exact .inr rfl
  · cases l with
    | nil => exact .inr rfl
    | cons d l =>
      obtain rfl := Option.some.inj e
      have := Vt.At.block hc
      refine .inl ?_
      show g ≠ b
      omega
theorem off_fr {B b : Nat} {a : Option Addr} {A : Type} {l : List A} (h : Fr B a) (hb : b < B) : Off b a l := fun ad e => .inl (by have := h ad e; omega)
theorem at_block {w w' : World} {a : Option Addr} {l : Vt.Bal} {b : Nat} (h : Vt.At w a l) (hf : Off b a l) (hB : ∀ g, g ≠ b → w'.heap[g]? = w.heap[g]?) : Vt.At w' a l := by
  rcases h with rfl | ⟨g, off, rfl, hc⟩
  · exact .inl rfl
  · rcases hf _ rfl with hne | rfl
    · exact .inr ⟨g, off, rfl, fun j u hu => (World.cell?_of_block (hB g hne)).trans (hc j u hu)⟩
    · exact .inl rfl
theorem atO_block {w w' : World} {a : Option Addr} {l : List (Nat × ByteArray)} {b : Nat} (h : AtO w a l) (hf : Off b a l) (hB : ∀ g, g ≠ b → w'.heap[g]? = w.heap[g]?) : AtO w' a l := by
  rcases h with rfl | ⟨g, off, rfl, hc⟩
  · exact .inl rfl
  · rcases hf _ rfl with hne | rfl
    · exact .inr ⟨g, off, rfl, fun j k x hx => ⟨(World.cell?_of_block (hB g hne)).trans (hc j k x hx).1, (World.cell?_of_block (hB g hne)).trans (hc j k x hx).2⟩⟩
    · exact .inl rfl

/-- What the document's own functions answer: what comes of a vote, in nine cells. -/
def RTold (w : World) (a1 a2 : Option Addr) (c : Vt.Cs) (t : Vt.Told) (z : Ending) (w' : World) : Prop :=
  ∃ b1 k1 b2 k2 ao co, z = .returned (.agg #[.bool t.c.echoed, .bool t.c.readied, .bool t.c.done, .slice b1 t.c.echoes.length k1, .slice b2 t.c.readies.length k2, .slice ao t.outs.length co, .string t.body, .bool t.is, .int .i64 (t.e : Int)]) ∧
    Aside (Vt.At w' b1 t.c.echoes ∧ Vt.At w' b2 t.c.readies ∧ AtO w' ao t.outs ∧ Below w.heap.size w w' ∧ Fr w.heap.size ao ∧ ∀ P, P < w.heap.size → Off P a1 c.echoes → Off P a2 c.readies → Off P b1 t.c.echoes ∧ Off P b2 t.c.readies)
theorem told_end {w V : World} {a1 a2 b1 b2 ao : Option Addr} {k1 k2 co : Nat} {c : Vt.Cs} {t : Vt.Told} {rb : Nat} (hrb : w.heap.size ≤ rb) (hB : Below w.heap.size w V) (h1 : Vt.At V b1 t.c.echoes) (h2 : Vt.At V b2 t.c.readies) (h3 : AtO V ao t.outs) (f3 : Fr w.heap.size ao)
    (o1 : Off rb b1 t.c.echoes) (o2 : Off rb b2 t.c.readies) (o3 : Off rb ao t.outs) (ho : ∀ P, P < w.heap.size → Off P a1 c.echoes → Off P a2 c.readies → Off P b1 t.c.echoes ∧ Off P b2 t.c.readies) :
    RTold w a1 a2 c t (.returned (.agg #[.bool t.c.echoed, .bool t.c.readied, .bool t.c.done, .slice b1 t.c.echoes.length k1, .slice b2 t.c.readies.length k2, .slice ao t.outs.length co, .string t.body, .bool t.is, .int .i64 (t.e : Int)]))
      (S9 V rb (.bool t.c.echoed) (.bool t.c.readied) (.bool t.c.done) (.slice b1 t.c.echoes.length k1) (.slice b2 t.c.readies.length k2) (.slice ao t.outs.length co) (.string t.body) (.bool t.is) (.int .i64 (t.e : Int))) :=
  ⟨b1, k1, b2, k2, ao, co, rfl, at_block h1 o1 fun _ hg => s9_block V hg _ _ _ _ _ _ _ _ _, at_block h2 o2 fun _ hg => s9_block V hg _ _ _ _ _ _ _ _ _, atO_block h3 o3 fun _ hg => s9_block V hg _ _ _ _ _ _ _ _ _, below_s9 hB hrb _ _ _ _ _ _ _ _ _, f3, ho⟩
/-- With an error: the case as it was. -/
theorem told_err {w V : World} {a1 a2 : Option Addr} {c1 c2 : Nat} {c : Vt.Cs} (q : Nat) (h : CsAt w c a1 a2) (hB : Below w.heap.size w V) :
    RTold w a1 a2 c (Vt.err c q) (.returned (.agg #[.bool c.echoed, .bool c.readied, .bool c.done, .slice a1 c.echoes.length c1, .slice a2 c.readies.length c2, .slice none 0 0, .string ⟨#[]⟩, .bool false, .int .i64 (q : Int)]))
      (S9 V (w.heap.size + 1) (.bool c.echoed) (.bool c.readied) (.bool c.done) (.slice a1 c.echoes.length c1) (.slice a2 c.readies.length c2) (.slice none 0 0) (.string ⟨#[]⟩) (.bool false) (.int .i64 (q : Int))) :=
  told_end (t := Vt.err c q) (b1 := a1) (b2 := a2) (ao := none) (k1 := c1) (k2 := c2) (co := 0) (by omega) hB (h.e.later hB) (h.r.later hB) (.inl rfl) (Fr.none _) (at_off h.e (by omega)) (at_off h.r (by omega)) (fun _ e => nomatch e) (fun _ _ x y => ⟨x, y⟩)

/-- The two boxes of a function of the document's: the case, and the answer. -/
structure RBox (w V : World) (s0 s1 s2 s3 s4 : Value) : Prop where
  c : X5 V w.heap.size 24 s0 s1 s2 s3 s4
  r : X9 V (w.heap.size + 1) (.bool false) (.bool false) (.bool false) (.slice none 0 0) (.slice none 0 0) (.slice none 0 0) (.string ⟨#[]⟩) (.bool false) (.int .i64 0)
  below : Below w.heap.size w V
theorem RBox.later {w V V' : World} {s0 s1 s2 s3 s4 : Value} (h : RBox w V s0 s1 s2 s3 s4) (hb : Below V.heap.size V V') : RBox w V' s0 s1 s2 s3 s4 := ⟨h.c.later hb, h.r.later hb, below_step h.below hb⟩
theorem rbox_new (w : World) (s0 s1 s2 s3 s4 : Value) : RBox w ((w.alloc (.cells #[s0, s1, s2, s3, s4] 24)).alloc (.cells #[.bool false, .bool false, .bool false, .slice none 0 0, .slice none 0 0, .slice none 0 0, .string ⟨#[]⟩, .bool false, .int .i64 0] 43)) s0 s1 s2 s3 s4 := by
  refine ⟨(X5.new w 24 _ _ _ _ _).alloc _, ?_, ((Below.refl _ w).alloc (Nat.le_refl _) _).alloc (by simp) _⟩
  have := X9.new (w.alloc (.cells #[s0, s1, s2, s3, s4] 24)) (.bool false) (.bool false) (.bool false) (.slice none 0 0) (.slice none 0 0) (.slice none 0 0) (.string ⟨#[]⟩) (.bool false) (.int .i64 0)
  rw [World.size_alloc] at this
  exact this
theorem RBox.ten {w V : World} {s0 s1 s2 s3 s4 : Value} (h : RBox w V s0 s1 s2 s3 s4) : w.heap.size + 1 < V.heap.size := h.r.lt

set_option maxHeartbeats 8000000 in
set_option maxRecDepth 100000 in
theorem recho_old (c : Vt.Cs) (a1 a2 : Option Addr) (c1 c2 n id : Nat) (x : ByteArray) (w : World) (h : CsAt w c a1 a2) (h8 : id < 256) (hv : Vt.votedB c.echoes id = true) :
    Calls Try.prog 41 #[.agg #[.bool c.echoed, .bool c.readied, .bool c.done, .slice a1 c.echoes.length c1, .slice a2 c.readies.length c2], .int .i64 (n : Nat), .int .u8 (id : Nat), .string x] w (RTold w a1 a2 c (Vt.err c 6)) := by
  have VT : Aside (∀ W, Below w.heap.size w W → Calls Try.prog 62 #[.slice a1 c.echoes.length c1, .int .u8 (id : Nat)] W fun e w' => e = .returned (.bool true) ∧ w' = W) := fun W hb => by
    have := rvoted_any a1 c1 c.echoes id W (h.e.later hb) h.small.1 (by have := h.n1; omega) h8
    rw [hv] at this; exact this
  have RT : Aside (∀ V, Below w.heap.size w V → _) := fun V hb => told_err (V := V) (c1 := c1) (c2 := c2) 6 h hb
  have X0 : Aside (RBox w _ (.bool c.echoed) (.bool c.readied) (.bool c.done) (.slice a1 c.echoes.length c1) (.slice a2 c.readies.length c2)) := rbox_new w (.bool c.echoed) (.bool c.readied) (.bool c.done) (.slice a1 c.echoes.length c1) (.slice a2 c.readies.length c2)
  generalize RTold w a1 a2 c (Vt.err c 6) = Q at *
  clear h hv h8
  generalize c.echoed = e at *
  generalize c.readied = r at *
  generalize c.done = d at *
  generalize c.echoes.length = m1 at *
  generalize c.readies.length = m2 at *
  go_enter Try.func41, Try.ntmps41
  go_wp2_with fail
  refine (VT.out _ X0.out.below).mono ?_
  rintro z V ⟨rfl, hw⟩
  have X1 : Aside (RBox w V (.bool e) (.bool r) (.bool d) (.slice a1 m1 c1) (.slice a2 m2 c2)) := by rw [hw]; exact X0.out
  have Q1 : Aside (Q _ _) := RT.out V X1.out.below
  clear hw X0 VT RT
  obtain ⟨y0, y1, y2, y3, y4⟩ := X1.out.c.cells
  have yl := X1.out.c.lt
  obtain ⟨z0, z1, z2, z3, z4, z5, z6, z7, z8⟩ := X1.out.r.cells
  have zf := X1.out.r.frozen
  have zl := X1.out.r.lt
  go_wp2
  refine ⟨rfl, _, ?_, Q1.out⟩
  obtain ⟨d0, d1, d2, d3, d4, d5, d6, d7, d8⟩ := X1.out.r.read (.bool e) (.bool r) (.bool d) (.slice a1 m1 c1) (.slice a2 m2 c2) (.slice none 0 0) (.string ⟨#[]⟩) (.bool false) (.int .i64 6)
  simp [results, Try.results41, go_sem, d0, d1, d2, d3, d4, d5, d6, d7, d8]

/-- Where a list of the answer comes from: it is the one that was given, or made anew. -/
def Src (w : World) (a : Option Addr) (l : Vt.Bal) (b : Option Addr) (l' : Vt.Bal) : Prop := (b = a ∧ l' = l) ∨ Fr (w.heap.size + 2) b
theorem Src.same (w : World) (a : Option Addr) (l : Vt.Bal) : Src w a l a l := .inl ⟨rfl, rfl⟩
theorem Src.off {w : World} {a b : Option Addr} {l l' : Vt.Bal} (h : Src w a l b l') {P : Nat} (hP : P < w.heap.size + 2) (ho : Off P a l) : Off P b l' := by
  rcases h with ⟨rfl, rfl⟩ | h
  · exact ho
  · exact off_fr h hP
theorem told_any {w V : World} {a1 a2 b1 b2 ao : Option Addr} {k1 k2 co : Nat} {c : Vt.Cs} {t : Vt.Told} (h : CsAt w c a1 a2) (hB : Below w.heap.size w V) (h1 : Vt.At V b1 t.c.echoes) (h2 : Vt.At V b2 t.c.readies) (h3 : AtO V ao t.outs)
    (s1 : Src w a1 c.echoes b1 t.c.echoes) (s2 : Src w a2 c.readies b2 t.c.readies) (f3 : Fr (w.heap.size + 2) ao) :
    RTold w a1 a2 c t (.returned (.agg #[.bool t.c.echoed, .bool t.c.readied, .bool t.c.done, .slice b1 t.c.echoes.length k1, .slice b2 t.c.readies.length k2, .slice ao t.outs.length co, .string t.body, .bool t.is, .int .i64 (t.e : Int)]))
      (S9 V (w.heap.size + 1) (.bool t.c.echoed) (.bool t.c.readied) (.bool t.c.done) (.slice b1 t.c.echoes.length k1) (.slice b2 t.c.readies.length k2) (.slice ao t.outs.length co) (.string t.body) (.bool t.is) (.int .i64 (t.e : Int))) :=
  told_end (by omega) hB h1 h2 h3 (f3.mono (by omega)) (s1.off (by omega) (at_off h.e (by omega))) (s2.off (by omega) (at_off h.r (by omega))) (off_fr f3 (by omega)) fun _ hP x y => ⟨s1.off (by omega) x, s2.off (by omega) y⟩
theorem set1_block (w : World) {b g j : Nat} (h : g ≠ b) (v : Value) : (w.setCell ⟨b, j, none⟩ v).heap[g]? = w.heap[g]? := row_far h v

/-- Behind with: the case's box with the new list, what is told so far in a box of its own. -/
structure RMid (w W : World) (tb : Nat) (s0 s1 s2 s3 s4 : Value) (g : Option Addr) (l' : Vt.Bal) : Prop where
  box : RBox w W s0 s1 s2 s3 s4
  t : X9 W tb s0 s1 s2 s3 s4 (.slice none 0 0) (.string ⟨#[]⟩) (.bool false) (.int .i64 0)
  at_ : Vt.At W g l'
  fr : Fr (w.heap.size + 2) g
  lt : w.heap.size + 1 < tb
theorem RMid.later {w W W' : World} {tb : Nat} {s0 s1 s2 s3 s4 : Value} {g : Option Addr} {l' : Vt.Bal} (h : RMid w W tb s0 s1 s2 s3 s4 g l') (hb : Below W.heap.size W W') : RMid w W' tb s0 s1 s2 s3 s4 g l' := ⟨h.box.later hb, h.t.later hb, h.at_.later hb, h.fr, h.lt⟩
theorem rmid3 {w V w2 : World} {s0 s1 s2 s3 s4 : Value} {g : Option Addr} {k n : Nat} {l' : Vt.Bal} (hX : RBox w V s0 s1 s2 s3 s4) (hb : Below V.heap.size V w2) (ho : w2.ownsRow V.heap.size 86 2 (.slice g n k) l'.length (Vt.balC l')) :
    RMid w ((w2.setCell ⟨w.heap.size, 3, none⟩ (.slice g n k)).alloc (.cells #[s0, s1, s2, .slice g n k, s4, .slice none 0 0, .string ⟨#[]⟩, .bool false, .int .i64 0] 43)) w2.heap.size s0 s1 s2 (.slice g n k) s4 g l' := by
  have X := hX.later hb
  have l1 := hX.r.lt
  have l2 := hb.size
  have fr : Fr V.heap.size g := fun ad e => by subst e; exact (ho.lt _ rfl).1
  have hg : (Value.slice g n k).ownBlock ≠ some w.heap.size := fun e => by have := (ho.lt _ e).1; omega
  obtain ⟨a', c', e1, -, hat⟩ := Vt.own_at (own_far (j := 3) ho hg (.slice g n k))
  have e2 := (Value.slice.inj e1).1
  subst e2
  have sz : (w2.setCell ⟨w.heap.size, 3, none⟩ (.slice g n k)).heap.size = w2.heap.size := by simp [World.setCell]
  have bs : Below w.heap.size w (w2.setCell ⟨w.heap.size, 3, none⟩ (.slice g n k)) := X.below.setCell (p := ⟨w.heap.size, 3, none⟩) (Nat.le_refl _) _
  have N := X9.new (w2.setCell ⟨w.heap.size, 3, none⟩ (.slice g n k)) s0 s1 s2 (.slice g n k) s4 (.slice none 0 0) (.string ⟨#[]⟩) (.bool false) (.int .i64 0)
  rw [sz] at N
  refine ⟨⟨?_, ?_, bs.alloc bs.size _⟩, N, hat.later ((Below.refl _ _).alloc (Nat.le_refl _) _), fr.mono (by omega), by omega⟩
  · exact X5.alloc (row_set (j := 3) X.c _) _
  · exact (X.r.far (by omega) _).alloc _
theorem rmid4 {w V w2 : World} {s0 s1 s2 s3 s4 : Value} {g : Option Addr} {k n : Nat} {l' : Vt.Bal} (hX : RBox w V s0 s1 s2 s3 s4) (hb : Below V.heap.size V w2) (ho : w2.ownsRow V.heap.size 86 2 (.slice g n k) l'.length (Vt.balC l')) :
    RMid w ((w2.setCell ⟨w.heap.size, 4, none⟩ (.slice g n k)).alloc (.cells #[s0, s1, s2, s3, .slice g n k, .slice none 0 0, .string ⟨#[]⟩, .bool false, .int .i64 0] 43)) w2.heap.size s0 s1 s2 s3 (.slice g n k) g l' := by
  have X := hX.later hb
  have l1 := hX.r.lt
  have l2 := hb.size
  have fr : Fr V.heap.size g := fun ad e => by subst e; exact (ho.lt _ rfl).1
  have hg : (Value.slice g n k).ownBlock ≠ some w.heap.size := fun e => by have := (ho.lt _ e).1; omega
  obtain ⟨a', c', e1, -, hat⟩ := Vt.own_at (own_far (j := 4) ho hg (.slice g n k))
  have e2 := (Value.slice.inj e1).1
  subst e2
  have sz : (w2.setCell ⟨w.heap.size, 4, none⟩ (.slice g n k)).heap.size = w2.heap.size := by simp [World.setCell]
  have bs : Below w.heap.size w (w2.setCell ⟨w.heap.size, 4, none⟩ (.slice g n k)) := X.below.setCell (p := ⟨w.heap.size, 4, none⟩) (Nat.le_refl _) _
  have N := X9.new (w2.setCell ⟨w.heap.size, 4, none⟩ (.slice g n k)) s0 s1 s2 s3 (.slice g n k) (.slice none 0 0) (.string ⟨#[]⟩) (.bool false) (.int .i64 0)
  rw [sz] at N
  refine ⟨⟨?_, ?_, bs.alloc bs.size _⟩, N, hat.later ((Below.refl _ _).alloc (Nat.le_refl _) _), fr.mono (by omega), by omega⟩
  · exact X5.alloc (row_set (j := 4) X.c _) _
  · exact (X.r.far (by omega) _).alloc _

set_option maxHeartbeats 8000000 in
set_option maxRecDepth 100000 in
theorem recho_no (c : Vt.Cs) (a1 a2 : Option Addr) (c1 c2 n id : Nat) (x : ByteArray) (w : World) (h : CsAt w c a1 a2) (h8 : id < 256) (hv : Vt.votedB c.echoes id = false) (l' : Vt.Bal) (hl' : Vt.withB c.echoes id x = l') (hg : ¬ (Cn.echoes n : Int) ≤ (Vt.sizeB l' x : Int)) :
    Calls Try.prog 41 #[.agg #[.bool c.echoed, .bool c.readied, .bool c.done, .slice a1 c.echoes.length c1, .slice a2 c.readies.length c2], .int .i64 (n : Nat), .int .u8 (id : Nat), .string x] w (RTold w a1 a2 c ⟨⟨c.echoed, c.readied, c.done, l', c.readies⟩, [], Vt.none, false, 0⟩) := by
  have VT : Aside (∀ W, Below w.heap.size w W → Calls Try.prog 62 #[.slice a1 c.echoes.length c1, .int .u8 (id : Nat)] W fun e w' => e = .returned (.bool false) ∧ w' = W) := fun W hb => by
    have := rvoted_any a1 c1 c.echoes id W (h.e.later hb) h.small.1 (by have := h.n1; omega) h8
    rw [hv] at this; exact this
  have WT : Aside (∀ W, Below w.heap.size w W → Calls Try.prog 63 #[.slice a1 c.echoes.length c1, .int .u8 (id : Nat), .string x] W (RWith W l')) := fun W hb => by
    have := rwithb_any a1 c1 c.echoes id x W (h.e.later hb) h.small.1 h.n1 h8
    rw [hl'] at this; exact this
  have LN : l'.length ≤ 1000 := by have := Vt.len_with c.echoes id x; have := h.n1; rw [hl'] at *; omega
  have SM : Vt.Small l' := by rw [← hl']; exact Vt.small_with h.small.1 id x
  have VO : Aside (∀ W g k, Vt.At W g l' → Calls Try.prog 64 #[.slice g l'.length k, .string x] W fun e w' => e = .returned (.int .i64 (Vt.sizeB l' x : Nat)) ∧ Below W.heap.size W w') := fun W g k hg => rvotes_any g k l' x W hg SM LN
  have EC : Aside (∀ W, Calls Try.prog 29 #[.int .i64 (n : Nat)] W fun e w' => e = .returned (.int .i64 (Cn.echoes n : Nat)) ∧ w' = W) := fun W => rechoes_any n W
  have X0 : Aside (RBox w _ (.bool c.echoed) (.bool c.readied) (.bool c.done) (.slice a1 c.echoes.length c1) (.slice a2 c.readies.length c2)) := rbox_new w (.bool c.echoed) (.bool c.readied) (.bool c.done) (.slice a1 c.echoes.length c1) (.slice a2 c.readies.length c2)
  have H0 : Aside (CsAt w c a1 a2) := h
  have RT : Aside (∀ V g k, Below w.heap.size w V → Vt.At V g l' → Fr (w.heap.size + 2) g → _) := fun (V : World) (g : Option Addr) (k : Nat) (hB : Below w.heap.size w V) (hg : Vt.At V g l') (fg : Fr (w.heap.size + 2) g) => told_any (k1 := k) (k2 := c2) (co := 0) (t := ⟨⟨c.echoed, c.readied, c.done, l', c.readies⟩, [], Vt.none, false, 0⟩) H0.out hB hg (H0.out.r.later hB) (.inl rfl) (.inr fg) (Src.same w a2 c.readies) (Fr.none _)
  generalize RTold w a1 a2 c _ = Q at RT ⊢
  clear h hv h8 hl' SM LN
  dsimp only [Vt.none, List.length_nil, List.length_cons] at RT
  clear H0
  generalize c.readied = r at *
  generalize Vt.sizeB l' x = sz at *
  generalize Cn.echoes n = ne at *
  generalize c.echoed = e at *
  generalize c.done = d at *
  generalize c.echoes.length = m1 at *
  generalize c.readies.length = m2 at *
  go_enter Try.func41, Try.ntmps41
  go_wp2_with fail
  refine (VT.out _ X0.out.below).mono ?_
  rintro z V ⟨rfl, hw⟩
  have X1 : Aside (RBox w V (.bool e) (.bool r) (.bool d) (.slice a1 m1 c1) (.slice a2 m2 c2)) := by rw [hw]; exact X0.out
  clear hw X0 VT
  obtain ⟨y0, y1, y2, y3, y4⟩ := X1.out.c.cells
  go_wp2_with fail
  refine (WT.out _ X1.out.below).mono ?_
  rintro z w2 ⟨g, k, rfl, ho, hb⟩
  have M0 : Aside (RMid w _ w2.heap.size (.bool e) (.bool r) (.bool d) (.slice g l'.length k) (.slice a2 m2 c2) g l') := rmid3 X1.out hb ho
  have X2 : Aside (RBox w w2 (.bool e) (.bool r) (.bool d) (.slice a1 m1 c1) (.slice a2 m2 c2)) := X1.out.later hb
  clear X1 WT hb ho y0 y1 y2 y3 y4
  obtain ⟨y0, y1, y2, y3, y4⟩ := X2.out.c.cells
  have yl := X2.out.c.lt
  have yf := X2.out.c.frozen
  go_wp2_with fail
  refine (?_ : ∀ W, RMid w W w2.heap.size (.bool e) (.bool r) (.bool d) (.slice g l'.length k) (.slice a2 m2 c2) g l' → Calls Try.prog 64 _ W _) _ M0.out
  intro W hM
  clear M0 X2 y0 y1 y2 y3 y4 yl yf
  generalize w2.heap.size = tb at hM ⊢
  refine (VO.out _ g k hM.at_).mono ?_
  rintro z w4 ⟨rfl, hb4⟩
  have M1 : Aside (RMid w w4 tb (.bool e) (.bool r) (.bool d) (.slice g l'.length k) (.slice a2 m2 c2) g l') := hM.later hb4
  clear hM hb4 VO
  go_wp2_with fail
  refine (EC.out _).mono ?_
  rintro z w5 ⟨rfl, hw⟩
  replace hw := hw.symm; subst hw
  clear EC
  obtain ⟨t0, t1, t2, t3, t4, t5, t6, t7, t8⟩ := M1.out.t.cells
  have Q1 : Aside (Q _ _) := RT.out w4 g k M1.out.box.below M1.out.at_ M1.out.fr
  have zf := M1.out.box.r.frozen
  have zl := M1.out.box.r.lt
  obtain ⟨z0, z1, z2, z3, z4, z5, z6, z7, z8⟩ := M1.out.box.r.cells
  have tl := M1.out.lt
  clear RT
  go_wp2
  refine ⟨rfl, _, ?_, Q1.out⟩
  obtain ⟨d0, d1, d2, d3, d4, d5, d6, d7, d8⟩ := M1.out.box.r.read (.bool e) (.bool r) (.bool d) (.slice g l'.length k) (.slice a2 m2 c2) (.slice none 0 0) (.string ⟨#[]⟩) (.bool false) (.int .i64 0)
  simp [results, Try.results41, go_sem, d0, d1, d2, d3, d4, d5, d6, d7, d8]

set_option maxHeartbeats 8000000 in
set_option maxRecDepth 100000 in
theorem recho_yes (c : Vt.Cs) (a1 a2 : Option Addr) (c1 c2 n id : Nat) (x : ByteArray) (w : World) (h : CsAt w c a1 a2) (h8 : id < 256) (hv : Vt.votedB c.echoes id = false) (l' : Vt.Bal) (hl' : Vt.withB c.echoes id x = l') (hg :  (Cn.echoes n : Int) ≤ (Vt.sizeB l' x : Int)) (hr : c.readied = true) :
    Calls Try.prog 41 #[.agg #[.bool c.echoed, .bool c.readied, .bool c.done, .slice a1 c.echoes.length c1, .slice a2 c.readies.length c2], .int .i64 (n : Nat), .int .u8 (id : Nat), .string x] w (RTold w a1 a2 c ⟨⟨c.echoed, true, c.done, l', c.readies⟩, [], Vt.none, false, 0⟩) := by
  have VT : Aside (∀ W, Below w.heap.size w W → Calls Try.prog 62 #[.slice a1 c.echoes.length c1, .int .u8 (id : Nat)] W fun e w' => e = .returned (.bool false) ∧ w' = W) := fun W hb => by
    have := rvoted_any a1 c1 c.echoes id W (h.e.later hb) h.small.1 (by have := h.n1; omega) h8
    rw [hv] at this; exact this
  have WT : Aside (∀ W, Below w.heap.size w W → Calls Try.prog 63 #[.slice a1 c.echoes.length c1, .int .u8 (id : Nat), .string x] W (RWith W l')) := fun W hb => by
    have := rwithb_any a1 c1 c.echoes id x W (h.e.later hb) h.small.1 h.n1 h8
    rw [hl'] at this; exact this
  have LN : l'.length ≤ 1000 := by have := Vt.len_with c.echoes id x; have := h.n1; rw [hl'] at *; omega
  have SM : Vt.Small l' := by rw [← hl']; exact Vt.small_with h.small.1 id x
  have VO : Aside (∀ W g k, Vt.At W g l' → Calls Try.prog 64 #[.slice g l'.length k, .string x] W fun e w' => e = .returned (.int .i64 (Vt.sizeB l' x : Nat)) ∧ Below W.heap.size W w') := fun W g k hg => rvotes_any g k l' x W hg SM LN
  have EC : Aside (∀ W, Calls Try.prog 29 #[.int .i64 (n : Nat)] W fun e w' => e = .returned (.int .i64 (Cn.echoes n : Nat)) ∧ w' = W) := fun W => rechoes_any n W
  have X0 : Aside (RBox w _ (.bool c.echoed) (.bool c.readied) (.bool c.done) (.slice a1 c.echoes.length c1) (.slice a2 c.readies.length c2)) := rbox_new w (.bool c.echoed) (.bool c.readied) (.bool c.done) (.slice a1 c.echoes.length c1) (.slice a2 c.readies.length c2)
  have H0 : Aside (CsAt w c a1 a2) := h
  have RT : Aside (∀ V g k, Below w.heap.size w V → Vt.At V g l' → Fr (w.heap.size + 2) g → _) := fun (V : World) (g : Option Addr) (k : Nat) (hB : Below w.heap.size w V) (hg : Vt.At V g l') (fg : Fr (w.heap.size + 2) g) => told_any (k1 := k) (k2 := c2) (co := 0) (t := ⟨⟨c.echoed, true, c.done, l', c.readies⟩, [], Vt.none, false, 0⟩) H0.out hB hg (H0.out.r.later hB) (.inl rfl) (.inr fg) (Src.same w a2 c.readies) (Fr.none _)
  generalize RTold w a1 a2 c _ = Q at RT ⊢
  clear h hv h8 hl' SM LN
  dsimp only [Vt.none, List.length_nil, List.length_cons] at RT
  clear H0
  rw [hr] at *
  clear hr
  generalize Vt.sizeB l' x = sz at *
  generalize Cn.echoes n = ne at *
  generalize c.echoed = e at *
  generalize c.done = d at *
  generalize c.echoes.length = m1 at *
  generalize c.readies.length = m2 at *
  go_enter Try.func41, Try.ntmps41
  go_wp2_with fail
  refine (VT.out _ X0.out.below).mono ?_
  rintro z V ⟨rfl, hw⟩
  have X1 : Aside (RBox w V (.bool e) (.bool true) (.bool d) (.slice a1 m1 c1) (.slice a2 m2 c2)) := by rw [hw]; exact X0.out
  clear hw X0 VT
  obtain ⟨y0, y1, y2, y3, y4⟩ := X1.out.c.cells
  go_wp2_with fail
  refine (WT.out _ X1.out.below).mono ?_
  rintro z w2 ⟨g, k, rfl, ho, hb⟩
  have M0 : Aside (RMid w _ w2.heap.size (.bool e) (.bool true) (.bool d) (.slice g l'.length k) (.slice a2 m2 c2) g l') := rmid3 X1.out hb ho
  have X2 : Aside (RBox w w2 (.bool e) (.bool true) (.bool d) (.slice a1 m1 c1) (.slice a2 m2 c2)) := X1.out.later hb
  clear X1 WT hb ho y0 y1 y2 y3 y4
  obtain ⟨y0, y1, y2, y3, y4⟩ := X2.out.c.cells
  have yl := X2.out.c.lt
  have yf := X2.out.c.frozen
  go_wp2_with fail
  refine (?_ : ∀ W, RMid w W w2.heap.size (.bool e) (.bool true) (.bool d) (.slice g l'.length k) (.slice a2 m2 c2) g l' → Calls Try.prog 64 _ W _) _ M0.out
  intro W hM
  clear M0 X2 y0 y1 y2 y3 y4 yl yf
  generalize w2.heap.size = tb at hM ⊢
  refine (VO.out _ g k hM.at_).mono ?_
  rintro z w4 ⟨rfl, hb4⟩
  have M1 : Aside (RMid w w4 tb (.bool e) (.bool true) (.bool d) (.slice g l'.length k) (.slice a2 m2 c2) g l') := hM.later hb4
  clear hM hb4 VO
  go_wp2_with fail
  refine (EC.out _).mono ?_
  rintro z w5 ⟨rfl, hw⟩
  replace hw := hw.symm; subst hw
  clear EC
  obtain ⟨t0, t1, t2, t3, t4, t5, t6, t7, t8⟩ := M1.out.t.cells
  have RY : Aside (∀ W, _) := fun W => rready_yes e d false g a2 none l'.length m2 0 k c2 0 ⟨#[]⟩ x 0 W
  go_wp2_with fail
  refine (RY.out _).mono ?_
  rintro z w5 ⟨rfl, hb5⟩
  have M2 : Aside (RMid w w5 tb (.bool e) (.bool true) (.bool d) (.slice g l'.length k) (.slice a2 m2 c2) g l') := M1.out.later hb5
  have Q1 : Aside (Q _ _) := RT.out w5 g k M2.out.box.below M2.out.at_ M2.out.fr
  clear RY hb5 M1 t0 t1 t2 t3 t4 t5 t6 t7 t8 RT
  have zf := M2.out.box.r.frozen
  have zl := M2.out.box.r.lt
  obtain ⟨z0, z1, z2, z3, z4, z5, z6, z7, z8⟩ := M2.out.box.r.cells
  go_wp2
  refine ⟨rfl, _, ?_, Q1.out⟩
  obtain ⟨d0, d1, d2, d3, d4, d5, d6, d7, d8⟩ := M2.out.box.r.read (.bool e) (.bool true) (.bool d) (.slice g l'.length k) (.slice a2 m2 c2) (.slice none 0 0) (.string ⟨#[]⟩) (.bool false) (.int .i64 0)
  simp [results, Try.results41, go_sem, d0, d1, d2, d3, d4, d5, d6, d7, d8]

set_option maxHeartbeats 8000000 in
set_option maxRecDepth 100000 in
theorem recho_now (c : Vt.Cs) (a1 a2 : Option Addr) (c1 c2 n id : Nat) (x : ByteArray) (w : World) (h : CsAt w c a1 a2) (h8 : id < 256) (hv : Vt.votedB c.echoes id = false) (l' : Vt.Bal) (hl' : Vt.withB c.echoes id x = l') (hg :  (Cn.echoes n : Int) ≤ (Vt.sizeB l' x : Int)) (hr : c.readied = false) :
    Calls Try.prog 41 #[.agg #[.bool c.echoed, .bool c.readied, .bool c.done, .slice a1 c.echoes.length c1, .slice a2 c.readies.length c2], .int .i64 (n : Nat), .int .u8 (id : Nat), .string x] w (RTold w a1 a2 c ⟨⟨c.echoed, true, c.done, l', c.readies⟩, [(3, x)], Vt.none, false, 0⟩) := by
  have VT : Aside (∀ W, Below w.heap.size w W → Calls Try.prog 62 #[.slice a1 c.echoes.length c1, .int .u8 (id : Nat)] W fun e w' => e = .returned (.bool false) ∧ w' = W) := fun W hb => by
    have := rvoted_any a1 c1 c.echoes id W (h.e.later hb) h.small.1 (by have := h.n1; omega) h8
    rw [hv] at this; exact this
  have WT : Aside (∀ W, Below w.heap.size w W → Calls Try.prog 63 #[.slice a1 c.echoes.length c1, .int .u8 (id : Nat), .string x] W (RWith W l')) := fun W hb => by
    have := rwithb_any a1 c1 c.echoes id x W (h.e.later hb) h.small.1 h.n1 h8
    rw [hl'] at this; exact this
  have LN : l'.length ≤ 1000 := by have := Vt.len_with c.echoes id x; have := h.n1; rw [hl'] at *; omega
  have SM : Vt.Small l' := by rw [← hl']; exact Vt.small_with h.small.1 id x
  have VO : Aside (∀ W g k, Vt.At W g l' → Calls Try.prog 64 #[.slice g l'.length k, .string x] W fun e w' => e = .returned (.int .i64 (Vt.sizeB l' x : Nat)) ∧ Below W.heap.size W w') := fun W g k hg => rvotes_any g k l' x W hg SM LN
  have EC : Aside (∀ W, Calls Try.prog 29 #[.int .i64 (n : Nat)] W fun e w' => e = .returned (.int .i64 (Cn.echoes n : Nat)) ∧ w' = W) := fun W => rechoes_any n W
  have X0 : Aside (RBox w _ (.bool c.echoed) (.bool c.readied) (.bool c.done) (.slice a1 c.echoes.length c1) (.slice a2 c.readies.length c2)) := rbox_new w (.bool c.echoed) (.bool c.readied) (.bool c.done) (.slice a1 c.echoes.length c1) (.slice a2 c.readies.length c2)
  have H0 : Aside (CsAt w c a1 a2) := h
  have RT : Aside (∀ V g k ao co, Below w.heap.size w V → Vt.At V g l' → Fr (w.heap.size + 2) g → AtO V ao [(3, x)] → Fr (w.heap.size + 2) ao → _) := fun (V : World) (g : Option Addr) (k : Nat) (ao : Option Addr) (co : Nat) (hB : Below w.heap.size w V) (hg : Vt.At V g l') (fg : Fr (w.heap.size + 2) g) (h3 : AtO V ao [(3, x)]) (f3 : Fr (w.heap.size + 2) ao) => told_any (k1 := k) (k2 := c2) (co := co) (t := ⟨⟨c.echoed, true, c.done, l', c.readies⟩, [(3, x)], Vt.none, false, 0⟩) H0.out hB hg (H0.out.r.later hB) h3 (.inr fg) (Src.same w a2 c.readies) f3
  generalize RTold w a1 a2 c _ = Q at RT ⊢
  clear h hv h8 hl' SM LN
  dsimp only [Vt.none, List.length_nil, List.length_cons] at RT
  clear H0
  rw [hr] at *
  clear hr
  generalize Vt.sizeB l' x = sz at *
  generalize Cn.echoes n = ne at *
  generalize c.echoed = e at *
  generalize c.done = d at *
  generalize c.echoes.length = m1 at *
  generalize c.readies.length = m2 at *
  go_enter Try.func41, Try.ntmps41
  go_wp2_with fail
  refine (VT.out _ X0.out.below).mono ?_
  rintro z V ⟨rfl, hw⟩
  have X1 : Aside (RBox w V (.bool e) (.bool false) (.bool d) (.slice a1 m1 c1) (.slice a2 m2 c2)) := by rw [hw]; exact X0.out
  clear hw X0 VT
  obtain ⟨y0, y1, y2, y3, y4⟩ := X1.out.c.cells
  go_wp2_with fail
  refine (WT.out _ X1.out.below).mono ?_
  rintro z w2 ⟨g, k, rfl, ho, hb⟩
  have M0 : Aside (RMid w _ w2.heap.size (.bool e) (.bool false) (.bool d) (.slice g l'.length k) (.slice a2 m2 c2) g l') := rmid3 X1.out hb ho
  have X2 : Aside (RBox w w2 (.bool e) (.bool false) (.bool d) (.slice a1 m1 c1) (.slice a2 m2 c2)) := X1.out.later hb
  clear X1 WT hb ho y0 y1 y2 y3 y4
  obtain ⟨y0, y1, y2, y3, y4⟩ := X2.out.c.cells
  have yl := X2.out.c.lt
  have yf := X2.out.c.frozen
  go_wp2_with fail
  refine (?_ : ∀ W, RMid w W w2.heap.size (.bool e) (.bool false) (.bool d) (.slice g l'.length k) (.slice a2 m2 c2) g l' → Calls Try.prog 64 _ W _) _ M0.out
  intro W hM
  clear M0 X2 y0 y1 y2 y3 y4 yl yf
  generalize w2.heap.size = tb at hM ⊢
  refine (VO.out _ g k hM.at_).mono ?_
  rintro z w4 ⟨rfl, hb4⟩
  have M1 : Aside (RMid w w4 tb (.bool e) (.bool false) (.bool d) (.slice g l'.length k) (.slice a2 m2 c2) g l') := hM.later hb4
  clear hM hb4 VO
  go_wp2_with fail
  refine (EC.out _).mono ?_
  rintro z w5 ⟨rfl, hw⟩
  replace hw := hw.symm; subst hw
  clear EC
  obtain ⟨t0, t1, t2, t3, t4, t5, t6, t7, t8⟩ := M1.out.t.cells
  have RN : Aside (∀ W, _) := fun W => rready_no e d g a2 l'.length m2 k c2 x W
  go_wp2_with fail
  refine (RN.out _).mono ?_
  rintro z w5 ⟨ao, co, rfl, h3, f3, hb5⟩
  have M2 : Aside (RMid w w5 tb (.bool e) (.bool false) (.bool d) (.slice g l'.length k) (.slice a2 m2 c2) g l') := M1.out.later hb5
  have Q1 : Aside (Q _ _) := RT.out w5 g k ao co M2.out.box.below M2.out.at_ M2.out.fr h3 (fun ad e => by have := f3 ad e; have := M1.out.box.ten; omega)
  clear RN hb5 M1 t0 t1 t2 t3 t4 t5 t6 t7 t8 RT h3 f3
  have zf := M2.out.box.r.frozen
  have zl := M2.out.box.r.lt
  obtain ⟨z0, z1, z2, z3, z4, z5, z6, z7, z8⟩ := M2.out.box.r.cells
  go_wp2
  refine ⟨rfl, _, ?_, Q1.out⟩
  obtain ⟨d0, d1, d2, d3, d4, d5, d6, d7, d8⟩ := M2.out.box.r.read (.bool e) (.bool true) (.bool d) (.slice g l'.length k) (.slice a2 m2 c2) (.slice ao 1 co) (.string ⟨#[]⟩) (.bool false) (.int .i64 0)
  simp [results, Try.results41, go_sem, d0, d1, d2, d3, d4, d5, d6, d7, d8]
end Go.Proofs.Ytlekbbpancaenaa
