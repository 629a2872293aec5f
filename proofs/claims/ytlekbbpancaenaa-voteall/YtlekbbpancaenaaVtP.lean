/- Cases carried over from one kind of ballots to the other: Theirs and Ours. -/
import Derived.Test.YtlekbbpancaenaaVtO
import Derived.Maps.AppendAt
namespace Go.Proofs.Ytlekbbpancaenaa
open Go.RowKit Go.Shelf

/-- A block of five cells, of whatever type. -/
def X5 (w : World) (b : Nat) (t : TypeId) (v0 v1 v2 v3 v4 : Value) : Prop := w.heap[b]? = some (.cells #[v0, v1, v2, v3, v4] t (0, 0))
theorem X5.lt {w : World} {b : Nat} {t : TypeId} {v0 v1 v2 v3 v4 : Value} (h : X5 w b t v0 v1 v2 v3 v4) : b < w.heap.size := (Array.getElem?_eq_some_iff.1 h).1
theorem X5.later {w w' : World} {b : Nat} {t : TypeId} {v0 v1 v2 v3 v4 : Value} (h : X5 w b t v0 v1 v2 v3 v4) (hb : Below w.heap.size w w') : X5 w' b t v0 v1 v2 v3 v4 := (hb.block b h.lt).trans h
theorem X5.new (w : World) (t : TypeId) (v0 v1 v2 v3 v4 : Value) : X5 (w.alloc (.cells #[v0, v1, v2, v3, v4] t)) w.heap.size t v0 v1 v2 v3 v4 := heap_alloc_new w _
theorem X5.alloc {w : World} {b : Nat} {t : TypeId} {v0 v1 v2 v3 v4 : Value} (h : X5 w b t v0 v1 v2 v3 v4) (o : Obj) : X5 (w.alloc o) b t v0 v1 v2 v3 v4 := h.later ((Below.refl _ w).alloc (Nat.le_refl _) o)
theorem X5.cells {w : World} {b : Nat} {t : TypeId} {v0 v1 v2 v3 v4 : Value} (h : X5 w b t v0 v1 v2 v3 v4) :
    w.cell? ⟨b, 0, none⟩ = some v0 ∧ w.cell? ⟨b, 1, none⟩ = some v1 ∧ w.cell? ⟨b, 2, none⟩ = some v2 ∧ w.cell? ⟨b, 3, none⟩ = some v3 ∧ w.cell? ⟨b, 4, none⟩ = some v4 :=
  ⟨cell_of_row w b 0 _ t _ h, cell_of_row w b 1 _ t _ h, cell_of_row w b 2 _ t _ h, cell_of_row w b 3 _ t _ h, cell_of_row w b 4 _ t _ h⟩
theorem X5.frozen {w : World} {b : Nat} {t : TypeId} {v0 v1 v2 v3 v4 : Value} (h : X5 w b t v0 v1 v2 v3 v4) (i : Nat) : w.frozen? ⟨b, i, none⟩ = false := frozen_of_row w b i _ t h
theorem X5.far {w : World} {b b' j : Nat} {t : TypeId} {v0 v1 v2 v3 v4 : Value} (h : X5 w b t v0 v1 v2 v3 v4) (hne : b ≠ b') (v : Value) : X5 (w.setCell ⟨b', j, none⟩ v) b t v0 v1 v2 v3 v4 := (row_far hne v).trans h
theorem X5.set {w : World} {b : Nat} {t : TypeId} {v0 v1 v2 v3 v4 : Value} (h : X5 w b t v0 v1 v2 v3 v4) (u0 u1 u2 u3 u4 : Value) :
    X5 (((((w.setCell ⟨b, 0, none⟩ u0).setCell ⟨b, 1, none⟩ u1).setCell ⟨b, 2, none⟩ u2).setCell ⟨b, 3, none⟩ u3).setCell ⟨b, 4, none⟩ u4) b t u0 u1 u2 u3 u4 :=
  row_set (row_set (row_set (row_set (row_set h _) _) _) _) _
theorem X5.grown {w w' : World} {b : Nat} {t : TypeId} {v0 v1 v2 v3 v4 : Value} {row : Option Nat} (h : X5 w b t v0 v1 v2 v3 v4) (hg : w.grownBy w' row) (hne : row ≠ some b) : X5 w' b t v0 v1 v2 v3 v4 := (hg.block b h.lt (fun e => hne e.symm)).trans h

/-- How far a case is carried over. -/
structure ConvSt (w wr : World) (tin tout te : TypeId) (e r d : Bool) (s1 s2 u1 u2 : Value) (m1 m2 : Vt.Bal) : Prop where
  i : X5 wr w.heap.size tin (.bool e) (.bool r) (.bool d) s1 s2
  o : X5 wr (w.heap.size + 1) tout (.bool false) (.bool false) (.bool false) (.slice none 0 0) (.slice none 0 0)
  x : X5 wr (w.heap.size + 2) tout (.bool e) (.bool r) (.bool d) u1 u2
  r1 : wr.ownsRow (w.heap.size + 3) te 2 u1 m1.length (Vt.balC m1)
  r2 : wr.ownsRow (w.heap.size + 3) te 2 u2 m2.length (Vt.balC m2)
  ap : u1.ownBlock = none ∨ u1.ownBlock ≠ u2.ownBlock
  below : Below w.heap.size w wr
theorem ConvSt.size {w wr : World} {tin tout te : TypeId} {e r d : Bool} {s1 s2 u1 u2 : Value} {m1 m2 : Vt.Bal} (h : ConvSt w wr tin tout te e r d s1 s2 u1 u2 m1 m2) : w.heap.size + 3 ≤ wr.heap.size := by have := h.x.lt; omega
theorem conv_start (w : World) (tin tout te : TypeId) (e r d : Bool) (s1 s2 : Value) :
    ConvSt w (((w.alloc (.cells #[.bool e, .bool r, .bool d, s1, s2] tin)).alloc (.cells #[.bool false, .bool false, .bool false, .slice none 0 0, .slice none 0 0] tout)).alloc (.cells #[.bool e, .bool r, .bool d, .slice none 0 0, .slice none 0 0] tout)) tin tout te e r d s1 s2 (.slice none 0 0) (.slice none 0 0) [] [] := by
  refine ⟨((X5.new w tin _ _ _ _ _).alloc _).alloc _, ?_, ?_, World.ownsRow_nil _ _ _ _, World.ownsRow_nil _ _ _ _, .inl rfl, (((Below.refl _ w).alloc (Nat.le_refl _) _).alloc (by simp) _).alloc (by simp; omega) _⟩
  · have := X5.new (w.alloc (.cells #[.bool e, .bool r, .bool d, s1, s2] tin)) tout (.bool false) (.bool false) (.bool false) (.slice none 0 0) (.slice none 0 0)
    rw [World.size_alloc] at this
    exact this.alloc _
  · have := X5.new ((w.alloc (.cells #[.bool e, .bool r, .bool d, s1, s2] tin)).alloc (.cells #[.bool false, .bool false, .bool false, .slice none 0 0, .slice none 0 0] tout)) tout (.bool e) (.bool r) (.bool d) (.slice none 0 0) (.slice none 0 0)
    rw [World.size_alloc, World.size_alloc] at this
    exact this
theorem own_row_ne {w : World} {B n s : Nat} {t : TypeId} {v : Value} {xs : List Value} (h : w.ownsRow B t s v n xs) {b : Nat} (hb : b < B) : v.ownBlock ≠ some b := fun e => by have := (h.lt b e).1; omega
theorem apart_new {w0 : World} {B n s : Nat} {t : TypeId} {v u u' : Value} {xs : List Value} (h : w0.ownsRow B t s v n xs) (ha : v.ownBlock = none ∨ v.ownBlock ≠ u.ownBlock) (hu : u'.ownBlock = u.ownBlock ∨ u'.ownBlock = some w0.heap.size) : v.ownBlock = none ∨ v.ownBlock ≠ u'.ownBlock := by
  cases e : v.ownBlock with
  | none => exact .inl rfl
  | some k =>
    refine .inr fun e2 => ?_
    have hk := (h.lt k e).2
    rcases hu with h1 | h1
    · rcases ha with h2 | h2
      · rw [h2] at e; cases e
      · exact h2 (e.trans (e2.trans h1))
    · rw [h1] at e2
      have := Option.some.inj e2
      omega
theorem apart_swap {u v : Value} (h : u.ownBlock = none ∨ u.ownBlock ≠ v.ownBlock) : v.ownBlock = none ∨ v.ownBlock ≠ u.ownBlock := by
  cases e : v.ownBlock with
  | none => exact .inl rfl
  | some k =>
    refine .inr fun e2 => ?_
    rcases h with h | h
    · rw [h] at e2; cases e2
    · exact h (e2.symm.trans e.symm)
theorem kept_row {w w' : World} {B n s : Nat} {t : TypeId} {v u : Value} {xs : List Value} (h : w.ownsRow B t s v n xs) (hg : w.grownBy w' u.ownBlock) (ha : v.ownBlock = none ∨ v.ownBlock ≠ u.ownBlock) : w'.ownsRow B t s v n xs := h.kept hg ha
/-- One ballot more, among the echoes and among the readies. -/
theorem conv_step1 {w wr w2 : World} {tin tout te : TypeId} {e r d : Bool} {s1 s2 u1 u2 u1' : Value} {m1 m2 m1' : Vt.Bal} (h : ConvSt w wr tin tout te e r d s1 s2 u1 u2 m1 m2) (o o' : Obj)
    (ho : w2.ownsRow (w.heap.size + 3) te 2 u1' m1'.length (Vt.balC m1')) (hg : ((wr.alloc o).alloc o').grownBy w2 u1.ownBlock) (hat : u1'.ownBlock = u1.ownBlock ∨ u1'.ownBlock = some ((wr.alloc o).alloc o').heap.size) :
    ConvSt w (w2.setCell ⟨w.heap.size + 2, 3, none⟩ u1') tin tout te e r d s1 s2 u1' u2 m1' m2 := by
  have hs := h.size
  have n0 := own_row_ne h.r1 (b := w.heap.size) (by omega)
  have n1 := own_row_ne h.r1 (b := w.heap.size + 1) (by omega)
  have n2 := own_row_ne h.r1 (b := w.heap.size + 2) (by omega)
  have k2 : ((wr.alloc o).alloc o').ownsRow (w.heap.size + 3) te 2 u2 m2.length (Vt.balC m2) := (h.r2.alloc o).alloc o'
  have bl : Below w.heap.size w ((wr.alloc o).alloc o') := (h.below.alloc h.below.size o).alloc (by simp; omega) o'
  refine ⟨(((h.i.alloc o).alloc o').grown hg n0).far (by omega) _, (((h.o.alloc o).alloc o').grown hg n1).far (by omega) _, row_set (((h.x.alloc o).alloc o').grown hg n2) _, own_far ho (own_row_ne ho (by omega)) _, own_far (kept_row k2 hg (apart_swap h.ap)) (own_row_ne h.r2 (by omega)) _, apart_swap (apart_new k2 (apart_swap h.ap) hat), ?_⟩
  exact (bl.grown hg (by simp; omega) fun k hk => by have := (h.r1.lt k hk).1; omega).setCell (p := ⟨w.heap.size + 2, 3, none⟩) (by show w.heap.size ≤ w.heap.size + 2; omega) _
theorem conv_step2 {w wr w2 : World} {tin tout te : TypeId} {e r d : Bool} {s1 s2 u1 u2 u2' : Value} {m1 m2 m2' : Vt.Bal} (h : ConvSt w wr tin tout te e r d s1 s2 u1 u2 m1 m2) (o o' : Obj)
    (ho : w2.ownsRow (w.heap.size + 3) te 2 u2' m2'.length (Vt.balC m2')) (hg : ((wr.alloc o).alloc o').grownBy w2 u2.ownBlock) (hat : u2'.ownBlock = u2.ownBlock ∨ u2'.ownBlock = some ((wr.alloc o).alloc o').heap.size) :
    ConvSt w (w2.setCell ⟨w.heap.size + 2, 4, none⟩ u2') tin tout te e r d s1 s2 u1 u2' m1 m2' := by
  have hs := h.size
  have n0 := own_row_ne h.r2 (b := w.heap.size) (by omega)
  have n1 := own_row_ne h.r2 (b := w.heap.size + 1) (by omega)
  have n2 := own_row_ne h.r2 (b := w.heap.size + 2) (by omega)
  have k1 : ((wr.alloc o).alloc o').ownsRow (w.heap.size + 3) te 2 u1 m1.length (Vt.balC m1) := (h.r1.alloc o).alloc o'
  have bl : Below w.heap.size w ((wr.alloc o).alloc o') := (h.below.alloc h.below.size o).alloc (by simp; omega) o'
  refine ⟨(((h.i.alloc o).alloc o').grown hg n0).far (by omega) _, (((h.o.alloc o).alloc o').grown hg n1).far (by omega) _, row_set (((h.x.alloc o).alloc o').grown hg n2) _, own_far (kept_row k1 hg h.ap) (own_row_ne h.r1 (by omega)) _, own_far ho (own_row_ne ho (by omega)) _, apart_new k1 h.ap hat, ?_⟩
  exact (bl.grown hg (by simp; omega) fun k hk => by have := (h.r2.lt k hk).1; omega).setCell (p := ⟨w.heap.size + 2, 4, none⟩) (by show w.heap.size ≤ w.heap.size + 2; omega) _
theorem bal_more {l : Vt.Bal} {k s : Nat} {x : ByteArray} (h : l[k]? = some (x, s)) : l.take (k + 1) = l.take k ++ [(x, s)] := by rw [List.take_add_one, h]; rfl

theorem own_atg {w : World} {B n c : Nat} {t : TypeId} {a : Option Addr} {l : Vt.Bal} (h : w.ownsRow B t 2 (.slice a n c) l.length (Vt.balC l)) : l.length = n ∧ Vt.At w a l := by
  obtain ⟨a', c', e, hl, hat⟩ := Vt.own_at h
  have := Value.slice.inj e
  rw [this.1]
  exact ⟨this.2.1.symm, hat⟩
/-- What a case carried over is. -/
def ConvPost (w : World) (e r d : Bool) (l1 l2 : Vt.Bal) (z : Ending) (w' : World) : Prop :=
  ∃ b1 k1 b2 k2, z = .returned (.agg #[.bool e, .bool r, .bool d, .slice b1 l1.length k1, .slice b2 l2.length k2]) ∧ Vt.At w' b1 l1 ∧ Vt.At w' b2 l2 ∧ Below w.heap.size w w'
theorem conv_end {w wr : World} {tin tout te : TypeId} {e r d : Bool} {s1 s2 : Value} {a1 a2 : Option Addr} {n1 n2 c1 c2 : Nat} {l1 l2 : Vt.Bal} (h : ConvSt w wr tin tout te e r d s1 s2 (.slice a1 n1 c1) (.slice a2 n2 c2) l1 l2) :
    ConvPost w e r d l1 l2 (.returned (.agg #[.bool e, .bool r, .bool d, .slice a1 n1 c1, .slice a2 n2 c2]))
      (((((wr.setCell ⟨w.heap.size + 1, 0, none⟩ (.bool e)).setCell ⟨w.heap.size + 1, 1, none⟩ (.bool r)).setCell ⟨w.heap.size + 1, 2, none⟩ (.bool d)).setCell ⟨w.heap.size + 1, 3, none⟩ (.slice a1 n1 c1)).setCell ⟨w.heap.size + 1, 4, none⟩ (.slice a2 n2 c2)) := by
  have q1 := own_far5 h.r1 (own_row_ne h.r1 (b := w.heap.size + 1) (by omega)) (.bool e) (.bool r) (.bool d) (.slice a1 n1 c1) (.slice a2 n2 c2)
  have q2 := own_far5 h.r2 (own_row_ne h.r2 (b := w.heap.size + 1) (by omega)) (.bool e) (.bool r) (.bool d) (.slice a1 n1 c1) (.slice a2 n2 c2)
  obtain ⟨j1, t1⟩ := own_atg q1
  obtain ⟨j2, t2⟩ := own_atg q2
  refine ⟨a1, c1, a2, c2, ?_, t1, t2, below_set5 h.below (by omega) _ _ _ _ _⟩
  rw [j1, j2]

theorem info77c : (Try.prog.info? 77).map (fun i => (i.zero, i.size, i.bytes)) = some (some (.agg #[.string ⟨#[]⟩, .int .u16 0]), 2, 24) := by kernel_rfl
set_option maxHeartbeats 8000000 in
set_option maxRecDepth 100000 in
theorem theirs_any (e r d : Bool) (a1 a2 : Option Addr) (c1 c2 : Nat) (l1 l2 : Vt.Bal) (w : World) (h1 : Vt.At w a1 l1) (h2 : Vt.At w a2 l2) (n1 : l1.length ≤ 900) (n2 : l2.length ≤ 900) :
    Calls Try.prog 16 #[.agg #[.bool e, .bool r, .bool d, .slice a1 l1.length c1, .slice a2 l2.length c2]] w (ConvPost w e r d l1 l2) := by
  obtain ⟨i0, hi, hz0, hz1, hz2⟩ := info_parts info77c
  have I : Aside (Try.prog.info? 77 = some i0 ∧ i0.zero = some (.agg #[.string ⟨#[]⟩, .int .u16 0]) ∧ i0.size = 2 ∧ i0.bytes = 24) := ⟨hi, hz0, hz1, hz2⟩
  clear hi hz0 hz1 hz2
  have HA : Aside (Vt.At w a1 l1 ∧ Vt.At w a2 l2) := ⟨h1, h2⟩
  have R : Aside (∀ wr s1 s2 b1 m1 k1 b2 m2 k2, ConvSt w wr 24 35 77 e r d s1 s2 (.slice b1 m1 k1) (.slice b2 m2 k2) l1 l2 → ConvPost w e r d l1 l2 _ _) := fun wr s1 s2 b1 m1 k1 b2 m2 k2 h => conv_end h
  have ST := conv_start w 24 35 77 e r d (.slice a1 l1.length c1) (.slice a2 l2.length c2)
  have S0 : Aside (ConvSt w _ 24 35 77 e r d (.slice a1 l1.length c1) (.slice a2 l2.length c2) (.slice none 0 0) (.slice none 0 0) [] []) := ST
  generalize ConvPost w e r d l1 l2 = Q at R ⊢
  clear h1 h2 ST
  go_enter Try.func16, Try.ntmps16
  go_wp2_with fail
  go_loopw [18] (fun i wr => ∃ k g1 q1, k ≤ l1.length ∧ i = .int .i64 (k : Nat) ∧ Aside (ConvSt w wr 24 35 77 e r d (.slice a1 l1.length c1) (.slice a2 l2.length c2) (.slice g1 k q1) (.slice none 0 0) (l1.take k) [])) (fun i _ => l1.length - (intOf i).toNat)
  case atStart => exact ⟨0, none, 0, Nat.zero_le _, rfl, S0.out⟩
  case round =>
    obtain ⟨k, g1, q1, hk, rfl, hC⟩ := hrel
    have x := hC.out.x
    obtain ⟨x0, x1, x2, x3, x4⟩ := x.cells
    obtain ⟨y0, y1, y2, y3, y4⟩ := hC.out.i.cells
    have xf := x.frozen
    have xl := x.lt
    have yl := hC.out.i.lt
    clear x
    by_cases hlt : k < l1.length
    · have t1 : (k : Int) < (l1.length : Int) := by omega
      have t2 : (0 : Int) ≤ (k : Int) := by omega
      obtain ⟨bb, hbb⟩ : ∃ bb, l1[k]? = some bb := ⟨_, List.getElem?_eq_getElem hlt⟩
      obtain ⟨bx, bs⟩ := bb
      obtain ⟨g, of, rfl, o0, o1⟩ := at_cell (HA.out.1.later hC.out.below) hbb
      have ol := World.block_lt_of_cell? _ _ o0
      dsimp only at ol
      have MR : Aside (Vt.balC (l1.take k) ++ [.string bx, .int .u16 (bs : Int)] = Vt.balC (l1.take (k + 1)) ∧ (l1.take (k + 1)).length = k + 1) := by
        refine ⟨?_, by rw [List.length_take]; omega⟩
        rw [bal_more hbb, Vt.balC_append]; rfl
      have RW : Aside (wr.ownsRow (w.heap.size + 3) 77 2 (.slice g1 k q1) k (Vt.balC (l1.take k))) := by
        have := hC.out.r1
        rw [show (l1.take k).length = k by rw [List.length_take]; omega] at this
        exact this
      have hsz : Aside (w.heap.size + 3 ≤ wr.heap.size) := hC.out.size
      clear hbb
      go_wp2_with (at_builtin; refine wpList_append_own_at _ rfl _ _ 33 rfl (w.heap.size + 3) 77 i0 (.agg #[.string ⟨#[]⟩, .int .u16 0]) 2 24 Try.underlying33 I.out.1 I.out.2.1 I.out.2.2.1 I.out.2.2.2 rfl (by decide) _ _ _ rfl ((RW.out.alloc _).alloc _) ⟨wr.heap.size + 1, 0, none⟩ 1 1 [.string bx, .int .u16 (bs : Int)] rfl rfl ?c1 ?c2 ?c3 ?c4 ?c5 ?_)
      case c1 => have := cell_new2 (wr.alloc (.cells #[.string bx, .int .u16 (bs : Int)] 86)) (.string bx) (.int .u16 (bs : Int)) 77; rw [World.size_alloc] at this; exact this
      case c2 => intro u hu; simp at hu; rcases hu with rfl | rfl <;> rfl
      case c3 => unfold maxLen; omega
      case c4 => omega
      case c5 => have := hsz.out; simp; omega
      intro v' wn hown hgrow _ hat
      rw [MR.out.1] at hown
      obtain ⟨g2, q2, rfl, -, -⟩ := Vt.own_at hown
      have NX : Aside (_ ∧ _) := ⟨hC.out.size, conv_step1 (m1' := l1.take (k + 1)) hC.out _ _ (by rw [MR.out.2]; exact hown) hgrow (by simp only [World.size_alloc]; exact hat)⟩
      have xg := (((hC.out.x.alloc (.cells #[.string bx, .int .u16 (bs : Int)] 86)).alloc (.cells #[.string bx, .int .u16 (bs : Int)] 77)).grown hgrow (own_row_ne hC.out.r1 (by omega)))
      have xg3 := xg.cells.2.2.2.1
      have xgf := xg.frozen
      clear hown hgrow hat RW hC x0 x1 x2 x3 x4 y0 y1 y2 y3 y4 xf xl yl o0 o1 ol xg
      go_wp2
      go_roundw
      case rel => exact ⟨k + 1, g2, q2, by omega, by go_num, NX.out.2⟩
      case measure => simp [intOf]; omega
    · obtain rfl : k = l1.length := by omega
      have SC : Aside (_) := hC.out
      rw [List.take_length] at SC
      obtain ⟨g0, rfl⟩ : ∃ g0, g1 = g0 := ⟨_, rfl⟩
      obtain ⟨q0, rfl⟩ : ∃ q0, q1 = q0 := ⟨_, rfl⟩
      clear hC
      go_wp2_with fail
      refine (?_ : ∀ V g0 q0, ConvSt w V 24 35 77 e r d (.slice a1 l1.length c1) (.slice a2 l2.length c2) (.slice g0 l1.length q0) (.slice none 0 0) l1 [] → Code.wp _ _ _ _ V) _ g1 q1 SC.out
      clear SC x0 x1 x2 x3 x4 y0 y1 y2 y3 y4 xf xl yl
      intro V g0 q0 hSC
      have SC : Aside (ConvSt w V 24 35 77 e r d (.slice a1 l1.length c1) (.slice a2 l2.length c2) (.slice g0 l1.length q0) (.slice none 0 0) l1 []) := hSC
      clear hSC
      go_loopw [32] (fun i wr => ∃ k g1 q1, k ≤ l2.length ∧ i = .int .i64 (k : Nat) ∧ Aside (ConvSt w wr 24 35 77 e r d (.slice a1 l1.length c1) (.slice a2 l2.length c2) (.slice g0 l1.length q0) (.slice g1 k q1) l1 (l2.take k))) (fun i _ => l2.length - (intOf i).toNat)
      case atStart => exact ⟨0, none, 0, Nat.zero_le _, rfl, SC.out⟩
      case round =>
        obtain ⟨k, g1, q1, hk, rfl, hC⟩ := hrel
        have x := hC.out.x
        obtain ⟨x0, x1, x2, x3, x4⟩ := x.cells
        obtain ⟨y0, y1, y2, y3, y4⟩ := hC.out.i.cells
        have xf := x.frozen
        have xl := x.lt
        have yl := hC.out.i.lt
        clear x
        by_cases hlt : k < l2.length
        · have t1 : (k : Int) < (l2.length : Int) := by omega
          have t2 : (0 : Int) ≤ (k : Int) := by omega
          obtain ⟨bb, hbb⟩ : ∃ bb, l2[k]? = some bb := ⟨_, List.getElem?_eq_getElem hlt⟩
          obtain ⟨bx, bs⟩ := bb
          obtain ⟨g, of, rfl, o0, o1⟩ := at_cell (HA.out.2.later hC.out.below) hbb
          have ol := World.block_lt_of_cell? _ _ o0
          dsimp only at ol
          have MR : Aside (Vt.balC (l2.take k) ++ [.string bx, .int .u16 (bs : Int)] = Vt.balC (l2.take (k + 1)) ∧ (l2.take (k + 1)).length = k + 1) := by
            refine ⟨?_, by rw [List.length_take]; omega⟩
            rw [bal_more hbb, Vt.balC_append]; rfl
          have RW : Aside (wr.ownsRow (w.heap.size + 3) 77 2 (.slice g1 k q1) k (Vt.balC (l2.take k))) := by
            have := hC.out.r2
            rw [show (l2.take k).length = k by rw [List.length_take]; omega] at this
            exact this
          have hsz : Aside (w.heap.size + 3 ≤ wr.heap.size) := hC.out.size
          clear hbb
          go_wp2_with (at_builtin; refine wpList_append_own_at _ rfl _ _ 33 rfl (w.heap.size + 3) 77 i0 (.agg #[.string ⟨#[]⟩, .int .u16 0]) 2 24 Try.underlying33 I.out.1 I.out.2.1 I.out.2.2.1 I.out.2.2.2 rfl (by decide) _ _ _ rfl ((RW.out.alloc _).alloc _) ⟨wr.heap.size + 1, 0, none⟩ 1 1 [.string bx, .int .u16 (bs : Int)] rfl rfl ?c1 ?c2 ?c3 ?c4 ?c5 ?_)
          case c1 => have := cell_new2 (wr.alloc (.cells #[.string bx, .int .u16 (bs : Int)] 86)) (.string bx) (.int .u16 (bs : Int)) 77; rw [World.size_alloc] at this; exact this
          case c2 => intro u hu; simp at hu; rcases hu with rfl | rfl <;> rfl
          case c3 => unfold maxLen; omega
          case c4 => omega
          case c5 => have := hsz.out; simp; omega
          intro v' wn hown hgrow _ hat
          rw [MR.out.1] at hown
          obtain ⟨g2, q2, rfl, -, -⟩ := Vt.own_at hown
          have NX : Aside (_ ∧ _) := ⟨hC.out.size, conv_step2 (m2' := l2.take (k + 1)) hC.out _ _ (by rw [MR.out.2]; exact hown) hgrow (by simp only [World.size_alloc]; exact hat)⟩
          have xg := (((hC.out.x.alloc (.cells #[.string bx, .int .u16 (bs : Int)] 86)).alloc (.cells #[.string bx, .int .u16 (bs : Int)] 77)).grown hgrow (own_row_ne hC.out.r2 (by omega)))
          have xg3 := xg.cells.2.2.2.2
          have xgf := xg.frozen
          clear hown hgrow hat RW hC x0 x1 x2 x3 x4 y0 y1 y2 y3 y4 xf xl yl o0 o1 ol xg
          go_wp2
          go_roundw
          case rel => exact ⟨k + 1, g2, q2, by omega, by go_num, NX.out.2⟩
          case measure => simp [intOf]; omega
        · obtain rfl : k = l2.length := by omega
          have SD := hC.out
          rw [List.take_length] at SD
          have Q1 : Aside (Q _ _) := R.out _ _ _ _ _ _ _ _ _ SD
          have hD : Aside (X5 _ _ _ _ _ _ _ _) := X5.set SD.o (.bool e) (.bool r) (.bool d) (.slice g0 l1.length q0) (.slice g1 l2.length q1)
          obtain ⟨z0, z1, z2, z3, z4⟩ := SD.o.cells
          have zf := SD.o.frozen
          clear hC SD R
          go_wp2
          refine ⟨rfl, _, ?_, Q1.out⟩
          obtain ⟨d0, d1, d2, d3, d4⟩ := hD.out.cells
          simp [results, Try.results16, go_sem, d0, d1, d2, d3, d4]

theorem info86c : (Try.prog.info? 86).map (fun i => (i.zero, i.size, i.bytes)) = some (some (.agg #[.string ⟨#[]⟩, .int .u16 0]), 2, 24) := by kernel_rfl
set_option maxHeartbeats 8000000 in
set_option maxRecDepth 100000 in
theorem ours_any (e r d : Bool) (a1 a2 : Option Addr) (c1 c2 : Nat) (l1 l2 : Vt.Bal) (w : World) (h1 : Vt.At w a1 l1) (h2 : Vt.At w a2 l2) (n1 : l1.length ≤ 900) (n2 : l2.length ≤ 900) :
    Calls Try.prog 19 #[.agg #[.bool e, .bool r, .bool d, .slice a1 l1.length c1, .slice a2 l2.length c2]] w (ConvPost w e r d l1 l2) := by
  obtain ⟨i0, hi, hz0, hz1, hz2⟩ := info_parts info86c
  have I : Aside (Try.prog.info? 86 = some i0 ∧ i0.zero = some (.agg #[.string ⟨#[]⟩, .int .u16 0]) ∧ i0.size = 2 ∧ i0.bytes = 24) := ⟨hi, hz0, hz1, hz2⟩
  clear hi hz0 hz1 hz2
  have HA : Aside (Vt.At w a1 l1 ∧ Vt.At w a2 l2) := ⟨h1, h2⟩
  have R : Aside (∀ wr s1 s2 b1 m1 k1 b2 m2 k2, ConvSt w wr 35 24 86 e r d s1 s2 (.slice b1 m1 k1) (.slice b2 m2 k2) l1 l2 → ConvPost w e r d l1 l2 _ _) := fun wr s1 s2 b1 m1 k1 b2 m2 k2 h => conv_end h
  have ST := conv_start w 35 24 86 e r d (.slice a1 l1.length c1) (.slice a2 l2.length c2)
  have S0 : Aside (ConvSt w _ 35 24 86 e r d (.slice a1 l1.length c1) (.slice a2 l2.length c2) (.slice none 0 0) (.slice none 0 0) [] []) := ST
  generalize ConvPost w e r d l1 l2 = Q at R ⊢
  clear h1 h2 ST
  go_enter Try.func19, Try.ntmps19
  go_wp2_with fail
  go_loopw [18] (fun i wr => ∃ k g1 q1, k ≤ l1.length ∧ i = .int .i64 (k : Nat) ∧ Aside (ConvSt w wr 35 24 86 e r d (.slice a1 l1.length c1) (.slice a2 l2.length c2) (.slice g1 k q1) (.slice none 0 0) (l1.take k) [])) (fun i _ => l1.length - (intOf i).toNat)
  case atStart => exact ⟨0, none, 0, Nat.zero_le _, rfl, S0.out⟩
  case round =>
    obtain ⟨k, g1, q1, hk, rfl, hC⟩ := hrel
    have x := hC.out.x
    obtain ⟨x0, x1, x2, x3, x4⟩ := x.cells
    obtain ⟨y0, y1, y2, y3, y4⟩ := hC.out.i.cells
    have xf := x.frozen
    have xl := x.lt
    have yl := hC.out.i.lt
    clear x
    by_cases hlt : k < l1.length
    · have t1 : (k : Int) < (l1.length : Int) := by omega
      have t2 : (0 : Int) ≤ (k : Int) := by omega
      obtain ⟨bb, hbb⟩ : ∃ bb, l1[k]? = some bb := ⟨_, List.getElem?_eq_getElem hlt⟩
      obtain ⟨bx, bs⟩ := bb
      obtain ⟨g, of, rfl, o0, o1⟩ := at_cell (HA.out.1.later hC.out.below) hbb
      have ol := World.block_lt_of_cell? _ _ o0
      dsimp only at ol
      have MR : Aside (Vt.balC (l1.take k) ++ [.string bx, .int .u16 (bs : Int)] = Vt.balC (l1.take (k + 1)) ∧ (l1.take (k + 1)).length = k + 1) := by
        refine ⟨?_, by rw [List.length_take]; omega⟩
        rw [bal_more hbb, Vt.balC_append]; rfl
      have RW : Aside (wr.ownsRow (w.heap.size + 3) 86 2 (.slice g1 k q1) k (Vt.balC (l1.take k))) := by
        have := hC.out.r1
        rw [show (l1.take k).length = k by rw [List.length_take]; omega] at this
        exact this
      have hsz : Aside (w.heap.size + 3 ≤ wr.heap.size) := hC.out.size
      clear hbb
      go_wp2_with (at_builtin; refine wpList_append_own_at _ rfl _ _ 22 rfl (w.heap.size + 3) 86 i0 (.agg #[.string ⟨#[]⟩, .int .u16 0]) 2 24 Try.underlying22 I.out.1 I.out.2.1 I.out.2.2.1 I.out.2.2.2 rfl (by decide) _ _ _ rfl ((RW.out.alloc _).alloc _) ⟨wr.heap.size + 1, 0, none⟩ 1 1 [.string bx, .int .u16 (bs : Int)] rfl rfl ?c1 ?c2 ?c3 ?c4 ?c5 ?_)
      case c1 => have := cell_new2 (wr.alloc (.cells #[.string bx, .int .u16 (bs : Int)] 77)) (.string bx) (.int .u16 (bs : Int)) 86; rw [World.size_alloc] at this; exact this
      case c2 => intro u hu; simp at hu; rcases hu with rfl | rfl <;> rfl
      case c3 => unfold maxLen; omega
      case c4 => omega
      case c5 => have := hsz.out; simp; omega
      intro v' wn hown hgrow _ hat
      rw [MR.out.1] at hown
      obtain ⟨g2, q2, rfl, -, -⟩ := Vt.own_at hown
      have NX : Aside (_ ∧ _) := ⟨hC.out.size, conv_step1 (m1' := l1.take (k + 1)) hC.out _ _ (by rw [MR.out.2]; exact hown) hgrow (by simp only [World.size_alloc]; exact hat)⟩
      have xg := (((hC.out.x.alloc (.cells #[.string bx, .int .u16 (bs : Int)] 77)).alloc (.cells #[.string bx, .int .u16 (bs : Int)] 86)).grown hgrow (own_row_ne hC.out.r1 (by omega)))
      have xg3 := xg.cells.2.2.2.1
      have xgf := xg.frozen
      clear hown hgrow hat RW hC x0 x1 x2 x3 x4 y0 y1 y2 y3 y4 xf xl yl o0 o1 ol xg
      go_wp2
      go_roundw
      case rel => exact ⟨k + 1, g2, q2, by omega, by go_num, NX.out.2⟩
      case measure => simp [intOf]; omega
    · obtain rfl : k = l1.length := by omega
      have SC : Aside (_) := hC.out
      rw [List.take_length] at SC
      obtain ⟨g0, rfl⟩ : ∃ g0, g1 = g0 := ⟨_, rfl⟩
      obtain ⟨q0, rfl⟩ : ∃ q0, q1 = q0 := ⟨_, rfl⟩
      clear hC
      go_wp2_with fail
      refine (?_ : ∀ V g0 q0, ConvSt w V 35 24 86 e r d (.slice a1 l1.length c1) (.slice a2 l2.length c2) (.slice g0 l1.length q0) (.slice none 0 0) l1 [] → Code.wp _ _ _ _ V) _ g1 q1 SC.out
      clear SC x0 x1 x2 x3 x4 y0 y1 y2 y3 y4 xf xl yl
      intro V g0 q0 hSC
      have SC : Aside (ConvSt w V 35 24 86 e r d (.slice a1 l1.length c1) (.slice a2 l2.length c2) (.slice g0 l1.length q0) (.slice none 0 0) l1 []) := hSC
      clear hSC
      go_loopw [32] (fun i wr => ∃ k g1 q1, k ≤ l2.length ∧ i = .int .i64 (k : Nat) ∧ Aside (ConvSt w wr 35 24 86 e r d (.slice a1 l1.length c1) (.slice a2 l2.length c2) (.slice g0 l1.length q0) (.slice g1 k q1) l1 (l2.take k))) (fun i _ => l2.length - (intOf i).toNat)
      case atStart => exact ⟨0, none, 0, Nat.zero_le _, rfl, SC.out⟩
      case round =>
        obtain ⟨k, g1, q1, hk, rfl, hC⟩ := hrel
        have x := hC.out.x
        obtain ⟨x0, x1, x2, x3, x4⟩ := x.cells
        obtain ⟨y0, y1, y2, y3, y4⟩ := hC.out.i.cells
        have xf := x.frozen
        have xl := x.lt
        have yl := hC.out.i.lt
        clear x
        by_cases hlt : k < l2.length
        · have t1 : (k : Int) < (l2.length : Int) := by omega
          have t2 : (0 : Int) ≤ (k : Int) := by omega
          obtain ⟨bb, hbb⟩ : ∃ bb, l2[k]? = some bb := ⟨_, List.getElem?_eq_getElem hlt⟩
          obtain ⟨bx, bs⟩ := bb
          obtain ⟨g, of, rfl, o0, o1⟩ := at_cell (HA.out.2.later hC.out.below) hbb
          have ol := World.block_lt_of_cell? _ _ o0
          dsimp only at ol
          have MR : Aside (Vt.balC (l2.take k) ++ [.string bx, .int .u16 (bs : Int)] = Vt.balC (l2.take (k + 1)) ∧ (l2.take (k + 1)).length = k + 1) := by
            refine ⟨?_, by rw [List.length_take]; omega⟩
            rw [bal_more hbb, Vt.balC_append]; rfl
          have RW : Aside (wr.ownsRow (w.heap.size + 3) 86 2 (.slice g1 k q1) k (Vt.balC (l2.take k))) := by
            have := hC.out.r2
            rw [show (l2.take k).length = k by rw [List.length_take]; omega] at this
            exact this
          have hsz : Aside (w.heap.size + 3 ≤ wr.heap.size) := hC.out.size
          clear hbb
          go_wp2_with (at_builtin; refine wpList_append_own_at _ rfl _ _ 22 rfl (w.heap.size + 3) 86 i0 (.agg #[.string ⟨#[]⟩, .int .u16 0]) 2 24 Try.underlying22 I.out.1 I.out.2.1 I.out.2.2.1 I.out.2.2.2 rfl (by decide) _ _ _ rfl ((RW.out.alloc _).alloc _) ⟨wr.heap.size + 1, 0, none⟩ 1 1 [.string bx, .int .u16 (bs : Int)] rfl rfl ?c1 ?c2 ?c3 ?c4 ?c5 ?_)
          case c1 => have := cell_new2 (wr.alloc (.cells #[.string bx, .int .u16 (bs : Int)] 77)) (.string bx) (.int .u16 (bs : Int)) 86; rw [World.size_alloc] at this; exact this
          case c2 => intro u hu; simp at hu; rcases hu with rfl | rfl <;> rfl
          case c3 => unfold maxLen; omega
          case c4 => omega
          case c5 => have := hsz.out; simp; omega
          intro v' wn hown hgrow _ hat
          rw [MR.out.1] at hown
          obtain ⟨g2, q2, rfl, -, -⟩ := Vt.own_at hown
          have NX : Aside (_ ∧ _) := ⟨hC.out.size, conv_step2 (m2' := l2.take (k + 1)) hC.out _ _ (by rw [MR.out.2]; exact hown) hgrow (by simp only [World.size_alloc]; exact hat)⟩
          have xg := (((hC.out.x.alloc (.cells #[.string bx, .int .u16 (bs : Int)] 77)).alloc (.cells #[.string bx, .int .u16 (bs : Int)] 86)).grown hgrow (own_row_ne hC.out.r2 (by omega)))
          have xg3 := xg.cells.2.2.2.2
          have xgf := xg.frozen
          clear hown hgrow hat RW hC x0 x1 x2 x3 x4 y0 y1 y2 y3 y4 xf xl yl o0 o1 ol xg
          go_wp2
          go_roundw
          case rel => exact ⟨k + 1, g2, q2, by omega, by go_num, NX.out.2⟩
          case measure => simp [intOf]; omega
        · obtain rfl : k = l2.length := by omega
          have SD := hC.out
          rw [List.take_length] at SD
          have Q1 : Aside (Q _ _) := R.out _ _ _ _ _ _ _ _ _ SD
          have hD : Aside (X5 _ _ _ _ _ _ _ _) := X5.set SD.o (.bool e) (.bool r) (.bool d) (.slice g0 l1.length q0) (.slice g1 l2.length q1)
          obtain ⟨z0, z1, z2, z3, z4⟩ := SD.o.cells
          have zf := SD.o.frozen
          clear hC SD R
          go_wp2
          refine ⟨rfl, _, ?_, Q1.out⟩
          obtain ⟨d0, d1, d2, d3, d4⟩ := hD.out.cells
          simp [results, Try.results19, go_sem, d0, d1, d2, d3, d4]
end Go.Proofs.Ytlekbbpancaenaa
