/- What Take gives where the vote is taken; Take as a whole. -/
import Derived.Test.YtmhjmeedoajkjaaVtI
namespace Go.Proofs.Ytmhjmeedoajkjaa
open Go.RowKit Go.Shelf
set_option linter.unusedVariables false

theorem take_ok_end {w w4 : World} {e r d is : Bool} {s1 s2 : Value} {c : Vt.Cs} {outs : List (Nat × ByteArray)} {body : ByteArray} {B : Nat} {a1 a2 ao : Option Addr} {c1 c2 co : Nat} (o : Obj) (hX : Boxes w w4 w.heap.size e r d s1 s2) (hB : w.heap.size + 1 < B)
    (t1 : Vt.At w4 a1 c.echoes) (t2 : Vt.At w4 a2 c.readies) (t3 : AtO w4 ao outs) (f1 : Fr B a1) (f2 : Fr B a2) (f3 : Fr B ao) :
    TakePost w ⟨c, outs, body, is, 0⟩ (.returned (.tuple #[.agg #[.bool c.echoed, .bool c.readied, .bool c.done, .slice a1 c.echoes.length c1, .slice a2 c.readies.length c2], .slice ao outs.length co, .string body, .bool is, .int .i64 0]))
      ((((((w4.setCell ⟨w.heap.size + 1, 0, none⟩ (.bool c.echoed)).setCell ⟨w.heap.size + 1, 1, none⟩ (.bool c.readied)).setCell ⟨w.heap.size + 1, 2, none⟩ (.bool c.done)).setCell ⟨w.heap.size + 1, 3, none⟩ (.slice a1 c.echoes.length c1)).setCell ⟨w.heap.size + 1, 4, none⟩ (.slice a2 c.readies.length c2)).alloc o) := by
  have b5 := below_set5 hX.below (b := w.heap.size + 1) (by omega) (.bool c.echoed) (.bool c.readied) (.bool c.done) (.slice a1 c.echoes.length c1) (.slice a2 c.readies.length c2)
  have x1 := at_set5 t1 (b := w.heap.size + 1) (fun ad h => .inl (by have := f1 ad h; omega)) (.bool c.echoed) (.bool c.readied) (.bool c.done) (.slice a1 c.echoes.length c1) (.slice a2 c.readies.length c2)
  have x2 := at_set5 t2 (b := w.heap.size + 1) (fun ad h => .inl (by have := f2 ad h; omega)) (.bool c.echoed) (.bool c.readied) (.bool c.done) (.slice a1 c.echoes.length c1) (.slice a2 c.readies.length c2)
  have x3 := atO_set5 t3 (b := w.heap.size + 1) (fun ad h => .inl (by have := f3 ad h; omega)) (.bool c.echoed) (.bool c.readied) (.bool c.done) (.slice a1 c.echoes.length c1) (.slice a2 c.readies.length c2)
  exact ⟨a1, c1, a2, c2, ao, co, rfl, x1.later ((Below.refl _ _).alloc (Nat.le_refl _) o), x2.later ((Below.refl _ _).alloc (Nat.le_refl _) o), x3.later ((Below.refl _ _).alloc (Nat.le_refl _) o), b5.alloc b5.size o, f1.mono (by omega), f2.mono (by omega), f3.mono (by omega)⟩
theorem boxes_drew {w w1 w2 : World} {B : Nat} {e r d : Bool} {s1 s2 : Value} (h : Boxes w w1 B e r d s1 s2) (hd : Drew w1 w2) : Boxes w w2 B e r d s1 s2 := by
  obtain ⟨q, rfl⟩ := hd
  exact ⟨h.box, h.res, below_drew h.below q⟩
theorem two_drew {B : Nat} {w1 w2 : World} {v1 v2 : Value} {l1 l2 : Vt.Bal} (h : Two B w1 v1 v2 l1 l2) (hd : Drew w1 w2) : Two B w2 v1 v2 l1 l2 := by
  obtain ⟨q, rfl⟩ := hd
  exact h

set_option maxHeartbeats 8000000 in
set_option maxRecDepth 100000 in
theorem take_ok1d (c : Vt.Cs) (a1 a2 : Option Addr) (c1 c2 ms frm : Nat) (kind : Int) (id : Nat) (x : ByteArray) (w : World) (h : CsAt w c a1 a2) (hms : ms < 65536) (t2 : ¬ (1000 : Int) < (x.size : Int)) (t3 : Cn.hasS ms id = true) (t4 : Cn.hasS ms frm = true) (hk : kind = 1 ∨ kind = 2 ∨ kind = 3) (t5 : kind = 1) (t6 : ((id : Int) != (frm : Int)) = false) (t7 : Vt.old c kind id = false) (hd : c.done = true) :
    Calls Try.prog 16 #[.agg #[.bool c.echoed, .bool c.readied, .bool c.done, .slice a1 c.echoes.length c1, .slice a2 c.readies.length c2], .int .u16 (ms : Nat), .int .u8 (frm : Nat), .int .i64 kind, .int .u8 (id : Nat), .string x] w
      (TakePost w ⟨(Vt.taken c (Cn.sizeS ms) kind id x).1, (Vt.taken c (Cn.sizeS ms) kind id x).2, Vt.none, false, 0⟩) := by
  have X0 : Aside (Boxes w _ w.heap.size c.echoed c.readied c.done (.slice a1 c.echoes.length c1) (.slice a2 c.readies.length c2)) := boxes_new w w.heap.size (Nat.le_refl _) c.echoed c.readied c.done (.slice a1 c.echoes.length c1) (.slice a2 c.readies.length c2)
  have H1 : Aside (∀ W, Calls Try.prog 30 #[.int .u16 (ms : Nat), .int .u8 (id : Nat)] W fun e w' => e = .returned (.bool (Cn.hasS ms id)) ∧ w' = W) := fun W => has_any ms id W hms
  have H2 : Aside (∀ W, Calls Try.prog 30 #[.int .u16 (ms : Nat), .int .u8 (frm : Nat)] W fun e w' => e = .returned (.bool (Cn.hasS ms frm)) ∧ w' = W) := fun W => has_any ms frm W hms
  have SZ : Aside (∀ W, Calls Try.prog 33 #[.int .u16 (ms : Nat)] W fun e w' => e = .returned (.int .i64 (Cn.sizeS ms : Nat)) ∧ Drew W w') := fun W => size_any ms W hms
  have OL : Aside (∀ W, Below w.heap.size w W → Calls Try.prog 31 #[.agg #[.bool c.echoed, .bool c.readied, .bool c.done, .slice a1 c.echoes.length c1, .slice a2 c.readies.length c2], .int .i64 kind, .int .u8 (id : Nat)] W fun e w' => e = .returned (.bool (Vt.old c kind id)) ∧ Below W.heap.size W w') := fun W hb => isOld_any c a1 a2 c1 c2 kind id W hk (h.later hb)
  have AN : Aside (∀ W, Below w.heap.size w W → Calls Try.prog 29 #[.agg #[.bool c.echoed, .bool c.readied, .bool c.done, .slice a1 c.echoes.length c1, .slice a2 c.readies.length c2]] W (Anew W c.echoed c.readied c.done c.echoes c.readies)) :=
    fun W hb => anew_any c.echoed c.readied c.done a1 a2 c1 c2 c.echoes c.readies W (h.e.later hb) (h.r.later hb) (by have := h.n1; omega) (by have := h.n2; omega)
  have TK : Aside (∀ B b1 b2 k1 k2 W, B ≤ W.heap.size → Two B W (.slice b1 c.echoes.length k1) (.slice b2 c.readies.length k2) c.echoes c.readies →
      Calls Try.prog 32 #[.agg #[.bool c.echoed, .bool c.readied, .bool c.done, .slice b1 c.echoes.length k1, .slice b2 c.readies.length k2], .int .i64 (Cn.sizeS ms : Nat), .int .i64 kind, .int .u8 (id : Nat), .string x] W (TakenPost B W (Vt.taken c (Cn.sizeS ms) kind id x))) :=
    fun B b1 b2 k1 k2 W hB hT => taken_any B c b1 b2 k1 k2 (Cn.sizeS ms) kind id x W hk hB hT h.small h.n1 h.n2
  rw [t3] at H1
  rw [t4] at H2
  rw [t7] at OL
  generalize Vt.taken c (Cn.sizeS ms) kind id x = nx at *
  generalize Cn.sizeS ms = n at *
  subst t5
  clear t3 t4 t7 h hms
  rw [hd] at *
  clear hd
  generalize c.echoed = e at *
  generalize c.readied = r at *
  go_enter Try.func16, Try.ntmps16
  go_wp2_with fail
  refine (H1.out _).mono ?_; rintro z w1 ⟨rfl, hw⟩
  replace hw := hw.symm; subst hw
  clear H1
  go_wp2_with fail
  refine (H2.out _).mono ?_; rintro z w1 ⟨rfl, hw⟩
  replace hw := hw.symm; subst hw
  clear H2
  go_wp2_with fail
  obtain ⟨y0, y1, y2, y3, y4⟩ := X0.out.box.cells
  refine (OL.out _ (X0.out.below)).mono ?_; rintro z w1 ⟨rfl, hb1⟩
  have X1 : Aside (Boxes w w1 w.heap.size e r true _ _) := X0.out.later hb1 (by simp; omega)
  clear OL hb1
  clear X0
  obtain ⟨y0, y1, y2, y3, y4⟩ := X1.out.box.cells
  go_wp2_with fail
  refine (AN.out _ X1.out.below).mono ?_
  rintro z w2 ⟨v1, v2, rfl, hT, hb2⟩
  obtain ⟨b1, k1, rfl, -, -⟩ := Vt.own_at hT.1
  obtain ⟨b2, k2, rfl, -, -⟩ := Vt.own_at hT.2.1
  have X2 : Aside (Boxes w w2 w.heap.size e r true _ _ ∧ Two w1.heap.size w2 (.slice b1 c.echoes.length k1) (.slice b2 c.readies.length k2) c.echoes c.readies ∧ w1.heap.size ≤ w2.heap.size ∧ w.heap.size + 1 < w1.heap.size) := ⟨X1.out.later hb2 (by have := X1.out.size; omega), hT, hb2.size, X1.out.size⟩
  clear AN X1 hT hb2 y0 y1 y2 y3 y4
  go_wp2_with fail
  refine (SZ.out _).mono ?_
  rintro z w3 ⟨rfl, hdr⟩
  have X3 : Aside (Boxes w w3 w.heap.size e r true _ _ ∧ Two w1.heap.size w3 (.slice b1 c.echoes.length k1) (.slice b2 c.readies.length k2) c.echoes c.readies ∧ w1.heap.size ≤ w3.heap.size ∧ w.heap.size + 1 < w1.heap.size) := ⟨boxes_drew X2.out.1 hdr, two_drew X2.out.2.1 hdr, (by obtain ⟨q, rfl⟩ := hdr; exact X2.out.2.2.1), X2.out.2.2.2⟩
  clear SZ X2 hdr
  go_wp2_with fail
  refine (TK.out w1.heap.size b1 b2 k1 k2 w3 X3.out.2.2.1 X3.out.2.1).mono ?_
  rintro z w4 ⟨e1, j1, e2, j2, ao, co, rfl, q1, q2, q3, hb4, f1, f2, f3⟩
  have X4 : Aside (Boxes w w4 w.heap.size e r true (.slice a1 c.echoes.length c1) (.slice a2 c.readies.length c2)) := by
    have hs := X3.out.2.2.2
    have h1 := hb4.block w.heap.size (by omega)
    have h2 := hb4.block (w.heap.size + 1) (by omega)
    exact ⟨h1.trans X3.out.1.box, h2.trans X3.out.1.res, X3.out.1.below.trans (hb4.mono (by omega))⟩
  have Q1 : Aside (∀ o, TakePost w ⟨nx.1, nx.2, Vt.none, false, 0⟩ _ _) := fun o => take_ok_end (co := co) (c1 := j1) (c2 := j2) (body := Vt.none) (is := false) o X4.out X3.out.2.2.2 q1 q2 q3 f1 f2 f3
  have hD : Aside (∀ o u0 u1 u2 u3 u4, C5 _ _ u0 u1 u2 u3 u4) := fun o u0 u1 u2 u3 u4 => (C5.set X4.out.res u0 u1 u2 u3 u4).alloc o
  generalize TakePost w ⟨nx.1, nx.2, Vt.none, false, 0⟩ = Q at *
  unfold Vt.none at *
  obtain ⟨y0, y1, y2, y3, y4⟩ := X4.out.box.cells
  have yl := X4.out.box.lt
  have rl := X4.out.res.lt
  obtain ⟨r0, r1, r2, r3, r4⟩ := X4.out.res.cells
  have rf := X4.out.res.frozen
  clear TK X3 X4 q1 q2 q3 hb4 f1 f2 f3
  generalize nx.1.done = nd at *
  generalize nx.1.echoed = ne at *
  generalize nx.1.readied = nr at *
  generalize nx.1.echoes.length = ml1 at *
  generalize nx.1.readies.length = ml2 at *
  generalize nx.2.length = ml3 at *
  clear hk
  go_wp2
  refine ⟨rfl, _, ?_, Q1.out _⟩
  obtain ⟨d0, d1, d2, d3, d4⟩ := (hD.out (.cells #[.bool ne, .bool nr, .bool nd, .slice e1 ml1 j1, .slice e2 ml2 j2] 48) (.bool ne) (.bool nr) (.bool nd) (.slice e1 ml1 j1) (.slice e2 ml2 j2)).cells
  simp [results, Try.results16, go_sem, d0, d1, d2, d3, d4]

set_option maxHeartbeats 8000000 in
set_option maxRecDepth 100000 in
theorem take_ok1n (c : Vt.Cs) (a1 a2 : Option Addr) (c1 c2 ms frm : Nat) (kind : Int) (id : Nat) (x : ByteArray) (w : World) (h : CsAt w c a1 a2) (hms : ms < 65536) (t2 : ¬ (1000 : Int) < (x.size : Int)) (t3 : Cn.hasS ms id = true) (t4 : Cn.hasS ms frm = true) (hk : kind = 1 ∨ kind = 2 ∨ kind = 3) (t5 : kind = 1) (t6 : ((id : Int) != (frm : Int)) = false) (t7 : Vt.old c kind id = false) (hd : c.done = false) (hnd : (Vt.taken c (Cn.sizeS ms) kind id x).1.done = false) :
    Calls Try.prog 16 #[.agg #[.bool c.echoed, .bool c.readied, .bool c.done, .slice a1 c.echoes.length c1, .slice a2 c.readies.length c2], .int .u16 (ms : Nat), .int .u8 (frm : Nat), .int .i64 kind, .int .u8 (id : Nat), .string x] w
      (TakePost w ⟨(Vt.taken c (Cn.sizeS ms) kind id x).1, (Vt.taken c (Cn.sizeS ms) kind id x).2, Vt.none, false, 0⟩) := by
  have X0 : Aside (Boxes w _ w.heap.size c.echoed c.readied c.done (.slice a1 c.echoes.length c1) (.slice a2 c.readies.length c2)) := boxes_new w w.heap.size (Nat.le_refl _) c.echoed c.readied c.done (.slice a1 c.echoes.length c1) (.slice a2 c.readies.length c2)
  have H1 : Aside (∀ W, Calls Try.prog 30 #[.int .u16 (ms : Nat), .int .u8 (id : Nat)] W fun e w' => e = .returned (.bool (Cn.hasS ms id)) ∧ w' = W) := fun W => has_any ms id W hms
  have H2 : Aside (∀ W, Calls Try.prog 30 #[.int .u16 (ms : Nat), .int .u8 (frm : Nat)] W fun e w' => e = .returned (.bool (Cn.hasS ms frm)) ∧ w' = W) := fun W => has_any ms frm W hms
  have SZ : Aside (∀ W, Calls Try.prog 33 #[.int .u16 (ms : Nat)] W fun e w' => e = .returned (.int .i64 (Cn.sizeS ms : Nat)) ∧ Drew W w') := fun W => size_any ms W hms
  have OL : Aside (∀ W, Below w.heap.size w W → Calls Try.prog 31 #[.agg #[.bool c.echoed, .bool c.readied, .bool c.done, .slice a1 c.echoes.length c1, .slice a2 c.readies.length c2], .int .i64 kind, .int .u8 (id : Nat)] W fun e w' => e = .returned (.bool (Vt.old c kind id)) ∧ Below W.heap.size W w') := fun W hb => isOld_any c a1 a2 c1 c2 kind id W hk (h.later hb)
  have AN : Aside (∀ W, Below w.heap.size w W → Calls Try.prog 29 #[.agg #[.bool c.echoed, .bool c.readied, .bool c.done, .slice a1 c.echoes.length c1, .slice a2 c.readies.length c2]] W (Anew W c.echoed c.readied c.done c.echoes c.readies)) :=
    fun W hb => anew_any c.echoed c.readied c.done a1 a2 c1 c2 c.echoes c.readies W (h.e.later hb) (h.r.later hb) (by have := h.n1; omega) (by have := h.n2; omega)
  have TK : Aside (∀ B b1 b2 k1 k2 W, B ≤ W.heap.size → Two B W (.slice b1 c.echoes.length k1) (.slice b2 c.readies.length k2) c.echoes c.readies →
      Calls Try.prog 32 #[.agg #[.bool c.echoed, .bool c.readied, .bool c.done, .slice b1 c.echoes.length k1, .slice b2 c.readies.length k2], .int .i64 (Cn.sizeS ms : Nat), .int .i64 kind, .int .u8 (id : Nat), .string x] W (TakenPost B W (Vt.taken c (Cn.sizeS ms) kind id x))) :=
    fun B b1 b2 k1 k2 W hB hT => taken_any B c b1 b2 k1 k2 (Cn.sizeS ms) kind id x W hk hB hT h.small h.n1 h.n2
  rw [t3] at H1
  rw [t4] at H2
  rw [t7] at OL
  generalize Vt.taken c (Cn.sizeS ms) kind id x = nx at *
  generalize Cn.sizeS ms = n at *
  subst t5
  clear t3 t4 t7 h hms
  rw [hd] at *
  clear hd
  generalize c.echoed = e at *
  generalize c.readied = r at *
  go_enter Try.func16, Try.ntmps16
  go_wp2_with fail
  refine (H1.out _).mono ?_; rintro z w1 ⟨rfl, hw⟩
  replace hw := hw.symm; subst hw
  clear H1
  go_wp2_with fail
  refine (H2.out _).mono ?_; rintro z w1 ⟨rfl, hw⟩
  replace hw := hw.symm; subst hw
  clear H2
  go_wp2_with fail
  obtain ⟨y0, y1, y2, y3, y4⟩ := X0.out.box.cells
  refine (OL.out _ (X0.out.below)).mono ?_; rintro z w1 ⟨rfl, hb1⟩
  have X1 : Aside (Boxes w w1 w.heap.size e r false _ _) := X0.out.later hb1 (by simp; omega)
  clear OL hb1
  clear X0
  obtain ⟨y0, y1, y2, y3, y4⟩ := X1.out.box.cells
  go_wp2_with fail
  refine (AN.out _ X1.out.below).mono ?_
  rintro z w2 ⟨v1, v2, rfl, hT, hb2⟩
  obtain ⟨b1, k1, rfl, -, -⟩ := Vt.own_at hT.1
  obtain ⟨b2, k2, rfl, -, -⟩ := Vt.own_at hT.2.1
  have X2 : Aside (Boxes w w2 w.heap.size e r false _ _ ∧ Two w1.heap.size w2 (.slice b1 c.echoes.length k1) (.slice b2 c.readies.length k2) c.echoes c.readies ∧ w1.heap.size ≤ w2.heap.size ∧ w.heap.size + 1 < w1.heap.size) := ⟨X1.out.later hb2 (by have := X1.out.size; omega), hT, hb2.size, X1.out.size⟩
  clear AN X1 hT hb2 y0 y1 y2 y3 y4
  go_wp2_with fail
  refine (SZ.out _).mono ?_
  rintro z w3 ⟨rfl, hdr⟩
  have X3 : Aside (Boxes w w3 w.heap.size e r false _ _ ∧ Two w1.heap.size w3 (.slice b1 c.echoes.length k1) (.slice b2 c.readies.length k2) c.echoes c.readies ∧ w1.heap.size ≤ w3.heap.size ∧ w.heap.size + 1 < w1.heap.size) := ⟨boxes_drew X2.out.1 hdr, two_drew X2.out.2.1 hdr, (by obtain ⟨q, rfl⟩ := hdr; exact X2.out.2.2.1), X2.out.2.2.2⟩
  clear SZ X2 hdr
  go_wp2_with fail
  refine (TK.out w1.heap.size b1 b2 k1 k2 w3 X3.out.2.2.1 X3.out.2.1).mono ?_
  rintro z w4 ⟨e1, j1, e2, j2, ao, co, rfl, q1, q2, q3, hb4, f1, f2, f3⟩
  have X4 : Aside (Boxes w w4 w.heap.size e r false (.slice a1 c.echoes.length c1) (.slice a2 c.readies.length c2)) := by
    have hs := X3.out.2.2.2
    have h1 := hb4.block w.heap.size (by omega)
    have h2 := hb4.block (w.heap.size + 1) (by omega)
    exact ⟨h1.trans X3.out.1.box, h2.trans X3.out.1.res, X3.out.1.below.trans (hb4.mono (by omega))⟩
  have Q1 : Aside (∀ o, TakePost w ⟨nx.1, nx.2, Vt.none, false, 0⟩ _ _) := fun o => take_ok_end (co := co) (c1 := j1) (c2 := j2) (body := Vt.none) (is := false) o X4.out X3.out.2.2.2 q1 q2 q3 f1 f2 f3
  have hD : Aside (∀ o u0 u1 u2 u3 u4, C5 _ _ u0 u1 u2 u3 u4) := fun o u0 u1 u2 u3 u4 => (C5.set X4.out.res u0 u1 u2 u3 u4).alloc o
  generalize TakePost w ⟨nx.1, nx.2, Vt.none, false, 0⟩ = Q at *
  unfold Vt.none at *
  obtain ⟨y0, y1, y2, y3, y4⟩ := X4.out.box.cells
  have yl := X4.out.box.lt
  have rl := X4.out.res.lt
  obtain ⟨r0, r1, r2, r3, r4⟩ := X4.out.res.cells
  have rf := X4.out.res.frozen
  clear TK X3 X4 q1 q2 q3 hb4 f1 f2 f3
  rw [hnd] at *
  clear hnd
  generalize nx.1.echoed = ne at *
  generalize nx.1.readied = nr at *
  generalize nx.1.echoes.length = ml1 at *
  generalize nx.1.readies.length = ml2 at *
  generalize nx.2.length = ml3 at *
  clear hk
  go_wp2
  refine ⟨rfl, _, ?_, Q1.out _⟩
  obtain ⟨d0, d1, d2, d3, d4⟩ := (hD.out (.cells #[.bool ne, .bool nr, .bool false, .slice e1 ml1 j1, .slice e2 ml2 j2] 48) (.bool ne) (.bool nr) (.bool false) (.slice e1 ml1 j1) (.slice e2 ml2 j2)).cells
  simp [results, Try.results16, go_sem, d0, d1, d2, d3, d4]

set_option maxHeartbeats 8000000 in
set_option maxRecDepth 100000 in
theorem take_ok2d (c : Vt.Cs) (a1 a2 : Option Addr) (c1 c2 ms frm : Nat) (kind : Int) (id : Nat) (x : ByteArray) (w : World) (h : CsAt w c a1 a2) (hms : ms < 65536) (t2 : ¬ (1000 : Int) < (x.size : Int)) (t3 : Cn.hasS ms id = true) (t4 : Cn.hasS ms frm = true) (hk : kind = 1 ∨ kind = 2 ∨ kind = 3) (t5 : kind = 2) (t7 : Vt.old c kind id = false) (hd : c.done = true) :
    Calls Try.prog 16 #[.agg #[.bool c.echoed, .bool c.readied, .bool c.done, .slice a1 c.echoes.length c1, .slice a2 c.readies.length c2], .int .u16 (ms : Nat), .int .u8 (frm : Nat), .int .i64 kind, .int .u8 (id : Nat), .string x] w
      (TakePost w ⟨(Vt.taken c (Cn.sizeS ms) kind id x).1, (Vt.taken c (Cn.sizeS ms) kind id x).2, Vt.none, false, 0⟩) := by
  have X0 : Aside (Boxes w _ w.heap.size c.echoed c.readied c.done (.slice a1 c.echoes.length c1) (.slice a2 c.readies.length c2)) := boxes_new w w.heap.size (Nat.le_refl _) c.echoed c.readied c.done (.slice a1 c.echoes.length c1) (.slice a2 c.readies.length c2)
  have H1 : Aside (∀ W, Calls Try.prog 30 #[.int .u16 (ms : Nat), .int .u8 (id : Nat)] W fun e w' => e = .returned (.bool (Cn.hasS ms id)) ∧ w' = W) := fun W => has_any ms id W hms
  have H2 : Aside (∀ W, Calls Try.prog 30 #[.int .u16 (ms : Nat), .int .u8 (frm : Nat)] W fun e w' => e = .returned (.bool (Cn.hasS ms frm)) ∧ w' = W) := fun W => has_any ms frm W hms
  have SZ : Aside (∀ W, Calls Try.prog 33 #[.int .u16 (ms : Nat)] W fun e w' => e = .returned (.int .i64 (Cn.sizeS ms : Nat)) ∧ Drew W w') := fun W => size_any ms W hms
  have OL : Aside (∀ W, Below w.heap.size w W → Calls Try.prog 31 #[.agg #[.bool c.echoed, .bool c.readied, .bool c.done, .slice a1 c.echoes.length c1, .slice a2 c.readies.length c2], .int .i64 kind, .int .u8 (id : Nat)] W fun e w' => e = .returned (.bool (Vt.old c kind id)) ∧ Below W.heap.size W w') := fun W hb => isOld_any c a1 a2 c1 c2 kind id W hk (h.later hb)
  have AN : Aside (∀ W, Below w.heap.size w W → Calls Try.prog 29 #[.agg #[.bool c.echoed, .bool c.readied, .bool c.done, .slice a1 c.echoes.length c1, .slice a2 c.readies.length c2]] W (Anew W c.echoed c.readied c.done c.echoes c.readies)) :=
    fun W hb => anew_any c.echoed c.readied c.done a1 a2 c1 c2 c.echoes c.readies W (h.e.later hb) (h.r.later hb) (by have := h.n1; omega) (by have := h.n2; omega)
  have TK : Aside (∀ B b1 b2 k1 k2 W, B ≤ W.heap.size → Two B W (.slice b1 c.echoes.length k1) (.slice b2 c.readies.length k2) c.echoes c.readies →
      Calls Try.prog 32 #[.agg #[.bool c.echoed, .bool c.readied, .bool c.done, .slice b1 c.echoes.length k1, .slice b2 c.readies.length k2], .int .i64 (Cn.sizeS ms : Nat), .int .i64 kind, .int .u8 (id : Nat), .string x] W (TakenPost B W (Vt.taken c (Cn.sizeS ms) kind id x))) :=
    fun B b1 b2 k1 k2 W hB hT => taken_any B c b1 b2 k1 k2 (Cn.sizeS ms) kind id x W hk hB hT h.small h.n1 h.n2
  rw [t3] at H1
  rw [t4] at H2
  rw [t7] at OL
  generalize Vt.taken c (Cn.sizeS ms) kind id x = nx at *
  generalize Cn.sizeS ms = n at *
  subst t5
  clear t3 t4 t7 h hms
  rw [hd] at *
  clear hd
  generalize c.echoed = e at *
  generalize c.readied = r at *
  go_enter Try.func16, Try.ntmps16
  go_wp2_with fail
  refine (H1.out _).mono ?_; rintro z w1 ⟨rfl, hw⟩
  replace hw := hw.symm; subst hw
  clear H1
  go_wp2_with fail
  refine (H2.out _).mono ?_; rintro z w1 ⟨rfl, hw⟩
  replace hw := hw.symm; subst hw
  clear H2
  go_wp2_with fail
  obtain ⟨y0, y1, y2, y3, y4⟩ := X0.out.box.cells
  refine (OL.out _ (X0.out.below)).mono ?_; rintro z w1 ⟨rfl, hb1⟩
  have X1 : Aside (Boxes w w1 w.heap.size e r true _ _) := X0.out.later hb1 (by simp; omega)
  clear OL hb1
  clear X0
  obtain ⟨y0, y1, y2, y3, y4⟩ := X1.out.box.cells
  go_wp2_with fail
  refine (AN.out _ X1.out.below).mono ?_
  rintro z w2 ⟨v1, v2, rfl, hT, hb2⟩
  obtain ⟨b1, k1, rfl, -, -⟩ := Vt.own_at hT.1
  obtain ⟨b2, k2, rfl, -, -⟩ := Vt.own_at hT.2.1
  have X2 : Aside (Boxes w w2 w.heap.size e r true _ _ ∧ Two w1.heap.size w2 (.slice b1 c.echoes.length k1) (.slice b2 c.readies.length k2) c.echoes c.readies ∧ w1.heap.size ≤ w2.heap.size ∧ w.heap.size + 1 < w1.heap.size) := ⟨X1.out.later hb2 (by have := X1.out.size; omega), hT, hb2.size, X1.out.size⟩
  clear AN X1 hT hb2 y0 y1 y2 y3 y4
  go_wp2_with fail
  refine (SZ.out _).mono ?_
  rintro z w3 ⟨rfl, hdr⟩
  have X3 : Aside (Boxes w w3 w.heap.size e r true _ _ ∧ Two w1.heap.size w3 (.slice b1 c.echoes.length k1) (.slice b2 c.readies.length k2) c.echoes c.readies ∧ w1.heap.size ≤ w3.heap.size ∧ w.heap.size + 1 < w1.heap.size) := ⟨boxes_drew X2.out.1 hdr, two_drew X2.out.2.1 hdr, (by obtain ⟨q, rfl⟩ := hdr; exact X2.out.2.2.1), X2.out.2.2.2⟩
  clear SZ X2 hdr
  go_wp2_with fail
  refine (TK.out w1.heap.size b1 b2 k1 k2 w3 X3.out.2.2.1 X3.out.2.1).mono ?_
  rintro z w4 ⟨e1, j1, e2, j2, ao, co, rfl, q1, q2, q3, hb4, f1, f2, f3⟩
  have X4 : Aside (Boxes w w4 w.heap.size e r true (.slice a1 c.echoes.length c1) (.slice a2 c.readies.length c2)) := by
    have hs := X3.out.2.2.2
    have h1 := hb4.block w.heap.size (by omega)
    have h2 := hb4.block (w.heap.size + 1) (by omega)
    exact ⟨h1.trans X3.out.1.box, h2.trans X3.out.1.res, X3.out.1.below.trans (hb4.mono (by omega))⟩
  have Q1 : Aside (∀ o, TakePost w ⟨nx.1, nx.2, Vt.none, false, 0⟩ _ _) := fun o => take_ok_end (co := co) (c1 := j1) (c2 := j2) (body := Vt.none) (is := false) o X4.out X3.out.2.2.2 q1 q2 q3 f1 f2 f3
  have hD : Aside (∀ o u0 u1 u2 u3 u4, C5 _ _ u0 u1 u2 u3 u4) := fun o u0 u1 u2 u3 u4 => (C5.set X4.out.res u0 u1 u2 u3 u4).alloc o
  generalize TakePost w ⟨nx.1, nx.2, Vt.none, false, 0⟩ = Q at *
  unfold Vt.none at *
  obtain ⟨y0, y1, y2, y3, y4⟩ := X4.out.box.cells
  have yl := X4.out.box.lt
  have rl := X4.out.res.lt
  obtain ⟨r0, r1, r2, r3, r4⟩ := X4.out.res.cells
  have rf := X4.out.res.frozen
  clear TK X3 X4 q1 q2 q3 hb4 f1 f2 f3
  generalize nx.1.done = nd at *
  generalize nx.1.echoed = ne at *
  generalize nx.1.readied = nr at *
  generalize nx.1.echoes.length = ml1 at *
  generalize nx.1.readies.length = ml2 at *
  generalize nx.2.length = ml3 at *
  clear hk
  go_wp2
  refine ⟨rfl, _, ?_, Q1.out _⟩
  obtain ⟨d0, d1, d2, d3, d4⟩ := (hD.out (.cells #[.bool ne, .bool nr, .bool nd, .slice e1 ml1 j1, .slice e2 ml2 j2] 48) (.bool ne) (.bool nr) (.bool nd) (.slice e1 ml1 j1) (.slice e2 ml2 j2)).cells
  simp [results, Try.results16, go_sem, d0, d1, d2, d3, d4]

set_option maxHeartbeats 8000000 in
set_option maxRecDepth 100000 in
theorem take_ok2n (c : Vt.Cs) (a1 a2 : Option Addr) (c1 c2 ms frm : Nat) (kind : Int) (id : Nat) (x : ByteArray) (w : World) (h : CsAt w c a1 a2) (hms : ms < 65536) (t2 : ¬ (1000 : Int) < (x.size : Int)) (t3 : Cn.hasS ms id = true) (t4 : Cn.hasS ms frm = true) (hk : kind = 1 ∨ kind = 2 ∨ kind = 3) (t5 : kind = 2) (t7 : Vt.old c kind id = false) (hd : c.done = false) (hnd : (Vt.taken c (Cn.sizeS ms) kind id x).1.done = false) :
    Calls Try.prog 16 #[.agg #[.bool c.echoed, .bool c.readied, .bool c.done, .slice a1 c.echoes.length c1, .slice a2 c.readies.length c2], .int .u16 (ms : Nat), .int .u8 (frm : Nat), .int .i64 kind, .int .u8 (id : Nat), .string x] w
      (TakePost w ⟨(Vt.taken c (Cn.sizeS ms) kind id x).1, (Vt.taken c (Cn.sizeS ms) kind id x).2, Vt.none, false, 0⟩) := by
  have X0 : Aside (Boxes w _ w.heap.size c.echoed c.readied c.done (.slice a1 c.echoes.length c1) (.slice a2 c.readies.length c2)) := boxes_new w w.heap.size (Nat.le_refl _) c.echoed c.readied c.done (.slice a1 c.echoes.length c1) (.slice a2 c.readies.length c2)
  have H1 : Aside (∀ W, Calls Try.prog 30 #[.int .u16 (ms : Nat), .int .u8 (id : Nat)] W fun e w' => e = .returned (.bool (Cn.hasS ms id)) ∧ w' = W) := fun W => has_any ms id W hms
  have H2 : Aside (∀ W, Calls Try.prog 30 #[.int .u16 (ms : Nat), .int .u8 (frm : Nat)] W fun e w' => e = .returned (.bool (Cn.hasS ms frm)) ∧ w' = W) := fun W => has_any ms frm W hms
  have SZ : Aside (∀ W, Calls Try.prog 33 #[.int .u16 (ms : Nat)] W fun e w' => e = .returned (.int .i64 (Cn.sizeS ms : Nat)) ∧ Drew W w') := fun W => size_any ms W hms
  have OL : Aside (∀ W, Below w.heap.size w W → Calls Try.prog 31 #[.agg #[.bool c.echoed, .bool c.readied, .bool c.done, .slice a1 c.echoes.length c1, .slice a2 c.readies.length c2], .int .i64 kind, .int .u8 (id : Nat)] W fun e w' => e = .returned (.bool (Vt.old c kind id)) ∧ Below W.heap.size W w') := fun W hb => isOld_any c a1 a2 c1 c2 kind id W hk (h.later hb)
  have AN : Aside (∀ W, Below w.heap.size w W → Calls Try.prog 29 #[.agg #[.bool c.echoed, .bool c.readied, .bool c.done, .slice a1 c.echoes.length c1, .slice a2 c.readies.length c2]] W (Anew W c.echoed c.readied c.done c.echoes c.readies)) :=
    fun W hb => anew_any c.echoed c.readied c.done a1 a2 c1 c2 c.echoes c.readies W (h.e.later hb) (h.r.later hb) (by have := h.n1; omega) (by have := h.n2; omega)
  have TK : Aside (∀ B b1 b2 k1 k2 W, B ≤ W.heap.size → Two B W (.slice b1 c.echoes.length k1) (.slice b2 c.readies.length k2) c.echoes c.readies →
      Calls Try.prog 32 #[.agg #[.bool c.echoed, .bool c.readied, .bool c.done, .slice b1 c.echoes.length k1, .slice b2 c.readies.length k2], .int .i64 (Cn.sizeS ms : Nat), .int .i64 kind, .int .u8 (id : Nat), .string x] W (TakenPost B W (Vt.taken c (Cn.sizeS ms) kind id x))) :=
    fun B b1 b2 k1 k2 W hB hT => taken_any B c b1 b2 k1 k2 (Cn.sizeS ms) kind id x W hk hB hT h.small h.n1 h.n2
  rw [t3] at H1
  rw [t4] at H2
  rw [t7] at OL
  generalize Vt.taken c (Cn.sizeS ms) kind id x = nx at *
  generalize Cn.sizeS ms = n at *
  subst t5
  clear t3 t4 t7 h hms
  rw [hd] at *
  clear hd
  generalize c.echoed = e at *
  generalize c.readied = r at *
  go_enter Try.func16, Try.ntmps16
  go_wp2_with fail
  refine (H1.out _).mono ?_; rintro z w1 ⟨rfl, hw⟩
  replace hw := hw.symm; subst hw
  clear H1
  go_wp2_with fail
  refine (H2.out _).mono ?_; rintro z w1 ⟨rfl, hw⟩
  replace hw := hw.symm; subst hw
  clear H2
  go_wp2_with fail
  obtain ⟨y0, y1, y2, y3, y4⟩ := X0.out.box.cells
  refine (OL.out _ (X0.out.below)).mono ?_; rintro z w1 ⟨rfl, hb1⟩
  have X1 : Aside (Boxes w w1 w.heap.size e r false _ _) := X0.out.later hb1 (by simp; omega)
  clear OL hb1
  clear X0
  obtain ⟨y0, y1, y2, y3, y4⟩ := X1.out.box.cells
  go_wp2_with fail
  refine (AN.out _ X1.out.below).mono ?_
  rintro z w2 ⟨v1, v2, rfl, hT, hb2⟩
  obtain ⟨b1, k1, rfl, -, -⟩ := Vt.own_at hT.1
  obtain ⟨b2, k2, rfl, -, -⟩ := Vt.own_at hT.2.1
  have X2 : Aside (Boxes w w2 w.heap.size e r false _ _ ∧ Two w1.heap.size w2 (.slice b1 c.echoes.length k1) (.slice b2 c.readies.length k2) c.echoes c.readies ∧ w1.heap.size ≤ w2.heap.size ∧ w.heap.size + 1 < w1.heap.size) := ⟨X1.out.later hb2 (by have := X1.out.size; omega), hT, hb2.size, X1.out.size⟩
  clear AN X1 hT hb2 y0 y1 y2 y3 y4
  go_wp2_with fail
  refine (SZ.out _).mono ?_
  rintro z w3 ⟨rfl, hdr⟩
  have X3 : Aside (Boxes w w3 w.heap.size e r false _ _ ∧ Two w1.heap.size w3 (.slice b1 c.echoes.length k1) (.slice b2 c.readies.length k2) c.echoes c.readies ∧ w1.heap.size ≤ w3.heap.size ∧ w.heap.size + 1 < w1.heap.size) := ⟨boxes_drew X2.out.1 hdr, two_drew X2.out.2.1 hdr, (by obtain ⟨q, rfl⟩ := hdr; exact X2.out.2.2.1), X2.out.2.2.2⟩
  clear SZ X2 hdr
  go_wp2_with fail
  refine (TK.out w1.heap.size b1 b2 k1 k2 w3 X3.out.2.2.1 X3.out.2.1).mono ?_
  rintro z w4 ⟨e1, j1, e2, j2, ao, co, rfl, q1, q2, q3, hb4, f1, f2, f3⟩
  have X4 : Aside (Boxes w w4 w.heap.size e r false (.slice a1 c.echoes.length c1) (.slice a2 c.readies.length c2)) := by
    have hs := X3.out.2.2.2
    have h1 := hb4.block w.heap.size (by omega)
    have h2 := hb4.block (w.heap.size + 1) (by omega)
    exact ⟨h1.trans X3.out.1.box, h2.trans X3.out.1.res, X3.out.1.below.trans (hb4.mono (by omega))⟩
  have Q1 : Aside (∀ o, TakePost w ⟨nx.1, nx.2, Vt.none, false, 0⟩ _ _) := fun o => take_ok_end (co := co) (c1 := j1) (c2 := j2) (body := Vt.none) (is := false) o X4.out X3.out.2.2.2 q1 q2 q3 f1 f2 f3
  have hD : Aside (∀ o u0 u1 u2 u3 u4, C5 _ _ u0 u1 u2 u3 u4) := fun o u0 u1 u2 u3 u4 => (C5.set X4.out.res u0 u1 u2 u3 u4).alloc o
  generalize TakePost w ⟨nx.1, nx.2, Vt.none, false, 0⟩ = Q at *
  unfold Vt.none at *
  obtain ⟨y0, y1, y2, y3, y4⟩ := X4.out.box.cells
  have yl := X4.out.box.lt
  have rl := X4.out.res.lt
  obtain ⟨r0, r1, r2, r3, r4⟩ := X4.out.res.cells
  have rf := X4.out.res.frozen
  clear TK X3 X4 q1 q2 q3 hb4 f1 f2 f3
  rw [hnd] at *
  clear hnd
  generalize nx.1.echoed = ne at *
  generalize nx.1.readied = nr at *
  generalize nx.1.echoes.length = ml1 at *
  generalize nx.1.readies.length = ml2 at *
  generalize nx.2.length = ml3 at *
  clear hk
  go_wp2
  refine ⟨rfl, _, ?_, Q1.out _⟩
  obtain ⟨d0, d1, d2, d3, d4⟩ := (hD.out (.cells #[.bool ne, .bool nr, .bool false, .slice e1 ml1 j1, .slice e2 ml2 j2] 48) (.bool ne) (.bool nr) (.bool false) (.slice e1 ml1 j1) (.slice e2 ml2 j2)).cells
  simp [results, Try.results16, go_sem, d0, d1, d2, d3, d4]

set_option maxHeartbeats 8000000 in
set_option maxRecDepth 100000 in
theorem take_ok3d (c : Vt.Cs) (a1 a2 : Option Addr) (c1 c2 ms frm : Nat) (kind : Int) (id : Nat) (x : ByteArray) (w : World) (h : CsAt w c a1 a2) (hms : ms < 65536) (t2 : ¬ (1000 : Int) < (x.size : Int)) (t3 : Cn.hasS ms id = true) (t4 : Cn.hasS ms frm = true) (hk : kind = 1 ∨ kind = 2 ∨ kind = 3) (t5 : kind = 3) (t7 : Vt.old c kind id = false) (hd : c.done = true) :
    Calls Try.prog 16 #[.agg #[.bool c.echoed, .bool c.readied, .bool c.done, .slice a1 c.echoes.length c1, .slice a2 c.readies.length c2], .int .u16 (ms : Nat), .int .u8 (frm : Nat), .int .i64 kind, .int .u8 (id : Nat), .string x] w
      (TakePost w ⟨(Vt.taken c (Cn.sizeS ms) kind id x).1, (Vt.taken c (Cn.sizeS ms) kind id x).2, Vt.none, false, 0⟩) := by
  have X0 : Aside (Boxes w _ w.heap.size c.echoed c.readied c.done (.slice a1 c.echoes.length c1) (.slice a2 c.readies.length c2)) := boxes_new w w.heap.size (Nat.le_refl _) c.echoed c.readied c.done (.slice a1 c.echoes.length c1) (.slice a2 c.readies.length c2)
  have H1 : Aside (∀ W, Calls Try.prog 30 #[.int .u16 (ms : Nat), .int .u8 (id : Nat)] W fun e w' => e = .returned (.bool (Cn.hasS ms id)) ∧ w' = W) := fun W => has_any ms id W hms
  have H2 : Aside (∀ W, Calls Try.prog 30 #[.int .u16 (ms : Nat), .int .u8 (frm : Nat)] W fun e w' => e = .returned (.bool (Cn.hasS ms frm)) ∧ w' = W) := fun W => has_any ms frm W hms
  have SZ : Aside (∀ W, Calls Try.prog 33 #[.int .u16 (ms : Nat)] W fun e w' => e = .returned (.int .i64 (Cn.sizeS ms : Nat)) ∧ Drew W w') := fun W => size_any ms W hms
  have OL : Aside (∀ W, Below w.heap.size w W → Calls Try.prog 31 #[.agg #[.bool c.echoed, .bool c.readied, .bool c.done, .slice a1 c.echoes.length c1, .slice a2 c.readies.length c2], .int .i64 kind, .int .u8 (id : Nat)] W fun e w' => e = .returned (.bool (Vt.old c kind id)) ∧ Below W.heap.size W w') := fun W hb => isOld_any c a1 a2 c1 c2 kind id W hk (h.later hb)
  have AN : Aside (∀ W, Below w.heap.size w W → Calls Try.prog 29 #[.agg #[.bool c.echoed, .bool c.readied, .bool c.done, .slice a1 c.echoes.length c1, .slice a2 c.readies.length c2]] W (Anew W c.echoed c.readied c.done c.echoes c.readies)) :=
    fun W hb => anew_any c.echoed c.readied c.done a1 a2 c1 c2 c.echoes c.readies W (h.e.later hb) (h.r.later hb) (by have := h.n1; omega) (by have := h.n2; omega)
  have TK : Aside (∀ B b1 b2 k1 k2 W, B ≤ W.heap.size → Two B W (.slice b1 c.echoes.length k1) (.slice b2 c.readies.length k2) c.echoes c.readies →
      Calls Try.prog 32 #[.agg #[.bool c.echoed, .bool c.readied, .bool c.done, .slice b1 c.echoes.length k1, .slice b2 c.readies.length k2], .int .i64 (Cn.sizeS ms : Nat), .int .i64 kind, .int .u8 (id : Nat), .string x] W (TakenPost B W (Vt.taken c (Cn.sizeS ms) kind id x))) :=
    fun B b1 b2 k1 k2 W hB hT => taken_any B c b1 b2 k1 k2 (Cn.sizeS ms) kind id x W hk hB hT h.small h.n1 h.n2
  rw [t3] at H1
  rw [t4] at H2
  rw [t7] at OL
  generalize Vt.taken c (Cn.sizeS ms) kind id x = nx at *
  generalize Cn.sizeS ms = n at *
  subst t5
  clear t3 t4 t7 h hms
  rw [hd] at *
  clear hd
  generalize c.echoed = e at *
  generalize c.readied = r at *
  go_enter Try.func16, Try.ntmps16
  go_wp2_with fail
  refine (H1.out _).mono ?_; rintro z w1 ⟨rfl, hw⟩
  replace hw := hw.symm; subst hw
  clear H1
  go_wp2_with fail
  refine (H2.out _).mono ?_; rintro z w1 ⟨rfl, hw⟩
  replace hw := hw.symm; subst hw
  clear H2
  go_wp2_with fail
  obtain ⟨y0, y1, y2, y3, y4⟩ := X0.out.box.cells
  refine (OL.out _ (X0.out.below)).mono ?_; rintro z w1 ⟨rfl, hb1⟩
  have X1 : Aside (Boxes w w1 w.heap.size e r true _ _) := X0.out.later hb1 (by simp; omega)
  clear OL hb1
  clear X0
  obtain ⟨y0, y1, y2, y3, y4⟩ := X1.out.box.cells
  go_wp2_with fail
  refine (AN.out _ X1.out.below).mono ?_
  rintro z w2 ⟨v1, v2, rfl, hT, hb2⟩
  obtain ⟨b1, k1, rfl, -, -⟩ := Vt.own_at hT.1
  obtain ⟨b2, k2, rfl, -, -⟩ := Vt.own_at hT.2.1
  have X2 : Aside (Boxes w w2 w.heap.size e r true _ _ ∧ Two w1.heap.size w2 (.slice b1 c.echoes.length k1) (.slice b2 c.readies.length k2) c.echoes c.readies ∧ w1.heap.size ≤ w2.heap.size ∧ w.heap.size + 1 < w1.heap.size) := ⟨X1.out.later hb2 (by have := X1.out.size; omega), hT, hb2.size, X1.out.size⟩
  clear AN X1 hT hb2 y0 y1 y2 y3 y4
  go_wp2_with fail
  refine (SZ.out _).mono ?_
  rintro z w3 ⟨rfl, hdr⟩
  have X3 : Aside (Boxes w w3 w.heap.size e r true _ _ ∧ Two w1.heap.size w3 (.slice b1 c.echoes.length k1) (.slice b2 c.readies.length k2) c.echoes c.readies ∧ w1.heap.size ≤ w3.heap.size ∧ w.heap.size + 1 < w1.heap.size) := ⟨boxes_drew X2.out.1 hdr, two_drew X2.out.2.1 hdr, (by obtain ⟨q, rfl⟩ := hdr; exact X2.out.2.2.1), X2.out.2.2.2⟩
  clear SZ X2 hdr
  go_wp2_with fail
  refine (TK.out w1.heap.size b1 b2 k1 k2 w3 X3.out.2.2.1 X3.out.2.1).mono ?_
  rintro z w4 ⟨e1, j1, e2, j2, ao, co, rfl, q1, q2, q3, hb4, f1, f2, f3⟩
  have X4 : Aside (Boxes w w4 w.heap.size e r true (.slice a1 c.echoes.length c1) (.slice a2 c.readies.length c2)) := by
    have hs := X3.out.2.2.2
    have h1 := hb4.block w.heap.size (by omega)
    have h2 := hb4.block (w.heap.size + 1) (by omega)
    exact ⟨h1.trans X3.out.1.box, h2.trans X3.out.1.res, X3.out.1.below.trans (hb4.mono (by omega))⟩
  have Q1 : Aside (∀ o, TakePost w ⟨nx.1, nx.2, Vt.none, false, 0⟩ _ _) := fun o => take_ok_end (co := co) (c1 := j1) (c2 := j2) (body := Vt.none) (is := false) o X4.out X3.out.2.2.2 q1 q2 q3 f1 f2 f3
  have hD : Aside (∀ o u0 u1 u2 u3 u4, C5 _ _ u0 u1 u2 u3 u4) := fun o u0 u1 u2 u3 u4 => (C5.set X4.out.res u0 u1 u2 u3 u4).alloc o
  generalize TakePost w ⟨nx.1, nx.2, Vt.none, false, 0⟩ = Q at *
  unfold Vt.none at *
  obtain ⟨y0, y1, y2, y3, y4⟩ := X4.out.box.cells
  have yl := X4.out.box.lt
  have rl := X4.out.res.lt
  obtain ⟨r0, r1, r2, r3, r4⟩ := X4.out.res.cells
  have rf := X4.out.res.frozen
  clear TK X3 X4 q1 q2 q3 hb4 f1 f2 f3
  generalize nx.1.done = nd at *
  generalize nx.1.echoed = ne at *
  generalize nx.1.readied = nr at *
  generalize nx.1.echoes.length = ml1 at *
  generalize nx.1.readies.length = ml2 at *
  generalize nx.2.length = ml3 at *
  clear hk
  go_wp2
  refine ⟨rfl, _, ?_, Q1.out _⟩
  obtain ⟨d0, d1, d2, d3, d4⟩ := (hD.out (.cells #[.bool ne, .bool nr, .bool nd, .slice e1 ml1 j1, .slice e2 ml2 j2] 48) (.bool ne) (.bool nr) (.bool nd) (.slice e1 ml1 j1) (.slice e2 ml2 j2)).cells
  simp [results, Try.results16, go_sem, d0, d1, d2, d3, d4]

set_option maxHeartbeats 8000000 in
set_option maxRecDepth 100000 in
theorem take_ok3n (c : Vt.Cs) (a1 a2 : Option Addr) (c1 c2 ms frm : Nat) (kind : Int) (id : Nat) (x : ByteArray) (w : World) (h : CsAt w c a1 a2) (hms : ms < 65536) (t2 : ¬ (1000 : Int) < (x.size : Int)) (t3 : Cn.hasS ms id = true) (t4 : Cn.hasS ms frm = true) (hk : kind = 1 ∨ kind = 2 ∨ kind = 3) (t5 : kind = 3) (t7 : Vt.old c kind id = false) (hd : c.done = false) (hnd : (Vt.taken c (Cn.sizeS ms) kind id x).1.done = false) :
    Calls Try.prog 16 #[.agg #[.bool c.echoed, .bool c.readied, .bool c.done, .slice a1 c.echoes.length c1, .slice a2 c.readies.length c2], .int .u16 (ms : Nat), .int .u8 (frm : Nat), .int .i64 kind, .int .u8 (id : Nat), .string x] w
      (TakePost w ⟨(Vt.taken c (Cn.sizeS ms) kind id x).1, (Vt.taken c (Cn.sizeS ms) kind id x).2, Vt.none, false, 0⟩) := by
  have X0 : Aside (Boxes w _ w.heap.size c.echoed c.readied c.done (.slice a1 c.echoes.length c1) (.slice a2 c.readies.length c2)) := boxes_new w w.heap.size (Nat.le_refl _) c.echoed c.readied c.done (.slice a1 c.echoes.length c1) (.slice a2 c.readies.length c2)
  have H1 : Aside (∀ W, Calls Try.prog 30 #[.int .u16 (ms : Nat), .int .u8 (id : Nat)] W fun e w' => e = .returned (.bool (Cn.hasS ms id)) ∧ w' = W) := fun W => has_any ms id W hms
  have H2 : Aside (∀ W, Calls Try.prog 30 #[.int .u16 (ms : Nat), .int .u8 (frm : Nat)] W fun e w' => e = .returned (.bool (Cn.hasS ms frm)) ∧ w' = W) := fun W => has_any ms frm W hms
  have SZ : Aside (∀ W, Calls Try.prog 33 #[.int .u16 (ms : Nat)] W fun e w' => e = .returned (.int .i64 (Cn.sizeS ms : Nat)) ∧ Drew W w') := fun W => size_any ms W hms
  have OL : Aside (∀ W, Below w.heap.size w W → Calls Try.prog 31 #[.agg #[.bool c.echoed, .bool c.readied, .bool c.done, .slice a1 c.echoes.length c1, .slice a2 c.readies.length c2], .int .i64 kind, .int .u8 (id : Nat)] W fun e w' => e = .returned (.bool (Vt.old c kind id)) ∧ Below W.heap.size W w') := fun W hb => isOld_any c a1 a2 c1 c2 kind id W hk (h.later hb)
  have AN : Aside (∀ W, Below w.heap.size w W → Calls Try.prog 29 #[.agg #[.bool c.echoed, .bool c.readied, .bool c.done, .slice a1 c.echoes.length c1, .slice a2 c.readies.length c2]] W (Anew W c.echoed c.readied c.done c.echoes c.readies)) :=
    fun W hb => anew_any c.echoed c.readied c.done a1 a2 c1 c2 c.echoes c.readies W (h.e.later hb) (h.r.later hb) (by have := h.n1; omega) (by have := h.n2; omega)
  have TK : Aside (∀ B b1 b2 k1 k2 W, B ≤ W.heap.size → Two B W (.slice b1 c.echoes.length k1) (.slice b2 c.readies.length k2) c.echoes c.readies →
      Calls Try.prog 32 #[.agg #[.bool c.echoed, .bool c.readied, .bool c.done, .slice b1 c.echoes.length k1, .slice b2 c.readies.length k2], .int .i64 (Cn.sizeS ms : Nat), .int .i64 kind, .int .u8 (id : Nat), .string x] W (TakenPost B W (Vt.taken c (Cn.sizeS ms) kind id x))) :=
    fun B b1 b2 k1 k2 W hB hT => taken_any B c b1 b2 k1 k2 (Cn.sizeS ms) kind id x W hk hB hT h.small h.n1 h.n2
  rw [t3] at H1
  rw [t4] at H2
  rw [t7] at OL
  generalize Vt.taken c (Cn.sizeS ms) kind id x = nx at *
  generalize Cn.sizeS ms = n at *
  subst t5
  clear t3 t4 t7 h hms
  rw [hd] at *
  clear hd
  generalize c.echoed = e at *
  generalize c.readied = r at *
  go_enter Try.func16, Try.ntmps16
  go_wp2_with fail
  refine (H1.out _).mono ?_; rintro z w1 ⟨rfl, hw⟩
  replace hw := hw.symm; subst hw
  clear H1
  go_wp2_with fail
  refine (H2.out _).mono ?_; rintro z w1 ⟨rfl, hw⟩
  replace hw := hw.symm; subst hw
  clear H2
  go_wp2_with fail
  obtain ⟨y0, y1, y2, y3, y4⟩ := X0.out.box.cells
  refine (OL.out _ (X0.out.below)).mono ?_; rintro z w1 ⟨rfl, hb1⟩
  have X1 : Aside (Boxes w w1 w.heap.size e r false _ _) := X0.out.later hb1 (by simp; omega)
  clear OL hb1
  clear X0
  obtain ⟨y0, y1, y2, y3, y4⟩ := X1.out.box.cells
  go_wp2_with fail
  refine (AN.out _ X1.out.below).mono ?_
  rintro z w2 ⟨v1, v2, rfl, hT, hb2⟩
  obtain ⟨b1, k1, rfl, -, -⟩ := Vt.own_at hT.1
  obtain ⟨b2, k2, rfl, -, -⟩ := Vt.own_at hT.2.1
  have X2 : Aside (Boxes w w2 w.heap.size e r false _ _ ∧ Two w1.heap.size w2 (.slice b1 c.echoes.length k1) (.slice b2 c.readies.length k2) c.echoes c.readies ∧ w1.heap.size ≤ w2.heap.size ∧ w.heap.size + 1 < w1.heap.size) := ⟨X1.out.later hb2 (by have := X1.out.size; omega), hT, hb2.size, X1.out.size⟩
  clear AN X1 hT hb2 y0 y1 y2 y3 y4
  go_wp2_with fail
  refine (SZ.out _).mono ?_
  rintro z w3 ⟨rfl, hdr⟩
  have X3 : Aside (Boxes w w3 w.heap.size e r false _ _ ∧ Two w1.heap.size w3 (.slice b1 c.echoes.length k1) (.slice b2 c.readies.length k2) c.echoes c.readies ∧ w1.heap.size ≤ w3.heap.size ∧ w.heap.size + 1 < w1.heap.size) := ⟨boxes_drew X2.out.1 hdr, two_drew X2.out.2.1 hdr, (by obtain ⟨q, rfl⟩ := hdr; exact X2.out.2.2.1), X2.out.2.2.2⟩
  clear SZ X2 hdr
  go_wp2_with fail
  refine (TK.out w1.heap.size b1 b2 k1 k2 w3 X3.out.2.2.1 X3.out.2.1).mono ?_
  rintro z w4 ⟨e1, j1, e2, j2, ao, co, rfl, q1, q2, q3, hb4, f1, f2, f3⟩
  have X4 : Aside (Boxes w w4 w.heap.size e r false (.slice a1 c.echoes.length c1) (.slice a2 c.readies.length c2)) := by
    have hs := X3.out.2.2.2
    have h1 := hb4.block w.heap.size (by omega)
    have h2 := hb4.block (w.heap.size + 1) (by omega)
    exact ⟨h1.trans X3.out.1.box, h2.trans X3.out.1.res, X3.out.1.below.trans (hb4.mono (by omega))⟩
  have Q1 : Aside (∀ o, TakePost w ⟨nx.1, nx.2, Vt.none, false, 0⟩ _ _) := fun o => take_ok_end (co := co) (c1 := j1) (c2 := j2) (body := Vt.none) (is := false) o X4.out X3.out.2.2.2 q1 q2 q3 f1 f2 f3
  have hD : Aside (∀ o u0 u1 u2 u3 u4, C5 _ _ u0 u1 u2 u3 u4) := fun o u0 u1 u2 u3 u4 => (C5.set X4.out.res u0 u1 u2 u3 u4).alloc o
  generalize TakePost w ⟨nx.1, nx.2, Vt.none, false, 0⟩ = Q at *
  unfold Vt.none at *
  obtain ⟨y0, y1, y2, y3, y4⟩ := X4.out.box.cells
  have yl := X4.out.box.lt
  have rl := X4.out.res.lt
  obtain ⟨r0, r1, r2, r3, r4⟩ := X4.out.res.cells
  have rf := X4.out.res.frozen
  clear TK X3 X4 q1 q2 q3 hb4 f1 f2 f3
  rw [hnd] at *
  clear hnd
  generalize nx.1.echoed = ne at *
  generalize nx.1.readied = nr at *
  generalize nx.1.echoes.length = ml1 at *
  generalize nx.1.readies.length = ml2 at *
  generalize nx.2.length = ml3 at *
  clear hk
  go_wp2
  refine ⟨rfl, _, ?_, Q1.out _⟩
  obtain ⟨d0, d1, d2, d3, d4⟩ := (hD.out (.cells #[.bool ne, .bool nr, .bool false, .slice e1 ml1 j1, .slice e2 ml2 j2] 48) (.bool ne) (.bool nr) (.bool false) (.slice e1 ml1 j1) (.slice e2 ml2 j2)).cells
  simp [results, Try.results16, go_sem, d0, d1, d2, d3, d4]

set_option maxHeartbeats 8000000 in
set_option maxRecDepth 100000 in
theorem take_ok3t (c : Vt.Cs) (a1 a2 : Option Addr) (c1 c2 ms frm : Nat) (kind : Int) (id : Nat) (x : ByteArray) (w : World) (h : CsAt w c a1 a2) (hms : ms < 65536) (t2 : ¬ (1000 : Int) < (x.size : Int)) (t3 : Cn.hasS ms id = true) (t4 : Cn.hasS ms frm = true) (hk : kind = 1 ∨ kind = 2 ∨ kind = 3) (t5 : kind = 3) (t7 : Vt.old c kind id = false) (hd : c.done = false) (hnd : (Vt.taken c (Cn.sizeS ms) kind id x).1.done = true) :
    Calls Try.prog 16 #[.agg #[.bool c.echoed, .bool c.readied, .bool c.done, .slice a1 c.echoes.length c1, .slice a2 c.readies.length c2], .int .u16 (ms : Nat), .int .u8 (frm : Nat), .int .i64 kind, .int .u8 (id : Nat), .string x] w
      (TakePost w ⟨(Vt.taken c (Cn.sizeS ms) kind id x).1, (Vt.taken c (Cn.sizeS ms) kind id x).2, x, true, 0⟩) := by
  have X0 : Aside (Boxes w _ w.heap.size c.echoed c.readied c.done (.slice a1 c.echoes.length c1) (.slice a2 c.readies.length c2)) := boxes_new w w.heap.size (Nat.le_refl _) c.echoed c.readied c.done (.slice a1 c.echoes.length c1) (.slice a2 c.readies.length c2)
  have H1 : Aside (∀ W, Calls Try.prog 30 #[.int .u16 (ms : Nat), .int .u8 (id : Nat)] W fun e w' => e = .returned (.bool (Cn.hasS ms id)) ∧ w' = W) := fun W => has_any ms id W hms
  have H2 : Aside (∀ W, Calls Try.prog 30 #[.int .u16 (ms : Nat), .int .u8 (frm : Nat)] W fun e w' => e = .returned (.bool (Cn.hasS ms frm)) ∧ w' = W) := fun W => has_any ms frm W hms
  have SZ : Aside (∀ W, Calls Try.prog 33 #[.int .u16 (ms : Nat)] W fun e w' => e = .returned (.int .i64 (Cn.sizeS ms : Nat)) ∧ Drew W w') := fun W => size_any ms W hms
  have OL : Aside (∀ W, Below w.heap.size w W → Calls Try.prog 31 #[.agg #[.bool c.echoed, .bool c.readied, .bool c.done, .slice a1 c.echoes.length c1, .slice a2 c.readies.length c2], .int .i64 kind, .int .u8 (id : Nat)] W fun e w' => e = .returned (.bool (Vt.old c kind id)) ∧ Below W.heap.size W w') := fun W hb => isOld_any c a1 a2 c1 c2 kind id W hk (h.later hb)
  have AN : Aside (∀ W, Below w.heap.size w W → Calls Try.prog 29 #[.agg #[.bool c.echoed, .bool c.readied, .bool c.done, .slice a1 c.echoes.length c1, .slice a2 c.readies.length c2]] W (Anew W c.echoed c.readied c.done c.echoes c.readies)) :=
    fun W hb => anew_any c.echoed c.readied c.done a1 a2 c1 c2 c.echoes c.readies W (h.e.later hb) (h.r.later hb) (by have := h.n1; omega) (by have := h.n2; omega)
  have TK : Aside (∀ B b1 b2 k1 k2 W, B ≤ W.heap.size → Two B W (.slice b1 c.echoes.length k1) (.slice b2 c.readies.length k2) c.echoes c.readies →
      Calls Try.prog 32 #[.agg #[.bool c.echoed, .bool c.readied, .bool c.done, .slice b1 c.echoes.length k1, .slice b2 c.readies.length k2], .int .i64 (Cn.sizeS ms : Nat), .int .i64 kind, .int .u8 (id : Nat), .string x] W (TakenPost B W (Vt.taken c (Cn.sizeS ms) kind id x))) :=
    fun B b1 b2 k1 k2 W hB hT => taken_any B c b1 b2 k1 k2 (Cn.sizeS ms) kind id x W hk hB hT h.small h.n1 h.n2
  rw [t3] at H1
  rw [t4] at H2
  rw [t7] at OL
  generalize Vt.taken c (Cn.sizeS ms) kind id x = nx at *
  generalize Cn.sizeS ms = n at *
  subst t5
  clear t3 t4 t7 h hms
  rw [hd] at *
  clear hd
  generalize c.echoed = e at *
  generalize c.readied = r at *
  go_enter Try.func16, Try.ntmps16
  go_wp2_with fail
  refine (H1.out _).mono ?_; rintro z w1 ⟨rfl, hw⟩
  replace hw := hw.symm; subst hw
  clear H1
  go_wp2_with fail
  refine (H2.out _).mono ?_; rintro z w1 ⟨rfl, hw⟩
  replace hw := hw.symm; subst hw
  clear H2
  go_wp2_with fail
  obtain ⟨y0, y1, y2, y3, y4⟩ := X0.out.box.cells
  refine (OL.out _ (X0.out.below)).mono ?_; rintro z w1 ⟨rfl, hb1⟩
  have X1 : Aside (Boxes w w1 w.heap.size e r false _ _) := X0.out.later hb1 (by simp; omega)
  clear OL hb1
  clear X0
  obtain ⟨y0, y1, y2, y3, y4⟩ := X1.out.box.cells
  go_wp2_with fail
  refine (AN.out _ X1.out.below).mono ?_
  rintro z w2 ⟨v1, v2, rfl, hT, hb2⟩
  obtain ⟨b1, k1, rfl, -, -⟩ := Vt.own_at hT.1
  obtain ⟨b2, k2, rfl, -, -⟩ := Vt.own_at hT.2.1
  have X2 : Aside (Boxes w w2 w.heap.size e r false _ _ ∧ Two w1.heap.size w2 (.slice b1 c.echoes.length k1) (.slice b2 c.readies.length k2) c.echoes c.readies ∧ w1.heap.size ≤ w2.heap.size ∧ w.heap.size + 1 < w1.heap.size) := ⟨X1.out.later hb2 (by have := X1.out.size; omega), hT, hb2.size, X1.out.size⟩
  clear AN X1 hT hb2 y0 y1 y2 y3 y4
  go_wp2_with fail
  refine (SZ.out _).mono ?_
  rintro z w3 ⟨rfl, hdr⟩
  have X3 : Aside (Boxes w w3 w.heap.size e r false _ _ ∧ Two w1.heap.size w3 (.slice b1 c.echoes.length k1) (.slice b2 c.readies.length k2) c.echoes c.readies ∧ w1.heap.size ≤ w3.heap.size ∧ w.heap.size + 1 < w1.heap.size) := ⟨boxes_drew X2.out.1 hdr, two_drew X2.out.2.1 hdr, (by obtain ⟨q, rfl⟩ := hdr; exact X2.out.2.2.1), X2.out.2.2.2⟩
  clear SZ X2 hdr
  go_wp2_with fail
  refine (TK.out w1.heap.size b1 b2 k1 k2 w3 X3.out.2.2.1 X3.out.2.1).mono ?_
  rintro z w4 ⟨e1, j1, e2, j2, ao, co, rfl, q1, q2, q3, hb4, f1, f2, f3⟩
  have X4 : Aside (Boxes w w4 w.heap.size e r false (.slice a1 c.echoes.length c1) (.slice a2 c.readies.length c2)) := by
    have hs := X3.out.2.2.2
    have h1 := hb4.block w.heap.size (by omega)
    have h2 := hb4.block (w.heap.size + 1) (by omega)
    exact ⟨h1.trans X3.out.1.box, h2.trans X3.out.1.res, X3.out.1.below.trans (hb4.mono (by omega))⟩
  have Q1 : Aside (∀ o, TakePost w ⟨nx.1, nx.2, x, true, 0⟩ _ _) := fun o => take_ok_end (co := co) (c1 := j1) (c2 := j2) (body := x) (is := true) o X4.out X3.out.2.2.2 q1 q2 q3 f1 f2 f3
  have hD : Aside (∀ o u0 u1 u2 u3 u4, C5 _ _ u0 u1 u2 u3 u4) := fun o u0 u1 u2 u3 u4 => (C5.set X4.out.res u0 u1 u2 u3 u4).alloc o
  generalize TakePost w ⟨nx.1, nx.2, x, true, 0⟩ = Q at *
  unfold Vt.none at *
  obtain ⟨y0, y1, y2, y3, y4⟩ := X4.out.box.cells
  have yl := X4.out.box.lt
  have rl := X4.out.res.lt
  obtain ⟨r0, r1, r2, r3, r4⟩ := X4.out.res.cells
  have rf := X4.out.res.frozen
  clear TK X3 X4 q1 q2 q3 hb4 f1 f2 f3
  rw [hnd] at *
  clear hnd
  generalize nx.1.echoed = ne at *
  generalize nx.1.readied = nr at *
  generalize nx.1.echoes.length = ml1 at *
  generalize nx.1.readies.length = ml2 at *
  generalize nx.2.length = ml3 at *
  clear hk
  go_wp2
  refine ⟨rfl, _, ?_, Q1.out _⟩
  obtain ⟨d0, d1, d2, d3, d4⟩ := (hD.out (.cells #[.bool ne, .bool nr, .bool true, .slice e1 ml1 j1, .slice e2 ml2 j2] 48) (.bool ne) (.bool nr) (.bool true) (.slice e1 ml1 j1) (.slice e2 ml2 j2)).cells
  simp [results, Try.results16, go_sem, d0, d1, d2, d3, d4]

theorem take_any (c : Vt.Cs) (a1 a2 : Option Addr) (c1 c2 ms frm : Nat) (kind : Int) (id : Nat) (x : ByteArray) (w : World) (h : CsAt w c a1 a2) (hms : ms < 65536) :
    Calls Try.prog 16 #[csV c a1 a2 c1 c2, .int .u16 (ms : Nat), .int .u8 (frm : Nat), .int .i64 kind, .int .u8 (id : Nat), .string x] w (TakePost w (Vt.take c ms frm kind id x)) := by
  unfold csV
  by_cases k1 : kind < 1
  · have e : Vt.take c ms frm kind id x = Vt.err c 2 := by unfold Vt.take Vt.badArg; rw [decide_eq_true k1]; rfl
    rw [e]
    exact take_bad1 c (.bool false) (.bool false) a1 a2 c1 c2 ms frm kind id x w h hms _ (outs_any w c a1 a2 c1 c2 2 h) k1
  by_cases k2 : 3 < kind
  · have e : Vt.take c ms frm kind id x = Vt.err c 2 := by unfold Vt.take Vt.badArg; rw [decide_eq_true k2, Bool.or_true]; rfl
    rw [e]
    exact take_bad2 c (.bool false) (.bool false) a1 a2 c1 c2 ms frm kind id x w h hms _ (outs_any w c a1 a2 c1 c2 2 h) k1 k2
  by_cases k3 : 1000 < x.size
  · have e : Vt.take c ms frm kind id x = Vt.err c 2 := by unfold Vt.take Vt.badArg; rw [decide_eq_true k3, Bool.or_true]; rfl
    rw [e]
    exact take_bad3 c (.bool false) (.bool false) a1 a2 c1 c2 ms frm kind id x w h hms _ (outs_any w c a1 a2 c1 c2 2 h) k1 k2 (by omega)
  have k3' : ¬ (1000 : Int) < (x.size : Int) := by omega
  have eb : Vt.badArg kind x = false := by unfold Vt.badArg; rw [decide_eq_false k1, decide_eq_false k2, decide_eq_false k3]; rfl
  cases m1 : Cn.hasS ms id with
  | false =>
    have e : Vt.take c ms frm kind id x = Vt.err c 10 := by unfold Vt.take Vt.out; rw [eb, m1]; rfl
    rw [e]
    exact take_out1 c (.bool false) (.bool false) a1 a2 c1 c2 ms frm kind id x w h hms _ (outs_any w c a1 a2 c1 c2 10 h) k1 k2 k3' m1
  | true =>
  cases m2 : Cn.hasS ms frm with
  | false =>
    have e : Vt.take c ms frm kind id x = Vt.err c 10 := by unfold Vt.take Vt.out; rw [eb, m1, m2]; rfl
    rw [e]
    exact take_out2 c (.bool false) (.bool false) a1 a2 c1 c2 ms frm kind id x w h hms _ (outs_any w c a1 a2 c1 c2 10 h) k1 k2 k3' m1 m2
  | true =>
  have eo : Vt.out ms frm id = false := by unfold Vt.out; rw [m1, m2]; rfl
  have hk : kind = 1 ∨ kind = 2 ∨ kind = 3 := by omega
  have nb : id ≠ frm → ((id : Int) != (frm : Int)) = true := fun hne => by
    have : ¬ (id : Int) = (frm : Int) := by omega
    simpa using this
  by_cases k4 : kind = 1 ∧ id ≠ frm
  · have e : Vt.take c ms frm kind id x = Vt.err c 10 := by unfold Vt.take; rw [eb, eo, decide_eq_true k4.1, decide_eq_true k4.2]; rfl
    rw [e]
    exact take_other c (.bool false) (.bool false) a1 a2 c1 c2 ms frm kind id x w h hms _ (outs_any w c a1 a2 c1 c2 10 h) k1 k2 k3' m1 m2 k4.1 (nb k4.2)
  have e4 : (decide (kind = 1) && decide (id ≠ frm)) = false := by
    by_cases a : kind = 1
    · have : ¬ id ≠ frm := fun b => k4 ⟨a, b⟩
      rw [decide_eq_false this, Bool.and_false]
    · rw [decide_eq_false a, Bool.false_and]
  have ef : kind = 1 → ((id : Int) != (frm : Int)) = false := fun a => by
    have : id = frm := by
      by_cases b : id = frm
      · exact b
      · exact absurd ⟨a, b⟩ k4
    subst this; simp
  cases ho : Vt.old c kind id with
  | true =>
    have e : Vt.take c ms frm kind id x = Vt.err c 6 := by unfold Vt.take; rw [eb, eo, e4, ho]; rfl
    rw [e]
    rcases hk with q | q | q
    · exact take_old1 c (.bool false) (.bool false) a1 a2 c1 c2 ms frm kind id x w h hms _ (outs_any w c a1 a2 c1 c2 6 h) m1 m2 (by omega) k3' q (ef q) ho
    · exact take_old2 c (.bool false) (.bool false) a1 a2 c1 c2 ms frm kind id x w h hms _ (outs_any w c a1 a2 c1 c2 6 h) m1 m2 (by omega) k3' q ho
    · exact take_old3 c (.bool false) (.bool false) a1 a2 c1 c2 ms frm kind id x w h hms _ (outs_any w c a1 a2 c1 c2 6 h) m1 m2 (by omega) k3' q ho
  | false =>
    have e : Vt.take c ms frm kind id x = if c.done || !(Vt.taken c (Cn.sizeS ms) kind id x).1.done then ⟨(Vt.taken c (Cn.sizeS ms) kind id x).1, (Vt.taken c (Cn.sizeS ms) kind id x).2, Vt.none, false, 0⟩ else ⟨(Vt.taken c (Cn.sizeS ms) kind id x).1, (Vt.taken c (Cn.sizeS ms) kind id x).2, x, true, 0⟩ := by
      unfold Vt.take; rw [eb, eo, e4, ho]; rfl
    rw [e]
    rcases (show c.done = true ∨ c.done = false by cases c.done <;> simp) with hd | hd
    · rw [if_pos (by rw [hd]; rfl)]
      rcases hk with q | q | q
      · exact take_ok1d c a1 a2 c1 c2 ms frm kind id x w h hms k3' m1 m2 (by omega) q (ef q) ho hd
      · exact take_ok2d c a1 a2 c1 c2 ms frm kind id x w h hms k3' m1 m2 (by omega) q ho hd
      · exact take_ok3d c a1 a2 c1 c2 ms frm kind id x w h hms k3' m1 m2 (by omega) q ho hd
    · rcases (show (Vt.taken c (Cn.sizeS ms) kind id x).1.done = true ∨ (Vt.taken c (Cn.sizeS ms) kind id x).1.done = false by cases (Vt.taken c (Cn.sizeS ms) kind id x).1.done <;> simp) with hn | hn
      · rw [if_neg (by rw [hd, hn]; simp)]
        rcases hk with q | q | q
        · exfalso; subst q; rw [show (Vt.taken c (Cn.sizeS ms) 1 id x).1.done = c.done from rfl, hd] at hn; cases hn
        · exfalso; subst q; rw [show (Vt.taken c (Cn.sizeS ms) 2 id x).1.done = c.done from rfl, hd] at hn; cases hn
        · exact take_ok3t c a1 a2 c1 c2 ms frm kind id x w h hms k3' m1 m2 (by omega) q ho hd hn
      · rw [if_pos (by rw [hn]; simp)]
        rcases hk with q | q | q
        · exact take_ok1n c a1 a2 c1 c2 ms frm kind id x w h hms k3' m1 m2 (by omega) q (ef q) ho hd hn
        · exact take_ok2n c a1 a2 c1 c2 ms frm kind id x w h hms k3' m1 m2 (by omega) q ho hd hn
        · exact take_ok3n c a1 a2 c1 c2 ms frm kind id x w h hms k3' m1 m2 (by omega) q ho hd hn
end Go.Proofs.Ytmhjmeedoajkjaa
