/- What Take gives: the document's answer, in memory of its own. -/
import Derived.Test.YtmhjmeedoajkjaaVtH
namespace Go.Proofs.Ytmhjmeedoajkjaa
open Go.RowKit Go.Shelf

def TakePost (w : World) (t : Vt.Told) (z : Ending) (w' : World) : Prop :=
  ∃ a1 c1 a2 c2 ao co, z = .returned (.tuple #[csV t.c a1 a2 c1 c2, .slice ao t.outs.length co, .string t.body, .bool t.is, .int .i64 (t.e : Int)]) ∧
    Vt.At w' a1 t.c.echoes ∧ Vt.At w' a2 t.c.readies ∧ AtO w' ao t.outs ∧ Below w.heap.size w w' ∧ Fr w.heap.size a1 ∧ Fr w.heap.size a2 ∧ Fr w.heap.size ao
theorem Fr.mono {B B' : Nat} {a : Option Addr} (h : Fr B a) (hb : B' ≤ B) : Fr B' a := fun ad e => Nat.le_trans hb (h ad e)
theorem Fr.none (B : Nat) : Fr B Option.none := fun _ h => nomatch h

theorem enter35 : ∀ args w, (callFunc 28 args).run Try.prog w = .ok (.enter 28 args) w := enters_of Try.func28 (by kernel_rfl) rfl

/-- With an error: the case in the answer's box. -/
theorem take_err_end {w V : World} {e r d : Bool} {s1 s2 : Value} {c : Vt.Cs} {q B : Nat} {a1 a2 : Option Addr} {c1 c2 : Nat} (hX : Boxes w V w.heap.size e r d s1 s2) (hB : w.heap.size + 1 < B)
    (o1 : V.ownsRow B 94 2 (.slice a1 c.echoes.length c1) c.echoes.length (Vt.balC c.echoes)) (o2 : V.ownsRow B 94 2 (.slice a2 c.readies.length c2) c.readies.length (Vt.balC c.readies)) :
    TakePost w (Vt.err c q) (.returned (.tuple #[.agg #[.bool c.echoed, .bool c.readied, .bool c.done, .slice a1 c.echoes.length c1, .slice a2 c.readies.length c2], .slice none 0 0, .string ⟨#[]⟩, .bool false, .int .i64 (q : Int)]))
      (((((V.setCell ⟨w.heap.size + 1, 0, none⟩ (.bool c.echoed)).setCell ⟨w.heap.size + 1, 1, none⟩ (.bool c.readied)).setCell ⟨w.heap.size + 1, 2, none⟩ (.bool c.done)).setCell ⟨w.heap.size + 1, 3, none⟩ (.slice a1 c.echoes.length c1)).setCell ⟨w.heap.size + 1, 4, none⟩ (.slice a2 c.readies.length c2)) :=
  ⟨a1, c1, a2, c2, none, 0, rfl, (own_atv (own_set5 o1 hB (Nat.le_refl _) _ _ _ _ _)).2, (own_atv (own_set5 o2 hB (Nat.le_refl _) _ _ _ _ _)).2, .inl rfl, below_set5 hX.below (by omega) _ _ _ _ _, (own_fr o1).mono (by omega), (own_fr o2).mono (by omega), Fr.none _⟩

/-- What a way out with an error leans on. -/
def Outs (w : World) (c : Vt.Cs) (s1 s2 : Value) (Q : Ending → World → Prop) (q : Nat) : Prop :=
  ∀ W, Boxes w W w.heap.size c.echoed c.readied c.done s1 s2 → Calls Try.prog 28 #[.int .i64 (q : Int), .pointer (some ⟨w.heap.size, 0, none⟩)] W fun z w' =>
    ∃ a1 c1 a2 c2, z = .returned (.tuple #[.agg #[.bool c.echoed, .bool c.readied, .bool c.done, .slice a1 c.echoes.length c1, .slice a2 c.readies.length c2], .slice none 0 0, .string ⟨#[]⟩, .bool false, .int .i64 (q : Int)]) ∧
      Aside (C5 w' (w.heap.size + 1) (.bool false) (.bool false) (.bool false) (.slice none 0 0) (.slice none 0 0) ∧
        Q (.returned (.tuple #[.agg #[.bool c.echoed, .bool c.readied, .bool c.done, .slice a1 c.echoes.length c1, .slice a2 c.readies.length c2], .slice none 0 0, .string ⟨#[]⟩, .bool false, .int .i64 (q : Int)]))
          (((((w'.setCell ⟨w.heap.size + 1, 0, none⟩ (.bool c.echoed)).setCell ⟨w.heap.size + 1, 1, none⟩ (.bool c.readied)).setCell ⟨w.heap.size + 1, 2, none⟩ (.bool c.done)).setCell ⟨w.heap.size + 1, 3, none⟩ (.slice a1 c.echoes.length c1)).setCell ⟨w.heap.size + 1, 4, none⟩ (.slice a2 c.readies.length c2)))
theorem outs_any (w : World) (c : Vt.Cs) (a1 a2 : Option Addr) (c1 c2 q : Nat) (h : CsAt w c a1 a2) : Outs w c (.slice a1 c.echoes.length c1) (.slice a2 c.readies.length c2) (TakePost w (Vt.err c q)) q := by
  intro W hX
  refine (refuse_any c a1 a2 c1 c2 w.heap.size q W (h.later hX.below) hX.box).mono ?_
  rintro z w' ⟨b1, k1, b2, k2, rfl, o1, o2, hb⟩
  exact ⟨b1, k1, b2, k2, rfl, hX.res.later hb, take_err_end (hX.later hb (by have := hX.size; omega)) hX.size o1 o2⟩

set_option linter.unusedVariables false

set_option maxHeartbeats 8000000 in
set_option maxRecDepth 100000 in
theorem take_bad1 (c : Vt.Cs) (s1 s2 : Value) (a1 a2 : Option Addr) (c1 c2 ms frm : Nat) (kind : Int) (id : Nat) (x : ByteArray) (w : World) (h : CsAt w c a1 a2) (hms : ms < 65536) (Q : Ending → World → Prop)
    (hQ : Outs w c (.slice a1 c.echoes.length c1) (.slice a2 c.readies.length c2) Q 2) (t1 : kind < 1) :
    Calls Try.prog 16 #[.agg #[.bool c.echoed, .bool c.readied, .bool c.done, .slice a1 c.echoes.length c1, .slice a2 c.readies.length c2], .int .u16 (ms : Nat), .int .u8 (frm : Nat), .int .i64 kind, .int .u8 (id : Nat), .string x] w Q := by
  have X0 : Aside (Boxes w _ w.heap.size c.echoed c.readied c.done (.slice a1 c.echoes.length c1) (.slice a2 c.readies.length c2)) := boxes_new w w.heap.size (Nat.le_refl _) c.echoed c.readied c.done (.slice a1 c.echoes.length c1) (.slice a2 c.readies.length c2)
  have H1 : Aside (∀ W, Calls Try.prog 30 #[.int .u16 (ms : Nat), .int .u8 (id : Nat)] W fun e w' => e = .returned (.bool (Cn.hasS ms id)) ∧ w' = W) := fun W => has_any ms id W hms
  have H2 : Aside (∀ W, Calls Try.prog 30 #[.int .u16 (ms : Nat), .int .u8 (frm : Nat)] W fun e w' => e = .returned (.bool (Cn.hasS ms frm)) ∧ w' = W) := fun W => has_any ms frm W hms
  have e35 := enter35
  clear H1 H2
  have HQ : Aside (∀ W, Boxes w W w.heap.size c.echoed c.readied c.done (.slice a1 c.echoes.length c1) (.slice a2 c.readies.length c2) → _) := hQ
  clear h hQ hms
  generalize c.echoed = e at *
  generalize c.readied = r at *
  generalize c.done = d at *
  generalize c.echoes.length = m1 at *
  generalize c.readies.length = m2 at *
  go_enter Try.func16, Try.ntmps16
  go_wp2_with fail
  refine (HQ.out _ X0.out).mono ?_
  rintro z w9 ⟨b1, k1, b2, k2, rfl, hA⟩
  obtain ⟨z0, z1, z2, z3, z4⟩ := hA.out.1.cells
  have zf := hA.out.1.frozen
  have hD : Aside (C5 _ _ _ _ _ _ _) := C5.set hA.out.1 (.bool e) (.bool r) (.bool d) (.slice b1 m1 k1) (.slice b2 m2 k2)
  have Q1 : Aside (Q _ _) := hA.out.2
  clear HQ hA X0
  go_wp2
  refine ⟨rfl, _, ?_, Q1.out⟩
  obtain ⟨d0, d1, d2, d3, d4⟩ := hD.out.cells
  simp [results, Try.results16, go_sem, d0, d1, d2, d3, d4]

set_option maxHeartbeats 8000000 in
set_option maxRecDepth 100000 in
theorem take_bad2 (c : Vt.Cs) (s1 s2 : Value) (a1 a2 : Option Addr) (c1 c2 ms frm : Nat) (kind : Int) (id : Nat) (x : ByteArray) (w : World) (h : CsAt w c a1 a2) (hms : ms < 65536) (Q : Ending → World → Prop)
    (hQ : Outs w c (.slice a1 c.echoes.length c1) (.slice a2 c.readies.length c2) Q 2) (t0 : ¬ kind < 1) (t1 : 3 < kind) :
    Calls Try.prog 16 #[.agg #[.bool c.echoed, .bool c.readied, .bool c.done, .slice a1 c.echoes.length c1, .slice a2 c.readies.length c2], .int .u16 (ms : Nat), .int .u8 (frm : Nat), .int .i64 kind, .int .u8 (id : Nat), .string x] w Q := by
  have X0 : Aside (Boxes w _ w.heap.size c.echoed c.readied c.done (.slice a1 c.echoes.length c1) (.slice a2 c.readies.length c2)) := boxes_new w w.heap.size (Nat.le_refl _) c.echoed c.readied c.done (.slice a1 c.echoes.length c1) (.slice a2 c.readies.length c2)
  have H1 : Aside (∀ W, Calls Try.prog 30 #[.int .u16 (ms : Nat), .int .u8 (id : Nat)] W fun e w' => e = .returned (.bool (Cn.hasS ms id)) ∧ w' = W) := fun W => has_any ms id W hms
  have H2 : Aside (∀ W, Calls Try.prog 30 #[.int .u16 (ms : Nat), .int .u8 (frm : Nat)] W fun e w' => e = .returned (.bool (Cn.hasS ms frm)) ∧ w' = W) := fun W => has_any ms frm W hms
  have e35 := enter35
  clear H1 H2
  have HQ : Aside (∀ W, Boxes w W w.heap.size c.echoed c.readied c.done (.slice a1 c.echoes.length c1) (.slice a2 c.readies.length c2) → _) := hQ
  clear h hQ hms
  generalize c.echoed = e at *
  generalize c.readied = r at *
  generalize c.done = d at *
  generalize c.echoes.length = m1 at *
  generalize c.readies.length = m2 at *
  go_enter Try.func16, Try.ntmps16
  go_wp2_with fail
  refine (HQ.out _ X0.out).mono ?_
  rintro z w9 ⟨b1, k1, b2, k2, rfl, hA⟩
  obtain ⟨z0, z1, z2, z3, z4⟩ := hA.out.1.cells
  have zf := hA.out.1.frozen
  have hD : Aside (C5 _ _ _ _ _ _ _) := C5.set hA.out.1 (.bool e) (.bool r) (.bool d) (.slice b1 m1 k1) (.slice b2 m2 k2)
  have Q1 : Aside (Q _ _) := hA.out.2
  clear HQ hA X0
  go_wp2
  refine ⟨rfl, _, ?_, Q1.out⟩
  obtain ⟨d0, d1, d2, d3, d4⟩ := hD.out.cells
  simp [results, Try.results16, go_sem, d0, d1, d2, d3, d4]

set_option maxHeartbeats 8000000 in
set_option maxRecDepth 100000 in
theorem take_bad3 (c : Vt.Cs) (s1 s2 : Value) (a1 a2 : Option Addr) (c1 c2 ms frm : Nat) (kind : Int) (id : Nat) (x : ByteArray) (w : World) (h : CsAt w c a1 a2) (hms : ms < 65536) (Q : Ending → World → Prop)
    (hQ : Outs w c (.slice a1 c.echoes.length c1) (.slice a2 c.readies.length c2) Q 2) (t0 : ¬ kind < 1) (t1 : ¬ 3 < kind) (t2 : (1000 : Int) < (x.size : Int)) :
    Calls Try.prog 16 #[.agg #[.bool c.echoed, .bool c.readied, .bool c.done, .slice a1 c.echoes.length c1, .slice a2 c.readies.length c2], .int .u16 (ms : Nat), .int .u8 (frm : Nat), .int .i64 kind, .int .u8 (id : Nat), .string x] w Q := by
  have X0 : Aside (Boxes w _ w.heap.size c.echoed c.readied c.done (.slice a1 c.echoes.length c1) (.slice a2 c.readies.length c2)) := boxes_new w w.heap.size (Nat.le_refl _) c.echoed c.readied c.done (.slice a1 c.echoes.length c1) (.slice a2 c.readies.length c2)
  have H1 : Aside (∀ W, Calls Try.prog 30 #[.int .u16 (ms : Nat), .int .u8 (id : Nat)] W fun e w' => e = .returned (.bool (Cn.hasS ms id)) ∧ w' = W) := fun W => has_any ms id W hms
  have H2 : Aside (∀ W, Calls Try.prog 30 #[.int .u16 (ms : Nat), .int .u8 (frm : Nat)] W fun e w' => e = .returned (.bool (Cn.hasS ms frm)) ∧ w' = W) := fun W => has_any ms frm W hms
  have e35 := enter35
  clear H1 H2
  have HQ : Aside (∀ W, Boxes w W w.heap.size c.echoed c.readied c.done (.slice a1 c.echoes.length c1) (.slice a2 c.readies.length c2) → _) := hQ
  clear h hQ hms
  generalize c.echoed = e at *
  generalize c.readied = r at *
  generalize c.done = d at *
  generalize c.echoes.length = m1 at *
  generalize c.readies.length = m2 at *
  go_enter Try.func16, Try.ntmps16
  go_wp2_with fail
  refine (HQ.out _ X0.out).mono ?_
  rintro z w9 ⟨b1, k1, b2, k2, rfl, hA⟩
  obtain ⟨z0, z1, z2, z3, z4⟩ := hA.out.1.cells
  have zf := hA.out.1.frozen
  have hD : Aside (C5 _ _ _ _ _ _ _) := C5.set hA.out.1 (.bool e) (.bool r) (.bool d) (.slice b1 m1 k1) (.slice b2 m2 k2)
  have Q1 : Aside (Q _ _) := hA.out.2
  clear HQ hA X0
  go_wp2
  refine ⟨rfl, _, ?_, Q1.out⟩
  obtain ⟨d0, d1, d2, d3, d4⟩ := hD.out.cells
  simp [results, Try.results16, go_sem, d0, d1, d2, d3, d4]

set_option maxHeartbeats 8000000 in
set_option maxRecDepth 100000 in
theorem take_out1 (c : Vt.Cs) (s1 s2 : Value) (a1 a2 : Option Addr) (c1 c2 ms frm : Nat) (kind : Int) (id : Nat) (x : ByteArray) (w : World) (h : CsAt w c a1 a2) (hms : ms < 65536) (Q : Ending → World → Prop)
    (hQ : Outs w c (.slice a1 c.echoes.length c1) (.slice a2 c.readies.length c2) Q 10) (t0 : ¬ kind < 1) (t1 : ¬ 3 < kind) (t2 : ¬ (1000 : Int) < (x.size : Int)) (t3 : Cn.hasS ms id = false) :
    Calls Try.prog 16 #[.agg #[.bool c.echoed, .bool c.readied, .bool c.done, .slice a1 c.echoes.length c1, .slice a2 c.readies.length c2], .int .u16 (ms : Nat), .int .u8 (frm : Nat), .int .i64 kind, .int .u8 (id : Nat), .string x] w Q := by
  have X0 : Aside (Boxes w _ w.heap.size c.echoed c.readied c.done (.slice a1 c.echoes.length c1) (.slice a2 c.readies.length c2)) := boxes_new w w.heap.size (Nat.le_refl _) c.echoed c.readied c.done (.slice a1 c.echoes.length c1) (.slice a2 c.readies.length c2)
  have H1 : Aside (∀ W, Calls Try.prog 30 #[.int .u16 (ms : Nat), .int .u8 (id : Nat)] W fun e w' => e = .returned (.bool (Cn.hasS ms id)) ∧ w' = W) := fun W => has_any ms id W hms
  have H2 : Aside (∀ W, Calls Try.prog 30 #[.int .u16 (ms : Nat), .int .u8 (frm : Nat)] W fun e w' => e = .returned (.bool (Cn.hasS ms frm)) ∧ w' = W) := fun W => has_any ms frm W hms
  have e35 := enter35
  rw [t3] at H1
  clear t3 H2
  have HQ : Aside (∀ W, Boxes w W w.heap.size c.echoed c.readied c.done (.slice a1 c.echoes.length c1) (.slice a2 c.readies.length c2) → _) := hQ
  clear h hQ hms
  generalize c.echoed = e at *
  generalize c.readied = r at *
  generalize c.done = d at *
  generalize c.echoes.length = m1 at *
  generalize c.readies.length = m2 at *
  go_enter Try.func16, Try.ntmps16
  go_wp2_with fail
  refine (H1.out _).mono ?_; rintro z w1 ⟨rfl, hw⟩
  replace hw := hw.symm; subst hw
  clear H1
  go_wp2_with fail
  refine (HQ.out _ X0.out).mono ?_
  rintro z w9 ⟨b1, k1, b2, k2, rfl, hA⟩
  obtain ⟨z0, z1, z2, z3, z4⟩ := hA.out.1.cells
  have zf := hA.out.1.frozen
  have hD : Aside (C5 _ _ _ _ _ _ _) := C5.set hA.out.1 (.bool e) (.bool r) (.bool d) (.slice b1 m1 k1) (.slice b2 m2 k2)
  have Q1 : Aside (Q _ _) := hA.out.2
  clear HQ hA X0
  go_wp2
  refine ⟨rfl, _, ?_, Q1.out⟩
  obtain ⟨d0, d1, d2, d3, d4⟩ := hD.out.cells
  simp [results, Try.results16, go_sem, d0, d1, d2, d3, d4]

set_option maxHeartbeats 8000000 in
set_option maxRecDepth 100000 in
theorem take_out2 (c : Vt.Cs) (s1 s2 : Value) (a1 a2 : Option Addr) (c1 c2 ms frm : Nat) (kind : Int) (id : Nat) (x : ByteArray) (w : World) (h : CsAt w c a1 a2) (hms : ms < 65536) (Q : Ending → World → Prop)
    (hQ : Outs w c (.slice a1 c.echoes.length c1) (.slice a2 c.readies.length c2) Q 10) (t0 : ¬ kind < 1) (t1 : ¬ 3 < kind) (t2 : ¬ (1000 : Int) < (x.size : Int)) (t3 : Cn.hasS ms id = true) (t4 : Cn.hasS ms frm = false) :
    Calls Try.prog 16 #[.agg #[.bool c.echoed, .bool c.readied, .bool c.done, .slice a1 c.echoes.length c1, .slice a2 c.readies.length c2], .int .u16 (ms : Nat), .int .u8 (frm : Nat), .int .i64 kind, .int .u8 (id : Nat), .string x] w Q := by
  have X0 : Aside (Boxes w _ w.heap.size c.echoed c.readied c.done (.slice a1 c.echoes.length c1) (.slice a2 c.readies.length c2)) := boxes_new w w.heap.size (Nat.le_refl _) c.echoed c.readied c.done (.slice a1 c.echoes.length c1) (.slice a2 c.readies.length c2)
  have H1 : Aside (∀ W, Calls Try.prog 30 #[.int .u16 (ms : Nat), .int .u8 (id : Nat)] W fun e w' => e = .returned (.bool (Cn.hasS ms id)) ∧ w' = W) := fun W => has_any ms id W hms
  have H2 : Aside (∀ W, Calls Try.prog 30 #[.int .u16 (ms : Nat), .int .u8 (frm : Nat)] W fun e w' => e = .returned (.bool (Cn.hasS ms frm)) ∧ w' = W) := fun W => has_any ms frm W hms
  have e35 := enter35
  rw [t3] at H1
  rw [t4] at H2
  clear t3 t4
  have HQ : Aside (∀ W, Boxes w W w.heap.size c.echoed c.readied c.done (.slice a1 c.echoes.length c1) (.slice a2 c.readies.length c2) → _) := hQ
  clear h hQ hms
  generalize c.echoed = e at *
  generalize c.readied = r at *
  generalize c.done = d at *
  generalize c.echoes.length = m1 at *
  generalize c.readies.length = m2 at *
  go_enter Try.func16, Try.ntmps16
  go_wp2_with fail
  refine (H1.out _).mono ?_; rintro z w1 ⟨rfl, hw⟩
  replace hw := hw.symm; subst hw
  clear H1
  go_wp2_with fail
  refine (H2.out _).mono ?_; rintro z w1 ⟨rfl, hw⟩
  replace hw := hw.symm; subst hw
  clear H2
  go_wp2_with fail
  refine (HQ.out _ X0.out).mono ?_
  rintro z w9 ⟨b1, k1, b2, k2, rfl, hA⟩
  obtain ⟨z0, z1, z2, z3, z4⟩ := hA.out.1.cells
  have zf := hA.out.1.frozen
  have hD : Aside (C5 _ _ _ _ _ _ _) := C5.set hA.out.1 (.bool e) (.bool r) (.bool d) (.slice b1 m1 k1) (.slice b2 m2 k2)
  have Q1 : Aside (Q _ _) := hA.out.2
  clear HQ hA X0
  go_wp2
  refine ⟨rfl, _, ?_, Q1.out⟩
  obtain ⟨d0, d1, d2, d3, d4⟩ := hD.out.cells
  simp [results, Try.results16, go_sem, d0, d1, d2, d3, d4]

set_option maxHeartbeats 8000000 in
set_option maxRecDepth 100000 in
theorem take_other (c : Vt.Cs) (s1 s2 : Value) (a1 a2 : Option Addr) (c1 c2 ms frm : Nat) (kind : Int) (id : Nat) (x : ByteArray) (w : World) (h : CsAt w c a1 a2) (hms : ms < 65536) (Q : Ending → World → Prop)
    (hQ : Outs w c (.slice a1 c.echoes.length c1) (.slice a2 c.readies.length c2) Q 10) (t0 : ¬ kind < 1) (t1 : ¬ 3 < kind) (t2 : ¬ (1000 : Int) < (x.size : Int)) (t3 : Cn.hasS ms id = true) (t4 : Cn.hasS ms frm = true) (t5 : kind = 1) (t6 : ((id : Int) != (frm : Int)) = true) :
    Calls Try.prog 16 #[.agg #[.bool c.echoed, .bool c.readied, .bool c.done, .slice a1 c.echoes.length c1, .slice a2 c.readies.length c2], .int .u16 (ms : Nat), .int .u8 (frm : Nat), .int .i64 kind, .int .u8 (id : Nat), .string x] w Q := by
  have X0 : Aside (Boxes w _ w.heap.size c.echoed c.readied c.done (.slice a1 c.echoes.length c1) (.slice a2 c.readies.length c2)) := boxes_new w w.heap.size (Nat.le_refl _) c.echoed c.readied c.done (.slice a1 c.echoes.length c1) (.slice a2 c.readies.length c2)
  have H1 : Aside (∀ W, Calls Try.prog 30 #[.int .u16 (ms : Nat), .int .u8 (id : Nat)] W fun e w' => e = .returned (.bool (Cn.hasS ms id)) ∧ w' = W) := fun W => has_any ms id W hms
  have H2 : Aside (∀ W, Calls Try.prog 30 #[.int .u16 (ms : Nat), .int .u8 (frm : Nat)] W fun e w' => e = .returned (.bool (Cn.hasS ms frm)) ∧ w' = W) := fun W => has_any ms frm W hms
  have e35 := enter35
  rw [t3] at H1
  rw [t4] at H2
  clear t3 t4
  subst t5
  have HQ : Aside (∀ W, Boxes w W w.heap.size c.echoed c.readied c.done (.slice a1 c.echoes.length c1) (.slice a2 c.readies.length c2) → _) := hQ
  clear h hQ hms
  generalize c.echoed = e at *
  generalize c.readied = r at *
  generalize c.done = d at *
  generalize c.echoes.length = m1 at *
  generalize c.readies.length = m2 at *
  go_enter Try.func16, Try.ntmps16
  go_wp2_with fail
  refine (H1.out _).mono ?_; rintro z w1 ⟨rfl, hw⟩
  replace hw := hw.symm; subst hw
  clear H1
  go_wp2_with fail
  refine (H2.out _).mono ?_; rintro z w1 ⟨rfl, hw⟩
  replace hw := hw.symm; subst hw
  clear H2
  go_wp2_with fail
  refine (HQ.out _ X0.out).mono ?_
  rintro z w9 ⟨b1, k1, b2, k2, rfl, hA⟩
  obtain ⟨z0, z1, z2, z3, z4⟩ := hA.out.1.cells
  have zf := hA.out.1.frozen
  have hD : Aside (C5 _ _ _ _ _ _ _) := C5.set hA.out.1 (.bool e) (.bool r) (.bool d) (.slice b1 m1 k1) (.slice b2 m2 k2)
  have Q1 : Aside (Q _ _) := hA.out.2
  clear HQ hA X0
  go_wp2
  refine ⟨rfl, _, ?_, Q1.out⟩
  obtain ⟨d0, d1, d2, d3, d4⟩ := hD.out.cells
  simp [results, Try.results16, go_sem, d0, d1, d2, d3, d4]

set_option maxHeartbeats 8000000 in
set_option maxRecDepth 100000 in
theorem take_old1 (c : Vt.Cs) (s1 s2 : Value) (a1 a2 : Option Addr) (c1 c2 ms frm : Nat) (kind : Int) (id : Nat) (x : ByteArray) (w : World) (h : CsAt w c a1 a2) (hms : ms < 65536) (Q : Ending → World → Prop)
    (hQ : Outs w c (.slice a1 c.echoes.length c1) (.slice a2 c.readies.length c2) Q 6) (t3 : Cn.hasS ms id = true) (t4 : Cn.hasS ms frm = true) (hk : kind = 1 ∨ kind = 2 ∨ kind = 3) (t2 : ¬ (1000 : Int) < (x.size : Int)) (t5 : kind = 1) (t6 : ((id : Int) != (frm : Int)) = false) (t7 : Vt.old c kind id = true) :
    Calls Try.prog 16 #[.agg #[.bool c.echoed, .bool c.readied, .bool c.done, .slice a1 c.echoes.length c1, .slice a2 c.readies.length c2], .int .u16 (ms : Nat), .int .u8 (frm : Nat), .int .i64 kind, .int .u8 (id : Nat), .string x] w Q := by
  have X0 : Aside (Boxes w _ w.heap.size c.echoed c.readied c.done (.slice a1 c.echoes.length c1) (.slice a2 c.readies.length c2)) := boxes_new w w.heap.size (Nat.le_refl _) c.echoed c.readied c.done (.slice a1 c.echoes.length c1) (.slice a2 c.readies.length c2)
  have H1 : Aside (∀ W, Calls Try.prog 30 #[.int .u16 (ms : Nat), .int .u8 (id : Nat)] W fun e w' => e = .returned (.bool (Cn.hasS ms id)) ∧ w' = W) := fun W => has_any ms id W hms
  have H2 : Aside (∀ W, Calls Try.prog 30 #[.int .u16 (ms : Nat), .int .u8 (frm : Nat)] W fun e w' => e = .returned (.bool (Cn.hasS ms frm)) ∧ w' = W) := fun W => has_any ms frm W hms
  have e35 := enter35
  rw [t3] at H1
  rw [t4] at H2
  clear t3 t4
  have OL : Aside (∀ W, Below w.heap.size w W → Calls Try.prog 31 #[.agg #[.bool c.echoed, .bool c.readied, .bool c.done, .slice a1 c.echoes.length c1, .slice a2 c.readies.length c2], .int .i64 kind, .int .u8 (id : Nat)] W fun e w' => e = .returned (.bool (Vt.old c kind id)) ∧ Below W.heap.size W w') := fun W hb => isOld_any c a1 a2 c1 c2 kind id W hk (h.later hb)
  rw [t7] at OL
  clear t7
  subst t5
  have HQ : Aside (∀ W, Boxes w W w.heap.size c.echoed c.readied c.done (.slice a1 c.echoes.length c1) (.slice a2 c.readies.length c2) → _) := hQ
  clear h hQ hms
  generalize c.echoed = e at *
  generalize c.readied = r at *
  generalize c.done = d at *
  generalize c.echoes.length = m1 at *
  generalize c.readies.length = m2 at *
  go_enter Try.func16, Try.ntmps16
  go_wp2_with fail
  refine (H1.out _).mono ?_; rintro z w1 ⟨rfl, hw⟩
  replace hw := hw.symm; subst hw
  clear H1
  go_wp2_with fail
  refine (H2.out _).mono ?_; rintro z w1 ⟨rfl, hw⟩
  replace hw := hw.symm; subst hw
  clear H2
  go_wp2_with fail
  obtain ⟨y0, y1, y2, y3, y4⟩ := X0.out.box.cells
  refine (OL.out _ (X0.out.below)).mono ?_; rintro z w1 ⟨rfl, hb1⟩
  have X1 : Aside (Boxes w w1 w.heap.size e r d _ _) := X0.out.later hb1 (by simp; omega)
  clear OL hb1
  go_wp2_with fail
  refine (HQ.out _ X1.out).mono ?_
  rintro z w9 ⟨b1, k1, b2, k2, rfl, hA⟩
  obtain ⟨z0, z1, z2, z3, z4⟩ := hA.out.1.cells
  have zf := hA.out.1.frozen
  have hD : Aside (C5 _ _ _ _ _ _ _) := C5.set hA.out.1 (.bool e) (.bool r) (.bool d) (.slice b1 m1 k1) (.slice b2 m2 k2)
  have Q1 : Aside (Q _ _) := hA.out.2
  clear HQ hA X0 X1
  go_wp2
  refine ⟨rfl, _, ?_, Q1.out⟩
  obtain ⟨d0, d1, d2, d3, d4⟩ := hD.out.cells
  simp [results, Try.results16, go_sem, d0, d1, d2, d3, d4]

set_option maxHeartbeats 8000000 in
set_option maxRecDepth 100000 in
theorem take_old2 (c : Vt.Cs) (s1 s2 : Value) (a1 a2 : Option Addr) (c1 c2 ms frm : Nat) (kind : Int) (id : Nat) (x : ByteArray) (w : World) (h : CsAt w c a1 a2) (hms : ms < 65536) (Q : Ending → World → Prop)
    (hQ : Outs w c (.slice a1 c.echoes.length c1) (.slice a2 c.readies.length c2) Q 6) (t3 : Cn.hasS ms id = true) (t4 : Cn.hasS ms frm = true) (hk : kind = 1 ∨ kind = 2 ∨ kind = 3) (t2 : ¬ (1000 : Int) < (x.size : Int)) (t5 : kind = 2) (t7 : Vt.old c kind id = true) :
    Calls Try.prog 16 #[.agg #[.bool c.echoed, .bool c.readied, .bool c.done, .slice a1 c.echoes.length c1, .slice a2 c.readies.length c2], .int .u16 (ms : Nat), .int .u8 (frm : Nat), .int .i64 kind, .int .u8 (id : Nat), .string x] w Q := by
  have X0 : Aside (Boxes w _ w.heap.size c.echoed c.readied c.done (.slice a1 c.echoes.length c1) (.slice a2 c.readies.length c2)) := boxes_new w w.heap.size (Nat.le_refl _) c.echoed c.readied c.done (.slice a1 c.echoes.length c1) (.slice a2 c.readies.length c2)
  have H1 : Aside (∀ W, Calls Try.prog 30 #[.int .u16 (ms : Nat), .int .u8 (id : Nat)] W fun e w' => e = .returned (.bool (Cn.hasS ms id)) ∧ w' = W) := fun W => has_any ms id W hms
  have H2 : Aside (∀ W, Calls Try.prog 30 #[.int .u16 (ms : Nat), .int .u8 (frm : Nat)] W fun e w' => e = .returned (.bool (Cn.hasS ms frm)) ∧ w' = W) := fun W => has_any ms frm W hms
  have e35 := enter35
  rw [t3] at H1
  rw [t4] at H2
  clear t3 t4
  have OL : Aside (∀ W, Below w.heap.size w W → Calls Try.prog 31 #[.agg #[.bool c.echoed, .bool c.readied, .bool c.done, .slice a1 c.echoes.length c1, .slice a2 c.readies.length c2], .int .i64 kind, .int .u8 (id : Nat)] W fun e w' => e = .returned (.bool (Vt.old c kind id)) ∧ Below W.heap.size W w') := fun W hb => isOld_any c a1 a2 c1 c2 kind id W hk (h.later hb)
  rw [t7] at OL
  clear t7
  subst t5
  have HQ : Aside (∀ W, Boxes w W w.heap.size c.echoed c.readied c.done (.slice a1 c.echoes.length c1) (.slice a2 c.readies.length c2) → _) := hQ
  clear h hQ hms
  generalize c.echoed = e at *
  generalize c.readied = r at *
  generalize c.done = d at *
  generalize c.echoes.length = m1 at *
  generalize c.readies.length = m2 at *
  go_enter Try.func16, Try.ntmps16
  go_wp2_with fail
  refine (H1.out _).mono ?_; rintro z w1 ⟨rfl, hw⟩
  replace hw := hw.symm; subst hw
  clear H1
  go_wp2_with fail
  refine (H2.out _).mono ?_; rintro z w1 ⟨rfl, hw⟩
  replace hw := hw.symm; subst hw
  clear H2
  go_wp2_with fail
  obtain ⟨y0, y1, y2, y3, y4⟩ := X0.out.box.cells
  refine (OL.out _ (X0.out.below)).mono ?_; rintro z w1 ⟨rfl, hb1⟩
  have X1 : Aside (Boxes w w1 w.heap.size e r d _ _) := X0.out.later hb1 (by simp; omega)
  clear OL hb1
  go_wp2_with fail
  refine (HQ.out _ X1.out).mono ?_
  rintro z w9 ⟨b1, k1, b2, k2, rfl, hA⟩
  obtain ⟨z0, z1, z2, z3, z4⟩ := hA.out.1.cells
  have zf := hA.out.1.frozen
  have hD : Aside (C5 _ _ _ _ _ _ _) := C5.set hA.out.1 (.bool e) (.bool r) (.bool d) (.slice b1 m1 k1) (.slice b2 m2 k2)
  have Q1 : Aside (Q _ _) := hA.out.2
  clear HQ hA X0 X1
  go_wp2
  refine ⟨rfl, _, ?_, Q1.out⟩
  obtain ⟨d0, d1, d2, d3, d4⟩ := hD.out.cells
  simp [results, Try.results16, go_sem, d0, d1, d2, d3, d4]

set_option maxHeartbeats 8000000 in
set_option maxRecDepth 100000 in
theorem take_old3 (c : Vt.Cs) (s1 s2 : Value) (a1 a2 : Option Addr) (c1 c2 ms frm : Nat) (kind : Int) (id : Nat) (x : ByteArray) (w : World) (h : CsAt w c a1 a2) (hms : ms < 65536) (Q : Ending → World → Prop)
    (hQ : Outs w c (.slice a1 c.echoes.length c1) (.slice a2 c.readies.length c2) Q 6) (t3 : Cn.hasS ms id = true) (t4 : Cn.hasS ms frm = true) (hk : kind = 1 ∨ kind = 2 ∨ kind = 3) (t2 : ¬ (1000 : Int) < (x.size : Int)) (t5 : kind = 3) (t7 : Vt.old c kind id = true) :
    Calls Try.prog 16 #[.agg #[.bool c.echoed, .bool c.readied, .bool c.done, .slice a1 c.echoes.length c1, .slice a2 c.readies.length c2], .int .u16 (ms : Nat), .int .u8 (frm : Nat), .int .i64 kind, .int .u8 (id : Nat), .string x] w Q := by
  have X0 : Aside (Boxes w _ w.heap.size c.echoed c.readied c.done (.slice a1 c.echoes.length c1) (.slice a2 c.readies.length c2)) := boxes_new w w.heap.size (Nat.le_refl _) c.echoed c.readied c.done (.slice a1 c.echoes.length c1) (.slice a2 c.readies.length c2)
  have H1 : Aside (∀ W, Calls Try.prog 30 #[.int .u16 (ms : Nat), .int .u8 (id : Nat)] W fun e w' => e = .returned (.bool (Cn.hasS ms id)) ∧ w' = W) := fun W => has_any ms id W hms
  have H2 : Aside (∀ W, Calls Try.prog 30 #[.int .u16 (ms : Nat), .int .u8 (frm : Nat)] W fun e w' => e = .returned (.bool (Cn.hasS ms frm)) ∧ w' = W) := fun W => has_any ms frm W hms
  have e35 := enter35
  rw [t3] at H1
  rw [t4] at H2
  clear t3 t4
  have OL : Aside (∀ W, Below w.heap.size w W → Calls Try.prog 31 #[.agg #[.bool c.echoed, .bool c.readied, .bool c.done, .slice a1 c.echoes.length c1, .slice a2 c.readies.length c2], .int .i64 kind, .int .u8 (id : Nat)] W fun e w' => e = .returned (.bool (Vt.old c kind id)) ∧ Below W.heap.size W w') := fun W hb => isOld_any c a1 a2 c1 c2 kind id W hk (h.later hb)
  rw [t7] at OL
  clear t7
  subst t5
  have HQ : Aside (∀ W, Boxes w W w.heap.size c.echoed c.readied c.done (.slice a1 c.echoes.length c1) (.slice a2 c.readies.length c2) → _) := hQ
  clear h hQ hms
  generalize c.echoed = e at *
  generalize c.readied = r at *
  generalize c.done = d at *
  generalize c.echoes.length = m1 at *
  generalize c.readies.length = m2 at *
  go_enter Try.func16, Try.ntmps16
  go_wp2_with fail
  refine (H1.out _).mono ?_; rintro z w1 ⟨rfl, hw⟩
  replace hw := hw.symm; subst hw
  clear H1
  go_wp2_with fail
  refine (H2.out _).mono ?_; rintro z w1 ⟨rfl, hw⟩
  replace hw := hw.symm; subst hw
  clear H2
  go_wp2_with fail
  obtain ⟨y0, y1, y2, y3, y4⟩ := X0.out.box.cells
  refine (OL.out _ (X0.out.below)).mono ?_; rintro z w1 ⟨rfl, hb1⟩
  have X1 : Aside (Boxes w w1 w.heap.size e r d _ _) := X0.out.later hb1 (by simp; omega)
  clear OL hb1
  go_wp2_with fail
  refine (HQ.out _ X1.out).mono ?_
  rintro z w9 ⟨b1, k1, b2, k2, rfl, hA⟩
  obtain ⟨z0, z1, z2, z3, z4⟩ := hA.out.1.cells
  have zf := hA.out.1.frozen
  have hD : Aside (C5 _ _ _ _ _ _ _) := C5.set hA.out.1 (.bool e) (.bool r) (.bool d) (.slice b1 m1 k1) (.slice b2 m2 k2)
  have Q1 : Aside (Q _ _) := hA.out.2
  clear HQ hA X0 X1
  go_wp2
  refine ⟨rfl, _, ?_, Q1.out⟩
  obtain ⟨d0, d1, d2, d3, d4⟩ := hD.out.cells
  simp [results, Try.results16, go_sem, d0, d1, d2, d3, d4]
end Go.Proofs.Ytmhjmeedoajkjaa
