/- A table in memory: nineteen cells; may one be open? -/
import Derived.Test.YtmhjmeedoajkjaaTbJ
import Derived.Test.YtmhjmeedoajkjaaTbE
set_option linter.unusedVariables false
namespace Go.Proofs.Ytmhjmeedoajkjaa
open Go.RowKit Go.Shelf

/-- The cells of a table. -/
def tabL (v : Int) (ms : Nat) (bs : Nat → Nat) (s : Value) : Array Value := #[.int .i64 v, .int .u16 (ms : Int), .int .u16 ((bs 0 : Nat) : Int), .int .u16 ((bs 1 : Nat) : Int), .int .u16 ((bs 2 : Nat) : Int), .int .u16 ((bs 3 : Nat) : Int), .int .u16 ((bs 4 : Nat) : Int), .int .u16 ((bs 5 : Nat) : Int), .int .u16 ((bs 6 : Nat) : Int), .int .u16 ((bs 7 : Nat) : Int), .int .u16 ((bs 8 : Nat) : Int), .int .u16 ((bs 9 : Nat) : Int), .int .u16 ((bs 10 : Nat) : Int), .int .u16 ((bs 11 : Nat) : Int), .int .u16 ((bs 12 : Nat) : Int), .int .u16 ((bs 13 : Nat) : Int), .int .u16 ((bs 14 : Nat) : Int), .int .u16 ((bs 15 : Nat) : Int), s]
def X19 (w : World) (b : Nat) (t : TypeId) (v : Int) (ms : Nat) (bs : Nat → Nat) (s : Value) : Prop := w.heap[b]? = some (.cells (tabL v ms bs s) t (0, 0))
theorem X19.lt {w : World} {b : Nat} {t : TypeId} {v : Int} {ms : Nat} {bs : Nat → Nat} {s : Value} (h : X19 w b t v ms bs s) : b < w.heap.size := (Array.getElem?_eq_some_iff.1 h).1
theorem X19.later {w w' : World} {b : Nat} {t : TypeId} {v : Int} {ms : Nat} {bs : Nat → Nat} {s : Value} (h : X19 w b t v ms bs s) (hb : Below w.heap.size w w') : X19 w' b t v ms bs s := (hb.block b h.lt).trans h
theorem X19.new (w : World) (t : TypeId) (v : Int) (ms : Nat) (bs : Nat → Nat) (s : Value) : X19 (w.alloc (.cells (tabL v ms bs s) t)) w.heap.size t v ms bs s := heap_alloc_new w _
theorem X19.alloc {w : World} {b : Nat} {t : TypeId} {v : Int} {ms : Nat} {bs : Nat → Nat} {s : Value} (h : X19 w b t v ms bs s) (o : Obj) : X19 (w.alloc o) b t v ms bs s := h.later ((Below.refl _ w).alloc (Nat.le_refl _) o)
theorem X19.far {w : World} {b b' j : Nat} {t : TypeId} {v : Int} {ms : Nat} {bs : Nat → Nat} {s : Value} (h : X19 w b t v ms bs s) (hne : b ≠ b') (u : Value) : X19 (w.setCell ⟨b', j, none⟩ u) b t v ms bs s := (row_far hne u).trans h
theorem X19.frozen {w : World} {b : Nat} {t : TypeId} {v : Int} {ms : Nat} {bs : Nat → Nat} {s : Value} (h : X19 w b t v ms bs s) (i : Nat) : w.frozen? ⟨b, i, none⟩ = false := frozen_of_row w b i _ t h
theorem X19.cells {w : World} {b : Nat} {t : TypeId} {v : Int} {ms : Nat} {bs : Nat → Nat} {s : Value} (h : X19 w b t v ms bs s) :
    w.cell? ⟨b, 0, none⟩ = some (.int .i64 v) ∧ w.cell? ⟨b, 1, none⟩ = some (.int .u16 (ms : Int)) ∧ w.cell? ⟨b, 2, none⟩ = some (.int .u16 ((bs 0 : Nat) : Int)) ∧ w.cell? ⟨b, 3, none⟩ = some (.int .u16 ((bs 1 : Nat) : Int)) ∧ w.cell? ⟨b, 4, none⟩ = some (.int .u16 ((bs 2 : Nat) : Int)) ∧ w.cell? ⟨b, 5, none⟩ = some (.int .u16 ((bs 3 : Nat) : Int)) ∧ w.cell? ⟨b, 6, none⟩ = some (.int .u16 ((bs 4 : Nat) : Int)) ∧ w.cell? ⟨b, 7, none⟩ = some (.int .u16 ((bs 5 : Nat) : Int)) ∧ w.cell? ⟨b, 8, none⟩ = some (.int .u16 ((bs 6 : Nat) : Int)) ∧ w.cell? ⟨b, 9, none⟩ = some (.int .u16 ((bs 7 : Nat) : Int)) ∧ w.cell? ⟨b, 10, none⟩ = some (.int .u16 ((bs 8 : Nat) : Int)) ∧ w.cell? ⟨b, 11, none⟩ = some (.int .u16 ((bs 9 : Nat) : Int)) ∧ w.cell? ⟨b, 12, none⟩ = some (.int .u16 ((bs 10 : Nat) : Int)) ∧ w.cell? ⟨b, 13, none⟩ = some (.int .u16 ((bs 11 : Nat) : Int)) ∧ w.cell? ⟨b, 14, none⟩ = some (.int .u16 ((bs 12 : Nat) : Int)) ∧ w.cell? ⟨b, 15, none⟩ = some (.int .u16 ((bs 13 : Nat) : Int)) ∧ w.cell? ⟨b, 16, none⟩ = some (.int .u16 ((bs 14 : Nat) : Int)) ∧ w.cell? ⟨b, 17, none⟩ = some (.int .u16 ((bs 15 : Nat) : Int)) ∧ w.cell? ⟨b, 18, none⟩ = some s :=
  ⟨cell_of_row w b 0 _ t _ h, cell_of_row w b 1 _ t _ h, cell_of_row w b 2 _ t _ h, cell_of_row w b 3 _ t _ h, cell_of_row w b 4 _ t _ h, cell_of_row w b 5 _ t _ h, cell_of_row w b 6 _ t _ h, cell_of_row w b 7 _ t _ h, cell_of_row w b 8 _ t _ h, cell_of_row w b 9 _ t _ h, cell_of_row w b 10 _ t _ h, cell_of_row w b 11 _ t _ h, cell_of_row w b 12 _ t _ h, cell_of_row w b 13 _ t _ h, cell_of_row w b 14 _ t _ h, cell_of_row w b 15 _ t _ h, cell_of_row w b 16 _ t _ h, cell_of_row w b 17 _ t _ h, cell_of_row w b 18 _ t _ h⟩
theorem X19.base {w : World} {b : Nat} {t : TypeId} {v : Int} {ms : Nat} {bs : Nat → Nat} {s : Value} (h : X19 w b t v ms bs s) {i : Nat} (hi : i < 16) : w.cell? ⟨b, 2 + i, none⟩ = some (.int .u16 ((bs i : Nat) : Int)) := by
  rw [cell_of_row w b (2 + i) _ t _ h]
  have : i = 0 ∨ i = 1 ∨ i = 2 ∨ i = 3 ∨ i = 4 ∨ i = 5 ∨ i = 6 ∨ i = 7 ∨ i = 8 ∨ i = 9 ∨ i = 10 ∨ i = 11 ∨ i = 12 ∨ i = 13 ∨ i = 14 ∨ i = 15 := by omega
  rcases this with rfl | rfl | rfl | rfl | rfl | rfl | rfl | rfl | rfl | rfl | rfl | rfl | rfl | rfl | rfl | rfl <;> rfl

theorem okO_iff {ms : Nat} {base : Nat → Nat} {o : Tb.Op} : Tb.OkO ms base o ↔ Cn.hasS ms o.frm = true ∧ (base o.frm : Int) ≤ o.seq ∧ o.seq < (base o.frm : Int) + 8 ∧ o.seq < 1000 ∧ ¬ (o.seq = (base o.frm : Int) ∧ o.c.done = true) ∧ o.c.echoes.Pairwise Vt.Ap ∧ o.c.readies.Pairwise Vt.Ap :=
  ⟨fun h => ⟨h.has, h.lo, h.hi, h.top, h.open_, h.se, h.sr⟩, fun ⟨a, b, c, d, e, f, g⟩ => ⟨a, b, c, d, e, f, g⟩⟩
theorem sound8_dec (a : Option Addr) (c : Nat) (l : Vt.Bal) (w : World) (h1 : Vt.At w a l) (hs : Vt.Small l) (hn : l.length ≤ 900) (b : Bool) (hb : b = true ↔ l.Pairwise Vt.Ap) :
    Calls Try.prog 57 #[.slice a l.length c] w fun e w' => e = .returned (.bool b) ∧ Below w.heap.size w w' :=
  (sound8_any a c l w h1 hs hn).mono fun e w' ⟨b', h1, h2, h3⟩ => ⟨by rw [h1]; congr 2; cases b <;> cases b' <;> simp_all, h3⟩
/-- What rightOpen answers. -/
def OpPost (P : Prop) (w : World) (e : Ending) (w' : World) : Prop := ∃ b, e = .returned (.bool b) ∧ (b = true ↔ P) ∧ Below w.heap.size w w'
structure EnAt (w : World) (e : En) : Prop where
  at_ : CsAt w e.o.c e.a1 e.a2
  frm : e.o.frm < 256
theorem EnAt.later {w w' : World} {e : En} (h : EnAt w e) (hb : Below w.heap.size w w') : EnAt w' e := ⟨h.at_.later hb, h.frm⟩
set_option maxHeartbeats 40000000 in
set_option maxRecDepth 100000 in
theorem rightOpen_any (v : Int) (ms : Nat) (bs : Nat → Nat) (s : Value) (e : En) (w : World) (he : EnAt w e) (hms : ms < 65536) (hb16 : ∀ i, i < 16 → bs i < 65536) :
    Calls Try.prog 35 #[.agg (tabL v ms bs s), .agg (encE e).toArray] w (OpPost (Tb.OkO ms bs e.o) w) := by
  have RF : Aside (∀ w', ¬ Tb.OkO ms bs e.o → Below w.heap.size w w' → OpPost (Tb.OkO ms bs e.o) w (.returned (.bool false)) w') := fun w' h hb => ⟨false, rfl, ⟨(fun h => nomatch h), fun h2 => absurd h2 h⟩, hb⟩
  have RT : Aside (∀ b w', (b = true ↔ Tb.OkO ms bs e.o) → Below w.heap.size w w' → OpPost (Tb.OkO ms bs e.o) w (.returned (.bool b)) w') := fun b w' h hb => ⟨b, rfl, h, hb⟩
  generalize OpPost (Tb.OkO ms bs e.o) w = Q at RF RT ⊢
  have EA : Aside (EnAt w e) := he
  have B16 : Aside (∀ i, i < 16 → bs i < 65536) := hb16
  have X1 := X19.new w 30 v ms bs s
  obtain ⟨V, hV⟩ : ∃ V, V = (w.alloc (.cells (tabL v ms bs s) 30)).alloc (.cells (encE e).toArray 50) := ⟨_, rfl⟩
  have XV : Aside (X19 V w.heap.size 30 v ms bs s ∧ X7 V (w.heap.size + 1) (.int .u8 (e.o.frm : Int)) (.int .i64 e.o.seq) (.bool e.o.c.echoed) (.bool e.o.c.readied) (.bool e.o.c.done) (.slice e.a1 e.o.c.echoes.length e.k1) (.slice e.a2 e.o.c.readies.length e.k2) ∧ Below w.heap.size w V) := by
    rw [hV]
    refine ⟨X1.alloc _, ?_, ((Below.refl _ w).alloc (Nat.le_refl _) _).alloc (by simp) _⟩
    have := X7.new (w.alloc (.cells (tabL v ms bs s) 30)) (.int .u8 (e.o.frm : Int)) (.int .i64 e.o.seq) (.bool e.o.c.echoed) (.bool e.o.c.readied) (.bool e.o.c.done) (.slice e.a1 e.o.c.echoes.length e.k1) (.slice e.a2 e.o.c.readies.length e.k2)
    rwa [World.size_alloc] at this
  clear he hb16 X1
  have CH : Aside (∀ (W : World), Calls Try.prog 30 #[.int .u16 (ms : Nat), .int .u8 (e.o.frm : Nat)] W fun z w' => z = .returned (.bool (Cn.hasS ms e.o.frm)) ∧ w' = W) := fun W => has_any ms e.o.frm W hms
  have RV : Aside (∀ W, Below V.heap.size V W → Below w.heap.size w W) := fun W hb => below_step XV.out.2.2 hb
  have x1 := XV.out.1.cells.2.1
  have y0 := XV.out.2.1.cells.1
  rw [hV] at x1 y0
  go_enter Try.func35, Try.ntmps35
  go_wp2_with fail
  rw [← hV] at x1 y0 ⊢
  clear hV
  obtain ⟨-, y1, -, -, y4, y5, y6⟩ := XV.out.2.1.cells
  have OI : Aside (Tb.OkO ms bs e.o ↔ _) := okO_iff
  cases hh : Cn.hasS ms e.o.frm with
  | false =>
    rw [hh] at CH
    have Q1 : Aside (Q (.returned (.bool false)) V) := RF.out V (fun h => by have := h.has; rw [hh] at this; cases this) XV.out.2.2
    clear RF RT OI hh
    go_wp2_with (first
      | (go_at_call 30; refine (CH.out _).mono ?_; rintro z w' ⟨rfl, hw⟩; replace hw := hw.symm; subst hw)
      | (go_at_call 57; refine (CR.out _ B1.out).mono ?_; rintro z w2 ⟨rfl, hb2⟩; have B2 : Aside (Below V.heap.size V w2) := below_step B1.out hb2; clear hb2)
      | (go_at_call 57; refine (CE.out _ (Below.refl _ V)).mono ?_; rintro z w1 ⟨rfl, hb1⟩; have B1 : Aside (Below V.heap.size V w1) := hb1; clear hb1; obtain ⟨-, -, -, -, -, z5, z6⟩ := (XV.out.2.1.later B1.out).cells))
    exact Q1.out
  | true =>
    rw [hh] at CH
    have hf := Tb.has_lt hh
    have xb := XV.out.1.base hf
    have hb16 := B16.out _ hf
    obtain ⟨B, hB⟩ : ∃ B, B = bs e.o.frm := ⟨_, rfl⟩
    rw [← hB] at xb hb16
    have HB : Aside (B = bs e.o.frm ∧ Cn.hasS ms e.o.frm = true) := ⟨hB, hh⟩
    clear hB hh
    have f1 : (0 : Int) ≤ (e.o.frm : Int) := by omega
    have f2 : (e.o.frm : Int) < 16 := by omega
    have OI2 : Aside (Tb.OkO ms bs e.o ↔ (B : Int) ≤ e.o.seq ∧ e.o.seq < (B : Int) + 8 ∧ e.o.seq < 1000 ∧ ¬ (e.o.seq = (B : Int) ∧ e.o.c.done = true) ∧ e.o.c.echoes.Pairwise Vt.Ap ∧ e.o.c.readies.Pairwise Vt.Ap) := by
      show _ ↔ _
      rw [okO_iff, HB.out.1]; exact ⟨fun h => h.2, fun h => ⟨HB.out.2, h⟩⟩
    clear OI
    have w8 : IntKind.i64.wrap ((B : Int) + 8) = (B : Int) + 8 := by rw [IntKind.wrap_i64]; omega
    have QF : Aside (¬ Tb.OkO ms bs e.o → Q (.returned (.bool false)) V) := fun h => RF.out V h XV.out.2.2
    by_cases c1 : e.o.seq < (B : Int)
    · have Q1 : Aside (Q (.returned (.bool false)) V) := QF.out fun h => by have := OI2.out.1 h; omega
      clear RF RT OI2 QF
      go_wp2_with (first
        | (go_at_call 30; refine (CH.out _).mono ?_; rintro z w' ⟨rfl, hw⟩; replace hw := hw.symm; subst hw)
        | (go_at_call 57; refine (CR.out _ B1.out).mono ?_; rintro z w2 ⟨rfl, hb2⟩; have B2 : Aside (Below V.heap.size V w2) := below_step B1.out hb2; clear hb2)
        | (go_at_call 57; refine (CE.out _ (Below.refl _ V)).mono ?_; rintro z w1 ⟨rfl, hb1⟩; have B1 : Aside (Below V.heap.size V w1) := hb1; clear hb1; obtain ⟨-, -, -, -, -, z5, z6⟩ := (XV.out.2.1.later B1.out).cells))
      exact Q1.out
    by_cases c2 : (B : Int) + 8 ≤ e.o.seq
    · have Q1 : Aside (Q (.returned (.bool false)) V) := QF.out fun h => by have := OI2.out.1 h; omega
      clear RF RT OI2 QF
      go_wp2_with (first
        | (go_at_call 30; refine (CH.out _).mono ?_; rintro z w' ⟨rfl, hw⟩; replace hw := hw.symm; subst hw)
        | (go_at_call 57; refine (CR.out _ B1.out).mono ?_; rintro z w2 ⟨rfl, hb2⟩; have B2 : Aside (Below V.heap.size V w2) := below_step B1.out hb2; clear hb2)
        | (go_at_call 57; refine (CE.out _ (Below.refl _ V)).mono ?_; rintro z w1 ⟨rfl, hb1⟩; have B1 : Aside (Below V.heap.size V w1) := hb1; clear hb1; obtain ⟨-, -, -, -, -, z5, z6⟩ := (XV.out.2.1.later B1.out).cells))
      exact Q1.out
    by_cases c3 : (1000 : Int) ≤ e.o.seq
    · have Q1 : Aside (Q (.returned (.bool false)) V) := QF.out fun h => by have := OI2.out.1 h; omega
      clear RF RT OI2 QF
      go_wp2_with (first
        | (go_at_call 30; refine (CH.out _).mono ?_; rintro z w' ⟨rfl, hw⟩; replace hw := hw.symm; subst hw)
        | (go_at_call 57; refine (CR.out _ B1.out).mono ?_; rintro z w2 ⟨rfl, hb2⟩; have B2 : Aside (Below V.heap.size V w2) := below_step B1.out hb2; clear hb2)
        | (go_at_call 57; refine (CE.out _ (Below.refl _ V)).mono ?_; rintro z w1 ⟨rfl, hb1⟩; have B1 : Aside (Below V.heap.size V w1) := hb1; clear hb1; obtain ⟨-, -, -, -, -, z5, z6⟩ := (XV.out.2.1.later B1.out).cells))
      exact Q1.out
    have OI3 : Aside (Tb.OkO ms bs e.o ↔ ¬ (e.o.seq = (B : Int) ∧ e.o.c.done = true) ∧ e.o.c.echoes.Pairwise Vt.Ap ∧ e.o.c.readies.Pairwise Vt.Ap) := by
      show _ ↔ _
      rw [OI2.out]
      exact ⟨fun h => h.2.2.2, fun h => ⟨by omega, by omega, by omega, h⟩⟩
    clear OI2
    obtain ⟨bE, hE⟩ : ∃ b : Bool, b = true ↔ e.o.c.echoes.Pairwise Vt.Ap := by
      by_cases h : e.o.c.echoes.Pairwise Vt.Ap
      · exact ⟨true, ⟨fun _ => h, fun _ => rfl⟩⟩
      · exact ⟨false, ⟨(fun h => nomatch h), fun h2 => absurd h2 h⟩⟩
    obtain ⟨bR, hR⟩ : ∃ b : Bool, b = true ↔ e.o.c.readies.Pairwise Vt.Ap := by
      by_cases h : e.o.c.readies.Pairwise Vt.Ap
      · exact ⟨true, ⟨fun _ => h, fun _ => rfl⟩⟩
      · exact ⟨false, ⟨(fun h => nomatch h), fun h2 => absurd h2 h⟩⟩
    have CE : Aside (∀ W : World, Below V.heap.size V W → Calls Try.prog 57 #[.slice e.a1 e.o.c.echoes.length e.k1] W fun z w' => z = .returned (.bool bE) ∧ Below W.heap.size W w') := fun W hb => sound8_dec _ _ _ W (EA.out.at_.e.later (RV.out W hb)) EA.out.at_.small.1 EA.out.at_.n1 bE hE
    have CR : Aside (∀ W : World, Below V.heap.size V W → Calls Try.prog 57 #[.slice e.a2 e.o.c.readies.length e.k2] W fun z w' => z = .returned (.bool bR) ∧ Below W.heap.size W w') := fun W hb => sound8_dec _ _ _ W (EA.out.at_.r.later (RV.out W hb)) EA.out.at_.small.2 EA.out.at_.n2 bR hR
    have OI4 : Aside (Tb.OkO ms bs e.o ↔ ¬ (e.o.seq = (B : Int) ∧ e.o.c.done = true) ∧ bE = true ∧ bR = true) := by
      show _ ↔ _
      rw [OI3.out, hE, hR]
    have LAST : Aside (∀ W, ¬ (e.o.seq = (B : Int) ∧ e.o.c.done = true) → Below V.heap.size V W → Q (.returned (.bool (bE && bR))) W) := fun W hd hb => RT.out _ W (by rw [OI4.out, Bool.and_eq_true]; exact ⟨fun h => ⟨hd, h⟩, fun h => h.2⟩) (RV.out W hb)
    clear OI3 RT hE hR
    by_cases c4 : e.o.seq = (B : Int)
    · cases hd : e.o.c.done with
      | true =>
        have Q1 : Aside (Q (.returned (.bool false)) V) := QF.out fun h => (OI4.out.1 h).1 ⟨c4, hd⟩
        have c5 : (e.o.seq == (B : Int)) = true := by simp [c4]
        clear RF OI4 QF LAST
        rw [hd] at y4
        go_wp2_with (first
          | (go_at_call 30; refine (CH.out _).mono ?_; rintro z w' ⟨rfl, hw⟩; replace hw := hw.symm; subst hw)
          | (go_at_call 57; refine (CR.out _ B1.out).mono ?_; rintro z w2 ⟨rfl, hb2⟩; have B2 : Aside (Below V.heap.size V w2) := below_step B1.out hb2; clear hb2)
          | (go_at_call 57; refine (CE.out _ (Below.refl _ V)).mono ?_; rintro z w1 ⟨rfl, hb1⟩; have B1 : Aside (Below V.heap.size V w1) := hb1; clear hb1; obtain ⟨-, -, -, -, -, z5, z6⟩ := (XV.out.2.1.later B1.out).cells))
        exact Q1.out
      | false =>
        have c5 : (e.o.seq == (B : Int)) = true := by simp [c4]
        have L2 : Aside (∀ W, Below V.heap.size V W → Q (.returned (.bool (bE && bR))) W) := fun W hb => LAST.out W (fun h => by rw [hd] at h; cases h.2) hb
        clear RF OI4 QF LAST c4
        rw [hd] at y4
        cases bE with
        | true =>
          go_wp2_with (first
            | (go_at_call 30; refine (CH.out _).mono ?_; rintro z w' ⟨rfl, hw⟩; replace hw := hw.symm; subst hw)
            | (go_at_call 57; refine (CR.out _ B1.out).mono ?_; rintro z w2 ⟨rfl, hb2⟩; have B2 : Aside (Below V.heap.size V w2) := below_step B1.out hb2; clear hb2)
            | (go_at_call 57; refine (CE.out _ (Below.refl _ V)).mono ?_; rintro z w1 ⟨rfl, hb1⟩; have B1 : Aside (Below V.heap.size V w1) := hb1; clear hb1; obtain ⟨-, -, -, -, -, z5, z6⟩ := (XV.out.2.1.later B1.out).cells))
          exact L2.out _ B2.out
        | false =>
          go_wp2_with (first
            | (go_at_call 30; refine (CH.out _).mono ?_; rintro z w' ⟨rfl, hw⟩; replace hw := hw.symm; subst hw)
            | (go_at_call 57; refine (CR.out _ B1.out).mono ?_; rintro z w2 ⟨rfl, hb2⟩; have B2 : Aside (Below V.heap.size V w2) := below_step B1.out hb2; clear hb2)
            | (go_at_call 57; refine (CE.out _ (Below.refl _ V)).mono ?_; rintro z w1 ⟨rfl, hb1⟩; have B1 : Aside (Below V.heap.size V w1) := hb1; clear hb1; obtain ⟨-, -, -, -, -, z5, z6⟩ := (XV.out.2.1.later B1.out).cells))
          exact L2.out _ B1.out
    · have c5 : (e.o.seq == (B : Int)) = false := by simp [c4]
      have L2 : Aside (∀ W, Below V.heap.size V W → Q (.returned (.bool (bE && bR))) W) := fun W hb => LAST.out W (fun h => c4 h.1) hb
      clear RF OI4 QF LAST c4
      cases bE with
      | true =>
        go_wp2_with (first
          | (go_at_call 30; refine (CH.out _).mono ?_; rintro z w' ⟨rfl, hw⟩; replace hw := hw.symm; subst hw)
          | (go_at_call 57; refine (CR.out _ B1.out).mono ?_; rintro z w2 ⟨rfl, hb2⟩; have B2 : Aside (Below V.heap.size V w2) := below_step B1.out hb2; clear hb2)
          | (go_at_call 57; refine (CE.out _ (Below.refl _ V)).mono ?_; rintro z w1 ⟨rfl, hb1⟩; have B1 : Aside (Below V.heap.size V w1) := hb1; clear hb1; obtain ⟨-, -, -, -, -, z5, z6⟩ := (XV.out.2.1.later B1.out).cells))
        exact L2.out _ B2.out
      | false =>
        go_wp2_with (first
          | (go_at_call 30; refine (CH.out _).mono ?_; rintro z w' ⟨rfl, hw⟩; replace hw := hw.symm; subst hw)
          | (go_at_call 57; refine (CR.out _ B1.out).mono ?_; rintro z w2 ⟨rfl, hb2⟩; have B2 : Aside (Below V.heap.size V w2) := below_step B1.out hb2; clear hb2)
          | (go_at_call 57; refine (CE.out _ (Below.refl _ V)).mono ?_; rintro z w1 ⟨rfl, hb1⟩; have B1 : Aside (Below V.heap.size V w1) := hb1; clear hb1; obtain ⟨-, -, -, -, -, z5, z6⟩ := (XV.out.2.1.later B1.out).cells))
        exact L2.out _ B1.out
end Go.Proofs.Ytmhjmeedoajkjaa
