/- The walk of VoteTakes: what comes of any vote in any case, and which members voted for a body, is the document's. -/
import Derived.Test.YtlekbbpancaenaaVtS
import Derived.Test.YtlekbbpancaenaaVtZ
import Derived.Test.YtlekbbpancaenaaBrA
namespace Go.Proofs.Ytlekbbpancaenaa
open Go.RowKit Go.Shelf

theorem outs_len (c : Vt.Cs) (ms frm : Nat) (kind : Int) (id : Nat) (x : ByteArray) : (Vt.take c ms frm kind id x).outs.length ≤ 1 := by
  rcases Vt.take_full c ms frm kind id x with ⟨e, _, h⟩ | ⟨_, _, _, _, h⟩ | ⟨_, _, _, h⟩ | ⟨_, _, _, _, h⟩ | ⟨_, _, _, _, _, h⟩ <;> rw [h]
  · exact Nat.zero_le _
  · exact Nat.le_refl _
  · show (Vt.ready _ _ _).2.length ≤ 1
    unfold Vt.ready; dsimp only; split <;> simp
  · show (Vt.ready _ _ _).2.length ≤ 1
    unfold Vt.ready; dsimp only; split <;> simp
  · show (Vt.ready _ _ _).2.length ≤ 1
    unfold Vt.ready; dsimp only; split <;> simp
theorem field35_3 : ∀ (v0 v1 v2 v3 v4 : Value) (W : World), (Instr.field 35 (.agg #[v0, v1, v2, v3, v4]) 3).run Try.prog W = .ok v3 W := fun _ _ _ _ _ _ => by kernel_rfl
/-- All boxes of VoteTakes behind both answers. -/
structure Sev (w W : World) (e r d : Bool) (l1 l2 : Vt.Bal) (a1 a2 : Option Addr) (c1 c2 ms frm : Nat) (kd : Int) (id : Nat) (x : ByteArray) (pb tb : Nat) (t : Vt.Told) (b1 b2 ao g1 g2 go : Option Addr) (k1 k2 j1 j2 jo : Nat) : Prop where
  box : Boxed w W 24 e r d (.slice a1 l1.length c1) (.slice a2 l2.length c2) ms frm kd id x
  took : Took w W pb t b1 b2 ao k1 k2
  told : X9 W tb (.bool t.c.echoed) (.bool t.c.readied) (.bool t.c.done) (.slice g1 t.c.echoes.length j1) (.slice g2 t.c.readies.length j2) (.slice go t.outs.length jo) (.string t.body) (.bool t.is) (.int .i64 (t.e : Int))
  e1 : Vt.At W g1 t.c.echoes
  e2 : Vt.At W g2 t.c.readies
  o : AtO W go t.outs
theorem Sev.later {w W W' : World} {e r d : Bool} {l1 l2 : Vt.Bal} {a1 a2 : Option Addr} {c1 c2 ms frm : Nat} {kd : Int} {id : Nat} {x : ByteArray} {pb tb : Nat} {t : Vt.Told} {b1 b2 ao g1 g2 go : Option Addr} {k1 k2 j1 j2 jo : Nat} (h : Sev w W e r d l1 l2 a1 a2 c1 c2 ms frm kd id x pb tb t b1 b2 ao g1 g2 go k1 k2 j1 j2 jo) (hb : Below W.heap.size W W') :
    Sev w W' e r d l1 l2 a1 a2 c1 c2 ms frm kd id x pb tb t b1 b2 ao g1 g2 go k1 k2 j1 j2 jo := ⟨h.box.later hb, h.took.later hb, h.told.later hb, h.e1.later hb, h.e2.later hb, h.o.later hb⟩
theorem sev_new {w W w9 : World} {e r d : Bool} {l1 l2 : Vt.Bal} {a1 a2 : Option Addr} {c1 c2 ms frm : Nat} {kd : Int} {id : Nat} {x : ByteArray} {pb : Nat} {t : Vt.Told} {b1 b2 ao g1 g2 go : Option Addr} {k1 k2 j1 j2 jo : Nat} (hB : Boxed w W 24 e r d (.slice a1 l1.length c1) (.slice a2 l2.length c2) ms frm kd id x) (hT : Took w W pb t b1 b2 ao k1 k2)
    (hb : Below W.heap.size W w9) (h1 : Vt.At w9 g1 t.c.echoes) (h2 : Vt.At w9 g2 t.c.readies) (h3 : AtO w9 go t.outs) :
    Sev w (w9.alloc (.cells #[.bool t.c.echoed, .bool t.c.readied, .bool t.c.done, .slice g1 t.c.echoes.length j1, .slice g2 t.c.readies.length j2, .slice go t.outs.length jo, .string t.body, .bool t.is, .int .i64 (t.e : Int)] 43)) e r d l1 l2 a1 a2 c1 c2 ms frm kd id x pb w9.heap.size t b1 b2 ao g1 g2 go k1 k2 j1 j2 jo := by
  have hl : Below w9.heap.size w9 (w9.alloc (.cells #[.bool t.c.echoed, .bool t.c.readied, .bool t.c.done, .slice g1 t.c.echoes.length j1, .slice g2 t.c.readies.length j2, .slice go t.outs.length jo, .string t.body, .bool t.is, .int .i64 (t.e : Int)] 43)) := (Below.refl _ w9).alloc (Nat.le_refl _) _
  exact ⟨(hB.later hb).later hl, (hT.later hb).later hl, X9.new w9 _ _ _ _ _ _ _ _ _, h1.later hl, h2.later hl, h3.later hl⟩
theorem Sev.cells {w W : World} {e r d : Bool} {l1 l2 : Vt.Bal} {a1 a2 : Option Addr} {c1 c2 ms frm : Nat} {kd : Int} {id : Nat} {x : ByteArray} {pb tb : Nat} {t : Vt.Told} {b1 b2 ao g1 g2 go : Option Addr} {k1 k2 j1 j2 jo : Nat} (h : Sev w W e r d l1 l2 a1 a2 c1 c2 ms frm kd id x pb tb t b1 b2 ao g1 g2 go k1 k2 j1 j2 jo) :
    W.cell? ⟨w.heap.size, 0, none⟩ = some (.bool e) ∧ W.cell? ⟨w.heap.size, 1, none⟩ = some (.bool r) ∧ W.cell? ⟨w.heap.size, 2, none⟩ = some (.bool d) ∧ W.cell? ⟨w.heap.size, 3, none⟩ = some (.slice a1 l1.length c1) ∧ W.cell? ⟨w.heap.size, 4, none⟩ = some (.slice a2 l2.length c2) ∧ W.cell? ⟨w.heap.size + 2, 2, none⟩ = some (.string x) ∧ W.cell? ⟨pb, 0, none⟩ = some (.bool t.c.echoed) ∧ W.cell? ⟨pb, 1, none⟩ = some (.bool t.c.readied) ∧ W.cell? ⟨pb, 2, none⟩ = some (.bool t.c.done) ∧ W.cell? ⟨pb, 3, none⟩ = some (.slice b1 t.c.echoes.length k1) ∧ W.cell? ⟨pb, 4, none⟩ = some (.slice b2 t.c.readies.length k2) ∧ W.cell? ⟨tb, 0, none⟩ = some (.bool t.c.echoed) ∧ W.cell? ⟨tb, 1, none⟩ = some (.bool t.c.readied) ∧ W.cell? ⟨tb, 2, none⟩ = some (.bool t.c.done) ∧ W.cell? ⟨tb, 3, none⟩ = some (.slice g1 t.c.echoes.length j1) ∧ W.cell? ⟨tb, 4, none⟩ = some (.slice g2 t.c.readies.length j2) ∧ W.cell? ⟨tb, 5, none⟩ = some (.slice go t.outs.length jo) ∧ W.cell? ⟨tb, 6, none⟩ = some (.string t.body) ∧ W.cell? ⟨tb, 7, none⟩ = some (.bool t.is) ∧ W.cell? ⟨tb, 8, none⟩ = some (.int .i64 (t.e : Int)) :=
  ⟨h.box.c0, h.box.c1, h.box.c2, h.box.c3, h.box.c4, h.box.v2, h.took.at_.1.cells.1, h.took.at_.1.cells.2.1, h.took.at_.1.cells.2.2.1, h.took.at_.1.cells.2.2.2.1, h.took.at_.1.cells.2.2.2.2, h.told.cells⟩

set_option maxHeartbeats 16000000 in
set_option maxRecDepth 100000 in
theorem takes_walk (e r d : Bool) (a1 a2 : Option Addr) (c1 c2 : Nat) (l1 l2 : Vt.Bal) (ms frm : Nat) (kd : Int) (id : Nat) (x : ByteArray) (w : World) (hms : ms < 65536) (hf8 : frm < 256) (h8 : id < 256) (h1 : Vt.At w a1 l1 ∧ Vt.Small l1) (h2 : Vt.At w a2 l2 ∧ Vt.Small l2) :
    Calls Try.prog 3 #[.agg #[.bool e, .bool r, .bool d, .slice a1 l1.length c1, .slice a2 l2.length c2], .agg #[.int .u16 (ms : Int), .int .u8 (frm : Int)], .agg #[.int .i64 kd, .int .u8 (id : Int), .string x]] w fun z w' => z = .returned (.bool true) ∧ Below w.heap.size w w' := by
  have AL : Aside (∀ W, _) := fun W => alive_any W
  have HF : Aside (frm < 256 ∧ id < 256) := ⟨hf8, h8⟩
  have H0 : Aside ((Vt.At w a1 l1 ∧ Vt.Small l1) ∧ (Vt.At w a2 l2 ∧ Vt.Small l2) ∧ ms < 65536) := ⟨h1, h2, hms⟩
  have F1 : Aside (∀ W, _) := fun W => few_any a1 l1.length c1 W
  have F2 : Aside (∀ W, _) := fun W => few_any a2 l2.length c2 W
  have X0 : Aside (Boxed w _ 24 e r d (.slice a1 l1.length c1) (.slice a2 l2.length c2) ms frm kd id x) := boxed_new w 24 e r d (.slice a1 l1.length c1) (.slice a2 l2.length c2) ms frm kd id x
  clear h1 h2 hms hf8 h8
  go_enter Try.func3, Try.ntmps3
  go_wp2_with fail
  refine (AL.out _).mono ?_
  rintro z V ⟨rfl, hb⟩
  have X1 : Aside (Boxed w V 24 e r d (.slice a1 l1.length c1) (.slice a2 l2.length c2) ms frm kd id x) := X0.out.later hb
  clear X0 hb AL
  have q0 := X1.out.c0; have q1 := X1.out.c1; have q2 := X1.out.c2; have q3 := X1.out.c3; have q4 := X1.out.c4; have q5 := X1.out.p0; have q6 := X1.out.p1; have q7 := X1.out.v0; have q8 := X1.out.v1; have q9 := X1.out.v2; have ql := X1.out.size
  by_cases f1 : l1.length ≤ 20
  · rw [decide_eq_true f1] at F1
    by_cases f2 : l2.length ≤ 20
    · rw [decide_eq_true f2] at F2
      have S1 : Aside (∀ W, Below w.heap.size w W → Calls Try.prog 14 #[.slice a1 l1.length c1] W (SoundPost l1 W)) := fun W hb => sound_any a1 c1 l1 W (H0.out.1.1.later hb) H0.out.1.2 (by omega)
      have S2 : Aside (∀ W, Below w.heap.size w W → Calls Try.prog 14 #[.slice a2 l2.length c2] W (SoundPost l2 W)) := fun W hb => sound_any a2 c2 l2 W (H0.out.2.1.1.later hb) H0.out.2.1.2 (by omega)
      go_wp2_with fail
      refine (F1.out _).mono ?_
      rintro z w1 ⟨rfl, hw⟩
      replace hw := hw.symm; subst hw
      clear F1
      go_wp2_with fail
      refine (F2.out _).mono ?_
      rintro z w1 ⟨rfl, hw⟩
      replace hw := hw.symm; subst hw
      clear F2
      go_wp2_with fail
      refine (S1.out _ X1.out.below).mono ?_
      rintro z w1 ⟨sb, rfl, -, hd⟩
      obtain ⟨q, hq⟩ := hd
      have X2 : Aside (Boxed w w1 24 e r d (.slice a1 l1.length c1) (.slice a2 l2.length c2) ms frm kd id x) := by rw [hq]; exact X1.out.drew q
      clear S1 X1 hq q0 q1 q2 q3 q4 q5 q6 q7 q8 q9 ql
      have q0 := X2.out.c0; have q1 := X2.out.c1; have q2 := X2.out.c2; have q3 := X2.out.c3; have q4 := X2.out.c4; have q5 := X2.out.p0; have q6 := X2.out.p1; have q7 := X2.out.v0; have q8 := X2.out.v1; have q9 := X2.out.v2; have ql := X2.out.size
      cases sb with
      | false =>
        have B9 : Aside (Below w.heap.size w w1) := X2.out.below
        clear S2
        go_wp2
        go_ret
        exact ⟨rfl, B9.out⟩
      | true =>
      go_wp2_with fail
      refine (S2.out _ X2.out.below).mono ?_
      rintro z V2 ⟨sb, rfl, -, hd⟩
      obtain ⟨q, hq⟩ := hd
      have X3 : Aside (Boxed w V2 24 e r d (.slice a1 l1.length c1) (.slice a2 l2.length c2) ms frm kd id x) := by rw [hq]; exact X2.out.drew q
      clear S2 X2 hq q0 q1 q2 q3 q4 q5 q6 q7 q8 q9 ql
      have q0 := X3.out.c0; have q1 := X3.out.c1; have q2 := X3.out.c2; have q3 := X3.out.c3; have q4 := X3.out.c4; have q5 := X3.out.p0; have q6 := X3.out.p1; have q7 := X3.out.v0; have q8 := X3.out.v1; have q9 := X3.out.v2; have ql := X3.out.size
      cases sb with
      | false =>
        have B9 : Aside (Below w.heap.size w V2) := X3.out.below
        go_wp2
        go_ret
        exact ⟨rfl, B9.out⟩
      | true =>
      by_cases hx : (1100 : Int) < (x.size : Int)
      · have B9 : Aside (Below w.heap.size w V2) := X3.out.below
        go_wp2
        go_ret
        exact ⟨rfl, B9.out⟩
      obtain ⟨t, ht⟩ : ∃ t, Vt.take ⟨e, r, d, l1, l2⟩ ms frm kd id x = t := ⟨_, rfl⟩
      have TT : Aside (Vt.take ⟨e, r, d, l1, l2⟩ ms frm kd id x = t ∧ l1.length ≤ 20 ∧ l2.length ≤ 20) := ⟨ht, f1, f2⟩
      clear ht f1 f2
      have TH : Aside (∀ W, Below V2.heap.size V2 W → _) := fun (W : World) (hb : Below V2.heap.size V2 W) => theirs_let (e := e) (r := r) (d := d) (c1 := c1) (c2 := c2) (H0.out.1.1.later (below_step X3.out.below hb)) (H0.out.2.1.1.later (below_step X3.out.below hb)) TT.out.2.1 TT.out.2.2
      have TK : Aside (∀ W g1 g2 j1 j2, Vt.At W g1 l1 → Vt.At W g2 l2 → _) := fun (W : World) (g1 g2 : Option Addr) (j1 j2 : Nat) (q1 : Vt.At W g1 l1) (q2 : Vt.At W g2 l2) => take_parts (j1 := j1) (j2 := j2) TT.out.1 q1 q2 H0.out.1.2 H0.out.2.1.2 TT.out.2.1 TT.out.2.2 H0.out.2.2
      have BV : Aside (Below V2.heap.size V2 V2.drew ∧ ∀ o, Below V2.heap.size V2 (V2.drew.alloc o)) := ⟨(Below.refl _ V2).drew, fun o => (Below.refl _ V2).drew.alloc (Nat.le_refl _) o⟩
      go_wp2_with fail
      go_region_held3 (fun w' => w'.cell? ⟨w.heap.size, 0, none⟩ = some (.bool e) ∧ w'.cell? ⟨w.heap.size, 1, none⟩ = some (.bool r) ∧ w'.cell? ⟨w.heap.size, 2, none⟩ = some (.bool d) ∧ w'.cell? ⟨w.heap.size, 3, none⟩ = some (.slice a1 l1.length c1) ∧ w'.cell? ⟨w.heap.size, 4, none⟩ = some (.slice a2 l2.length c2) ∧ w'.cell? ⟨w.heap.size + 1, 0, none⟩ = some (.int .u16 (ms : Int)) ∧ w'.cell? ⟨w.heap.size + 1, 1, none⟩ = some (.int .u8 (frm : Int)) ∧ w'.cell? ⟨w.heap.size + 2, 0, none⟩ = some (.int .i64 kd) ∧ w'.cell? ⟨w.heap.size + 2, 1, none⟩ = some (.int .u8 (id : Int)) ∧ w'.cell? ⟨w.heap.size + 2, 2, none⟩ = some (.string x))
        (first | go_keep)
        (first
          | (go_at_call 16; refine (TH.out V2.drew BV.out.1).mono ?_; rintro z w3 ⟨g1, j1, g2, j2, rfl, hA⟩; have X4 : Aside (Boxed w w3 24 e r d (.slice a1 l1.length c1) (.slice a2 l2.length c2) ms frm kd id x ∧ Vt.At w3 g1 l1 ∧ Vt.At w3 g2 l2) := ⟨X3.out.later (below_step BV.out.1 hA.out.2.2), hA.out.1, hA.out.2.1⟩; clear hA q0 q1 q2 q3 q4 q5 q6 q7 q8 q9; obtain ⟨q0, q1, q2, q3, q4, q5, q6, q7, q8, q9⟩ := X4.out.1.ten)
          | (go_at_call 16; refine (TH.out (V2.drew.alloc (.cells #[.bool false, .bool false, .bool false, .slice none 0 0, .slice none 0 0] 35)) (BV.out.2 _)).mono ?_; rintro z w3 ⟨g1, j1, g2, j2, rfl, hA⟩; have X4 : Aside (Boxed w w3 24 e r d (.slice a1 l1.length c1) (.slice a2 l2.length c2) ms frm kd id x ∧ Vt.At w3 g1 l1 ∧ Vt.At w3 g2 l2 ∧ C5 w3 V2.heap.size (.bool false) (.bool false) (.bool false) (.slice none 0 0) (.slice none 0 0) ∧ V2.heap.size < w3.heap.size) := ⟨X3.out.later (below_step (BV.out.2 _) hA.out.2.2), hA.out.1, hA.out.2.1, (C5.new V2.drew _ _ _ _ _).later hA.out.2.2, by have := hA.out.2.2.size; simp at this; omega⟩; clear hA q0 q1 q2 q3 q4 q5 q6 q7 q8 q9; obtain ⟨q0, q1, q2, q3, q4, q5, q6, q7, q8, q9⟩ := X4.out.1.ten)
          | (go_at_call 15; refine (TK.out w3 g1 g2 j1 j2 X4.out.2.1 X4.out.2.2).mono ?_; rintro z w4 ⟨b1, k1, b2, k2, ao, co, rfl, hA⟩; have X5' : Aside (Boxed w w4 24 e r d (.slice a1 l1.length c1) (.slice a2 l2.length c2) ms frm kd id x) := X4.out.1.later hA.out.2.2.2.1; clear q0 q1 q2 q3 q4 q5 q6 q7 q8 q9; obtain ⟨q0, q1, q2, q3, q4, q5, q6, q7, q8, q9⟩ := X5'.out.ten)
          | (go_at_call 15; refine (TK.out w3 g1 g2 j1 j2 X4.out.2.1 X4.out.2.2.1).mono ?_; rintro z w4 ⟨b1, k1, b2, k2, ao, co, rfl, hA⟩; have X5' : Aside (Boxed w w4 24 e r d (.slice a1 l1.length c1) (.slice a2 l2.length c2) ms frm kd id x ∧ C5 w4 V2.heap.size (.bool false) (.bool false) (.bool false) (.slice none 0 0) (.slice none 0 0)) := ⟨X4.out.1.later hA.out.2.2.2.1, X4.out.2.2.2.1.later hA.out.2.2.2.1⟩; clear q0 q1 q2 q3 q4 q5 q6 q7 q8 q9; obtain ⟨q0, q1, q2, q3, q4, q5, q6, q7, q8, q9⟩ := X5'.out.1.ten; have nz0 : w.heap.size ≠ V2.heap.size := Nat.ne_of_lt (Nat.lt_of_le_of_lt (Nat.le_add_right _ 2) X3.out.size); have nz1 : w.heap.size + 1 ≠ V2.heap.size := Nat.ne_of_lt (Nat.lt_of_le_of_lt (Nat.le_succ _) X3.out.size); have nz2 : w.heap.size + 2 ≠ V2.heap.size := Nat.ne_of_lt X3.out.size; have ny0 := nz0.symm; have ny1 := nz1.symm; have ny2 := nz2.symm; obtain ⟨z0, z1, z2, z3, z4⟩ := X5'.out.2.cells; have zf := X5'.out.2.frozen; have zl := X5'.out.2.lt)
          | (go_at_call 15; refine (TK.out (w3.alloc (.cells #[.bool false, .bool false, .bool false, .slice none 0 0, .slice none 0 0] 35)) g1 g2 j1 j2 (X4.out.2.1.later ((Below.refl _ w3).alloc (Nat.le_refl _) _)) (X4.out.2.2.later ((Below.refl _ w3).alloc (Nat.le_refl _) _))).mono ?_; rintro z w4 ⟨b1, k1, b2, k2, ao, co, rfl, hA⟩; have X5' : Aside (Boxed w w4 24 e r d (.slice a1 l1.length c1) (.slice a2 l2.length c2) ms frm kd id x ∧ C5 w4 w3.heap.size (.bool false) (.bool false) (.bool false) (.slice none 0 0) (.slice none 0 0)) := ⟨(X4.out.1.later ((Below.refl _ w3).alloc (Nat.le_refl _) _)).later hA.out.2.2.2.1, (C5.new w3 _ _ _ _ _).later hA.out.2.2.2.1⟩; clear q0 q1 q2 q3 q4 q5 q6 q7 q8 q9; obtain ⟨q0, q1, q2, q3, q4, q5, q6, q7, q8, q9⟩ := X5'.out.1.ten; have nz0 : w.heap.size ≠ w3.heap.size := Nat.ne_of_lt (Nat.lt_of_le_of_lt (Nat.le_add_right _ 2) X4.out.1.size); have nz1 : w.heap.size + 1 ≠ w3.heap.size := Nat.ne_of_lt (Nat.lt_of_le_of_lt (Nat.le_succ _) X4.out.1.size); have nz2 : w.heap.size + 2 ≠ w3.heap.size := Nat.ne_of_lt X4.out.1.size; have ny0 := nz0.symm; have ny1 := nz1.symm; have ny2 := nz2.symm; obtain ⟨z0, z1, z2, z3, z4⟩ := X5'.out.2.cells; have zf := X5'.out.2.frozen; have zl := X5'.out.2.lt)
          | fail)
      · refine (?_ : ∀ W, (Boxed w W 24 e r d (.slice a1 l1.length c1) (.slice a2 l2.length c2) ms frm kd id x ∧ Took w W w4.heap.size t b1 b2 ao k1 k2) → Exit.then _ _ _ _ W) _ ⟨X5'.out.later ((Below.refl _ w4).alloc (Nat.le_refl _) _), took_new hA.out.1 hA.out.2.1 hA.out.2.2.1 w⟩
        intro W hW
        generalize w4.heap.size = pb at hW ⊢
        have HW : Aside (Boxed w W 24 e r d (.slice a1 l1.length c1) (.slice a2 l2.length c2) ms frm kd id x ∧ Took w W pb t b1 b2 ao k1 k2) := hW
        have BS : Aside (Below W.heap.size W W.drew) := (Below.refl _ W).drew
        clear hW hA X3 X4 X5' TH TK BV q0 q1 q2 q3 q4 q5 q6 q7 q8 q9
        obtain ⟨q0, q1, q2, q3, q4, q5, q6, q7, q8, q9⟩ := HW.out.1.ten
        have RTK : Aside (Calls Try.prog 17 #[.agg #[.bool e, .bool r, .bool d, .slice a1 l1.length c1, .slice a2 l2.length c2], .int .u16 (ms : Nat), .int .u8 (frm : Nat), .int .i64 kd, .int .u8 (id : Nat), .string x] W (RTold W a1 a2 ⟨e, r, d, l1, l2⟩ t)) :=
          rtake_any ⟨e, r, d, l1, l2⟩ a1 a2 c1 c2 ms frm kd id x W ⟨H0.out.1.1.later HW.out.1.below, H0.out.2.1.1.later HW.out.1.below, ⟨H0.out.1.2, H0.out.2.1.2⟩, Nat.le_trans TT.out.2.1 (by decide), Nat.le_trans TT.out.2.2 (by decide)⟩ H0.out.2.2 HF.out.2 HF.out.1 t TT.out.1
        go_wp2_with fail
        refine RTK.out.mono ?_
        rintro z w9 ⟨g1, j1, g2, j2, go, jo, rfl, hA⟩
        have SV0 : Aside (Sev w _ e r d l1 l2 a1 a2 c1 c2 ms frm kd id x pb w9.heap.size t b1 b2 ao g1 g2 go k1 k2 j1 j2 jo) := sev_new HW.out.1 HW.out.2 hA.out.2.2.2.1 hA.out.1 hA.out.2.1 hA.out.2.2.1
        clear hA RTK HW BS q0 q1 q2 q3 q4 q5 q6 q7 q8 q9
        have LN := Vt.take_len ⟨e, r, d, l1, l2⟩ ms frm kd id x
        have LO := outs_len ⟨e, r, d, l1, l2⟩ ms frm kd id x
        rw [TT.out.1] at LN LO
        have LL : Aside (l1.length ≤ 20 ∧ l2.length ≤ 20 ∧ t.c.echoes.length ≤ 21 ∧ t.c.readies.length ≤ 21 ∧ t.outs.length ≤ 1) := ⟨TT.out.2.1, TT.out.2.2, by have := TT.out.2.1; have := LN.1; dsimp only at this; omega, by have := TT.out.2.2; have := LN.2; dsimp only at this; omega, LO⟩
        clear LN LO TT
        go_wp2_with fail
        refine (?_ : ∀ V, Sev w V e r d l1 l2 a1 a2 c1 c2 ms frm kd id x pb w9.heap.size t b1 b2 ao g1 g2 go k1 k2 j1 j2 jo → Code.wp _ _ _ _ V) _ SV0.out
        intro V hV
        clear SV0
        generalize w9.heap.size = tb at hV ⊢
        have ST : Aside (Sev w V e r d l1 l2 a1 a2 c1 c2 ms frm kd id x pb tb t b1 b2 ao g1 g2 go k1 k2 j1 j2 jo) := hV
        have BD : Aside (Below V.heap.size V V.drew) := (Below.refl _ V).drew
        have OU : Aside (∀ X, Sev w X e r d l1 l2 a1 a2 c1 c2 ms frm kd id x pb tb t b1 b2 ao g1 g2 go k1 k2 j1 j2 jo → Calls Try.prog 19 #[.agg #[.bool t.c.echoed, .bool t.c.readied, .bool t.c.done, .slice b1 t.c.echoes.length k1, .slice b2 t.c.readies.length k2]] X fun z w' => ∃ y1 i1 y2 i2, z = .returned (.agg #[.bool t.c.echoed, .bool t.c.readied, .bool t.c.done, .slice y1 t.c.echoes.length i1, .slice y2 t.c.readies.length i2]) ∧ Aside ((Sev w w' e r d l1 l2 a1 a2 c1 c2 ms frm kd id x pb tb t b1 b2 ao g1 g2 go k1 k2 j1 j2 jo) ∧ Vt.At w' y1 t.c.echoes ∧ Vt.At w' y2 t.c.readies)) := fun X hX =>
          (ours_any t.c.echoed t.c.readied t.c.done b1 b2 k1 k2 t.c.echoes t.c.readies X hX.took.at_.2.1 hX.took.at_.2.2 (Nat.le_trans LL.out.2.2.1 (by decide)) (Nat.le_trans LL.out.2.2.2.1 (by decide))).mono fun _ _ ⟨y1, i1, y2, i2, h0, h1, h2, h3⟩ => ⟨y1, i1, y2, i2, h0, hX.later h3, h1, h2⟩
        have SE : Aside (∀ X y1 y2 i1 i2, Sev w X e r d l1 l2 a1 a2 c1 c2 ms frm kd id x pb tb t b1 b2 ao g1 g2 go k1 k2 j1 j2 jo → Vt.At X y1 t.c.echoes → Vt.At X y2 t.c.readies → Calls Try.prog 18 #[.agg #[.bool t.c.echoed, .bool t.c.readied, .bool t.c.done, .slice y1 t.c.echoes.length i1, .slice y2 t.c.readies.length i2], .agg #[.bool t.c.echoed, .bool t.c.readied, .bool t.c.done, .slice g1 t.c.echoes.length j1, .slice g2 t.c.readies.length j2]] X fun z w' => z = .returned (.bool true) ∧ Aside (Sev w w' e r d l1 l2 a1 a2 c1 c2 ms frm kd id x pb tb t b1 b2 ao g1 g2 go k1 k2 j1 j2 jo)) := fun X y1 y2 i1 i2 hX p1 p2 =>
          (same_eq t.c.echoed t.c.readied t.c.done y1 y2 g1 g2 i1 i2 j1 j2 t.c.echoes t.c.readies X p1 p2 hX.e1 hX.e2 (Nat.le_trans LL.out.2.2.1 (by decide)) (Nat.le_trans LL.out.2.2.2.1 (by decide))).mono fun _ _ ⟨h0, h3⟩ => ⟨h0, hX.later h3⟩
        have OE : Aside (∀ X co, Sev w X e r d l1 l2 a1 a2 c1 c2 ms frm kd id x pb tb t b1 b2 ao g1 g2 go k1 k2 j1 j2 jo → Calls Try.prog 20 #[.slice ao t.outs.length co, .slice go t.outs.length jo] X fun z w' => z = .returned (.bool true) ∧ Aside (Sev w w' e r d l1 l2 a1 a2 c1 c2 ms frm kd id x pb tb t b1 b2 ao g1 g2 go k1 k2 j1 j2 jo)) := fun X co hX =>
          (outs_eq ao go co jo t.outs X hX.took.outs hX.o (Nat.le_trans LL.out.2.2.2.2 (by decide))).mono fun _ _ ⟨h0, h3⟩ => ⟨h0, hX.later h3⟩
        have TH : Aside (∀ X, Sev w X e r d l1 l2 a1 a2 c1 c2 ms frm kd id x pb tb t b1 b2 ao g1 g2 go k1 k2 j1 j2 jo → Calls Try.prog 16 #[.agg #[.bool e, .bool r, .bool d, .slice a1 l1.length c1, .slice a2 l2.length c2]] X fun z w' => ∃ y1 i1 y2 i2, z = .returned (.agg #[.bool e, .bool r, .bool d, .slice y1 l1.length i1, .slice y2 l2.length i2]) ∧ Aside ((Sev w w' e r d l1 l2 a1 a2 c1 c2 ms frm kd id x pb tb t b1 b2 ao g1 g2 go k1 k2 j1 j2 jo) ∧ Vt.At w' y1 l1)) := fun X hX =>
          (theirs_let (e := e) (r := r) (d := d) (c1 := c1) (c2 := c2) (H0.out.1.1.later hX.box.below) (H0.out.2.1.1.later hX.box.below) LL.out.1 LL.out.2.1).mono fun _ _ ⟨y1, i1, y2, i2, h0, hA⟩ => ⟨y1, i1, y2, i2, h0, hX.later hA.out.2.2, hA.out.1⟩
        have FO : Aside (∀ X y1 i1, Sev w X e r d l1 l2 a1 a2 c1 c2 ms frm kd id x pb tb t b1 b2 ao g1 g2 go k1 k2 j1 j2 jo → Vt.At X y1 l1 → Calls Try.prog 21 #[.slice y1 l1.length i1, .string x] X fun z w' => z = .returned (.int .u16 (Vt.forB l1 x : Nat)) ∧ Aside (Sev w w' e r d l1 l2 a1 a2 c1 c2 ms frm kd id x pb tb t b1 b2 ao g1 g2 go k1 k2 j1 j2 jo)) := fun X y1 i1 hX p1 =>
          (for_any y1 i1 l1 x X p1 (Nat.le_trans LL.out.1 (by decide))).mono fun _ _ ⟨h0, h3⟩ => ⟨h0, hX.later h3⟩
        have RF : Aside (∀ X, Sev w X e r d l1 l2 a1 a2 c1 c2 ms frm kd id x pb tb t b1 b2 ao g1 g2 go k1 k2 j1 j2 jo → Calls Try.prog 22 #[.slice a1 l1.length c1, .string x] X fun z w' => z = .returned (.int .u16 (Vt.forB l1 x : Nat)) ∧ w' = X) := fun X hX =>
          rfor_any a1 c1 l1 x X (H0.out.1.1.later hX.box.below) (Nat.le_trans LL.out.1 (by decide))
        have fd := field35_3
        have bq := eq_arr t.body t.body
        rw [decide_eq_true rfl] at bq
        obtain ⟨q0, q1, q2, q3, q4, q5, q6, q7, q8, q9, q10, q11, q12, q13, q14, q15, q16, q17, q18, q19⟩ := ST.out.cells
        clear hV LL HF H0
        generalize Vt.forB l1 x = fo at *
        go_region_held3 (fun w' => w'.cell? ⟨w.heap.size, 0, none⟩ = some (.bool e) ∧ w'.cell? ⟨w.heap.size, 1, none⟩ = some (.bool r) ∧ w'.cell? ⟨w.heap.size, 2, none⟩ = some (.bool d) ∧ w'.cell? ⟨w.heap.size, 3, none⟩ = some (.slice a1 l1.length c1) ∧ w'.cell? ⟨w.heap.size, 4, none⟩ = some (.slice a2 l2.length c2) ∧ w'.cell? ⟨w.heap.size + 2, 2, none⟩ = some (.string x) ∧ w'.cell? ⟨pb, 0, none⟩ = some (.bool t.c.echoed) ∧ w'.cell? ⟨pb, 1, none⟩ = some (.bool t.c.readied) ∧ w'.cell? ⟨pb, 2, none⟩ = some (.bool t.c.done) ∧ w'.cell? ⟨pb, 3, none⟩ = some (.slice b1 t.c.echoes.length k1) ∧ w'.cell? ⟨pb, 4, none⟩ = some (.slice b2 t.c.readies.length k2) ∧ w'.cell? ⟨tb, 0, none⟩ = some (.bool t.c.echoed) ∧ w'.cell? ⟨tb, 1, none⟩ = some (.bool t.c.readied) ∧ w'.cell? ⟨tb, 2, none⟩ = some (.bool t.c.done) ∧ w'.cell? ⟨tb, 3, none⟩ = some (.slice g1 t.c.echoes.length j1) ∧ w'.cell? ⟨tb, 4, none⟩ = some (.slice g2 t.c.readies.length j2) ∧ w'.cell? ⟨tb, 5, none⟩ = some (.slice go t.outs.length jo) ∧ w'.cell? ⟨tb, 6, none⟩ = some (.string t.body) ∧ w'.cell? ⟨tb, 7, none⟩ = some (.bool t.is) ∧ w'.cell? ⟨tb, 8, none⟩ = some (.int .i64 (t.e : Int)))
          (first | go_keep)
          (first
            | (go_at_call 19; refine (OU.out V.drew (ST.out.later BD.out)).mono ?_; rintro z w11 ⟨y1, i1, y2, i2, rfl, hA⟩; clear ST; have ST : Aside (Sev w w11 e r d l1 l2 a1 a2 c1 c2 ms frm kd id x pb tb t b1 b2 ao g1 g2 go k1 k2 j1 j2 jo) := hA.out.1; have OA : Aside (Vt.At w11 y1 t.c.echoes ∧ Vt.At w11 y2 t.c.readies) := hA.out.2; clear hA q0 q1 q2 q3 q4 q5 q6 q7 q8 q9 q10 q11 q12 q13 q14 q15 q16 q17 q18 q19; obtain ⟨q0, q1, q2, q3, q4, q5, q6, q7, q8, q9, q10, q11, q12, q13, q14, q15, q16, q17, q18, q19⟩ := ST.out.cells)
            | (go_at_call 18; refine (SE.out w11 y1 y2 i1 i2 ST.out OA.out.1 OA.out.2).mono ?_; rintro z w12 ⟨rfl, hA⟩; clear ST; have ST : Aside (Sev w w12 e r d l1 l2 a1 a2 c1 c2 ms frm kd id x pb tb t b1 b2 ao g1 g2 go k1 k2 j1 j2 jo) := hA.out; clear hA q0 q1 q2 q3 q4 q5 q6 q7 q8 q9 q10 q11 q12 q13 q14 q15 q16 q17 q18 q19; obtain ⟨q0, q1, q2, q3, q4, q5, q6, q7, q8, q9, q10, q11, q12, q13, q14, q15, q16, q17, q18, q19⟩ := ST.out.cells)
            | (go_at_call 20; refine (OE.out w12 _ ST.out).mono ?_; rintro z w13 ⟨rfl, hA⟩; clear ST; have ST : Aside (Sev w w13 e r d l1 l2 a1 a2 c1 c2 ms frm kd id x pb tb t b1 b2 ao g1 g2 go k1 k2 j1 j2 jo) := hA.out; clear hA q0 q1 q2 q3 q4 q5 q6 q7 q8 q9 q10 q11 q12 q13 q14 q15 q16 q17 q18 q19; obtain ⟨q0, q1, q2, q3, q4, q5, q6, q7, q8, q9, q10, q11, q12, q13, q14, q15, q16, q17, q18, q19⟩ := ST.out.cells)
            | (go_at_call 16; refine (TH.out w13 ST.out).mono ?_; rintro z w14 ⟨y3, i3, y4, i4, rfl, hA⟩; clear ST; have ST : Aside (Sev w w14 e r d l1 l2 a1 a2 c1 c2 ms frm kd id x pb tb t b1 b2 ao g1 g2 go k1 k2 j1 j2 jo) := hA.out.1; have OB : Aside (Vt.At w14 y3 l1) := hA.out.2; clear hA q0 q1 q2 q3 q4 q5 q6 q7 q8 q9 q10 q11 q12 q13 q14 q15 q16 q17 q18 q19; obtain ⟨q0, q1, q2, q3, q4, q5, q6, q7, q8, q9, q10, q11, q12, q13, q14, q15, q16, q17, q18, q19⟩ := ST.out.cells)
            | (go_at_call 21; refine (FO.out w14 y3 i3 ST.out OB.out).mono ?_; rintro z w15 ⟨rfl, hA⟩; clear ST; have ST : Aside (Sev w w15 e r d l1 l2 a1 a2 c1 c2 ms frm kd id x pb tb t b1 b2 ao g1 g2 go k1 k2 j1 j2 jo) := hA.out; clear hA q0 q1 q2 q3 q4 q5 q6 q7 q8 q9 q10 q11 q12 q13 q14 q15 q16 q17 q18 q19; obtain ⟨q0, q1, q2, q3, q4, q5, q6, q7, q8, q9, q10, q11, q12, q13, q14, q15, q16, q17, q18, q19⟩ := ST.out.cells)
            | (go_at_call 22; refine (RF.out _ ST.out).mono ?_; rintro z w16 ⟨rfl, hw⟩; replace hw := hw.symm; subst hw)
            | fail)
        all_goals
          have B9 : Aside (Below w.heap.size w _) := ST.out.box.below
          go_wp2
          go_ret
          exact ⟨rfl, B9.out⟩
      · refine (?_ : ∀ W, (Boxed w W 24 e r d (.slice a1 l1.length c1) (.slice a2 l2.length c2) ms frm kd id x ∧ Took w W w3.heap.size t b1 b2 ao k1 k2) → Exit.then _ _ _ _ W) _ ⟨X5'.out.1.set5 X4.out.1.size _ _ _ _ _, took_old (w0 := w3.alloc (.cells #[.bool false, .bool false, .bool false, .slice none 0 0, .slice none 0 0] 35)) X5'.out.2 hA.out.1 hA.out.2.1 hA.out.2.2.1 hA.out.2.2.2.2.1 hA.out.2.2.2.2.2.1 hA.out.2.2.2.2.2.2 (by simp) w⟩
        intro W hW
        generalize w3.heap.size = pb at hW ⊢
        have HW : Aside (Boxed w W 24 e r d (.slice a1 l1.length c1) (.slice a2 l2.length c2) ms frm kd id x ∧ Took w W pb t b1 b2 ao k1 k2) := hW
        have BS : Aside (Below W.heap.size W W.drew) := (Below.refl _ W).drew
        clear hW hA X3 X4 X5' TH TK BV q0 q1 q2 q3 q4 q5 q6 q7 q8 q9 nz0 nz1 nz2 ny0 ny1 ny2 z0 z1 z2 z3 z4 zf zl
        obtain ⟨q0, q1, q2, q3, q4, q5, q6, q7, q8, q9⟩ := HW.out.1.ten
        have RTK : Aside (Calls Try.prog 17 #[.agg #[.bool e, .bool r, .bool d, .slice a1 l1.length c1, .slice a2 l2.length c2], .int .u16 (ms : Nat), .int .u8 (frm : Nat), .int .i64 kd, .int .u8 (id : Nat), .string x] W (RTold W a1 a2 ⟨e, r, d, l1, l2⟩ t)) :=
          rtake_any ⟨e, r, d, l1, l2⟩ a1 a2 c1 c2 ms frm kd id x W ⟨H0.out.1.1.later HW.out.1.below, H0.out.2.1.1.later HW.out.1.below, ⟨H0.out.1.2, H0.out.2.1.2⟩, Nat.le_trans TT.out.2.1 (by decide), Nat.le_trans TT.out.2.2 (by decide)⟩ H0.out.2.2 HF.out.2 HF.out.1 t TT.out.1
        go_wp2_with fail
        refine RTK.out.mono ?_
        rintro z w9 ⟨g1, j1, g2, j2, go, jo, rfl, hA⟩
        have SV0 : Aside (Sev w _ e r d l1 l2 a1 a2 c1 c2 ms frm kd id x pb w9.heap.size t b1 b2 ao g1 g2 go k1 k2 j1 j2 jo) := sev_new HW.out.1 HW.out.2 hA.out.2.2.2.1 hA.out.1 hA.out.2.1 hA.out.2.2.1
        clear hA RTK HW BS q0 q1 q2 q3 q4 q5 q6 q7 q8 q9
        have LN := Vt.take_len ⟨e, r, d, l1, l2⟩ ms frm kd id x
        have LO := outs_len ⟨e, r, d, l1, l2⟩ ms frm kd id x
        rw [TT.out.1] at LN LO
        have LL : Aside (l1.length ≤ 20 ∧ l2.length ≤ 20 ∧ t.c.echoes.length ≤ 21 ∧ t.c.readies.length ≤ 21 ∧ t.outs.length ≤ 1) := ⟨TT.out.2.1, TT.out.2.2, by have := TT.out.2.1; have := LN.1; dsimp only at this; omega, by have := TT.out.2.2; have := LN.2; dsimp only at this; omega, LO⟩
        clear LN LO TT
        go_wp2_with fail
        refine (?_ : ∀ V, Sev w V e r d l1 l2 a1 a2 c1 c2 ms frm kd id x pb w9.heap.size t b1 b2 ao g1 g2 go k1 k2 j1 j2 jo → Code.wp _ _ _ _ V) _ SV0.out
        intro V hV
        clear SV0
        generalize w9.heap.size = tb at hV ⊢
        have ST : Aside (Sev w V e r d l1 l2 a1 a2 c1 c2 ms frm kd id x pb tb t b1 b2 ao g1 g2 go k1 k2 j1 j2 jo) := hV
        have BD : Aside (Below V.heap.size V V.drew) := (Below.refl _ V).drew
        have OU : Aside (∀ X, Sev w X e r d l1 l2 a1 a2 c1 c2 ms frm kd id x pb tb t b1 b2 ao g1 g2 go k1 k2 j1 j2 jo → Calls Try.prog 19 #[.agg #[.bool t.c.echoed, .bool t.c.readied, .bool t.c.done, .slice b1 t.c.echoes.length k1, .slice b2 t.c.readies.length k2]] X fun z w' => ∃ y1 i1 y2 i2, z = .returned (.agg #[.bool t.c.echoed, .bool t.c.readied, .bool t.c.done, .slice y1 t.c.echoes.length i1, .slice y2 t.c.readies.length i2]) ∧ Aside ((Sev w w' e r d l1 l2 a1 a2 c1 c2 ms frm kd id x pb tb t b1 b2 ao g1 g2 go k1 k2 j1 j2 jo) ∧ Vt.At w' y1 t.c.echoes ∧ Vt.At w' y2 t.c.readies)) := fun X hX =>
          (ours_any t.c.echoed t.c.readied t.c.done b1 b2 k1 k2 t.c.echoes t.c.readies X hX.took.at_.2.1 hX.took.at_.2.2 (Nat.le_trans LL.out.2.2.1 (by decide)) (Nat.le_trans LL.out.2.2.2.1 (by decide))).mono fun _ _ ⟨y1, i1, y2, i2, h0, h1, h2, h3⟩ => ⟨y1, i1, y2, i2, h0, hX.later h3, h1, h2⟩
        have SE : Aside (∀ X y1 y2 i1 i2, Sev w X e r d l1 l2 a1 a2 c1 c2 ms frm kd id x pb tb t b1 b2 ao g1 g2 go k1 k2 j1 j2 jo → Vt.At X y1 t.c.echoes → Vt.At X y2 t.c.readies → Calls Try.prog 18 #[.agg #[.bool t.c.echoed, .bool t.c.readied, .bool t.c.done, .slice y1 t.c.echoes.length i1, .slice y2 t.c.readies.length i2], .agg #[.bool t.c.echoed, .bool t.c.readied, .bool t.c.done, .slice g1 t.c.echoes.length j1, .slice g2 t.c.readies.length j2]] X fun z w' => z = .returned (.bool true) ∧ Aside (Sev w w' e r d l1 l2 a1 a2 c1 c2 ms frm kd id x pb tb t b1 b2 ao g1 g2 go k1 k2 j1 j2 jo)) := fun X y1 y2 i1 i2 hX p1 p2 =>
          (same_eq t.c.echoed t.c.readied t.c.done y1 y2 g1 g2 i1 i2 j1 j2 t.c.echoes t.c.readies X p1 p2 hX.e1 hX.e2 (Nat.le_trans LL.out.2.2.1 (by decide)) (Nat.le_trans LL.out.2.2.2.1 (by decide))).mono fun _ _ ⟨h0, h3⟩ => ⟨h0, hX.later h3⟩
        have OE : Aside (∀ X co, Sev w X e r d l1 l2 a1 a2 c1 c2 ms frm kd id x pb tb t b1 b2 ao g1 g2 go k1 k2 j1 j2 jo → Calls Try.prog 20 #[.slice ao t.outs.length co, .slice go t.outs.length jo] X fun z w' => z = .returned (.bool true) ∧ Aside (Sev w w' e r d l1 l2 a1 a2 c1 c2 ms frm kd id x pb tb t b1 b2 ao g1 g2 go k1 k2 j1 j2 jo)) := fun X co hX =>
          (outs_eq ao go co jo t.outs X hX.took.outs hX.o (Nat.le_trans LL.out.2.2.2.2 (by decide))).mono fun _ _ ⟨h0, h3⟩ => ⟨h0, hX.later h3⟩
        have TH : Aside (∀ X, Sev w X e r d l1 l2 a1 a2 c1 c2 ms frm kd id x pb tb t b1 b2 ao g1 g2 go k1 k2 j1 j2 jo → Calls Try.prog 16 #[.agg #[.bool e, .bool r, .bool d, .slice a1 l1.length c1, .slice a2 l2.length c2]] X fun z w' => ∃ y1 i1 y2 i2, z = .returned (.agg #[.bool e, .bool r, .bool d, .slice y1 l1.length i1, .slice y2 l2.length i2]) ∧ Aside ((Sev w w' e r d l1 l2 a1 a2 c1 c2 ms frm kd id x pb tb t b1 b2 ao g1 g2 go k1 k2 j1 j2 jo) ∧ Vt.At w' y1 l1)) := fun X hX =>
          (theirs_let (e := e) (r := r) (d := d) (c1 := c1) (c2 := c2) (H0.out.1.1.later hX.box.below) (H0.out.2.1.1.later hX.box.below) LL.out.1 LL.out.2.1).mono fun _ _ ⟨y1, i1, y2, i2, h0, hA⟩ => ⟨y1, i1, y2, i2, h0, hX.later hA.out.2.2, hA.out.1⟩
        have FO : Aside (∀ X y1 i1, Sev w X e r d l1 l2 a1 a2 c1 c2 ms frm kd id x pb tb t b1 b2 ao g1 g2 go k1 k2 j1 j2 jo → Vt.At X y1 l1 → Calls Try.prog 21 #[.slice y1 l1.length i1, .string x] X fun z w' => z = .returned (.int .u16 (Vt.forB l1 x : Nat)) ∧ Aside (Sev w w' e r d l1 l2 a1 a2 c1 c2 ms frm kd id x pb tb t b1 b2 ao g1 g2 go k1 k2 j1 j2 jo)) := fun X y1 i1 hX p1 =>
          (for_any y1 i1 l1 x X p1 (Nat.le_trans LL.out.1 (by decide))).mono fun _ _ ⟨h0, h3⟩ => ⟨h0, hX.later h3⟩
        have RF : Aside (∀ X, Sev w X e r d l1 l2 a1 a2 c1 c2 ms frm kd id x pb tb t b1 b2 ao g1 g2 go k1 k2 j1 j2 jo → Calls Try.prog 22 #[.slice a1 l1.length c1, .string x] X fun z w' => z = .returned (.int .u16 (Vt.forB l1 x : Nat)) ∧ w' = X) := fun X hX =>
          rfor_any a1 c1 l1 x X (H0.out.1.1.later hX.box.below) (Nat.le_trans LL.out.1 (by decide))
        have fd := field35_3
        have bq := eq_arr t.body t.body
        rw [decide_eq_true rfl] at bq
        obtain ⟨q0, q1, q2, q3, q4, q5, q6, q7, q8, q9, q10, q11, q12, q13, q14, q15, q16, q17, q18, q19⟩ := ST.out.cells
        clear hV LL HF H0
        generalize Vt.forB l1 x = fo at *
        go_region_held3 (fun w' => w'.cell? ⟨w.heap.size, 0, none⟩ = some (.bool e) ∧ w'.cell? ⟨w.heap.size, 1, none⟩ = some (.bool r) ∧ w'.cell? ⟨w.heap.size, 2, none⟩ = some (.bool d) ∧ w'.cell? ⟨w.heap.size, 3, none⟩ = some (.slice a1 l1.length c1) ∧ w'.cell? ⟨w.heap.size, 4, none⟩ = some (.slice a2 l2.length c2) ∧ w'.cell? ⟨w.heap.size + 2, 2, none⟩ = some (.string x) ∧ w'.cell? ⟨pb, 0, none⟩ = some (.bool t.c.echoed) ∧ w'.cell? ⟨pb, 1, none⟩ = some (.bool t.c.readied) ∧ w'.cell? ⟨pb, 2, none⟩ = some (.bool t.c.done) ∧ w'.cell? ⟨pb, 3, none⟩ = some (.slice b1 t.c.echoes.length k1) ∧ w'.cell? ⟨pb, 4, none⟩ = some (.slice b2 t.c.readies.length k2) ∧ w'.cell? ⟨tb, 0, none⟩ = some (.bool t.c.echoed) ∧ w'.cell? ⟨tb, 1, none⟩ = some (.bool t.c.readied) ∧ w'.cell? ⟨tb, 2, none⟩ = some (.bool t.c.done) ∧ w'.cell? ⟨tb, 3, none⟩ = some (.slice g1 t.c.echoes.length j1) ∧ w'.cell? ⟨tb, 4, none⟩ = some (.slice g2 t.c.readies.length j2) ∧ w'.cell? ⟨tb, 5, none⟩ = some (.slice go t.outs.length jo) ∧ w'.cell? ⟨tb, 6, none⟩ = some (.string t.body) ∧ w'.cell? ⟨tb, 7, none⟩ = some (.bool t.is) ∧ w'.cell? ⟨tb, 8, none⟩ = some (.int .i64 (t.e : Int)))
          (first | go_keep)
          (first
            | (go_at_call 19; refine (OU.out V.drew (ST.out.later BD.out)).mono ?_; rintro z w11 ⟨y1, i1, y2, i2, rfl, hA⟩; clear ST; have ST : Aside (Sev w w11 e r d l1 l2 a1 a2 c1 c2 ms frm kd id x pb tb t b1 b2 ao g1 g2 go k1 k2 j1 j2 jo) := hA.out.1; have OA : Aside (Vt.At w11 y1 t.c.echoes ∧ Vt.At w11 y2 t.c.readies) := hA.out.2; clear hA q0 q1 q2 q3 q4 q5 q6 q7 q8 q9 q10 q11 q12 q13 q14 q15 q16 q17 q18 q19; obtain ⟨q0, q1, q2, q3, q4, q5, q6, q7, q8, q9, q10, q11, q12, q13, q14, q15, q16, q17, q18, q19⟩ := ST.out.cells)
            | (go_at_call 18; refine (SE.out w11 y1 y2 i1 i2 ST.out OA.out.1 OA.out.2).mono ?_; rintro z w12 ⟨rfl, hA⟩; clear ST; have ST : Aside (Sev w w12 e r d l1 l2 a1 a2 c1 c2 ms frm kd id x pb tb t b1 b2 ao g1 g2 go k1 k2 j1 j2 jo) := hA.out; clear hA q0 q1 q2 q3 q4 q5 q6 q7 q8 q9 q10 q11 q12 q13 q14 q15 q16 q17 q18 q19; obtain ⟨q0, q1, q2, q3, q4, q5, q6, q7, q8, q9, q10, q11, q12, q13, q14, q15, q16, q17, q18, q19⟩ := ST.out.cells)
            | (go_at_call 20; refine (OE.out w12 _ ST.out).mono ?_; rintro z w13 ⟨rfl, hA⟩; clear ST; have ST : Aside (Sev w w13 e r d l1 l2 a1 a2 c1 c2 ms frm kd id x pb tb t b1 b2 ao g1 g2 go k1 k2 j1 j2 jo) := hA.out; clear hA q0 q1 q2 q3 q4 q5 q6 q7 q8 q9 q10 q11 q12 q13 q14 q15 q16 q17 q18 q19; obtain ⟨q0, q1, q2, q3, q4, q5, q6, q7, q8, q9, q10, q11, q12, q13, q14, q15, q16, q17, q18, q19⟩ := ST.out.cells)
            | (go_at_call 16; refine (TH.out w13 ST.out).mono ?_; rintro z w14 ⟨y3, i3, y4, i4, rfl, hA⟩; clear ST; have ST : Aside (Sev w w14 e r d l1 l2 a1 a2 c1 c2 ms frm kd id x pb tb t b1 b2 ao g1 g2 go k1 k2 j1 j2 jo) := hA.out.1; have OB : Aside (Vt.At w14 y3 l1) := hA.out.2; clear hA q0 q1 q2 q3 q4 q5 q6 q7 q8 q9 q10 q11 q12 q13 q14 q15 q16 q17 q18 q19; obtain ⟨q0, q1, q2, q3, q4, q5, q6, q7, q8, q9, q10, q11, q12, q13, q14, q15, q16, q17, q18, q19⟩ := ST.out.cells)
            | (go_at_call 21; refine (FO.out w14 y3 i3 ST.out OB.out).mono ?_; rintro z w15 ⟨rfl, hA⟩; clear ST; have ST : Aside (Sev w w15 e r d l1 l2 a1 a2 c1 c2 ms frm kd id x pb tb t b1 b2 ao g1 g2 go k1 k2 j1 j2 jo) := hA.out; clear hA q0 q1 q2 q3 q4 q5 q6 q7 q8 q9 q10 q11 q12 q13 q14 q15 q16 q17 q18 q19; obtain ⟨q0, q1, q2, q3, q4, q5, q6, q7, q8, q9, q10, q11, q12, q13, q14, q15, q16, q17, q18, q19⟩ := ST.out.cells)
            | (go_at_call 22; refine (RF.out _ ST.out).mono ?_; rintro z w16 ⟨rfl, hw⟩; replace hw := hw.symm; subst hw)
            | fail)
        all_goals
          have B9 : Aside (Below w.heap.size w _) := ST.out.box.below
          go_wp2
          go_ret
          exact ⟨rfl, B9.out⟩
      · refine (?_ : ∀ W, (Boxed w W 24 e r d (.slice a1 l1.length c1) (.slice a2 l2.length c2) ms frm kd id x ∧ Took w W V2.heap.size t b1 b2 ao k1 k2) → Exit.then _ _ _ _ W) _ ⟨X5'.out.1.set5 X3.out.size _ _ _ _ _, took_old (w0 := w3) X5'.out.2 hA.out.1 hA.out.2.1 hA.out.2.2.1 hA.out.2.2.2.2.1 hA.out.2.2.2.2.2.1 hA.out.2.2.2.2.2.2 X4.out.2.2.2.2 w⟩
        intro W hW
        generalize V2.heap.size = pb at hW ⊢
        have HW : Aside (Boxed w W 24 e r d (.slice a1 l1.length c1) (.slice a2 l2.length c2) ms frm kd id x ∧ Took w W pb t b1 b2 ao k1 k2) := hW
        have BS : Aside (Below W.heap.size W W.drew) := (Below.refl _ W).drew
        clear hW hA X3 X4 X5' TH TK BV q0 q1 q2 q3 q4 q5 q6 q7 q8 q9 nz0 nz1 nz2 ny0 ny1 ny2 z0 z1 z2 z3 z4 zf zl
        obtain ⟨q0, q1, q2, q3, q4, q5, q6, q7, q8, q9⟩ := HW.out.1.ten
        have RTK : Aside (Calls Try.prog 17 #[.agg #[.bool e, .bool r, .bool d, .slice a1 l1.length c1, .slice a2 l2.length c2], .int .u16 (ms : Nat), .int .u8 (frm : Nat), .int .i64 kd, .int .u8 (id : Nat), .string x] W (RTold W a1 a2 ⟨e, r, d, l1, l2⟩ t)) :=
          rtake_any ⟨e, r, d, l1, l2⟩ a1 a2 c1 c2 ms frm kd id x W ⟨H0.out.1.1.later HW.out.1.below, H0.out.2.1.1.later HW.out.1.below, ⟨H0.out.1.2, H0.out.2.1.2⟩, Nat.le_trans TT.out.2.1 (by decide), Nat.le_trans TT.out.2.2 (by decide)⟩ H0.out.2.2 HF.out.2 HF.out.1 t TT.out.1
        go_wp2_with fail
        refine RTK.out.mono ?_
        rintro z w9 ⟨g1, j1, g2, j2, go, jo, rfl, hA⟩
        have SV0 : Aside (Sev w _ e r d l1 l2 a1 a2 c1 c2 ms frm kd id x pb w9.heap.size t b1 b2 ao g1 g2 go k1 k2 j1 j2 jo) := sev_new HW.out.1 HW.out.2 hA.out.2.2.2.1 hA.out.1 hA.out.2.1 hA.out.2.2.1
        clear hA RTK HW BS q0 q1 q2 q3 q4 q5 q6 q7 q8 q9
        have LN := Vt.take_len ⟨e, r, d, l1, l2⟩ ms frm kd id x
        have LO := outs_len ⟨e, r, d, l1, l2⟩ ms frm kd id x
        rw [TT.out.1] at LN LO
        have LL : Aside (l1.length ≤ 20 ∧ l2.length ≤ 20 ∧ t.c.echoes.length ≤ 21 ∧ t.c.readies.length ≤ 21 ∧ t.outs.length ≤ 1) := ⟨TT.out.2.1, TT.out.2.2, by have := TT.out.2.1; have := LN.1; dsimp only at this; omega, by have := TT.out.2.2; have := LN.2; dsimp only at this; omega, LO⟩
        clear LN LO TT
        go_wp2_with fail
        refine (?_ : ∀ V, Sev w V e r d l1 l2 a1 a2 c1 c2 ms frm kd id x pb w9.heap.size t b1 b2 ao g1 g2 go k1 k2 j1 j2 jo → Code.wp _ _ _ _ V) _ SV0.out
        intro V hV
        clear SV0
        generalize w9.heap.size = tb at hV ⊢
        have ST : Aside (Sev w V e r d l1 l2 a1 a2 c1 c2 ms frm kd id x pb tb t b1 b2 ao g1 g2 go k1 k2 j1 j2 jo) := hV
        have BD : Aside (Below V.heap.size V V.drew) := (Below.refl _ V).drew
        have OU : Aside (∀ X, Sev w X e r d l1 l2 a1 a2 c1 c2 ms frm kd id x pb tb t b1 b2 ao g1 g2 go k1 k2 j1 j2 jo → Calls Try.prog 19 #[.agg #[.bool t.c.echoed, .bool t.c.readied, .bool t.c.done, .slice b1 t.c.echoes.length k1, .slice b2 t.c.readies.length k2]] X fun z w' => ∃ y1 i1 y2 i2, z = .returned (.agg #[.bool t.c.echoed, .bool t.c.readied, .bool t.c.done, .slice y1 t.c.echoes.length i1, .slice y2 t.c.readies.length i2]) ∧ Aside ((Sev w w' e r d l1 l2 a1 a2 c1 c2 ms frm kd id x pb tb t b1 b2 ao g1 g2 go k1 k2 j1 j2 jo) ∧ Vt.At w' y1 t.c.echoes ∧ Vt.At w' y2 t.c.readies)) := fun X hX =>
          (ours_any t.c.echoed t.c.readied t.c.done b1 b2 k1 k2 t.c.echoes t.c.readies X hX.took.at_.2.1 hX.took.at_.2.2 (Nat.le_trans LL.out.2.2.1 (by decide)) (Nat.le_trans LL.out.2.2.2.1 (by decide))).mono fun _ _ ⟨y1, i1, y2, i2, h0, h1, h2, h3⟩ => ⟨y1, i1, y2, i2, h0, hX.later h3, h1, h2⟩
        have SE : Aside (∀ X y1 y2 i1 i2, Sev w X e r d l1 l2 a1 a2 c1 c2 ms frm kd id x pb tb t b1 b2 ao g1 g2 go k1 k2 j1 j2 jo → Vt.At X y1 t.c.echoes → Vt.At X y2 t.c.readies → Calls Try.prog 18 #[.agg #[.bool t.c.echoed, .bool t.c.readied, .bool t.c.done, .slice y1 t.c.echoes.length i1, .slice y2 t.c.readies.length i2], .agg #[.bool t.c.echoed, .bool t.c.readied, .bool t.c.done, .slice g1 t.c.echoes.length j1, .slice g2 t.c.readies.length j2]] X fun z w' => z = .returned (.bool true) ∧ Aside (Sev w w' e r d l1 l2 a1 a2 c1 c2 ms frm kd id x pb tb t b1 b2 ao g1 g2 go k1 k2 j1 j2 jo)) := fun X y1 y2 i1 i2 hX p1 p2 =>
          (same_eq t.c.echoed t.c.readied t.c.done y1 y2 g1 g2 i1 i2 j1 j2 t.c.echoes t.c.readies X p1 p2 hX.e1 hX.e2 (Nat.le_trans LL.out.2.2.1 (by decide)) (Nat.le_trans LL.out.2.2.2.1 (by decide))).mono fun _ _ ⟨h0, h3⟩ => ⟨h0, hX.later h3⟩
        have OE : Aside (∀ X co, Sev w X e r d l1 l2 a1 a2 c1 c2 ms frm kd id x pb tb t b1 b2 ao g1 g2 go k1 k2 j1 j2 jo → Calls Try.prog 20 #[.slice ao t.outs.length co, .slice go t.outs.length jo] X fun z w' => z = .returned (.bool true) ∧ Aside (Sev w w' e r d l1 l2 a1 a2 c1 c2 ms frm kd id x pb tb t b1 b2 ao g1 g2 go k1 k2 j1 j2 jo)) := fun X co hX =>
          (outs_eq ao go co jo t.outs X hX.took.outs hX.o (Nat.le_trans LL.out.2.2.2.2 (by decide))).mono fun _ _ ⟨h0, h3⟩ => ⟨h0, hX.later h3⟩
        have TH : Aside (∀ X, Sev w X e r d l1 l2 a1 a2 c1 c2 ms frm kd id x pb tb t b1 b2 ao g1 g2 go k1 k2 j1 j2 jo → Calls Try.prog 16 #[.agg #[.bool e, .bool r, .bool d, .slice a1 l1.length c1, .slice a2 l2.length c2]] X fun z w' => ∃ y1 i1 y2 i2, z = .returned (.agg #[.bool e, .bool r, .bool d, .slice y1 l1.length i1, .slice y2 l2.length i2]) ∧ Aside ((Sev w w' e r d l1 l2 a1 a2 c1 c2 ms frm kd id x pb tb t b1 b2 ao g1 g2 go k1 k2 j1 j2 jo) ∧ Vt.At w' y1 l1)) := fun X hX =>
          (theirs_let (e := e) (r := r) (d := d) (c1 := c1) (c2 := c2) (H0.out.1.1.later hX.box.below) (H0.out.2.1.1.later hX.box.below) LL.out.1 LL.out.2.1).mono fun _ _ ⟨y1, i1, y2, i2, h0, hA⟩ => ⟨y1, i1, y2, i2, h0, hX.later hA.out.2.2, hA.out.1⟩
        have FO : Aside (∀ X y1 i1, Sev w X e r d l1 l2 a1 a2 c1 c2 ms frm kd id x pb tb t b1 b2 ao g1 g2 go k1 k2 j1 j2 jo → Vt.At X y1 l1 → Calls Try.prog 21 #[.slice y1 l1.length i1, .string x] X fun z w' => z = .returned (.int .u16 (Vt.forB l1 x : Nat)) ∧ Aside (Sev w w' e r d l1 l2 a1 a2 c1 c2 ms frm kd id x pb tb t b1 b2 ao g1 g2 go k1 k2 j1 j2 jo)) := fun X y1 i1 hX p1 =>
          (for_any y1 i1 l1 x X p1 (Nat.le_trans LL.out.1 (by decide))).mono fun _ _ ⟨h0, h3⟩ => ⟨h0, hX.later h3⟩
        have RF : Aside (∀ X, Sev w X e r d l1 l2 a1 a2 c1 c2 ms frm kd id x pb tb t b1 b2 ao g1 g2 go k1 k2 j1 j2 jo → Calls Try.prog 22 #[.slice a1 l1.length c1, .string x] X fun z w' => z = .returned (.int .u16 (Vt.forB l1 x : Nat)) ∧ w' = X) := fun X hX =>
          rfor_any a1 c1 l1 x X (H0.out.1.1.later hX.box.below) (Nat.le_trans LL.out.1 (by decide))
        have fd := field35_3
        have bq := eq_arr t.body t.body
        rw [decide_eq_true rfl] at bq
        obtain ⟨q0, q1, q2, q3, q4, q5, q6, q7, q8, q9, q10, q11, q12, q13, q14, q15, q16, q17, q18, q19⟩ := ST.out.cells
        clear hV LL HF H0
        generalize Vt.forB l1 x = fo at *
        go_region_held3 (fun w' => w'.cell? ⟨w.heap.size, 0, none⟩ = some (.bool e) ∧ w'.cell? ⟨w.heap.size, 1, none⟩ = some (.bool r) ∧ w'.cell? ⟨w.heap.size, 2, none⟩ = some (.bool d) ∧ w'.cell? ⟨w.heap.size, 3, none⟩ = some (.slice a1 l1.length c1) ∧ w'.cell? ⟨w.heap.size, 4, none⟩ = some (.slice a2 l2.length c2) ∧ w'.cell? ⟨w.heap.size + 2, 2, none⟩ = some (.string x) ∧ w'.cell? ⟨pb, 0, none⟩ = some (.bool t.c.echoed) ∧ w'.cell? ⟨pb, 1, none⟩ = some (.bool t.c.readied) ∧ w'.cell? ⟨pb, 2, none⟩ = some (.bool t.c.done) ∧ w'.cell? ⟨pb, 3, none⟩ = some (.slice b1 t.c.echoes.length k1) ∧ w'.cell? ⟨pb, 4, none⟩ = some (.slice b2 t.c.readies.length k2) ∧ w'.cell? ⟨tb, 0, none⟩ = some (.bool t.c.echoed) ∧ w'.cell? ⟨tb, 1, none⟩ = some (.bool t.c.readied) ∧ w'.cell? ⟨tb, 2, none⟩ = some (.bool t.c.done) ∧ w'.cell? ⟨tb, 3, none⟩ = some (.slice g1 t.c.echoes.length j1) ∧ w'.cell? ⟨tb, 4, none⟩ = some (.slice g2 t.c.readies.length j2) ∧ w'.cell? ⟨tb, 5, none⟩ = some (.slice go t.outs.length jo) ∧ w'.cell? ⟨tb, 6, none⟩ = some (.string t.body) ∧ w'.cell? ⟨tb, 7, none⟩ = some (.bool t.is) ∧ w'.cell? ⟨tb, 8, none⟩ = some (.int .i64 (t.e : Int)))
          (first | go_keep)
          (first
            | (go_at_call 19; refine (OU.out V.drew (ST.out.later BD.out)).mono ?_; rintro z w11 ⟨y1, i1, y2, i2, rfl, hA⟩; clear ST; have ST : Aside (Sev w w11 e r d l1 l2 a1 a2 c1 c2 ms frm kd id x pb tb t b1 b2 ao g1 g2 go k1 k2 j1 j2 jo) := hA.out.1; have OA : Aside (Vt.At w11 y1 t.c.echoes ∧ Vt.At w11 y2 t.c.readies) := hA.out.2; clear hA q0 q1 q2 q3 q4 q5 q6 q7 q8 q9 q10 q11 q12 q13 q14 q15 q16 q17 q18 q19; obtain ⟨q0, q1, q2, q3, q4, q5, q6, q7, q8, q9, q10, q11, q12, q13, q14, q15, q16, q17, q18, q19⟩ := ST.out.cells)
            | (go_at_call 18; refine (SE.out w11 y1 y2 i1 i2 ST.out OA.out.1 OA.out.2).mono ?_; rintro z w12 ⟨rfl, hA⟩; clear ST; have ST : Aside (Sev w w12 e r d l1 l2 a1 a2 c1 c2 ms frm kd id x pb tb t b1 b2 ao g1 g2 go k1 k2 j1 j2 jo) := hA.out; clear hA q0 q1 q2 q3 q4 q5 q6 q7 q8 q9 q10 q11 q12 q13 q14 q15 q16 q17 q18 q19; obtain ⟨q0, q1, q2, q3, q4, q5, q6, q7, q8, q9, q10, q11, q12, q13, q14, q15, q16, q17, q18, q19⟩ := ST.out.cells)
            | (go_at_call 20; refine (OE.out w12 _ ST.out).mono ?_; rintro z w13 ⟨rfl, hA⟩; clear ST; have ST : Aside (Sev w w13 e r d l1 l2 a1 a2 c1 c2 ms frm kd id x pb tb t b1 b2 ao g1 g2 go k1 k2 j1 j2 jo) := hA.out; clear hA q0 q1 q2 q3 q4 q5 q6 q7 q8 q9 q10 q11 q12 q13 q14 q15 q16 q17 q18 q19; obtain ⟨q0, q1, q2, q3, q4, q5, q6, q7, q8, q9, q10, q11, q12, q13, q14, q15, q16, q17, q18, q19⟩ := ST.out.cells)
            | (go_at_call 16; refine (TH.out w13 ST.out).mono ?_; rintro z w14 ⟨y3, i3, y4, i4, rfl, hA⟩; clear ST; have ST : Aside (Sev w w14 e r d l1 l2 a1 a2 c1 c2 ms frm kd id x pb tb t b1 b2 ao g1 g2 go k1 k2 j1 j2 jo) := hA.out.1; have OB : Aside (Vt.At w14 y3 l1) := hA.out.2; clear hA q0 q1 q2 q3 q4 q5 q6 q7 q8 q9 q10 q11 q12 q13 q14 q15 q16 q17 q18 q19; obtain ⟨q0, q1, q2, q3, q4, q5, q6, q7, q8, q9, q10, q11, q12, q13, q14, q15, q16, q17, q18, q19⟩ := ST.out.cells)
            | (go_at_call 21; refine (FO.out w14 y3 i3 ST.out OB.out).mono ?_; rintro z w15 ⟨rfl, hA⟩; clear ST; have ST : Aside (Sev w w15 e r d l1 l2 a1 a2 c1 c2 ms frm kd id x pb tb t b1 b2 ao g1 g2 go k1 k2 j1 j2 jo) := hA.out; clear hA q0 q1 q2 q3 q4 q5 q6 q7 q8 q9 q10 q11 q12 q13 q14 q15 q16 q17 q18 q19; obtain ⟨q0, q1, q2, q3, q4, q5, q6, q7, q8, q9, q10, q11, q12, q13, q14, q15, q16, q17, q18, q19⟩ := ST.out.cells)
            | (go_at_call 22; refine (RF.out _ ST.out).mono ?_; rintro z w16 ⟨rfl, hw⟩; replace hw := hw.symm; subst hw)
            | fail)
        all_goals
          have B9 : Aside (Below w.heap.size w _) := ST.out.box.below
          go_wp2
          go_ret
          exact ⟨rfl, B9.out⟩
    · have B9 : Aside (Below w.heap.size w V) := X1.out.below
      rw [decide_eq_false f2] at F2
      go_wp2_with fail
      refine (F1.out _).mono ?_
      rintro z w1 ⟨rfl, hw⟩
      replace hw := hw.symm; subst hw
      clear F1
      go_wp2_with fail
      refine (F2.out _).mono ?_
      rintro z w1 ⟨rfl, hw⟩
      replace hw := hw.symm; subst hw
      clear F2
      go_wp2
      go_ret
      exact ⟨rfl, B9.out⟩
  · have B9 : Aside (Below w.heap.size w V) := X1.out.below
    rw [decide_eq_false f1] at F1
    go_wp2_with fail
    refine (F1.out _).mono ?_
    rintro z w1 ⟨rfl, hw⟩
    replace hw := hw.symm; subst hw
    clear F1 F2
    go_wp2
    go_ret
    exact ⟨rfl, B9.out⟩
end Go.Proofs.Ytlekbbpancaenaa
