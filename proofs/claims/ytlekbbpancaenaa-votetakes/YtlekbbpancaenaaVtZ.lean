/- The document's own Take. -/
import Derived.Test.YtlekbbpancaenaaVtYA
import Derived.Test.YtlekbbpancaenaaVtYB
import Derived.Test.YtlekbbpancaenaaVtYC
import Derived.Test.YtlekbbpancaenaaVtYD
namespace Go.Proofs.Ytlekbbpancaenaa
open Go.RowKit Go.Shelf

theorem recho_any (c : Vt.Cs) (a1 a2 : Option Addr) (c1 c2 n id : Nat) (x : ByteArray) (w : World) (h : CsAt w c a1 a2) (h8 : id < 256) (t : Vt.Told)
    (ht : t = if Vt.votedB c.echoes id then Vt.err c 6 else ⟨(Vt.echoT c n id x).1, (Vt.echoT c n id x).2, Vt.none, false, 0⟩) :
    Calls Try.prog 41 #[.agg #[.bool c.echoed, .bool c.readied, .bool c.done, .slice a1 c.echoes.length c1, .slice a2 c.readies.length c2], .int .i64 (n : Nat), .int .u8 (id : Nat), .string x] w (RTold w a1 a2 c t) := by
  rcases (show Vt.votedB c.echoes id = true ∨ Vt.votedB c.echoes id = false by cases Vt.votedB c.echoes id <;> simp) with hv | hv
  · rw [ht, hv]; exact recho_old c a1 a2 c1 c2 n id x w h h8 hv
  · rw [hv] at ht
    simp only [Bool.false_eq_true, if_false] at ht
    by_cases hg : Cn.echoes n ≤ Vt.sizeB (Vt.withB c.echoes id x) x
    · rcases (show c.readied = true ∨ c.readied = false by cases c.readied <;> simp) with hr | hr
      · have e : Vt.echoT c n id x = (⟨c.echoed, true, c.done, Vt.withB c.echoes id x, c.readies⟩, []) := by unfold Vt.echoT Vt.ready; rw [decide_eq_true hg]; simp [hr]
        rw [ht, e]
        exact recho_yes c a1 a2 c1 c2 n id x w h h8 hv _ rfl (by omega) hr
      · have e : Vt.echoT c n id x = (⟨c.echoed, true, c.done, Vt.withB c.echoes id x, c.readies⟩, [(3, x)]) := by unfold Vt.echoT Vt.ready; rw [decide_eq_true hg]; simp [hr]
        rw [ht, e]
        exact recho_now c a1 a2 c1 c2 n id x w h h8 hv _ rfl (by omega) hr
    · have e : Vt.echoT c n id x = (⟨c.echoed, c.readied, c.done, Vt.withB c.echoes id x, c.readies⟩, []) := by unfold Vt.echoT Vt.ready; rw [decide_eq_false hg]; simp
      rw [ht, e]
      exact recho_no c a1 a2 c1 c2 n id x w h h8 hv _ rfl (by omega)
theorem rreadied_any (c : Vt.Cs) (a1 a2 : Option Addr) (c1 c2 n id : Nat) (x : ByteArray) (w : World) (h : CsAt w c a1 a2) (h8 : id < 256) (t : Vt.Told)
    (ht : t = if Vt.votedB c.readies id then Vt.err c 6 else if c.done || !(Vt.readyT c n id x).1.done then ⟨(Vt.readyT c n id x).1, (Vt.readyT c n id x).2, Vt.none, false, 0⟩ else ⟨(Vt.readyT c n id x).1, (Vt.readyT c n id x).2, x, true, 0⟩) :
    Calls Try.prog 42 #[.agg #[.bool c.echoed, .bool c.readied, .bool c.done, .slice a1 c.echoes.length c1, .slice a2 c.readies.length c2], .int .i64 (n : Nat), .int .u8 (id : Nat), .string x] w (RTold w a1 a2 c t) := by
  have hle : Cn.readies n ≤ Cn.enough n := by unfold Cn.readies Cn.enough; omega
  rcases (show Vt.votedB c.readies id = true ∨ Vt.votedB c.readies id = false by cases Vt.votedB c.readies id <;> simp) with hv | hv
  · rw [ht, hv]; exact rreadied_old c a1 a2 c1 c2 n id x w h h8 hv
  · rw [hv] at ht
    simp only [Bool.false_eq_true, if_false] at ht
    have et : Vt.readyT c n id x = (⟨c.echoed, c.readied || decide (Cn.readies n ≤ Vt.sizeB (Vt.withB c.readies id x) x), c.done || decide (Cn.enough n ≤ Vt.sizeB (Vt.withB c.readies id x) x), c.echoes, Vt.withB c.readies id x⟩, if c.readied || !decide (Cn.readies n ≤ Vt.sizeB (Vt.withB c.readies id x) x) then [] else [(3, x)]) := rfl
    rw [et] at ht
    clear et
    by_cases hg : Cn.readies n ≤ Vt.sizeB (Vt.withB c.readies id x) x
    · rcases (show c.done = true ∨ c.done = false by cases c.done <;> simp) with hd | hd
      · rcases (show c.readied = true ∨ c.readied = false by cases c.readied <;> simp) with hr | hr
        · have e : t = ⟨⟨c.echoed, true, true, c.echoes, Vt.withB c.readies id x⟩, [], Vt.none, false, 0⟩ := by rw [ht, decide_eq_true hg]; simp [hd, hr]
          rw [e]
          exact rreadied_ytD c a1 a2 c1 c2 n id x w h h8 hv _ rfl (by omega) hr hd
        · have e : t = ⟨⟨c.echoed, true, true, c.echoes, Vt.withB c.readies id x⟩, [(3, x)], Vt.none, false, 0⟩ := by rw [ht, decide_eq_true hg]; simp [hd, hr]
          rw [e]
          exact rreadied_yfD c a1 a2 c1 c2 n id x w h h8 hv _ rfl (by omega) hr hd
      · by_cases he : Cn.enough n ≤ Vt.sizeB (Vt.withB c.readies id x) x
        · rcases (show c.readied = true ∨ c.readied = false by cases c.readied <;> simp) with hr | hr
          · have e : t = ⟨⟨c.echoed, true, true, c.echoes, Vt.withB c.readies id x⟩, [], x, true, 0⟩ := by rw [ht, decide_eq_true hg, decide_eq_true he]; simp [hd, hr]
            rw [e]
            exact rreadied_ytY c a1 a2 c1 c2 n id x w h h8 hv _ rfl (by omega) hr hd (by omega)
          · have e : t = ⟨⟨c.echoed, true, true, c.echoes, Vt.withB c.readies id x⟩, [(3, x)], x, true, 0⟩ := by rw [ht, decide_eq_true hg, decide_eq_true he]; simp [hd, hr]
            rw [e]
            exact rreadied_yfY c a1 a2 c1 c2 n id x w h h8 hv _ rfl (by omega) hr hd (by omega)
        · rcases (show c.readied = true ∨ c.readied = false by cases c.readied <;> simp) with hr | hr
          · have e : t = ⟨⟨c.echoed, true, false, c.echoes, Vt.withB c.readies id x⟩, [], Vt.none, false, 0⟩ := by rw [ht, decide_eq_true hg, decide_eq_false he]; simp [hd, hr]
            rw [e]
            exact rreadied_ytN c a1 a2 c1 c2 n id x w h h8 hv _ rfl (by omega) hr hd (by omega)
          · have e : t = ⟨⟨c.echoed, true, false, c.echoes, Vt.withB c.readies id x⟩, [(3, x)], Vt.none, false, 0⟩ := by rw [ht, decide_eq_true hg, decide_eq_false he]; simp [hd, hr]
            rw [e]
            exact rreadied_yfN c a1 a2 c1 c2 n id x w h h8 hv _ rfl (by omega) hr hd (by omega)
    · have he : ¬ Cn.enough n ≤ Vt.sizeB (Vt.withB c.readies id x) x := by omega
      rcases (show c.done = true ∨ c.done = false by cases c.done <;> simp) with hd | hd
      · have e : t = ⟨⟨c.echoed, c.readied, true, c.echoes, Vt.withB c.readies id x⟩, [], Vt.none, false, 0⟩ := by rw [ht, decide_eq_false hg, decide_eq_false he]; simp [hd]
        rw [e]
        exact rreadied_noD c a1 a2 c1 c2 n id x w h h8 hv _ rfl (by omega) hd
      · have e : t = ⟨⟨c.echoed, c.readied, false, c.echoes, Vt.withB c.readies id x⟩, [], Vt.none, false, 0⟩ := by rw [ht, decide_eq_false hg, decide_eq_false he]; simp [hd]
        rw [e]
        exact rreadied_noN c a1 a2 c1 c2 n id x w h h8 hv _ rfl (by omega) hd (by omega)

/-- An answer passed on. -/
theorem told_pass {w V w' : World} {a1 a2 b1 b2 ao : Option Addr} {k1 k2 co : Nat} {c : Vt.Cs} {t : Vt.Told} {s0 s1 s2 s3 s4 : Value} (hX : RBox w V s0 s1 s2 s3 s4) (h : CsAt w c a1 a2)
    (hA : Vt.At w' b1 t.c.echoes ∧ Vt.At w' b2 t.c.readies ∧ AtO w' ao t.outs ∧ Below V.heap.size V w' ∧ Fr V.heap.size ao ∧ ∀ P, P < V.heap.size → Off P a1 c.echoes → Off P a2 c.readies → Off P b1 t.c.echoes ∧ Off P b2 t.c.readies) :
    RTold w a1 a2 c t (.returned (.agg #[.bool t.c.echoed, .bool t.c.readied, .bool t.c.done, .slice b1 t.c.echoes.length k1, .slice b2 t.c.readies.length k2, .slice ao t.outs.length co, .string t.body, .bool t.is, .int .i64 (t.e : Int)]))
      (S9 w' (w.heap.size + 1) (.bool t.c.echoed) (.bool t.c.readied) (.bool t.c.done) (.slice b1 t.c.echoes.length k1) (.slice b2 t.c.readies.length k2) (.slice ao t.outs.length co) (.string t.body) (.bool t.is) (.int .i64 (t.e : Int))) := by
  have hl := hX.r.lt
  obtain ⟨q1, q2, q3, q4, q5, q6⟩ := hA
  obtain ⟨o1, o2⟩ := q6 (w.heap.size + 1) hl (at_off h.e (by omega)) (at_off h.r (by omega))
  exact told_end (by omega) (below_step hX.below q4) q1 q2 q3 (q5.mono hX.below.size) o1 o2 (off_fr q5 hl) fun P hP x y => q6 P (by omega) x y
theorem atO_new (w : World) (k : Nat) (x : ByteArray) : AtO (w.alloc (.cells #[.int .i64 (k : Int), .string x] 94)) (some ⟨w.heap.size, 0, none⟩) [(k, x)] := by
  refine .inr ⟨_, _, rfl, fun j i y hy => ?_⟩
  cases j with
  | succ j => simp at hy
  | zero =>
    simp at hy
    obtain ⟨rfl, rfl⟩ := hy
    exact ⟨World.cell?_alloc_at _ _ _ _ rfl, World.cell?_alloc_at _ _ _ _ rfl⟩
theorem told_send {w V : World} {a1 a2 : Option Addr} {c1 c2 : Nat} {c : Vt.Cs} {s0 s1 s2 s3 s4 : Value} (x : ByteArray) (h : CsAt w c a1 a2) (hX : RBox w V s0 s1 s2 s3 s4) :
    RTold w a1 a2 c ⟨⟨true, c.readied, c.done, c.echoes, c.readies⟩, [(2, x)], Vt.none, false, 0⟩ (.returned (.agg #[.bool true, .bool c.readied, .bool c.done, .slice a1 c.echoes.length c1, .slice a2 c.readies.length c2, .slice (some ⟨V.heap.size, 0, none⟩) 1 1, .string ⟨#[]⟩, .bool false, .int .i64 0]))
      ((S9 (V.setCell ⟨w.heap.size, 0, none⟩ (.bool true)) (w.heap.size + 1) (.bool true) (.bool c.readied) (.bool c.done) (.slice a1 c.echoes.length c1) (.slice a2 c.readies.length c2) (.slice (some ⟨V.heap.size, 0, none⟩) 1 1) (.string ⟨#[]⟩) (.bool false) (.int .i64 0)).alloc (.cells #[.int .i64 2, .string x] 94)) := by
  have bs : Below w.heap.size w (V.setCell ⟨w.heap.size, 0, none⟩ (.bool true)) := hX.below.setCell (p := ⟨w.heap.size, 0, none⟩) (Nat.le_refl _) _
  have b9 := below_s9 bs (show w.heap.size ≤ w.heap.size + 1 by omega) (.bool true) (.bool c.readied) (.bool c.done) (.slice a1 c.echoes.length c1) (.slice a2 c.readies.length c2) (.slice (some ⟨V.heap.size, 0, none⟩) 1 1) (.string ⟨#[]⟩) (.bool false) (.int .i64 0)
  have sz : (S9 (V.setCell ⟨w.heap.size, 0, none⟩ (.bool true)) (w.heap.size + 1) (.bool true) (.bool c.readied) (.bool c.done) (.slice a1 c.echoes.length c1) (.slice a2 c.readies.length c2) (.slice (some ⟨V.heap.size, 0, none⟩) 1 1) (.string ⟨#[]⟩) (.bool false) (.int .i64 0)).heap.size = V.heap.size := by simp [S9, World.setCell]
  have O2 := atO_new (S9 (V.setCell ⟨w.heap.size, 0, none⟩ (.bool true)) (w.heap.size + 1) (.bool true) (.bool c.readied) (.bool c.done) (.slice a1 c.echoes.length c1) (.slice a2 c.readies.length c2) (.slice (some ⟨V.heap.size, 0, none⟩) 1 1) (.string ⟨#[]⟩) (.bool false) (.int .i64 0)) 2 x
  rw [sz] at O2
  have bl := b9.alloc b9.size (.cells #[.int .i64 2, .string x] 94)
  refine ⟨a1, c1, a2, c2, some ⟨V.heap.size, 0, none⟩, 1, rfl, h.e.later bl, h.r.later bl, O2, bl, fun ad e => ?_, fun P _ x y => ⟨x, y⟩⟩
  obtain rfl := Option.some.inj e
  exact hX.below.size

set_option maxHeartbeats 8000000 in
set_option maxRecDepth 100000 in
theorem rtake_bad1 (c : Vt.Cs) (a1 a2 : Option Addr) (c1 c2 ms frm : Nat) (kind : Int) (id : Nat) (x : ByteArray) (w : World) (h : CsAt w c a1 a2) (hms : ms < 65536) (h8 : id < 256) (hf8 : frm < 256) (t1 : kind < 1) :
    Calls Try.prog 17 #[.agg #[.bool c.echoed, .bool c.readied, .bool c.done, .slice a1 c.echoes.length c1, .slice a2 c.readies.length c2], .int .u16 (ms : Nat), .int .u8 (frm : Nat), .int .i64 kind, .int .u8 (id : Nat), .string x] w (RTold w a1 a2 c (Vt.err c 2)) := by
  have SZ : Aside (∀ W, Calls Try.prog 27 #[.int .u16 (ms : Nat)] W fun e w' => e = .returned (.int .i64 (Cn.sizeS ms : Nat)) ∧ Below W.heap.size W w') := fun W => rsize_any ms W hms
  have H1 : Aside (∀ W, Calls Try.prog 40 #[.int .u16 (ms : Nat), .int .u8 (id : Nat)] W fun e w' => e = .returned (.bool (Cn.hasS ms id)) ∧ w' = W) := fun W => rhas_any ms id W hms h8
  have H2 : Aside (∀ W, Calls Try.prog 40 #[.int .u16 (ms : Nat), .int .u8 (frm : Nat)] W fun e w' => e = .returned (.bool (Cn.hasS ms frm)) ∧ w' = W) := fun W => rhas_any ms frm W hms hf8
  have X0 : Aside (RBox w _ (.bool c.echoed) (.bool c.readied) (.bool c.done) (.slice a1 c.echoes.length c1) (.slice a2 c.readies.length c2)) := rbox_new w (.bool c.echoed) (.bool c.readied) (.bool c.done) (.slice a1 c.echoes.length c1) (.slice a2 c.readies.length c2)
  have RT : Aside (∀ V, Below w.heap.size w V → _) := fun V hb => told_err (V := V) (c1 := c1) (c2 := c2) 2 h hb
  generalize RTold w a1 a2 c _ = Q at RT ⊢
  clear h hms h8 hf8
  generalize c.echoed = e at *
  generalize Cn.sizeS ms = sm at *
  generalize c.readied = r at *
  generalize c.done = d at *
  generalize c.echoes.length = m1 at *
  generalize c.readies.length = m2 at *
  go_enter Try.func17, Try.ntmps17
  go_wp2_with fail
  refine (SZ.out _).mono ?_
  rintro z V ⟨rfl, hb⟩
  have X1 : Aside (RBox w V (.bool e) (.bool r) (.bool d) (.slice a1 m1 c1) (.slice a2 m2 c2)) := X0.out.later hb
  clear X0 SZ hb
  obtain ⟨y0, y1, y2, y3, y4⟩ := X1.out.c.cells
  have yl := X1.out.c.lt
  have yf := X1.out.c.frozen
  obtain ⟨z0, z1, z2, z3, z4, z5, z6, z7, z8⟩ := X1.out.r.cells
  have zf := X1.out.r.frozen
  have zl := X1.out.r.lt
  clear H1 H2
  have Q1 : Aside (Q _ _) := RT.out V X1.out.below
  clear RT
  go_wp2
  refine ⟨rfl, _, ?_, Q1.out⟩
  obtain ⟨d0, d1, d2, d3, d4, d5, d6, d7, d8⟩ := X1.out.r.read (.bool e) (.bool r) (.bool d) (.slice a1 m1 c1) (.slice a2 m2 c2) (.slice none 0 0) (.string ⟨#[]⟩) (.bool false) (.int .i64 2)
  simp [results, Try.results17, go_sem, d0, d1, d2, d3, d4, d5, d6, d7, d8]

set_option maxHeartbeats 8000000 in
set_option maxRecDepth 100000 in
theorem rtake_bad2 (c : Vt.Cs) (a1 a2 : Option Addr) (c1 c2 ms frm : Nat) (kind : Int) (id : Nat) (x : ByteArray) (w : World) (h : CsAt w c a1 a2) (hms : ms < 65536) (h8 : id < 256) (hf8 : frm < 256) (t0 : ¬ kind < 1) (t1 : 3 < kind) :
    Calls Try.prog 17 #[.agg #[.bool c.echoed, .bool c.readied, .bool c.done, .slice a1 c.echoes.length c1, .slice a2 c.readies.length c2], .int .u16 (ms : Nat), .int .u8 (frm : Nat), .int .i64 kind, .int .u8 (id : Nat), .string x] w (RTold w a1 a2 c (Vt.err c 2)) := by
  have SZ : Aside (∀ W, Calls Try.prog 27 #[.int .u16 (ms : Nat)] W fun e w' => e = .returned (.int .i64 (Cn.sizeS ms : Nat)) ∧ Below W.heap.size W w') := fun W => rsize_any ms W hms
  have H1 : Aside (∀ W, Calls Try.prog 40 #[.int .u16 (ms : Nat), .int .u8 (id : Nat)] W fun e w' => e = .returned (.bool (Cn.hasS ms id)) ∧ w' = W) := fun W => rhas_any ms id W hms h8
  have H2 : Aside (∀ W, Calls Try.prog 40 #[.int .u16 (ms : Nat), .int .u8 (frm : Nat)] W fun e w' => e = .returned (.bool (Cn.hasS ms frm)) ∧ w' = W) := fun W => rhas_any ms frm W hms hf8
  have X0 : Aside (RBox w _ (.bool c.echoed) (.bool c.readied) (.bool c.done) (.slice a1 c.echoes.length c1) (.slice a2 c.readies.length c2)) := rbox_new w (.bool c.echoed) (.bool c.readied) (.bool c.done) (.slice a1 c.echoes.length c1) (.slice a2 c.readies.length c2)
  have RT : Aside (∀ V, Below w.heap.size w V → _) := fun V hb => told_err (V := V) (c1 := c1) (c2 := c2) 2 h hb
  generalize RTold w a1 a2 c _ = Q at RT ⊢
  clear h hms h8 hf8
  generalize c.echoed = e at *
  generalize Cn.sizeS ms = sm at *
  generalize c.readied = r at *
  generalize c.done = d at *
  generalize c.echoes.length = m1 at *
  generalize c.readies.length = m2 at *
  go_enter Try.func17, Try.ntmps17
  go_wp2_with fail
  refine (SZ.out _).mono ?_
  rintro z V ⟨rfl, hb⟩
  have X1 : Aside (RBox w V (.bool e) (.bool r) (.bool d) (.slice a1 m1 c1) (.slice a2 m2 c2)) := X0.out.later hb
  clear X0 SZ hb
  obtain ⟨y0, y1, y2, y3, y4⟩ := X1.out.c.cells
  have yl := X1.out.c.lt
  have yf := X1.out.c.frozen
  obtain ⟨z0, z1, z2, z3, z4, z5, z6, z7, z8⟩ := X1.out.r.cells
  have zf := X1.out.r.frozen
  have zl := X1.out.r.lt
  clear H1 H2
  have Q1 : Aside (Q _ _) := RT.out V X1.out.below
  clear RT
  go_wp2
  refine ⟨rfl, _, ?_, Q1.out⟩
  obtain ⟨d0, d1, d2, d3, d4, d5, d6, d7, d8⟩ := X1.out.r.read (.bool e) (.bool r) (.bool d) (.slice a1 m1 c1) (.slice a2 m2 c2) (.slice none 0 0) (.string ⟨#[]⟩) (.bool false) (.int .i64 2)
  simp [results, Try.results17, go_sem, d0, d1, d2, d3, d4, d5, d6, d7, d8]

set_option maxHeartbeats 8000000 in
set_option maxRecDepth 100000 in
theorem rtake_bad3 (c : Vt.Cs) (a1 a2 : Option Addr) (c1 c2 ms frm : Nat) (kind : Int) (id : Nat) (x : ByteArray) (w : World) (h : CsAt w c a1 a2) (hms : ms < 65536) (h8 : id < 256) (hf8 : frm < 256) (t0 : ¬ kind < 1) (t1 : ¬ 3 < kind) (t2 : (1000 : Int) < (x.size : Int)) :
    Calls Try.prog 17 #[.agg #[.bool c.echoed, .bool c.readied, .bool c.done, .slice a1 c.echoes.length c1, .slice a2 c.readies.length c2], .int .u16 (ms : Nat), .int .u8 (frm : Nat), .int .i64 kind, .int .u8 (id : Nat), .string x] w (RTold w a1 a2 c (Vt.err c 2)) := by
  have SZ : Aside (∀ W, Calls Try.prog 27 #[.int .u16 (ms : Nat)] W fun e w' => e = .returned (.int .i64 (Cn.sizeS ms : Nat)) ∧ Below W.heap.size W w') := fun W => rsize_any ms W hms
  have H1 : Aside (∀ W, Calls Try.prog 40 #[.int .u16 (ms : Nat), .int .u8 (id : Nat)] W fun e w' => e = .returned (.bool (Cn.hasS ms id)) ∧ w' = W) := fun W => rhas_any ms id W hms h8
  have H2 : Aside (∀ W, Calls Try.prog 40 #[.int .u16 (ms : Nat), .int .u8 (frm : Nat)] W fun e w' => e = .returned (.bool (Cn.hasS ms frm)) ∧ w' = W) := fun W => rhas_any ms frm W hms hf8
  have X0 : Aside (RBox w _ (.bool c.echoed) (.bool c.readied) (.bool c.done) (.slice a1 c.echoes.length c1) (.slice a2 c.readies.length c2)) := rbox_new w (.bool c.echoed) (.bool c.readied) (.bool c.done) (.slice a1 c.echoes.length c1) (.slice a2 c.readies.length c2)
  have RT : Aside (∀ V, Below w.heap.size w V → _) := fun V hb => told_err (V := V) (c1 := c1) (c2 := c2) 2 h hb
  generalize RTold w a1 a2 c _ = Q at RT ⊢
  clear h hms h8 hf8
  generalize c.echoed = e at *
  generalize Cn.sizeS ms = sm at *
  generalize c.readied = r at *
  generalize c.done = d at *
  generalize c.echoes.length = m1 at *
  generalize c.readies.length = m2 at *
  go_enter Try.func17, Try.ntmps17
  go_wp2_with fail
  refine (SZ.out _).mono ?_
  rintro z V ⟨rfl, hb⟩
  have X1 : Aside (RBox w V (.bool e) (.bool r) (.bool d) (.slice a1 m1 c1) (.slice a2 m2 c2)) := X0.out.later hb
  clear X0 SZ hb
  obtain ⟨y0, y1, y2, y3, y4⟩ := X1.out.c.cells
  have yl := X1.out.c.lt
  have yf := X1.out.c.frozen
  obtain ⟨z0, z1, z2, z3, z4, z5, z6, z7, z8⟩ := X1.out.r.cells
  have zf := X1.out.r.frozen
  have zl := X1.out.r.lt
  clear H1 H2
  have Q1 : Aside (Q _ _) := RT.out V X1.out.below
  clear RT
  go_wp2
  refine ⟨rfl, _, ?_, Q1.out⟩
  obtain ⟨d0, d1, d2, d3, d4, d5, d6, d7, d8⟩ := X1.out.r.read (.bool e) (.bool r) (.bool d) (.slice a1 m1 c1) (.slice a2 m2 c2) (.slice none 0 0) (.string ⟨#[]⟩) (.bool false) (.int .i64 2)
  simp [results, Try.results17, go_sem, d0, d1, d2, d3, d4, d5, d6, d7, d8]

set_option maxHeartbeats 8000000 in
set_option maxRecDepth 100000 in
theorem rtake_out1 (c : Vt.Cs) (a1 a2 : Option Addr) (c1 c2 ms frm : Nat) (kind : Int) (id : Nat) (x : ByteArray) (w : World) (h : CsAt w c a1 a2) (hms : ms < 65536) (h8 : id < 256) (hf8 : frm < 256) (t0 : ¬ kind < 1) (t1 : ¬ 3 < kind) (t2 : ¬ (1000 : Int) < (x.size : Int)) (t3 : Cn.hasS ms id = false) :
    Calls Try.prog 17 #[.agg #[.bool c.echoed, .bool c.readied, .bool c.done, .slice a1 c.echoes.length c1, .slice a2 c.readies.length c2], .int .u16 (ms : Nat), .int .u8 (frm : Nat), .int .i64 kind, .int .u8 (id : Nat), .string x] w (RTold w a1 a2 c (Vt.err c 10)) := by
  have SZ : Aside (∀ W, Calls Try.prog 27 #[.int .u16 (ms : Nat)] W fun e w' => e = .returned (.int .i64 (Cn.sizeS ms : Nat)) ∧ Below W.heap.size W w') := fun W => rsize_any ms W hms
  have H1 : Aside (∀ W, Calls Try.prog 40 #[.int .u16 (ms : Nat), .int .u8 (id : Nat)] W fun e w' => e = .returned (.bool (Cn.hasS ms id)) ∧ w' = W) := fun W => rhas_any ms id W hms h8
  have H2 : Aside (∀ W, Calls Try.prog 40 #[.int .u16 (ms : Nat), .int .u8 (frm : Nat)] W fun e w' => e = .returned (.bool (Cn.hasS ms frm)) ∧ w' = W) := fun W => rhas_any ms frm W hms hf8
  have X0 : Aside (RBox w _ (.bool c.echoed) (.bool c.readied) (.bool c.done) (.slice a1 c.echoes.length c1) (.slice a2 c.readies.length c2)) := rbox_new w (.bool c.echoed) (.bool c.readied) (.bool c.done) (.slice a1 c.echoes.length c1) (.slice a2 c.readies.length c2)
  have RT : Aside (∀ V, Below w.heap.size w V → _) := fun V hb => told_err (V := V) (c1 := c1) (c2 := c2) 10 h hb
  generalize RTold w a1 a2 c _ = Q at RT ⊢
  clear h hms h8 hf8
  rw [t3] at H1
  clear t3
  generalize c.echoed = e at *
  generalize Cn.sizeS ms = sm at *
  generalize c.readied = r at *
  generalize c.done = d at *
  generalize c.echoes.length = m1 at *
  generalize c.readies.length = m2 at *
  go_enter Try.func17, Try.ntmps17
  go_wp2_with fail
  refine (SZ.out _).mono ?_
  rintro z V ⟨rfl, hb⟩
  have X1 : Aside (RBox w V (.bool e) (.bool r) (.bool d) (.slice a1 m1 c1) (.slice a2 m2 c2)) := X0.out.later hb
  clear X0 SZ hb
  obtain ⟨y0, y1, y2, y3, y4⟩ := X1.out.c.cells
  have yl := X1.out.c.lt
  have yf := X1.out.c.frozen
  obtain ⟨z0, z1, z2, z3, z4, z5, z6, z7, z8⟩ := X1.out.r.cells
  have zf := X1.out.r.frozen
  have zl := X1.out.r.lt
  clear H2
  go_wp2_with fail
  refine (H1.out _).mono ?_; rintro z w1 ⟨rfl, hw⟩
  replace hw := hw.symm; subst hw
  clear H1
  have Q1 : Aside (Q _ _) := RT.out V X1.out.below
  clear RT
  go_wp2
  refine ⟨rfl, _, ?_, Q1.out⟩
  obtain ⟨d0, d1, d2, d3, d4, d5, d6, d7, d8⟩ := X1.out.r.read (.bool e) (.bool r) (.bool d) (.slice a1 m1 c1) (.slice a2 m2 c2) (.slice none 0 0) (.string ⟨#[]⟩) (.bool false) (.int .i64 10)
  simp [results, Try.results17, go_sem, d0, d1, d2, d3, d4, d5, d6, d7, d8]

set_option maxHeartbeats 8000000 in
set_option maxRecDepth 100000 in
theorem rtake_out2 (c : Vt.Cs) (a1 a2 : Option Addr) (c1 c2 ms frm : Nat) (kind : Int) (id : Nat) (x : ByteArray) (w : World) (h : CsAt w c a1 a2) (hms : ms < 65536) (h8 : id < 256) (hf8 : frm < 256) (t0 : ¬ kind < 1) (t1 : ¬ 3 < kind) (t2 : ¬ (1000 : Int) < (x.size : Int)) (t3 : Cn.hasS ms id = true) (t4 : Cn.hasS ms frm = false) :
    Calls Try.prog 17 #[.agg #[.bool c.echoed, .bool c.readied, .bool c.done, .slice a1 c.echoes.length c1, .slice a2 c.readies.length c2], .int .u16 (ms : Nat), .int .u8 (frm : Nat), .int .i64 kind, .int .u8 (id : Nat), .string x] w (RTold w a1 a2 c (Vt.err c 10)) := by
  have SZ : Aside (∀ W, Calls Try.prog 27 #[.int .u16 (ms : Nat)] W fun e w' => e = .returned (.int .i64 (Cn.sizeS ms : Nat)) ∧ Below W.heap.size W w') := fun W => rsize_any ms W hms
  have H1 : Aside (∀ W, Calls Try.prog 40 #[.int .u16 (ms : Nat), .int .u8 (id : Nat)] W fun e w' => e = .returned (.bool (Cn.hasS ms id)) ∧ w' = W) := fun W => rhas_any ms id W hms h8
  have H2 : Aside (∀ W, Calls Try.prog 40 #[.int .u16 (ms : Nat), .int .u8 (frm : Nat)] W fun e w' => e = .returned (.bool (Cn.hasS ms frm)) ∧ w' = W) := fun W => rhas_any ms frm W hms hf8
  have X0 : Aside (RBox w _ (.bool c.echoed) (.bool c.readied) (.bool c.done) (.slice a1 c.echoes.length c1) (.slice a2 c.readies.length c2)) := rbox_new w (.bool c.echoed) (.bool c.readied) (.bool c.done) (.slice a1 c.echoes.length c1) (.slice a2 c.readies.length c2)
  have RT : Aside (∀ V, Below w.heap.size w V → _) := fun V hb => told_err (V := V) (c1 := c1) (c2 := c2) 10 h hb
  generalize RTold w a1 a2 c _ = Q at RT ⊢
  clear h hms h8 hf8
  rw [t3] at H1
  rw [t4] at H2
  clear t3 t4
  generalize c.echoed = e at *
  generalize Cn.sizeS ms = sm at *
  generalize c.readied = r at *
  generalize c.done = d at *
  generalize c.echoes.length = m1 at *
  generalize c.readies.length = m2 at *
  go_enter Try.func17, Try.ntmps17
  go_wp2_with fail
  refine (SZ.out _).mono ?_
  rintro z V ⟨rfl, hb⟩
  have X1 : Aside (RBox w V (.bool e) (.bool r) (.bool d) (.slice a1 m1 c1) (.slice a2 m2 c2)) := X0.out.later hb
  clear X0 SZ hb
  obtain ⟨y0, y1, y2, y3, y4⟩ := X1.out.c.cells
  have yl := X1.out.c.lt
  have yf := X1.out.c.frozen
  obtain ⟨z0, z1, z2, z3, z4, z5, z6, z7, z8⟩ := X1.out.r.cells
  have zf := X1.out.r.frozen
  have zl := X1.out.r.lt
  go_wp2_with fail
  refine (H1.out _).mono ?_; rintro z w1 ⟨rfl, hw⟩
  replace hw := hw.symm; subst hw
  clear H1
  go_wp2_with fail
  refine (H2.out _).mono ?_; rintro z w1 ⟨rfl, hw⟩
  replace hw := hw.symm; subst hw
  clear H2
  have Q1 : Aside (Q _ _) := RT.out V X1.out.below
  clear RT
  go_wp2
  refine ⟨rfl, _, ?_, Q1.out⟩
  obtain ⟨d0, d1, d2, d3, d4, d5, d6, d7, d8⟩ := X1.out.r.read (.bool e) (.bool r) (.bool d) (.slice a1 m1 c1) (.slice a2 m2 c2) (.slice none 0 0) (.string ⟨#[]⟩) (.bool false) (.int .i64 10)
  simp [results, Try.results17, go_sem, d0, d1, d2, d3, d4, d5, d6, d7, d8]

set_option maxHeartbeats 8000000 in
set_option maxRecDepth 100000 in
theorem rtake_other (c : Vt.Cs) (a1 a2 : Option Addr) (c1 c2 ms frm : Nat) (kind : Int) (id : Nat) (x : ByteArray) (w : World) (h : CsAt w c a1 a2) (hms : ms < 65536) (h8 : id < 256) (hf8 : frm < 256) (t2 : ¬ (1000 : Int) < (x.size : Int)) (t3 : Cn.hasS ms id = true) (t4 : Cn.hasS ms frm = true) (t5 : kind = 1) (t6 : ((id : Int) != (frm : Int)) = true) :
    Calls Try.prog 17 #[.agg #[.bool c.echoed, .bool c.readied, .bool c.done, .slice a1 c.echoes.length c1, .slice a2 c.readies.length c2], .int .u16 (ms : Nat), .int .u8 (frm : Nat), .int .i64 kind, .int .u8 (id : Nat), .string x] w (RTold w a1 a2 c (Vt.err c 10)) := by
  have SZ : Aside (∀ W, Calls Try.prog 27 #[.int .u16 (ms : Nat)] W fun e w' => e = .returned (.int .i64 (Cn.sizeS ms : Nat)) ∧ Below W.heap.size W w') := fun W => rsize_any ms W hms
  have H1 : Aside (∀ W, Calls Try.prog 40 #[.int .u16 (ms : Nat), .int .u8 (id : Nat)] W fun e w' => e = .returned (.bool (Cn.hasS ms id)) ∧ w' = W) := fun W => rhas_any ms id W hms h8
  have H2 : Aside (∀ W, Calls Try.prog 40 #[.int .u16 (ms : Nat), .int .u8 (frm : Nat)] W fun e w' => e = .returned (.bool (Cn.hasS ms frm)) ∧ w' = W) := fun W => rhas_any ms frm W hms hf8
  have X0 : Aside (RBox w _ (.bool c.echoed) (.bool c.readied) (.bool c.done) (.slice a1 c.echoes.length c1) (.slice a2 c.readies.length c2)) := rbox_new w (.bool c.echoed) (.bool c.readied) (.bool c.done) (.slice a1 c.echoes.length c1) (.slice a2 c.readies.length c2)
  have RT : Aside (∀ V, Below w.heap.size w V → _) := fun V hb => told_err (V := V) (c1 := c1) (c2 := c2) 10 h hb
  generalize RTold w a1 a2 c _ = Q at RT ⊢
  clear h hms h8 hf8
  rw [t3] at H1
  rw [t4] at H2
  clear t3 t4
  subst t5
  generalize c.echoed = e at *
  generalize Cn.sizeS ms = sm at *
  generalize c.readied = r at *
  generalize c.done = d at *
  generalize c.echoes.length = m1 at *
  generalize c.readies.length = m2 at *
  go_enter Try.func17, Try.ntmps17
  go_wp2_with fail
  refine (SZ.out _).mono ?_
  rintro z V ⟨rfl, hb⟩
  have X1 : Aside (RBox w V (.bool e) (.bool r) (.bool d) (.slice a1 m1 c1) (.slice a2 m2 c2)) := X0.out.later hb
  clear X0 SZ hb
  obtain ⟨y0, y1, y2, y3, y4⟩ := X1.out.c.cells
  have yl := X1.out.c.lt
  have yf := X1.out.c.frozen
  obtain ⟨z0, z1, z2, z3, z4, z5, z6, z7, z8⟩ := X1.out.r.cells
  have zf := X1.out.r.frozen
  have zl := X1.out.r.lt
  go_wp2_with fail
  refine (H1.out _).mono ?_; rintro z w1 ⟨rfl, hw⟩
  replace hw := hw.symm; subst hw
  clear H1
  go_wp2_with fail
  refine (H2.out _).mono ?_; rintro z w1 ⟨rfl, hw⟩
  replace hw := hw.symm; subst hw
  clear H2
  have Q1 : Aside (Q _ _) := RT.out V X1.out.below
  clear RT
  go_wp2
  refine ⟨rfl, _, ?_, Q1.out⟩
  obtain ⟨d0, d1, d2, d3, d4, d5, d6, d7, d8⟩ := X1.out.r.read (.bool e) (.bool r) (.bool d) (.slice a1 m1 c1) (.slice a2 m2 c2) (.slice none 0 0) (.string ⟨#[]⟩) (.bool false) (.int .i64 10)
  simp [results, Try.results17, go_sem, d0, d1, d2, d3, d4, d5, d6, d7, d8]

set_option maxHeartbeats 8000000 in
set_option maxRecDepth 100000 in
theorem rtake_old (c : Vt.Cs) (a1 a2 : Option Addr) (c1 c2 ms frm : Nat) (kind : Int) (id : Nat) (x : ByteArray) (w : World) (h : CsAt w c a1 a2) (hms : ms < 65536) (h8 : id < 256) (hf8 : frm < 256) (t2 : ¬ (1000 : Int) < (x.size : Int)) (t3 : Cn.hasS ms id = true) (t4 : Cn.hasS ms frm = true) (t5 : kind = 1) (t6 : ((id : Int) != (frm : Int)) = false) (t7 : c.echoed = true) :
    Calls Try.prog 17 #[.agg #[.bool c.echoed, .bool c.readied, .bool c.done, .slice a1 c.echoes.length c1, .slice a2 c.readies.length c2], .int .u16 (ms : Nat), .int .u8 (frm : Nat), .int .i64 kind, .int .u8 (id : Nat), .string x] w (RTold w a1 a2 c (Vt.err c 6)) := by
  have SZ : Aside (∀ W, Calls Try.prog 27 #[.int .u16 (ms : Nat)] W fun e w' => e = .returned (.int .i64 (Cn.sizeS ms : Nat)) ∧ Below W.heap.size W w') := fun W => rsize_any ms W hms
  have H1 : Aside (∀ W, Calls Try.prog 40 #[.int .u16 (ms : Nat), .int .u8 (id : Nat)] W fun e w' => e = .returned (.bool (Cn.hasS ms id)) ∧ w' = W) := fun W => rhas_any ms id W hms h8
  have H2 : Aside (∀ W, Calls Try.prog 40 #[.int .u16 (ms : Nat), .int .u8 (frm : Nat)] W fun e w' => e = .returned (.bool (Cn.hasS ms frm)) ∧ w' = W) := fun W => rhas_any ms frm W hms hf8
  have X0 : Aside (RBox w _ (.bool c.echoed) (.bool c.readied) (.bool c.done) (.slice a1 c.echoes.length c1) (.slice a2 c.readies.length c2)) := rbox_new w (.bool c.echoed) (.bool c.readied) (.bool c.done) (.slice a1 c.echoes.length c1) (.slice a2 c.readies.length c2)
  have RT : Aside (∀ V, Below w.heap.size w V → _) := fun V hb => told_err (V := V) (c1 := c1) (c2 := c2) 6 h hb
  generalize RTold w a1 a2 c _ = Q at RT ⊢
  clear h hms h8 hf8
  rw [t3] at H1
  rw [t4] at H2
  clear t3 t4
  subst t5
  rw [t7] at *
  clear t7
  generalize Cn.sizeS ms = sm at *
  generalize c.readied = r at *
  generalize c.done = d at *
  generalize c.echoes.length = m1 at *
  generalize c.readies.length = m2 at *
  go_enter Try.func17, Try.ntmps17
  go_wp2_with fail
  refine (SZ.out _).mono ?_
  rintro z V ⟨rfl, hb⟩
  have X1 : Aside (RBox w V (.bool true) (.bool r) (.bool d) (.slice a1 m1 c1) (.slice a2 m2 c2)) := X0.out.later hb
  clear X0 SZ hb
  obtain ⟨y0, y1, y2, y3, y4⟩ := X1.out.c.cells
  have yl := X1.out.c.lt
  have yf := X1.out.c.frozen
  obtain ⟨z0, z1, z2, z3, z4, z5, z6, z7, z8⟩ := X1.out.r.cells
  have zf := X1.out.r.frozen
  have zl := X1.out.r.lt
  go_wp2_with fail
  refine (H1.out _).mono ?_; rintro z w1 ⟨rfl, hw⟩
  replace hw := hw.symm; subst hw
  clear H1
  go_wp2_with fail
  refine (H2.out _).mono ?_; rintro z w1 ⟨rfl, hw⟩
  replace hw := hw.symm; subst hw
  clear H2
  have Q1 : Aside (Q _ _) := RT.out V X1.out.below
  clear RT
  go_wp2
  refine ⟨rfl, _, ?_, Q1.out⟩
  obtain ⟨d0, d1, d2, d3, d4, d5, d6, d7, d8⟩ := X1.out.r.read (.bool true) (.bool r) (.bool d) (.slice a1 m1 c1) (.slice a2 m2 c2) (.slice none 0 0) (.string ⟨#[]⟩) (.bool false) (.int .i64 6)
  simp [results, Try.results17, go_sem, d0, d1, d2, d3, d4, d5, d6, d7, d8]

set_option maxHeartbeats 8000000 in
set_option maxRecDepth 100000 in
theorem rtake_send (c : Vt.Cs) (a1 a2 : Option Addr) (c1 c2 ms frm : Nat) (kind : Int) (id : Nat) (x : ByteArray) (w : World) (h : CsAt w c a1 a2) (hms : ms < 65536) (h8 : id < 256) (hf8 : frm < 256) (t2 : ¬ (1000 : Int) < (x.size : Int)) (t3 : Cn.hasS ms id = true) (t4 : Cn.hasS ms frm = true) (t5 : kind = 1) (t6 : ((id : Int) != (frm : Int)) = false) (t7 : c.echoed = false) :
    Calls Try.prog 17 #[.agg #[.bool c.echoed, .bool c.readied, .bool c.done, .slice a1 c.echoes.length c1, .slice a2 c.readies.length c2], .int .u16 (ms : Nat), .int .u8 (frm : Nat), .int .i64 kind, .int .u8 (id : Nat), .string x] w (RTold w a1 a2 c ⟨⟨true, c.readied, c.done, c.echoes, c.readies⟩, [(2, x)], Vt.none, false, 0⟩) := by
  have SZ : Aside (∀ W, Calls Try.prog 27 #[.int .u16 (ms : Nat)] W fun e w' => e = .returned (.int .i64 (Cn.sizeS ms : Nat)) ∧ Below W.heap.size W w') := fun W => rsize_any ms W hms
  have H1 : Aside (∀ W, Calls Try.prog 40 #[.int .u16 (ms : Nat), .int .u8 (id : Nat)] W fun e w' => e = .returned (.bool (Cn.hasS ms id)) ∧ w' = W) := fun W => rhas_any ms id W hms h8
  have H2 : Aside (∀ W, Calls Try.prog 40 #[.int .u16 (ms : Nat), .int .u8 (frm : Nat)] W fun e w' => e = .returned (.bool (Cn.hasS ms frm)) ∧ w' = W) := fun W => rhas_any ms frm W hms hf8
  have X0 : Aside (RBox w _ (.bool c.echoed) (.bool c.readied) (.bool c.done) (.slice a1 c.echoes.length c1) (.slice a2 c.readies.length c2)) := rbox_new w (.bool c.echoed) (.bool c.readied) (.bool c.done) (.slice a1 c.echoes.length c1) (.slice a2 c.readies.length c2)
  have RT : Aside (∀ V s0 s1 s2 s3 s4, RBox w V s0 s1 s2 s3 s4 → _) := fun (V : World) (s0 s1 s2 s3 s4 : Value) (hX : RBox w V s0 s1 s2 s3 s4) => told_send (c1 := c1) (c2 := c2) x h hX
  generalize RTold w a1 a2 c _ = Q at RT ⊢
  clear h hms h8 hf8
  rw [t3] at H1
  rw [t4] at H2
  clear t3 t4
  subst t5
  rw [t7] at *
  clear t7
  generalize Cn.sizeS ms = sm at *
  generalize c.readied = r at *
  generalize c.done = d at *
  generalize c.echoes.length = m1 at *
  generalize c.readies.length = m2 at *
  go_enter Try.func17, Try.ntmps17
  go_wp2_with fail
  refine (SZ.out _).mono ?_
  rintro z V ⟨rfl, hb⟩
  have X1 : Aside (RBox w V (.bool false) (.bool r) (.bool d) (.slice a1 m1 c1) (.slice a2 m2 c2)) := X0.out.later hb
  clear X0 SZ hb
  obtain ⟨y0, y1, y2, y3, y4⟩ := X1.out.c.cells
  have yl := X1.out.c.lt
  have yf := X1.out.c.frozen
  obtain ⟨z0, z1, z2, z3, z4, z5, z6, z7, z8⟩ := X1.out.r.cells
  have zf := X1.out.r.frozen
  have zl := X1.out.r.lt
  go_wp2_with fail
  refine (H1.out _).mono ?_; rintro z w1 ⟨rfl, hw⟩
  replace hw := hw.symm; subst hw
  clear H1
  go_wp2_with fail
  refine (H2.out _).mono ?_; rintro z w1 ⟨rfl, hw⟩
  replace hw := hw.symm; subst hw
  clear H2
  have Q1 : Aside (Q _ _) := RT.out V _ _ _ _ _ X1.out
  have X2 : Aside (X9 (V.setCell ⟨w.heap.size, 0, none⟩ (.bool true)) (w.heap.size + 1) _ _ _ _ _ _ _ _ _) := X1.out.r.far (by omega) _
  clear RT
  go_wp2
  refine ⟨rfl, _, ?_, Q1.out⟩
  obtain ⟨d0, d1, d2, d3, d4, d5, d6, d7, d8⟩ := ((X2.out.set (.bool true) (.bool r) (.bool d) (.slice a1 m1 c1) (.slice a2 m2 c2) (.slice (some ⟨V.heap.size, 0, none⟩) 1 1) (.string ⟨#[]⟩) (.bool false) (.int .i64 0)).alloc (.cells #[.int .i64 2, .string x] 94)).cells
  simp only [S9] at d0 d1 d2 d3 d4 d5 d6 d7 d8
  simp [results, Try.results17, go_sem, d0, d1, d2, d3, d4, d5, d6, d7, d8]

set_option maxHeartbeats 8000000 in
set_option maxRecDepth 100000 in
theorem rtake_echo (c : Vt.Cs) (a1 a2 : Option Addr) (c1 c2 ms frm : Nat) (kind : Int) (id : Nat) (x : ByteArray) (w : World) (h : CsAt w c a1 a2) (hms : ms < 65536) (h8 : id < 256) (hf8 : frm < 256) (t2 : ¬ (1000 : Int) < (x.size : Int)) (t3 : Cn.hasS ms id = true) (t4 : Cn.hasS ms frm = true) (t5 : kind = 2) (t : Vt.Told) (ht : t = if Vt.votedB c.echoes id then Vt.err c 6 else ⟨(Vt.echoT c (Cn.sizeS ms) id x).1, (Vt.echoT c (Cn.sizeS ms) id x).2, Vt.none, false, 0⟩) :
    Calls Try.prog 17 #[.agg #[.bool c.echoed, .bool c.readied, .bool c.done, .slice a1 c.echoes.length c1, .slice a2 c.readies.length c2], .int .u16 (ms : Nat), .int .u8 (frm : Nat), .int .i64 kind, .int .u8 (id : Nat), .string x] w (RTold w a1 a2 c t) := by
  have SZ : Aside (∀ W, Calls Try.prog 27 #[.int .u16 (ms : Nat)] W fun e w' => e = .returned (.int .i64 (Cn.sizeS ms : Nat)) ∧ Below W.heap.size W w') := fun W => rsize_any ms W hms
  have H1 : Aside (∀ W, Calls Try.prog 40 #[.int .u16 (ms : Nat), .int .u8 (id : Nat)] W fun e w' => e = .returned (.bool (Cn.hasS ms id)) ∧ w' = W) := fun W => rhas_any ms id W hms h8
  have H2 : Aside (∀ W, Calls Try.prog 40 #[.int .u16 (ms : Nat), .int .u8 (frm : Nat)] W fun e w' => e = .returned (.bool (Cn.hasS ms frm)) ∧ w' = W) := fun W => rhas_any ms frm W hms hf8
  have X0 : Aside (RBox w _ (.bool c.echoed) (.bool c.readied) (.bool c.done) (.slice a1 c.echoes.length c1) (.slice a2 c.readies.length c2)) := rbox_new w (.bool c.echoed) (.bool c.readied) (.bool c.done) (.slice a1 c.echoes.length c1) (.slice a2 c.readies.length c2)
  have CL : Aside (∀ W, Below w.heap.size w W → Calls Try.prog 41 #[.agg #[.bool c.echoed, .bool c.readied, .bool c.done, .slice a1 c.echoes.length c1, .slice a2 c.readies.length c2], .int .i64 (Cn.sizeS ms : Nat), .int .u8 (id : Nat), .string x] W (RTold W a1 a2 c t)) := fun W hb => recho_any c a1 a2 c1 c2 (Cn.sizeS ms) id x W (h.later hb) h8 t ht
  have RT : Aside (∀ V w' b1 k1 b2 k2 ao co s0 s1 s2 s3 s4, RBox w V s0 s1 s2 s3 s4 → _ → _) := fun (V w' : World) (b1 : Option Addr) (k1 : Nat) (b2 : Option Addr) (k2 : Nat) (ao : Option Addr) (co : Nat) (s0 s1 s2 s3 s4 : Value) (hX : RBox w V s0 s1 s2 s3 s4) hA => told_pass (w' := w') (b1 := b1) (b2 := b2) (ao := ao) (k1 := k1) (k2 := k2) (co := co) (t := t) hX h hA
  generalize RTold w a1 a2 c _ = Q at RT ⊢
  clear h hms h8 hf8
  rw [t3] at H1
  rw [t4] at H2
  clear t3 t4
  subst t5
  clear ht
  generalize c.echoed = e at *
  generalize Cn.sizeS ms = sm at *
  generalize c.readied = r at *
  generalize c.done = d at *
  generalize c.echoes.length = m1 at *
  generalize c.readies.length = m2 at *
  go_enter Try.func17, Try.ntmps17
  go_wp2_with fail
  refine (SZ.out _).mono ?_
  rintro z V ⟨rfl, hb⟩
  have X1 : Aside (RBox w V (.bool e) (.bool r) (.bool d) (.slice a1 m1 c1) (.slice a2 m2 c2)) := X0.out.later hb
  clear X0 SZ hb
  obtain ⟨y0, y1, y2, y3, y4⟩ := X1.out.c.cells
  have yl := X1.out.c.lt
  have yf := X1.out.c.frozen
  obtain ⟨z0, z1, z2, z3, z4, z5, z6, z7, z8⟩ := X1.out.r.cells
  have zf := X1.out.r.frozen
  have zl := X1.out.r.lt
  go_wp2_with fail
  refine (H1.out _).mono ?_; rintro z w1 ⟨rfl, hw⟩
  replace hw := hw.symm; subst hw
  clear H1
  go_wp2_with fail
  refine (H2.out _).mono ?_; rintro z w1 ⟨rfl, hw⟩
  replace hw := hw.symm; subst hw
  clear H2
  go_wp2_with fail
  refine (CL.out _ X1.out.below).mono ?_
  rintro z w9 ⟨b1, k1, b2, k2, ao, co, rfl, hA⟩
  have X2 : Aside (RBox w w9 (.bool e) (.bool r) (.bool d) (.slice a1 m1 c1) (.slice a2 m2 c2)) := X1.out.later hA.out.2.2.2.1
  have Q1 : Aside (Q _ _) := RT.out V w9 b1 k1 b2 k2 ao co _ _ _ _ _ X1.out hA.out
  clear RT CL hA X1 y0 y1 y2 y3 y4 yl yf z0 z1 z2 z3 z4 z5 z6 z7 z8 zf zl
  have zf := X2.out.r.frozen
  have zl := X2.out.r.lt
  obtain ⟨z0, z1, z2, z3, z4, z5, z6, z7, z8⟩ := X2.out.r.cells
  generalize t.c.echoed = e' at *
  generalize t.c.readied = r' at *
  generalize t.c.done = d' at *
  generalize t.c.echoes.length = n1' at *
  generalize t.c.readies.length = n2' at *
  generalize t.outs.length = no' at *
  generalize t.body = bd at *
  generalize t.is = is at *
  generalize t.e = er at *
  go_wp2
  refine ⟨rfl, _, ?_, Q1.out⟩
  obtain ⟨d0, d1, d2, d3, d4, d5, d6, d7, d8⟩ := X2.out.r.read (.bool e') (.bool r') (.bool d') (.slice b1 n1' k1) (.slice b2 n2' k2) (.slice ao no' co) (.string bd) (.bool is) (.int .i64 (er : Int))
  simp [results, Try.results17, go_sem, d0, d1, d2, d3, d4, d5, d6, d7, d8]

set_option maxHeartbeats 8000000 in
set_option maxRecDepth 100000 in
theorem rtake_ready (c : Vt.Cs) (a1 a2 : Option Addr) (c1 c2 ms frm : Nat) (kind : Int) (id : Nat) (x : ByteArray) (w : World) (h : CsAt w c a1 a2) (hms : ms < 65536) (h8 : id < 256) (hf8 : frm < 256) (t2 : ¬ (1000 : Int) < (x.size : Int)) (t3 : Cn.hasS ms id = true) (t4 : Cn.hasS ms frm = true) (t5 : kind = 3) (t : Vt.Told) (ht : t = if Vt.votedB c.readies id then Vt.err c 6 else if c.done || !(Vt.readyT c (Cn.sizeS ms) id x).1.done then ⟨(Vt.readyT c (Cn.sizeS ms) id x).1, (Vt.readyT c (Cn.sizeS ms) id x).2, Vt.none, false, 0⟩ else ⟨(Vt.readyT c (Cn.sizeS ms) id x).1, (Vt.readyT c (Cn.sizeS ms) id x).2, x, true, 0⟩) :
    Calls Try.prog 17 #[.agg #[.bool c.echoed, .bool c.readied, .bool c.done, .slice a1 c.echoes.length c1, .slice a2 c.readies.length c2], .int .u16 (ms : Nat), .int .u8 (frm : Nat), .int .i64 kind, .int .u8 (id : Nat), .string x] w (RTold w a1 a2 c t) := by
  have SZ : Aside (∀ W, Calls Try.prog 27 #[.int .u16 (ms : Nat)] W fun e w' => e = .returned (.int .i64 (Cn.sizeS ms : Nat)) ∧ Below W.heap.size W w') := fun W => rsize_any ms W hms
  have H1 : Aside (∀ W, Calls Try.prog 40 #[.int .u16 (ms : Nat), .int .u8 (id : Nat)] W fun e w' => e = .returned (.bool (Cn.hasS ms id)) ∧ w' = W) := fun W => rhas_any ms id W hms h8
  have H2 : Aside (∀ W, Calls Try.prog 40 #[.int .u16 (ms : Nat), .int .u8 (frm : Nat)] W fun e w' => e = .returned (.bool (Cn.hasS ms frm)) ∧ w' = W) := fun W => rhas_any ms frm W hms hf8
  have X0 : Aside (RBox w _ (.bool c.echoed) (.bool c.readied) (.bool c.done) (.slice a1 c.echoes.length c1) (.slice a2 c.readies.length c2)) := rbox_new w (.bool c.echoed) (.bool c.readied) (.bool c.done) (.slice a1 c.echoes.length c1) (.slice a2 c.readies.length c2)
  have CL : Aside (∀ W, Below w.heap.size w W → Calls Try.prog 42 #[.agg #[.bool c.echoed, .bool c.readied, .bool c.done, .slice a1 c.echoes.length c1, .slice a2 c.readies.length c2], .int .i64 (Cn.sizeS ms : Nat), .int .u8 (id : Nat), .string x] W (RTold W a1 a2 c t)) := fun W hb => rreadied_any c a1 a2 c1 c2 (Cn.sizeS ms) id x W (h.later hb) h8 t ht
  have RT : Aside (∀ V w' b1 k1 b2 k2 ao co s0 s1 s2 s3 s4, RBox w V s0 s1 s2 s3 s4 → _ → _) := fun (V w' : World) (b1 : Option Addr) (k1 : Nat) (b2 : Option Addr) (k2 : Nat) (ao : Option Addr) (co : Nat) (s0 s1 s2 s3 s4 : Value) (hX : RBox w V s0 s1 s2 s3 s4) hA => told_pass (w' := w') (b1 := b1) (b2 := b2) (ao := ao) (k1 := k1) (k2 := k2) (co := co) (t := t) hX h hA
  generalize RTold w a1 a2 c _ = Q at RT ⊢
  clear h hms h8 hf8
  rw [t3] at H1
  rw [t4] at H2
  clear t3 t4
  subst t5
  clear ht
  generalize c.echoed = e at *
  generalize Cn.sizeS ms = sm at *
  generalize c.readied = r at *
  generalize c.done = d at *
  generalize c.echoes.length = m1 at *
  generalize c.readies.length = m2 at *
  go_enter Try.func17, Try.ntmps17
  go_wp2_with fail
  refine (SZ.out _).mono ?_
  rintro z V ⟨rfl, hb⟩
  have X1 : Aside (RBox w V (.bool e) (.bool r) (.bool d) (.slice a1 m1 c1) (.slice a2 m2 c2)) := X0.out.later hb
  clear X0 SZ hb
  obtain ⟨y0, y1, y2, y3, y4⟩ := X1.out.c.cells
  have yl := X1.out.c.lt
  have yf := X1.out.c.frozen
  obtain ⟨z0, z1, z2, z3, z4, z5, z6, z7, z8⟩ := X1.out.r.cells
  have zf := X1.out.r.frozen
  have zl := X1.out.r.lt
  go_wp2_with fail
  refine (H1.out _).mono ?_; rintro z w1 ⟨rfl, hw⟩
  replace hw := hw.symm; subst hw
  clear H1
  go_wp2_with fail
  refine (H2.out _).mono ?_; rintro z w1 ⟨rfl, hw⟩
  replace hw := hw.symm; subst hw
  clear H2
  go_wp2_with fail
  refine (CL.out _ X1.out.below).mono ?_
  rintro z w9 ⟨b1, k1, b2, k2, ao, co, rfl, hA⟩
  have X2 : Aside (RBox w w9 (.bool e) (.bool r) (.bool d) (.slice a1 m1 c1) (.slice a2 m2 c2)) := X1.out.later hA.out.2.2.2.1
  have Q1 : Aside (Q _ _) := RT.out V w9 b1 k1 b2 k2 ao co _ _ _ _ _ X1.out hA.out
  clear RT CL hA X1 y0 y1 y2 y3 y4 yl yf z0 z1 z2 z3 z4 z5 z6 z7 z8 zf zl
  have zf := X2.out.r.frozen
  have zl := X2.out.r.lt
  obtain ⟨z0, z1, z2, z3, z4, z5, z6, z7, z8⟩ := X2.out.r.cells
  generalize t.c.echoed = e' at *
  generalize t.c.readied = r' at *
  generalize t.c.done = d' at *
  generalize t.c.echoes.length = n1' at *
  generalize t.c.readies.length = n2' at *
  generalize t.outs.length = no' at *
  generalize t.body = bd at *
  generalize t.is = is at *
  generalize t.e = er at *
  go_wp2
  refine ⟨rfl, _, ?_, Q1.out⟩
  obtain ⟨d0, d1, d2, d3, d4, d5, d6, d7, d8⟩ := X2.out.r.read (.bool e') (.bool r') (.bool d') (.slice b1 n1' k1) (.slice b2 n2' k2) (.slice ao no' co) (.string bd) (.bool is) (.int .i64 (er : Int))
  simp [results, Try.results17, go_sem, d0, d1, d2, d3, d4, d5, d6, d7, d8]

theorem rtake_any (c : Vt.Cs) (a1 a2 : Option Addr) (c1 c2 ms frm : Nat) (kind : Int) (id : Nat) (x : ByteArray) (w : World) (h : CsAt w c a1 a2) (hms : ms < 65536) (h8 : id < 256) (hf8 : frm < 256) (t : Vt.Told) (ht : Vt.take c ms frm kind id x = t) :
    Calls Try.prog 17 #[.agg #[.bool c.echoed, .bool c.readied, .bool c.done, .slice a1 c.echoes.length c1, .slice a2 c.readies.length c2], .int .u16 (ms : Nat), .int .u8 (frm : Nat), .int .i64 kind, .int .u8 (id : Nat), .string x] w (RTold w a1 a2 c t) := by
  subst ht
  by_cases k1 : kind < 1
  · have e : Vt.take c ms frm kind id x = Vt.err c 2 := by unfold Vt.take Vt.badArg; rw [decide_eq_true k1]; rfl
    rw [e]
    exact rtake_bad1 c a1 a2 c1 c2 ms frm kind id x w h hms h8 hf8 k1
  by_cases k2 : 3 < kind
  · have e : Vt.take c ms frm kind id x = Vt.err c 2 := by unfold Vt.take Vt.badArg; rw [decide_eq_true k2, Bool.or_true]; rfl
    rw [e]
    exact rtake_bad2 c a1 a2 c1 c2 ms frm kind id x w h hms h8 hf8 k1 k2
  by_cases k3 : 1000 < x.size
  · have e : Vt.take c ms frm kind id x = Vt.err c 2 := by unfold Vt.take Vt.badArg; rw [decide_eq_true k3, Bool.or_true]; rfl
    rw [e]
    exact rtake_bad3 c a1 a2 c1 c2 ms frm kind id x w h hms h8 hf8 k1 k2 (by omega)
  have k3' : ¬ (1000 : Int) < (x.size : Int) := by omega
  have eb : Vt.badArg kind x = false := by unfold Vt.badArg; rw [decide_eq_false k1, decide_eq_false k2, decide_eq_false k3]; rfl
  cases m1 : Cn.hasS ms id with
  | false =>
    have e : Vt.take c ms frm kind id x = Vt.err c 10 := by unfold Vt.take Vt.out; rw [eb, m1]; rfl
    rw [e]
    exact rtake_out1 c a1 a2 c1 c2 ms frm kind id x w h hms h8 hf8 k1 k2 k3' m1
  | true =>
  cases m2 : Cn.hasS ms frm with
  | false =>
    have e : Vt.take c ms frm kind id x = Vt.err c 10 := by unfold Vt.take Vt.out; rw [eb, m1, m2]; rfl
    rw [e]
    exact rtake_out2 c a1 a2 c1 c2 ms frm kind id x w h hms h8 hf8 k1 k2 k3' m1 m2
  | true =>
  have eo : Vt.out ms frm id = false := by unfold Vt.out; rw [m1, m2]; rfl
  have hk : kind = 1 ∨ kind = 2 ∨ kind = 3 := by omega
  rcases hk with q | q | q
  · by_cases k4 : id = frm
    · have ef : ((id : Int) != (frm : Int)) = false := by subst k4; simp
      have e4 : (decide (kind = 1) && decide (id ≠ frm)) = false := by rw [decide_eq_false (show ¬ id ≠ frm from fun hh => hh k4), Bool.and_false]
      rcases (show c.echoed = true ∨ c.echoed = false by cases c.echoed <;> simp) with he | he
      · have e : Vt.take c ms frm kind id x = Vt.err c 6 := by unfold Vt.take; rw [eb, eo, e4, show Vt.old c kind id = true by subst q; exact he]; rfl
        rw [e]
        exact rtake_old c a1 a2 c1 c2 ms frm kind id x w h hms h8 hf8 k3' m1 m2 q ef he
      · have e : Vt.take c ms frm kind id x = ⟨⟨true, c.readied, c.done, c.echoes, c.readies⟩, [(2, x)], Vt.none, false, 0⟩ := by
          unfold Vt.take; rw [eb, eo, e4, show Vt.old c kind id = false by subst q; exact he]
          subst q
          show (if c.done || !c.done then _ else _) = _
          rw [if_pos (by cases c.done <;> rfl)]
          rfl
        rw [e]
        exact rtake_send c a1 a2 c1 c2 ms frm kind id x w h hms h8 hf8 k3' m1 m2 q ef he
    · have ef : ((id : Int) != (frm : Int)) = true := by
        have : ¬ (id : Int) = (frm : Int) := by omega
        simpa using this
      have e : Vt.take c ms frm kind id x = Vt.err c 10 := by unfold Vt.take; rw [eb, eo, decide_eq_true q, decide_eq_true (show id ≠ frm from k4)]; rfl
      rw [e]
      exact rtake_other c a1 a2 c1 c2 ms frm kind id x w h hms h8 hf8 k3' m1 m2 q ef
  · refine rtake_echo c a1 a2 c1 c2 ms frm kind id x w h hms h8 hf8 k3' m1 m2 q _ ?_
    subst q
    unfold Vt.take; rw [eb, eo]
    show (if Vt.votedB c.echoes id then _ else if c.done || !c.done then _ else _) = _
    rw [if_pos (show (c.done || !c.done) = true by cases c.done <;> rfl)]
    rfl
  · refine rtake_ready c a1 a2 c1 c2 ms frm kind id x w h hms h8 hf8 k3' m1 m2 q _ ?_
    subst q
    unfold Vt.take; rw [eb, eo]
    rfl
end Go.Proofs.Ytlekbbpancaenaa
