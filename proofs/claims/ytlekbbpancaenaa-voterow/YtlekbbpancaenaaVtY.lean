/- The document's own readied: what comes of a ready. -/
import Derived.Test.YtlekbbpancaenaaVtX
namespace Go.Proofs.Ytlekbbpancaenaa
open Go.RowKit Go.Shelf

/-- Behind ready: the case's box, what is told so far, the list and the votes that are cast. -/
structure RDone (w V : World) (tb : Nat) (s0 s1 s2 s3 s4 u1 uo : Value) (g : Option Addr) (l' : Vt.Bal) (ao : Option Addr) (outs : List (Nat × ByteArray)) : Prop where
  box : RBox w V s0 s1 s2 s3 s4
  t : X9 V tb s0 u1 s2 s3 s4 uo (.string ⟨#[]⟩) (.bool false) (.int .i64 0)
  at_ : Vt.At V g l'
  fr : Fr (w.heap.size + 2) g
  lt : w.heap.size + 1 < tb
  o : AtO V ao outs
  fo : Fr (w.heap.size + 2) ao
  ne : Off tb g l'
  no : Off tb ao outs
theorem RDone.later {w V V' : World} {tb : Nat} {s0 s1 s2 s3 s4 u1 uo : Value} {g : Option Addr} {l' : Vt.Bal} {ao : Option Addr} {outs : List (Nat × ByteArray)} (h : RDone w V tb s0 s1 s2 s3 s4 u1 uo g l' ao outs) (hb : Below V.heap.size V V') : RDone w V' tb s0 s1 s2 s3 s4 u1 uo g l' ao outs :=
  ⟨h.box.later hb, h.t.later hb, h.at_.later hb, h.fr, h.lt, h.o.later hb, h.fo, h.ne, h.no⟩
theorem rdone_mid {w W : World} {tb : Nat} {s0 s1 s2 s3 s4 : Value} {g : Option Addr} {l' : Vt.Bal} (h : RMid w W tb s0 s1 s2 s3 s4 g l') (hne : Off tb g l') : RDone w W tb s0 s1 s2 s3 s4 s1 (.slice none 0 0) g l' none [] :=
  ⟨h.box, h.t, h.at_, h.fr, h.lt, .inl rfl, Fr.none _, hne, fun _ e => nomatch e⟩
/-- Nine cells stored over what is told so far. -/
theorem rdone_set {w W : World} {tb : Nat} {s0 s1 s2 s3 s4 : Value} {g : Option Addr} {l' : Vt.Bal} (h : RMid w W tb s0 s1 s2 s3 s4 g l') (hne : Off tb g l') (u1 uo : Value) {ao : Option Addr} {outs : List (Nat × ByteArray)} (ho : AtO W ao outs) (fo : Fr (w.heap.size + 2) ao) (no : Off tb ao outs) :
    RDone w (S9 W tb s0 u1 s2 s3 s4 uo (.string ⟨#[]⟩) (.bool false) (.int .i64 0)) tb s0 s1 s2 s3 s4 u1 uo g l' ao outs := by
  have hl := h.lt
  have B : ∀ k, k ≠ tb → (S9 W tb s0 u1 s2 s3 s4 uo (.string ⟨#[]⟩) (.bool false) (.int .i64 0)).heap[k]? = W.heap[k]? := fun k hk => s9_block W hk _ _ _ _ _ _ _ _ _
  exact ⟨⟨(B _ (by omega)).trans h.box.c, (B _ (by omega)).trans h.box.r, below_s9 h.box.below (by omega) _ _ _ _ _ _ _ _ _⟩, h.t.set _ _ _ _ _ _ _ _ _, at_block h.at_ hne B, h.fr, h.lt, atO_block ho no B, fo, hne, no⟩
/-- A body is told: it is stored over what is told so far. -/
theorem rdone_told {w V : World} {tb : Nat} {s0 s1 s2 s3 s4 u1 uo : Value} {g : Option Addr} {l' : Vt.Bal} {ao : Option Addr} {outs : List (Nat × ByteArray)} (h : RDone w V tb s0 s1 s2 s3 s4 u1 uo g l' ao outs) (x : ByteArray) :
    RBox w (((((((V.setCell ⟨tb, 0, none⟩ s0).setCell ⟨tb, 1, none⟩ u1).setCell ⟨tb, 2, none⟩ (.bool true)).setCell ⟨tb, 3, none⟩ s3).setCell ⟨tb, 4, none⟩ s4).setCell ⟨tb, 6, none⟩ (.string x)).setCell ⟨tb, 7, none⟩ (.bool true)) s0 s1 s2 s3 s4 ∧ X9 (((((((V.setCell ⟨tb, 0, none⟩ s0).setCell ⟨tb, 1, none⟩ u1).setCell ⟨tb, 2, none⟩ (.bool true)).setCell ⟨tb, 3, none⟩ s3).setCell ⟨tb, 4, none⟩ s4).setCell ⟨tb, 6, none⟩ (.string x)).setCell ⟨tb, 7, none⟩ (.bool true)) tb s0 u1 (.bool true) s3 s4 uo (.string x) (.bool true) (.int .i64 0) ∧ Vt.At (((((((V.setCell ⟨tb, 0, none⟩ s0).setCell ⟨tb, 1, none⟩ u1).setCell ⟨tb, 2, none⟩ (.bool true)).setCell ⟨tb, 3, none⟩ s3).setCell ⟨tb, 4, none⟩ s4).setCell ⟨tb, 6, none⟩ (.string x)).setCell ⟨tb, 7, none⟩ (.bool true)) g l' ∧ AtO (((((((V.setCell ⟨tb, 0, none⟩ s0).setCell ⟨tb, 1, none⟩ u1).setCell ⟨tb, 2, none⟩ (.bool true)).setCell ⟨tb, 3, none⟩ s3).setCell ⟨tb, 4, none⟩ s4).setCell ⟨tb, 6, none⟩ (.string x)).setCell ⟨tb, 7, none⟩ (.bool true)) ao outs := by
  have hl := h.lt
  have B : ∀ k, k ≠ tb → (((((((V.setCell ⟨tb, 0, none⟩ s0).setCell ⟨tb, 1, none⟩ u1).setCell ⟨tb, 2, none⟩ (.bool true)).setCell ⟨tb, 3, none⟩ s3).setCell ⟨tb, 4, none⟩ s4).setCell ⟨tb, 6, none⟩ (.string x)).setCell ⟨tb, 7, none⟩ (.bool true)).heap[k]? = V.heap[k]? := fun k hk => by
    rw [row_far hk, row_far hk, row_far hk, row_far hk, row_far hk, row_far hk, row_far hk]
  have bl : Below w.heap.size w (((((((V.setCell ⟨tb, 0, none⟩ s0).setCell ⟨tb, 1, none⟩ u1).setCell ⟨tb, 2, none⟩ (.bool true)).setCell ⟨tb, 3, none⟩ s3).setCell ⟨tb, 4, none⟩ s4).setCell ⟨tb, 6, none⟩ (.string x)).setCell ⟨tb, 7, none⟩ (.bool true)) := by
    have hb : w.heap.size ≤ tb := by omega
    exact ((((((h.box.below.setCell (p := ⟨tb, 0, none⟩) hb _).setCell (p := ⟨tb, 1, none⟩) hb _).setCell (p := ⟨tb, 2, none⟩) hb _).setCell (p := ⟨tb, 3, none⟩) hb _).setCell (p := ⟨tb, 4, none⟩) hb _).setCell (p := ⟨tb, 6, none⟩) hb _).setCell (p := ⟨tb, 7, none⟩) hb _
  refine ⟨⟨(B _ (by omega)).trans h.box.c, (B _ (by omega)).trans h.box.r, bl⟩, ?_, at_block h.at_ h.ne B, atO_block h.o h.no B⟩
  · have g1 : (V.setCell ⟨tb, 0, none⟩ s0).heap[tb]? = some (.cells #[s0, u1, s2, s3, s4, uo, .string ⟨#[]⟩, .bool false, .int .i64 0] 43 (0, 0)) := row_set (j := 0) h.t s0
    have g2 : ((V.setCell ⟨tb, 0, none⟩ s0).setCell ⟨tb, 1, none⟩ u1).heap[tb]? = some (.cells #[s0, u1, s2, s3, s4, uo, .string ⟨#[]⟩, .bool false, .int .i64 0] 43 (0, 0)) := row_set (j := 1) g1 u1
    have g3 : (((V.setCell ⟨tb, 0, none⟩ s0).setCell ⟨tb, 1, none⟩ u1).setCell ⟨tb, 2, none⟩ (.bool true)).heap[tb]? = some (.cells #[s0, u1, (.bool true), s3, s4, uo, .string ⟨#[]⟩, .bool false, .int .i64 0] 43 (0, 0)) := row_set (j := 2) g2 (.bool true)
    have g4 : ((((V.setCell ⟨tb, 0, none⟩ s0).setCell ⟨tb, 1, none⟩ u1).setCell ⟨tb, 2, none⟩ (.bool true)).setCell ⟨tb, 3, none⟩ s3).heap[tb]? = some (.cells #[s0, u1, (.bool true), s3, s4, uo, .string ⟨#[]⟩, .bool false, .int .i64 0] 43 (0, 0)) := row_set (j := 3) g3 s3
    have g5 : (((((V.setCell ⟨tb, 0, none⟩ s0).setCell ⟨tb, 1, none⟩ u1).setCell ⟨tb, 2, none⟩ (.bool true)).setCell ⟨tb, 3, none⟩ s3).setCell ⟨tb, 4, none⟩ s4).heap[tb]? = some (.cells #[s0, u1, (.bool true), s3, s4, uo, .string ⟨#[]⟩, .bool false, .int .i64 0] 43 (0, 0)) := row_set (j := 4) g4 s4
    have g6 : ((((((V.setCell ⟨tb, 0, none⟩ s0).setCell ⟨tb, 1, none⟩ u1).setCell ⟨tb, 2, none⟩ (.bool true)).setCell ⟨tb, 3, none⟩ s3).setCell ⟨tb, 4, none⟩ s4).setCell ⟨tb, 6, none⟩ (.string x)).heap[tb]? = some (.cells #[s0, u1, (.bool true), s3, s4, uo, (.string x), .bool false, .int .i64 0] 43 (0, 0)) := row_set (j := 6) g5 (.string x)
    have g7 : (((((((V.setCell ⟨tb, 0, none⟩ s0).setCell ⟨tb, 1, none⟩ u1).setCell ⟨tb, 2, none⟩ (.bool true)).setCell ⟨tb, 3, none⟩ s3).setCell ⟨tb, 4, none⟩ s4).setCell ⟨tb, 6, none⟩ (.string x)).setCell ⟨tb, 7, none⟩ (.bool true)).heap[tb]? = some (.cells #[s0, u1, (.bool true), s3, s4, uo, (.string x), (.bool true), .int .i64 0] 43 (0, 0)) := row_set (j := 7) g6 (.bool true)
    exact g7
theorem told_alloc {w W : World} {a1 a2 : Option Addr} {c : Vt.Cs} {t : Vt.Told} {z : Ending} (h : RTold w a1 a2 c t z W) (o : Obj) : RTold w a1 a2 c t z (W.alloc o) := by
  obtain ⟨b1, k1, b2, k2, ao, co, h0, hA⟩ := h
  obtain ⟨q1, q2, q3, q4, q5, q6⟩ := hA.out
  have hb : Below W.heap.size W (W.alloc o) := (Below.refl _ W).alloc (Nat.le_refl _) o
  exact ⟨b1, k1, b2, k2, ao, co, h0, q1.later hb, q2.later hb, q3.later hb, q4.alloc q4.size o, q5, q6⟩
theorem mid_off {w V w2 W : World} {s0 s1 s2 s3 s4 : Value} {g : Option Addr} {k n : Nat} {l' : Vt.Bal} (hM : RMid w W w2.heap.size s0 s1 s2 s3 s4 g l') (ho : w2.ownsRow V.heap.size 86 2 (.slice g n k) l'.length (Vt.balC l')) : Off w2.heap.size g l' :=
  fun ad e => .inl (by subst e; have := (ho.lt _ rfl).2; omega)

set_option maxHeartbeats 8000000 in
set_option maxRecDepth 100000 in
theorem rreadied_old (c : Vt.Cs) (a1 a2 : Option Addr) (c1 c2 n id : Nat) (x : ByteArray) (w : World) (h : CsAt w c a1 a2) (h8 : id < 256) (hv : Vt.votedB c.readies id = true) :
    Calls Try.prog 42 #[.agg #[.bool c.echoed, .bool c.readied, .bool c.done, .slice a1 c.echoes.length c1, .slice a2 c.readies.length c2], .int .i64 (n : Nat), .int .u8 (id : Nat), .string x] w (RTold w a1 a2 c (Vt.err c 6)) := by
  have VT : Aside (∀ W, Below w.heap.size w W → Calls Try.prog 62 #[.slice a2 c.readies.length c2, .int .u8 (id : Nat)] W fun e w' => e = .returned (.bool true) ∧ w' = W) := fun W hb => by
    have := rvoted_any a2 c2 c.readies id W (h.r.later hb) h.small.2 (by have := h.n2; omega) h8
    rw [hv] at this; exact this
  have RT : Aside (∀ V, Below w.heap.size w V → _) := fun V hb => told_err (V := V) (c1 := c1) (c2 := c2) 6 h hb
  have X0 : Aside (RBox w _ (.bool c.echoed) (.bool c.readied) (.bool c.done) (.slice a1 c.echoes.length c1) (.slice a2 c.readies.length c2)) := rbox_new w (.bool c.echoed) (.bool c.readied) (.bool c.done) (.slice a1 c.echoes.length c1) (.slice a2 c.readies.length c2)
  generalize RTold w a1 a2 c (Vt.err c 6) = Q at *
  clear h hv h8
  generalize c.echoed = e at *
  generalize c.readied = r at *
  generalize c.done = d at *
  generalize c.echoes.length = m1 at *
  generalize c.readies.length = m2 at *
  go_enter Try.func42, Try.ntmps42
  go_wp2_with fail
  refine (VT.out _ X0.out.below).mono ?_
  rintro z V ⟨rfl, hw⟩
  have X1 : Aside (RBox w V (.bool e) (.bool r) (.bool d) (.slice a1 m1 c1) (.slice a2 m2 c2)) := by rw [hw]; exact X0.out
  have Q1 : Aside (Q _ _) := RT.out V X1.out.below
  clear hw X0 VT RT
  obtain ⟨y0, y1, y2, y3, y4⟩ := X1.out.c.cells
  have yl := X1.out.c.lt
  obtain ⟨z0, z1, z2, z3, z4, z5, z6, z7, z8⟩ := X1.out.r.cells
  have zf := X1.out.r.frozen
  have zl := X1.out.r.lt
  go_wp2
  refine ⟨rfl, _, ?_, Q1.out⟩
  obtain ⟨d0, d1, d2, d3, d4, d5, d6, d7, d8⟩ := X1.out.r.read (.bool e) (.bool r) (.bool d) (.slice a1 m1 c1) (.slice a2 m2 c2) (.slice none 0 0) (.string ⟨#[]⟩) (.bool false) (.int .i64 6)
  simp [results, Try.results42, go_sem, d0, d1, d2, d3, d4, d5, d6, d7, d8]

set_option maxHeartbeats 8000000 in
set_option maxRecDepth 100000 in
theorem rreadied_noD (c : Vt.Cs) (a1 a2 : Option Addr) (c1 c2 n id : Nat) (x : ByteArray) (w : World) (h : CsAt w c a1 a2) (h8 : id < 256) (hv : Vt.votedB c.readies id = false) (l' : Vt.Bal) (hl' : Vt.withB c.readies id x = l') (hg : ¬ (Cn.readies n : Int) ≤ (Vt.sizeB l' x : Int)) (hd : c.done = true) :
    Calls Try.prog 42 #[.agg #[.bool c.echoed, .bool c.readied, .bool c.done, .slice a1 c.echoes.length c1, .slice a2 c.readies.length c2], .int .i64 (n : Nat), .int .u8 (id : Nat), .string x] w (RTold w a1 a2 c ⟨⟨c.echoed, c.readied, true, c.echoes, l'⟩, [], Vt.none, false, 0⟩) := by
  have VT : Aside (∀ W, Below w.heap.size w W → Calls Try.prog 62 #[.slice a2 c.readies.length c2, .int .u8 (id : Nat)] W fun e w' => e = .returned (.bool false) ∧ w' = W) := fun W hb => by
    have := rvoted_any a2 c2 c.readies id W (h.r.later hb) h.small.2 (by have := h.n2; omega) h8
    rw [hv] at this; exact this
  have WT : Aside (∀ W, Below w.heap.size w W → Calls Try.prog 63 #[.slice a2 c.readies.length c2, .int .u8 (id : Nat), .string x] W (RWith W l')) := fun W hb => by
    have := rwithb_any a2 c2 c.readies id x W (h.r.later hb) h.small.2 h.n2 h8
    rw [hl'] at this; exact this
  have LN : l'.length ≤ 1000 := by have := Vt.len_with c.readies id x; have := h.n2; rw [hl'] at *; omega
  have SM : Vt.Small l' := by rw [← hl']; exact Vt.small_with h.small.2 id x
  have VO : Aside (∀ W g k, Vt.At W g l' → Calls Try.prog 64 #[.slice g l'.length k, .string x] W fun e w' => e = .returned (.int .i64 (Vt.sizeB l' x : Nat)) ∧ Below W.heap.size W w') := fun W g k hg => rvotes_any g k l' x W hg SM LN
  have EC : Aside (∀ W, Calls Try.prog 30 #[.int .i64 (n : Nat)] W fun e w' => e = .returned (.int .i64 (Cn.readies n : Nat)) ∧ w' = W) := fun W => rreadies_any n W
  have EN : Aside (∀ W, Calls Try.prog 28 #[.int .i64 (n : Nat)] W fun e w' => e = .returned (.int .i64 (Cn.enough n : Nat)) ∧ w' = W) := fun W => renough_any n W
  have X0 : Aside (RBox w _ (.bool c.echoed) (.bool c.readied) (.bool c.done) (.slice a1 c.echoes.length c1) (.slice a2 c.readies.length c2)) := rbox_new w (.bool c.echoed) (.bool c.readied) (.bool c.done) (.slice a1 c.echoes.length c1) (.slice a2 c.readies.length c2)
  have H0 : Aside (CsAt w c a1 a2) := h
  have RT : Aside (∀ V g k ao co, Below w.heap.size w V → Vt.At V g l' → Fr (w.heap.size + 2) g → AtO V ao [] → Fr (w.heap.size + 2) ao → _) := fun (V : World) (g : Option Addr) (k : Nat) (ao : Option Addr) (co : Nat) (hB : Below w.heap.size w V) (hg : Vt.At V g l') (fg : Fr (w.heap.size + 2) g) (h3 : AtO V ao []) (f3 : Fr (w.heap.size + 2) ao) => told_any (k1 := c1) (k2 := k) (co := co) (t := ⟨⟨c.echoed, c.readied, true, c.echoes, l'⟩, [], Vt.none, false, 0⟩) H0.out hB (H0.out.e.later hB) hg h3 (Src.same w a1 c.echoes) (.inr fg) f3
  generalize RTold w a1 a2 c _ = Q at RT ⊢
  clear h hv h8 hl' SM LN
  dsimp only [Vt.none, List.length_nil, List.length_cons] at RT
  clear H0
  rw [hd] at *
  clear hd
  generalize c.readied = r at *
  generalize Vt.sizeB l' x = sz at *
  generalize Cn.readies n = ne at *
  generalize Cn.enough n = nn at *
  generalize c.echoed = e at *
  generalize c.echoes.length = m1 at *
  generalize c.readies.length = m2 at *
  go_enter Try.func42, Try.ntmps42
  go_wp2_with fail
  refine (VT.out _ X0.out.below).mono ?_
  rintro z V ⟨rfl, hw⟩
  have X1 : Aside (RBox w V (.bool e) (.bool r) (.bool true) (.slice a1 m1 c1) (.slice a2 m2 c2)) := by rw [hw]; exact X0.out
  clear hw X0 VT
  obtain ⟨y0, y1, y2, y3, y4⟩ := X1.out.c.cells
  go_wp2_with fail
  refine (WT.out _ X1.out.below).mono ?_
  rintro z w2 ⟨g, k, rfl, ho, hb⟩
  have M0 : Aside (RMid w _ w2.heap.size (.bool e) (.bool r) (.bool true) (.slice a1 m1 c1) (.slice g l'.length k) g l') := rmid4 X1.out hb ho
  have OF : Aside (Off w2.heap.size g l') := mid_off M0.out ho
  have X2 : Aside (RBox w w2 (.bool e) (.bool r) (.bool true) (.slice a1 m1 c1) (.slice a2 m2 c2)) := X1.out.later hb
  clear X1 WT hb ho y0 y1 y2 y3 y4
  obtain ⟨y0, y1, y2, y3, y4⟩ := X2.out.c.cells
  have yl := X2.out.c.lt
  have yf := X2.out.c.frozen
  go_wp2_with fail
  refine (?_ : ∀ W, RMid w W w2.heap.size (.bool e) (.bool r) (.bool true) (.slice a1 m1 c1) (.slice g l'.length k) g l' → Calls Try.prog 64 _ W _) _ M0.out
  intro W hM
  clear M0 X2 y0 y1 y2 y3 y4 yl yf
  generalize w2.heap.size = tb at hM OF ⊢
  refine (VO.out _ g k hM.at_).mono ?_
  rintro z w4 ⟨rfl, hb4⟩
  have M1 : Aside (RMid w w4 tb (.bool e) (.bool r) (.bool true) (.slice a1 m1 c1) (.slice g l'.length k) g l') := hM.later hb4
  clear hM hb4
  go_wp2_with fail
  refine (EC.out _).mono ?_
  rintro z w5 ⟨rfl, hw⟩
  replace hw := hw.symm; subst hw
  clear EC
  obtain ⟨y0, y1, y2, y3, y4⟩ := M1.out.box.c.cells
  obtain ⟨t0, t1, t2, t3, t4, t5, t6, t7, t8⟩ := M1.out.t.cells
  have tf := M1.out.t.frozen
  have tl := M1.out.t.lt
  have tn := M1.out.lt
  clear VO EN
  have Q1 : Aside (Q _ _) := RT.out w4 g k none 0 M1.out.box.below M1.out.at_ M1.out.fr (.inl rfl) (Fr.none _)
  have zf := M1.out.box.r.frozen
  have zl := M1.out.box.r.lt
  obtain ⟨z0, z1, z2, z3, z4, z5, z6, z7, z8⟩ := M1.out.box.r.cells
  clear RT OF
  go_wp2
  refine ⟨rfl, _, ?_, Q1.out⟩
  obtain ⟨d0, d1, d2, d3, d4, d5, d6, d7, d8⟩ := M1.out.box.r.read (.bool e) (.bool r) (.bool true) (.slice a1 m1 c1) (.slice g l'.length k) (.slice none 0 0) (.string ⟨#[]⟩) (.bool false) (.int .i64 0)
  simp [results, Try.results42, go_sem, d0, d1, d2, d3, d4, d5, d6, d7, d8]

set_option maxHeartbeats 8000000 in
set_option maxRecDepth 100000 in
theorem rreadied_noN (c : Vt.Cs) (a1 a2 : Option Addr) (c1 c2 n id : Nat) (x : ByteArray) (w : World) (h : CsAt w c a1 a2) (h8 : id < 256) (hv : Vt.votedB c.readies id = false) (l' : Vt.Bal) (hl' : Vt.withB c.readies id x = l') (hg : ¬ (Cn.readies n : Int) ≤ (Vt.sizeB l' x : Int)) (hd : c.done = false) (he : ¬ (Cn.enough n : Int) ≤ (Vt.sizeB l' x : Int)) :
    Calls Try.prog 42 #[.agg #[.bool c.echoed, .bool c.readied, .bool c.done, .slice a1 c.echoes.length c1, .slice a2 c.readies.length c2], .int .i64 (n : Nat), .int .u8 (id : Nat), .string x] w (RTold w a1 a2 c ⟨⟨c.echoed, c.readied, false, c.echoes, l'⟩, [], Vt.none, false, 0⟩) := by
  have VT : Aside (∀ W, Below w.heap.size w W → Calls Try.prog 62 #[.slice a2 c.readies.length c2, .int .u8 (id : Nat)] W fun e w' => e = .returned (.bool false) ∧ w' = W) := fun W hb => by
    have := rvoted_any a2 c2 c.readies id W (h.r.later hb) h.small.2 (by have := h.n2; omega) h8
    rw [hv] at this; exact this
  have WT : Aside (∀ W, Below w.heap.size w W → Calls Try.prog 63 #[.slice a2 c.readies.length c2, .int .u8 (id : Nat), .string x] W (RWith W l')) := fun W hb => by
    have := rwithb_any a2 c2 c.readies id x W (h.r.later hb) h.small.2 h.n2 h8
    rw [hl'] at this; exact this
  have LN : l'.length ≤ 1000 := by have := Vt.len_with c.readies id x; have := h.n2; rw [hl'] at *; omega
  have SM : Vt.Small l' := by rw [← hl']; exact Vt.small_with h.small.2 id x
  have VO : Aside (∀ W g k, Vt.At W g l' → Calls Try.prog 64 #[.slice g l'.length k, .string x] W fun e w' => e = .returned (.int .i64 (Vt.sizeB l' x : Nat)) ∧ Below W.heap.size W w') := fun W g k hg => rvotes_any g k l' x W hg SM LN
  have EC : Aside (∀ W, Calls Try.prog 30 #[.int .i64 (n : Nat)] W fun e w' => e = .returned (.int .i64 (Cn.readies n : Nat)) ∧ w' = W) := fun W => rreadies_any n W
  have EN : Aside (∀ W, Calls Try.prog 28 #[.int .i64 (n : Nat)] W fun e w' => e = .returned (.int .i64 (Cn.enough n : Nat)) ∧ w' = W) := fun W => renough_any n W
  have X0 : Aside (RBox w _ (.bool c.echoed) (.bool c.readied) (.bool c.done) (.slice a1 c.echoes.length c1) (.slice a2 c.readies.length c2)) := rbox_new w (.bool c.echoed) (.bool c.readied) (.bool c.done) (.slice a1 c.echoes.length c1) (.slice a2 c.readies.length c2)
  have H0 : Aside (CsAt w c a1 a2) := h
  have RT : Aside (∀ V g k ao co, Below w.heap.size w V → Vt.At V g l' → Fr (w.heap.size + 2) g → AtO V ao [] → Fr (w.heap.size + 2) ao → _) := fun (V : World) (g : Option Addr) (k : Nat) (ao : Option Addr) (co : Nat) (hB : Below w.heap.size w V) (hg : Vt.At V g l') (fg : Fr (w.heap.size + 2) g) (h3 : AtO V ao []) (f3 : Fr (w.heap.size + 2) ao) => told_any (k1 := c1) (k2 := k) (co := co) (t := ⟨⟨c.echoed, c.readied, false, c.echoes, l'⟩, [], Vt.none, false, 0⟩) H0.out hB (H0.out.e.later hB) hg h3 (Src.same w a1 c.echoes) (.inr fg) f3
  generalize RTold w a1 a2 c _ = Q at RT ⊢
  clear h hv h8 hl' SM LN
  dsimp only [Vt.none, List.length_nil, List.length_cons] at RT
  clear H0
  rw [hd] at *
  clear hd
  generalize c.readied = r at *
  generalize Vt.sizeB l' x = sz at *
  generalize Cn.readies n = ne at *
  generalize Cn.enough n = nn at *
  generalize c.echoed = e at *
  generalize c.echoes.length = m1 at *
  generalize c.readies.length = m2 at *
  go_enter Try.func42, Try.ntmps42
  go_wp2_with fail
  refine (VT.out _ X0.out.below).mono ?_
  rintro z V ⟨rfl, hw⟩
  have X1 : Aside (RBox w V (.bool e) (.bool r) (.bool false) (.slice a1 m1 c1) (.slice a2 m2 c2)) := by rw [hw]; exact X0.out
  clear hw X0 VT
  obtain ⟨y0, y1, y2, y3, y4⟩ := X1.out.c.cells
  go_wp2_with fail
  refine (WT.out _ X1.out.below).mono ?_
  rintro z w2 ⟨g, k, rfl, ho, hb⟩
  have M0 : Aside (RMid w _ w2.heap.size (.bool e) (.bool r) (.bool false) (.slice a1 m1 c1) (.slice g l'.length k) g l') := rmid4 X1.out hb ho
  have OF : Aside (Off w2.heap.size g l') := mid_off M0.out ho
  have X2 : Aside (RBox w w2 (.bool e) (.bool r) (.bool false) (.slice a1 m1 c1) (.slice a2 m2 c2)) := X1.out.later hb
  clear X1 WT hb ho y0 y1 y2 y3 y4
  obtain ⟨y0, y1, y2, y3, y4⟩ := X2.out.c.cells
  have yl := X2.out.c.lt
  have yf := X2.out.c.frozen
  go_wp2_with fail
  refine (?_ : ∀ W, RMid w W w2.heap.size (.bool e) (.bool r) (.bool false) (.slice a1 m1 c1) (.slice g l'.length k) g l' → Calls Try.prog 64 _ W _) _ M0.out
  intro W hM
  clear M0 X2 y0 y1 y2 y3 y4 yl yf
  generalize w2.heap.size = tb at hM OF ⊢
  refine (VO.out _ g k hM.at_).mono ?_
  rintro z w4 ⟨rfl, hb4⟩
  have M1 : Aside (RMid w w4 tb (.bool e) (.bool r) (.bool false) (.slice a1 m1 c1) (.slice g l'.length k) g l') := hM.later hb4
  clear hM hb4
  go_wp2_with fail
  refine (EC.out _).mono ?_
  rintro z w5 ⟨rfl, hw⟩
  replace hw := hw.symm; subst hw
  clear EC
  obtain ⟨y0, y1, y2, y3, y4⟩ := M1.out.box.c.cells
  obtain ⟨t0, t1, t2, t3, t4, t5, t6, t7, t8⟩ := M1.out.t.cells
  have tf := M1.out.t.frozen
  have tl := M1.out.t.lt
  have tn := M1.out.lt
  have D0 : Aside (RDone w w4 tb (.bool e) (.bool r) (.bool false) (.slice a1 m1 c1) (.slice g l'.length k) (.bool r) (.slice none 0 0) g l' none []) := rdone_mid M1.out OF.out
  go_wp2_with fail
  refine (?_ : ∀ W, RDone w W tb (.bool e) (.bool r) (.bool false) (.slice a1 m1 c1) (.slice g l'.length k) (.bool r) (.slice none 0 0) g l' none [] → Calls Try.prog 64 _ W _) _ D0.out
  intro W hD
  clear M1 D0 y0 y1 y2 y3 y4 t0 t1 t2 t3 t4 t5 t6 t7 t8 tf tl tn
  refine (VO.out _ g k hD.at_).mono ?_
  rintro z w6 ⟨rfl, hb6⟩
  have D1 : Aside (RDone w w6 tb (.bool e) (.bool r) (.bool false) (.slice a1 m1 c1) (.slice g l'.length k) (.bool r) (.slice none 0 0) g l' none []) := hD.later hb6
  clear hD hb6 VO
  go_wp2_with fail
  refine (EN.out _).mono ?_
  rintro z w7 ⟨rfl, hw⟩
  replace hw := hw.symm; subst hw
  clear EN
  obtain ⟨t0, t1, t2, t3, t4, t5, t6, t7, t8⟩ := D1.out.t.cells
  have tf := D1.out.t.frozen
  have tl := D1.out.t.lt
  have tn := D1.out.lt
  have Q1 : Aside (Q _ _) := RT.out w6 g k none 0 D1.out.box.below D1.out.at_ D1.out.fr D1.out.o D1.out.fo
  have zf := D1.out.box.r.frozen
  have zl := D1.out.box.r.lt
  obtain ⟨z0, z1, z2, z3, z4, z5, z6, z7, z8⟩ := D1.out.box.r.cells
  clear RT OF
  go_wp2
  refine ⟨rfl, _, ?_, Q1.out⟩
  obtain ⟨d0, d1, d2, d3, d4, d5, d6, d7, d8⟩ := D1.out.box.r.read (.bool e) (.bool r) (.bool false) (.slice a1 m1 c1) (.slice g l'.length k) (.slice none 0 0) (.string ⟨#[]⟩) (.bool false) (.int .i64 0)
  simp [results, Try.results42, go_sem, d0, d1, d2, d3, d4, d5, d6, d7, d8]
end Go.Proofs.Ytlekbbpancaenaa
