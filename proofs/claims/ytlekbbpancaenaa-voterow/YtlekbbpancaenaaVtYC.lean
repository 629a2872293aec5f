/- The document's own readied: ways of it. -/
import Derived.Test.YtlekbbpancaenaaVtY
namespace Go.Proofs.Ytlekbbpancaenaa
open Go.RowKit Go.Shelf

set_option maxHeartbeats 8000000 in
set_option maxRecDepth 100000 in
theorem rreadied_ytY (c : Vt.Cs) (a1 a2 : Option Addr) (c1 c2 n id : Nat) (x : ByteArray) (w : World) (h : CsAt w c a1 a2) (h8 : id < 256) (hv : Vt.votedB c.readies id = false) (l' : Vt.Bal) (hl' : Vt.withB c.readies id x = l') (hg :  (Cn.readies n : Int) ≤ (Vt.sizeB l' x : Int)) (hr : c.readied = true) (hd : c.done = false) (he :  (Cn.enough n : Int) ≤ (Vt.sizeB l' x : Int)) :
    Calls Try.prog 42 #[.agg #[.bool c.echoed, .bool c.readied, .bool c.done, .slice a1 c.echoes.length c1, .slice a2 c.readies.length c2], .int .i64 (n : Nat), .int .u8 (id : Nat), .string x] w (RTold w a1 a2 c ⟨⟨c.echoed, true, true, c.echoes, l'⟩, [], x, true, 0⟩) := by
  have VT : Aside (∀ W, Below w.heap.size w W → Calls Try.prog 62 #[.slice a2 c.readies.length c2, .int .u8 (id : Nat)] W fun e w' => e = .returned (.bool false) ∧ w' = W) := fun W hb => by
    have := rvoted_any a2 c2 c.readies id W (h.r.later hb) h.small.2 (by have := h.n2; omega) h8
    rw [hv] at this; exact this
  have WT : Aside (∀ W, Below w.heap.size w W → Calls Try.prog 63 #[.slice a2 c.readies.length c2, .int .u8 (id : Nat), .string x] W (RWith W l')) := fun W hb => by
    have := rwithb_any a2 c2 c.readies id x W (h.r.later hb) h.small.2 h.n2 h8
    rw [hl'] at this; exact this
  have LN : l'.length ≤ 1000 := by have := Vt.len_with c.readies id x; have := h.n2; rw [hl'] at *; omega
  have SM : Vt.Small l' := by rw [← hl']; exact Vt.small_with h.small.2 id x
  have VO : Aside (∀ W g k, Vt.At W g l' → Calls Try.prog 64 #[.slice g l'.length k, .string x] W fun e w' => e = .returned (.int .i64 (Vt.sizeB l' x : Nat)) ∧ Below W.heap.size W w') := fun W g k hg => rvotes_any g k l' x W hg SM LN
  have EC : Aside (∀ W, Calls Try.prog 30 #[.int .i64 (n : Nat)] W fun e w' => e = .returned (.int .i64 (Cn.readies n : Nat)) ∧ w' = W) := fun W => rreadies_any n W
  have EN : Aside (∀ W, Calls Try.prog 28 #[.int .i64 (n : Nat)] W fun e w' => e = .returned (.int .i64 (Cn.enough n : Nat)) ∧ w' = W) := fun W => renough_any n W
  have X0 : Aside (RBox w _ (.bool c.echoed) (.bool c.readied) (.bool c.done) (.slice a1 c.echoes.length c1) (.slice a2 c.readies.length c2)) := rbox_new w (.bool c.echoed) (.bool c.readied) (.bool c.done) (.slice a1 c.echoes.length c1) (.slice a2 c.readies.length c2)
  have H0 : Aside (CsAt w c a1 a2) := h
  have RT : Aside (∀ V g k ao co, Below w.heap.size w V → Vt.At V g l' → Fr (w.heap.size + 2) g → AtO V ao [] → Fr (w.heap.size + 2) ao → _) := fun (V : World) (g : Option Addr) (k : Nat) (ao : Option Addr) (co : Nat) (hB : Below w.heap.size w V) (hg : Vt.At V g l') (fg : Fr (w.heap.size + 2) g) (h3 : AtO V ao []) (f3 : Fr (w.heap.size + 2) ao) (o : Obj) => told_alloc (o := o) <| told_any (k1 := c1) (k2 := k) (co := co) (t := ⟨⟨c.echoed, true, true, c.echoes, l'⟩, [], x, true, 0⟩) H0.out hB (H0.out.e.later hB) hg h3 (Src.same w a1 c.echoes) (.inr fg) f3
  generalize RTold w a1 a2 c _ = Q at RT ⊢
  clear h hv h8 hl' SM LN
  dsimp only [Vt.none, List.length_nil, List.length_cons] at RT
  clear H0
  rw [hd] at *
  clear hd
  rw [hr] at *
  clear hr
  generalize Vt.sizeB l' x = sz at *
  generalize Cn.readies n = ne at *
  generalize Cn.enough n = nn at *
  generalize c.echoed = e at *
  generalize c.echoes.length = m1 at *
  generalize c.readies.length = m2 at *
  go_enter Try.func42, Try.ntmps42
  go_wp2_with fail
  refine (VT.out _ X0.out.below).mono ?_
  rintro z V ⟨rfl, hw⟩
  have X1 : Aside (RBox w V (.bool e) (.bool true) (.bool false) (.slice a1 m1 c1) (.slice a2 m2 c2)) := by rw [hw]; exact X0.out
  clear hw X0 VT
  obtain ⟨y0, y1, y2, y3, y4⟩ := X1.out.c.cells
  go_wp2_with fail
  refine (WT.out _ X1.out.below).mono ?_
  rintro z w2 ⟨g, k, rfl, ho, hb⟩
  have M0 : Aside (RMid w _ w2.heap.size (.bool e) (.bool true) (.bool false) (.slice a1 m1 c1) (.slice g l'.length k) g l') := rmid4 X1.out hb ho
  have OF : Aside (Off w2.heap.size g l') := mid_off M0.out ho
  have X2 : Aside (RBox w w2 (.bool e) (.bool true) (.bool false) (.slice a1 m1 c1) (.slice a2 m2 c2)) := X1.out.later hb
  clear X1 WT hb ho y0 y1 y2 y3 y4
  obtain ⟨y0, y1, y2, y3, y4⟩ := X2.out.c.cells
  have yl := X2.out.c.lt
  have yf := X2.out.c.frozen
  go_wp2_with fail
  refine (?_ : ∀ W, RMid w W w2.heap.size (.bool e) (.bool true) (.bool false) (.slice a1 m1 c1) (.slice g l'.length k) g l' → Calls Try.prog 64 _ W _) _ M0.out
  intro W hM
  clear M0 X2 y0 y1 y2 y3 y4 yl yf
  generalize w2.heap.size = tb at hM OF ⊢
  refine (VO.out _ g k hM.at_).mono ?_
  rintro z w4 ⟨rfl, hb4⟩
  have M1 : Aside (RMid w w4 tb (.bool e) (.bool true) (.bool false) (.slice a1 m1 c1) (.slice g l'.length k) g l') := hM.later hb4
  clear hM hb4
  go_wp2_with fail
  refine (EC.out _).mono ?_
  rintro z w5 ⟨rfl, hw⟩
  replace hw := hw.symm; subst hw
  clear EC
  obtain ⟨y0, y1, y2, y3, y4⟩ := M1.out.box.c.cells
  obtain ⟨t0, t1, t2, t3, t4, t5, t6, t7, t8⟩ := M1.out.t.cells
  have tf := M1.out.t.frozen
  have tl := M1.out.t.lt
  have tn := M1.out.lt
  have RY : Aside (∀ W, _) := fun W => rready_yes e false false a1 g none m1 l'.length 0 c1 k 0 ⟨#[]⟩ x 0 W
  go_wp2_with fail
  refine (RY.out _).mono ?_
  rintro z w5 ⟨rfl, hb5⟩
  have M2 : Aside (RMid w w5 tb (.bool e) (.bool true) (.bool false) (.slice a1 m1 c1) (.slice g l'.length k) g l') := M1.out.later hb5
  have D0 : Aside (RDone w (S9 w5 tb (.bool e) (.bool true) (.bool false) (.slice a1 m1 c1) (.slice g l'.length k) (.slice none 0 0) (.string ⟨#[]⟩) (.bool false) (.int .i64 0)) tb (.bool e) (.bool true) (.bool false) (.slice a1 m1 c1) (.slice g l'.length k) (.bool true) (.slice none 0 0) g l' none []) := rdone_set M2.out OF.out _ _ (.inl rfl) (Fr.none _) (fun _ e => nomatch e)
  clear RY hb5 M1 y0 y1 y2 y3 y4 t0 t1 t2 t3 t4 t5 t6 t7 t8 tf tl tn
  obtain ⟨y0, y1, y2, y3, y4⟩ := M2.out.box.c.cells
  obtain ⟨t0, t1, t2, t3, t4, t5, t6, t7, t8⟩ := M2.out.t.cells
  have tf := M2.out.t.frozen
  have tl := M2.out.t.lt
  have tn := M2.out.lt
  have tn1 : w.heap.size ≠ tb := by omega
  have tn2 := tn1.symm
  have tn3 : w.heap.size + 1 ≠ tb := by omega
  have tn4 := tn3.symm
  go_wp2_with fail
  refine (?_ : ∀ W, RDone w W tb (.bool e) (.bool true) (.bool false) (.slice a1 m1 c1) (.slice g l'.length k) (.bool true) (.slice none 0 0) g l' none [] → Calls Try.prog 64 _ W _) _ D0.out
  intro W hD
  clear M2 D0 y0 y1 y2 y3 y4 t0 t1 t2 t3 t4 t5 t6 t7 t8 tf tl tn
  refine (VO.out _ g k hD.at_).mono ?_
  rintro z w6 ⟨rfl, hb6⟩
  have D1 : Aside (RDone w w6 tb (.bool e) (.bool true) (.bool false) (.slice a1 m1 c1) (.slice g l'.length k) (.bool true) (.slice none 0 0) g l' none []) := hD.later hb6
  clear hD hb6 VO
  go_wp2_with fail
  refine (EN.out _).mono ?_
  rintro z w7 ⟨rfl, hw⟩
  replace hw := hw.symm; subst hw
  clear EN
  obtain ⟨t0, t1, t2, t3, t4, t5, t6, t7, t8⟩ := D1.out.t.cells
  have tf := D1.out.t.frozen
  have tl := D1.out.t.lt
  have tn := D1.out.lt
  have E1 : Aside (_ ∧ _ ∧ _ ∧ _) := rdone_told D1.out x
  have Q1 : Aside (∀ o, Q _ _) := fun o => RT.out _ g k none 0 E1.out.1.below E1.out.2.2.1 D1.out.fr E1.out.2.2.2 D1.out.fo o
  have zf := D1.out.box.r.frozen
  have zl := D1.out.box.r.lt
  obtain ⟨z0, z1, z2, z3, z4, z5, z6, z7, z8⟩ := D1.out.box.r.cells
  have tn1 : w6.heap.size ≠ tb := by omega
  have tn2 := tn1.symm
  have tn3 : w.heap.size + 1 ≠ tb := by omega
  have tn4 := tn3.symm
  have tn5 : w.heap.size + 1 ≠ w6.heap.size := by omega
  have tn6 := tn5.symm
  clear RT OF
  go_wp2
  refine ⟨rfl, _, ?_, Q1.out _⟩
  obtain ⟨d0, d1, d2, d3, d4, d5, d6, d7, d8⟩ := ((E1.out.1.r.set (.bool e) (.bool true) (.bool true) (.slice a1 m1 c1) (.slice g l'.length k) (.slice none 0 0) (.string x) (.bool true) (.int .i64 0)).alloc (.cells #[.bool e, .bool true, .bool true, .slice a1 m1 c1, .slice g l'.length k] 24)).cells
  simp only [S9] at d0 d1 d2 d3 d4 d5 d6 d7 d8
  simp [results, Try.results42, go_sem, d0, d1, d2, d3, d4, d5, d6, d7, d8]
end Go.Proofs.Ytlekbbpancaenaa
