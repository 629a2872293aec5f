/- The walk of VoteErrors: with an error a case stays, nothing is cast, and nothing is delivered; a vote that is taken stays. -/
import Derived.Test.YtlekbbpancaenaaVtS
namespace Go.Proofs.Ytlekbbpancaenaa
open Go.RowKit Go.Shelf

set_option maxHeartbeats 16000000 in
set_option maxRecDepth 100000 in
theorem errors_walk (e r d : Bool) (a1 a2 : Option Addr) (c1 c2 : Nat) (l1 l2 : Vt.Bal) (ms frm : Nat) (kd : Int) (id : Nat) (x : ByteArray) (w : World) (hms : ms < 65536) (h1 : Vt.At w a1 l1 ∧ Vt.Small l1) (h2 : Vt.At w a2 l2 ∧ Vt.Small l2) :
    Calls Try.prog 7 #[.agg #[.bool e, .bool r, .bool d, .slice a1 l1.length c1, .slice a2 l2.length c2], .agg #[.int .u16 (ms : Int), .int .u8 (frm : Int)], .agg #[.int .i64 kd, .int .u8 (id : Int), .string x]] w fun z w' => z = .returned (.bool true) ∧ Below w.heap.size w w' := by
  have AL : Aside (∀ W, _) := fun W => alive_any W
  have H0 : Aside ((Vt.At w a1 l1 ∧ Vt.Small l1) ∧ (Vt.At w a2 l2 ∧ Vt.Small l2) ∧ ms < 65536) := ⟨h1, h2, hms⟩
  have F1 : Aside (∀ W, _) := fun W => few_any a1 l1.length c1 W
  have F2 : Aside (∀ W, _) := fun W => few_any a2 l2.length c2 W
  have X0 : Aside (Boxed w _ 24 e r d (.slice a1 l1.length c1) (.slice a2 l2.length c2) ms frm kd id x) := boxed_new w 24 e r d (.slice a1 l1.length c1) (.slice a2 l2.length c2) ms frm kd id x
  clear h1 h2 hms
  go_enter Try.func7, Try.ntmps7
  go_wp2_with fail
  refine (AL.out _).mono ?_
  rintro z V ⟨rfl, hb⟩
  have X1 : Aside (Boxed w V 24 e r d (.slice a1 l1.length c1) (.slice a2 l2.length c2) ms frm kd id x) := X0.out.later hb
  clear X0 hb AL
  have q0 := X1.out.c0; have q1 := X1.out.c1; have q2 := X1.out.c2; have q3 := X1.out.c3; have q4 := X1.out.c4; have q5 := X1.out.p0; have q6 := X1.out.p1; have q7 := X1.out.v0; have q8 := X1.out.v1; have q9 := X1.out.v2; have ql := X1.out.size
  by_cases f1 : l1.length ≤ 20
  · rw [decide_eq_true f1] at F1
    by_cases f2 : l2.length ≤ 20
    · rw [decide_eq_true f2] at F2
      have S1 : Aside (∀ W, Below w.heap.size w W → Calls Try.prog 14 #[.slice a1 l1.length c1] W (SoundPost l1 W)) := fun W hb => sound_any a1 c1 l1 W (H0.out.1.1.later hb) H0.out.1.2 (by omega)
      have S2 : Aside (∀ W, Below w.heap.size w W → Calls Try.prog 14 #[.slice a2 l2.length c2] W (SoundPost l2 W)) := fun W hb => sound_any a2 c2 l2 W (H0.out.2.1.1.later hb) H0.out.2.1.2 (by omega)
      go_wp2_with fail
      refine (F1.out _).mono ?_
      rintro z w1 ⟨rfl, hw⟩
      replace hw := hw.symm; subst hw
      clear F1
      go_wp2_with fail
      refine (F2.out _).mono ?_
      rintro z w1 ⟨rfl, hw⟩
      replace hw := hw.symm; subst hw
      clear F2
      go_wp2_with fail
      refine (S1.out _ X1.out.below).mono ?_
      rintro z w1 ⟨sb, rfl, -, hd⟩
      obtain ⟨q, hq⟩ := hd
      have X2 : Aside (Boxed w w1 24 e r d (.slice a1 l1.length c1) (.slice a2 l2.length c2) ms frm kd id x) := by rw [hq]; exact X1.out.drew q
      clear S1 X1 hq q0 q1 q2 q3 q4 q5 q6 q7 q8 q9 ql
      have q0 := X2.out.c0; have q1 := X2.out.c1; have q2 := X2.out.c2; have q3 := X2.out.c3; have q4 := X2.out.c4; have q5 := X2.out.p0; have q6 := X2.out.p1; have q7 := X2.out.v0; have q8 := X2.out.v1; have q9 := X2.out.v2; have ql := X2.out.size
      cases sb with
      | false =>
        have B9 : Aside (Below w.heap.size w w1) := X2.out.below
        clear S2
        go_wp2
        go_ret
        exact ⟨rfl, B9.out⟩
      | true =>
      go_wp2_with fail
      refine (S2.out _ X2.out.below).mono ?_
      rintro z V2 ⟨sb, rfl, -, hd⟩
      obtain ⟨q, hq⟩ := hd
      have X3 : Aside (Boxed w V2 24 e r d (.slice a1 l1.length c1) (.slice a2 l2.length c2) ms frm kd id x) := by rw [hq]; exact X2.out.drew q
      clear S2 X2 hq q0 q1 q2 q3 q4 q5 q6 q7 q8 q9 ql
      have q0 := X3.out.c0; have q1 := X3.out.c1; have q2 := X3.out.c2; have q3 := X3.out.c3; have q4 := X3.out.c4; have q5 := X3.out.p0; have q6 := X3.out.p1; have q7 := X3.out.v0; have q8 := X3.out.v1; have q9 := X3.out.v2; have ql := X3.out.size
      cases sb with
      | false =>
        have B9 : Aside (Below w.heap.size w V2) := X3.out.below
        go_wp2
        go_ret
        exact ⟨rfl, B9.out⟩
      | true =>
      by_cases hx : (1100 : Int) < (x.size : Int)
      · have B9 : Aside (Below w.heap.size w V2) := X3.out.below
        go_wp2
        go_ret
        exact ⟨rfl, B9.out⟩
      obtain ⟨t, ht⟩ : ∃ t, Vt.take ⟨e, r, d, l1, l2⟩ ms frm kd id x = t := ⟨_, rfl⟩
      have TT : Aside (Vt.take ⟨e, r, d, l1, l2⟩ ms frm kd id x = t ∧ l1.length ≤ 20 ∧ l2.length ≤ 20) := ⟨ht, f1, f2⟩
      clear ht f1 f2
      have TH : Aside (∀ W, Below V2.heap.size V2 W → _) := fun (W : World) (hb : Below V2.heap.size V2 W) => theirs_let (e := e) (r := r) (d := d) (c1 := c1) (c2 := c2) (H0.out.1.1.later (below_step X3.out.below hb)) (H0.out.2.1.1.later (below_step X3.out.below hb)) TT.out.2.1 TT.out.2.2
      have TK : Aside (∀ W g1 g2 j1 j2, Vt.At W g1 l1 → Vt.At W g2 l2 → _) := fun (W : World) (g1 g2 : Option Addr) (j1 j2 : Nat) (q1 : Vt.At W g1 l1) (q2 : Vt.At W g2 l2) => take_parts (j1 := j1) (j2 := j2) TT.out.1 q1 q2 H0.out.1.2 H0.out.2.1.2 TT.out.2.1 TT.out.2.2 H0.out.2.2
      have BV : Aside (Below V2.heap.size V2 V2.drew ∧ ∀ o, Below V2.heap.size V2 (V2.drew.alloc o)) := ⟨(Below.refl _ V2).drew, fun o => (Below.refl _ V2).drew.alloc (Nat.le_refl _) o⟩
      go_wp2_with fail
      go_region_held3 (fun w' => w'.cell? ⟨w.heap.size, 0, none⟩ = some (.bool e) ∧ w'.cell? ⟨w.heap.size, 1, none⟩ = some (.bool r) ∧ w'.cell? ⟨w.heap.size, 2, none⟩ = some (.bool d) ∧ w'.cell? ⟨w.heap.size, 3, none⟩ = some (.slice a1 l1.length c1) ∧ w'.cell? ⟨w.heap.size, 4, none⟩ = some (.slice a2 l2.length c2) ∧ w'.cell? ⟨w.heap.size + 1, 0, none⟩ = some (.int .u16 (ms : Int)) ∧ w'.cell? ⟨w.heap.size + 1, 1, none⟩ = some (.int .u8 (frm : Int)) ∧ w'.cell? ⟨w.heap.size + 2, 0, none⟩ = some (.int .i64 kd) ∧ w'.cell? ⟨w.heap.size + 2, 1, none⟩ = some (.int .u8 (id : Int)) ∧ w'.cell? ⟨w.heap.size + 2, 2, none⟩ = some (.string x))
        (first | go_keep)
        (first
          | (go_at_call 16; refine (TH.out V2.drew BV.out.1).mono ?_; rintro z w3 ⟨g1, j1, g2, j2, rfl, hA⟩; have X4 : Aside (Boxed w w3 24 e r d (.slice a1 l1.length c1) (.slice a2 l2.length c2) ms frm kd id x ∧ Vt.At w3 g1 l1 ∧ Vt.At w3 g2 l2) := ⟨X3.out.later (below_step BV.out.1 hA.out.2.2), hA.out.1, hA.out.2.1⟩; clear hA q0 q1 q2 q3 q4 q5 q6 q7 q8 q9; obtain ⟨q0, q1, q2, q3, q4, q5, q6, q7, q8, q9⟩ := X4.out.1.ten)
          | (go_at_call 16; refine (TH.out (V2.drew.alloc (.cells #[.bool false, .bool false, .bool false, .slice none 0 0, .slice none 0 0] 35)) (BV.out.2 _)).mono ?_; rintro z w3 ⟨g1, j1, g2, j2, rfl, hA⟩; have X4 : Aside (Boxed w w3 24 e r d (.slice a1 l1.length c1) (.slice a2 l2.length c2) ms frm kd id x ∧ Vt.At w3 g1 l1 ∧ Vt.At w3 g2 l2 ∧ C5 w3 V2.heap.size (.bool false) (.bool false) (.bool false) (.slice none 0 0) (.slice none 0 0) ∧ V2.heap.size < w3.heap.size) := ⟨X3.out.later (below_step (BV.out.2 _) hA.out.2.2), hA.out.1, hA.out.2.1, (C5.new V2.drew _ _ _ _ _).later hA.out.2.2, by have := hA.out.2.2.size; simp at this; omega⟩; clear hA q0 q1 q2 q3 q4 q5 q6 q7 q8 q9; obtain ⟨q0, q1, q2, q3, q4, q5, q6, q7, q8, q9⟩ := X4.out.1.ten)
          | (go_at_call 15; refine (TK.out w3 g1 g2 j1 j2 X4.out.2.1 X4.out.2.2).mono ?_; rintro z w4 ⟨b1, k1, b2, k2, ao, co, rfl, hA⟩; have X5' : Aside (Boxed w w4 24 e r d (.slice a1 l1.length c1) (.slice a2 l2.length c2) ms frm kd id x) := X4.out.1.later hA.out.2.2.2.1; clear q0 q1 q2 q3 q4 q5 q6 q7 q8 q9; obtain ⟨q0, q1, q2, q3, q4, q5, q6, q7, q8, q9⟩ := X5'.out.ten)
          | (go_at_call 15; refine (TK.out w3 g1 g2 j1 j2 X4.out.2.1 X4.out.2.2.1).mono ?_; rintro z w4 ⟨b1, k1, b2, k2, ao, co, rfl, hA⟩; have X5' : Aside (Boxed w w4 24 e r d (.slice a1 l1.length c1) (.slice a2 l2.length c2) ms frm kd id x ∧ C5 w4 V2.heap.size (.bool false) (.bool false) (.bool false) (.slice none 0 0) (.slice none 0 0)) := ⟨X4.out.1.later hA.out.2.2.2.1, X4.out.2.2.2.1.later hA.out.2.2.2.1⟩; clear q0 q1 q2 q3 q4 q5 q6 q7 q8 q9; obtain ⟨q0, q1, q2, q3, q4, q5, q6, q7, q8, q9⟩ := X5'.out.1.ten; have nz0 : w.heap.size ≠ V2.heap.size := Nat.ne_of_lt (Nat.lt_of_le_of_lt (Nat.le_add_right _ 2) X3.out.size); have nz1 : w.heap.size + 1 ≠ V2.heap.size := Nat.ne_of_lt (Nat.lt_of_le_of_lt (Nat.le_succ _) X3.out.size); have nz2 : w.heap.size + 2 ≠ V2.heap.size := Nat.ne_of_lt X3.out.size; have ny0 := nz0.symm; have ny1 := nz1.symm; have ny2 := nz2.symm; obtain ⟨z0, z1, z2, z3, z4⟩ := X5'.out.2.cells; have zf := X5'.out.2.frozen; have zl := X5'.out.2.lt)
          | (go_at_call 15; refine (TK.out (w3.alloc (.cells #[.bool false, .bool false, .bool false, .slice none 0 0, .slice none 0 0] 35)) g1 g2 j1 j2 (X4.out.2.1.later ((Below.refl _ w3).alloc (Nat.le_refl _) _)) (X4.out.2.2.later ((Below.refl _ w3).alloc (Nat.le_refl _) _))).mono ?_; rintro z w4 ⟨b1, k1, b2, k2, ao, co, rfl, hA⟩; have X5' : Aside (Boxed w w4 24 e r d (.slice a1 l1.length c1) (.slice a2 l2.length c2) ms frm kd id x ∧ C5 w4 w3.heap.size (.bool false) (.bool false) (.bool false) (.slice none 0 0) (.slice none 0 0)) := ⟨(X4.out.1.later ((Below.refl _ w3).alloc (Nat.le_refl _) _)).later hA.out.2.2.2.1, (C5.new w3 _ _ _ _ _).later hA.out.2.2.2.1⟩; clear q0 q1 q2 q3 q4 q5 q6 q7 q8 q9; obtain ⟨q0, q1, q2, q3, q4, q5, q6, q7, q8, q9⟩ := X5'.out.1.ten; have nz0 : w.heap.size ≠ w3.heap.size := Nat.ne_of_lt (Nat.lt_of_le_of_lt (Nat.le_add_right _ 2) X4.out.1.size); have nz1 : w.heap.size + 1 ≠ w3.heap.size := Nat.ne_of_lt (Nat.lt_of_le_of_lt (Nat.le_succ _) X4.out.1.size); have nz2 : w.heap.size + 2 ≠ w3.heap.size := Nat.ne_of_lt X4.out.1.size; have ny0 := nz0.symm; have ny1 := nz1.symm; have ny2 := nz2.symm; obtain ⟨z0, z1, z2, z3, z4⟩ := X5'.out.2.cells; have zf := X5'.out.2.frozen; have zl := X5'.out.2.lt)
          | fail)
      · refine (?_ : ∀ W, (Boxed w W 24 e r d (.slice a1 l1.length c1) (.slice a2 l2.length c2) ms frm kd id x ∧ Took w W w4.heap.size t b1 b2 ao k1 k2) → Exit.then _ _ _ _ W) _ ⟨X5'.out.later ((Below.refl _ w4).alloc (Nat.le_refl _) _), took_new hA.out.1 hA.out.2.1 hA.out.2.2.1 w⟩
        intro W hW
        generalize w4.heap.size = pb at hW ⊢
        have HW : Aside (Boxed w W 24 e r d (.slice a1 l1.length c1) (.slice a2 l2.length c2) ms frm kd id x ∧ Took w W pb t b1 b2 ao k1 k2) := hW
        have BS : Aside (Below W.heap.size W W.drew) := (Below.refl _ W).drew
        clear hW hA X3 X4 X5' TH TK BV q0 q1 q2 q3 q4 q5 q6 q7 q8 q9
        by_cases he : t.e = 0
        · rw [he]
          have TA := Vt.take_again TT.out.1 he
          have LN := Vt.take_len ⟨e, r, d, l1, l2⟩ ms frm kd id x
          have SM := Vt.take_small (c := ⟨e, r, d, l1, l2⟩) ⟨H0.out.1.2, H0.out.2.1.2⟩ ms frm kd id x
          have IN : Aside (d = true → t.is = false) := fun h => Vt.is_new TT.out.1 h
          have RS : Aside (r = true → t.c.readied = true) := fun h => Vt.readied_stays TT.out.1 h
          rw [TT.out.1] at LN SM
          have T2 : Aside (Calls Try.prog 15 #[.agg #[.bool t.c.echoed, .bool t.c.readied, .bool t.c.done, .slice b1 t.c.echoes.length k1, .slice b2 t.c.readies.length k2], .int .u16 (ms : Nat), .int .u8 (frm : Nat), .int .i64 kd, .int .u8 (id : Nat), .string x] W _) :=
            take_let TA ⟨HW.out.2.at_.2.1, HW.out.2.at_.2.2, SM, by have := TT.out.2.1; have := LN.1; dsimp only at this; omega, by have := TT.out.2.2; have := LN.2; dsimp only at this; omega⟩ H0.out.2.2
          obtain ⟨q0, q1, q2, q3, q4, q5, q6, q7, q8, q9⟩ := HW.out.1.ten
          obtain ⟨u0, u1, u2, u3, u4⟩ := HW.out.2.at_.1.cells
          have pl := HW.out.2.at_.1.lt
          clear TA LN SM TT
          go_wp2_with fail
          refine T2.out.mono ?_
          rintro z w6 ⟨e1, i1, e2, i2, eo, io, rfl, hA⟩
          have X6 : Aside (Boxed w w6 24 e r d (.slice a1 l1.length c1) (.slice a2 l2.length c2) ms frm kd id x ∧ Took w w6 pb t b1 b2 ao k1 k2) := ⟨HW.out.1.later hA.out.2.2.2.1, HW.out.2.later hA.out.2.2.2.1⟩
          have B9 : Aside (∀ o, Below w.heap.size w (w6.alloc o)) := fun o => X6.out.1.below.alloc X6.out.1.below.size o
          clear hA T2 HW q0 q1 q2 q3 q4 q5 q6 q7 q8 q9 u0 u1 u2 u3 u4 pl
          obtain ⟨q0, q1, q2, q3, q4, q5, q6, q7, q8, q9⟩ := X6.out.1.ten
          obtain ⟨u0, u1, u2, u3, u4⟩ := X6.out.2.at_.1.cells
          have pl := X6.out.2.at_.1.lt
          have ql : w.heap.size < w6.heap.size := by have := X6.out.1.size; omega
          clear X6
          generalize t.is = is at *
          generalize t.c.readied = rd at *
          cases d with
          | true =>
            have h1 := IN.out rfl
            subst h1
            cases r with
            | true =>
              have h2 := RS.out rfl
              subst h2
              clear IN RS
              go_wp2
              go_ret
              exact ⟨rfl, B9.out _⟩
            | false =>
              clear IN RS
              go_wp2
              go_ret
              exact ⟨rfl, B9.out _⟩
          | false =>
            cases r with
            | true =>
              have h2 := RS.out rfl
              subst h2
              clear IN RS
              go_wp2
              go_ret
              exact ⟨rfl, B9.out _⟩
            | false =>
              clear IN RS
              go_wp2
              go_ret
              exact ⟨rfl, B9.out _⟩
        · have hT := Vt.take_err TT.out.1 he
          obtain ⟨te, hte⟩ : ∃ te, te = t.e := ⟨_, rfl⟩
          rw [← hte] at hT he ⊢
          clear hte
          have LL : Aside (l1.length ≤ 20 ∧ l2.length ≤ 20) := ⟨TT.out.2.1, TT.out.2.2⟩
          clear TT
          subst hT
          have t9 : ((te : Int) != 0) = true := by
            have : ¬ (te : Int) = 0 := by omega
            simpa using this
          obtain ⟨K0, hb0⟩ := HW.out
          have OU : Aside (∀ X, Below W.heap.size W X → Calls Try.prog 19 #[.agg #[.bool e, .bool r, .bool d, .slice b1 l1.length k1, .slice b2 l2.length k2]] X fun z w' => ∃ g1 j1 g2 j2, z = .returned (.agg #[.bool e, .bool r, .bool d, .slice g1 l1.length j1, .slice g2 l2.length j2]) ∧ Aside (Vt.At w' g1 l1 ∧ Vt.At w' g2 l2 ∧ Below X.heap.size X w')) := fun X hb =>
            (ours_any e r d b1 b2 k1 k2 l1 l2 X (hb0.at_.2.1.later hb) (hb0.at_.2.2.later hb) (Nat.le_trans LL.out.1 (by decide)) (Nat.le_trans LL.out.2 (by decide))).mono fun _ _ ⟨g1, j1, g2, j2, h0, h1, h2, h3⟩ => ⟨g1, j1, g2, j2, h0, h1, h2, h3⟩
          have SE : Aside (∀ X g1 g2 j1 j2, Vt.At X g1 l1 → Vt.At X g2 l2 → Below w.heap.size w X → Calls Try.prog 18 #[.agg #[.bool e, .bool r, .bool d, .slice g1 l1.length j1, .slice g2 l2.length j2], .agg #[.bool e, .bool r, .bool d, .slice a1 l1.length c1, .slice a2 l2.length c2]] X fun z w' => z = .returned (.bool true) ∧ Below X.heap.size X w') := fun X g1 g2 j1 j2 p1 p2 hb =>
            same_eq e r d g1 g2 a1 a2 j1 j2 c1 c2 l1 l2 X p1 p2 (H0.out.1.1.later hb) (H0.out.2.1.1.later hb) (Nat.le_trans LL.out.1 (by decide)) (Nat.le_trans LL.out.2 (by decide))
          clear K0 hb0
          obtain ⟨q0, q1, q2, q3, q4, q5, q6, q7, q8, q9⟩ := HW.out.1.ten
          obtain ⟨u0, u1, u2, u3, u4⟩ := HW.out.2.at_.1.cells
          unfold Vt.err Vt.none at *
          dsimp only at u0 u1 u2 u3 u4 ⊢
          clear q5 q6 q7 q8 q9
          go_wp2_with fail
          go_region_held3 (fun w' => w'.cell? ⟨w.heap.size, 0, none⟩ = some (.bool e) ∧ w'.cell? ⟨w.heap.size, 1, none⟩ = some (.bool r) ∧ w'.cell? ⟨w.heap.size, 2, none⟩ = some (.bool d) ∧ w'.cell? ⟨w.heap.size, 3, none⟩ = some (.slice a1 l1.length c1) ∧ w'.cell? ⟨w.heap.size, 4, none⟩ = some (.slice a2 l2.length c2) ∧
              w'.cell? ⟨pb, 0, none⟩ = some (.bool e) ∧ w'.cell? ⟨pb, 1, none⟩ = some (.bool r) ∧ w'.cell? ⟨pb, 2, none⟩ = some (.bool d) ∧ w'.cell? ⟨pb, 3, none⟩ = some (.slice b1 l1.length k1) ∧ w'.cell? ⟨pb, 4, none⟩ = some (.slice b2 l2.length k2))
            (first | go_keep)
            (first
              | (go_at_call 19; refine (OU.out W.drew BS.out).mono ?_; rintro z w7 ⟨g1, j1, g2, j2, rfl, hA⟩; have X7 : Aside (Boxed w w7 24 e r d (.slice a1 l1.length c1) (.slice a2 l2.length c2) ms frm kd id x ∧ Took w w7 pb _ b1 b2 ao k1 k2 ∧ Vt.At w7 g1 l1 ∧ Vt.At w7 g2 l2) := ⟨HW.out.1.later (below_step BS.out hA.out.2.2), HW.out.2.later (below_step BS.out hA.out.2.2), hA.out.1, hA.out.2.1⟩; clear hA q0 q1 q2 q3 q4 u0 u1 u2 u3 u4; obtain ⟨q0, q1, q2, q3, q4, -, -, -, -, -⟩ := X7.out.1.ten; obtain ⟨u0, u1, u2, u3, u4⟩ := X7.out.2.1.at_.1.cells)
              | (go_at_call 18; refine (SE.out w7 g1 g2 j1 j2 X7.out.2.2.1 X7.out.2.2.2 X7.out.1.below).mono ?_; rintro z w8 ⟨rfl, hb8⟩; have B8 : Aside (Below w.heap.size w w8) := below_step X7.out.1.below hb8; have X8 : Aside (Boxed w w8 24 e r d (.slice a1 l1.length c1) (.slice a2 l2.length c2) ms frm kd id x ∧ Took w w8 pb _ b1 b2 ao k1 k2) := ⟨X7.out.1.later hb8, X7.out.2.1.later hb8⟩; clear hb8 q0 q1 q2 q3 q4 u0 u1 u2 u3 u4; obtain ⟨q0, q1, q2, q3, q4, -, -, -, -, -⟩ := X8.out.1.ten; obtain ⟨u0, u1, u2, u3, u4⟩ := X8.out.2.at_.1.cells)
              | fail)
          go_wp2
          go_ret
          exact ⟨rfl, B8.out⟩
      · refine (?_ : ∀ W, (Boxed w W 24 e r d (.slice a1 l1.length c1) (.slice a2 l2.length c2) ms frm kd id x ∧ Took w W w3.heap.size t b1 b2 ao k1 k2) → Exit.then _ _ _ _ W) _ ⟨X5'.out.1.set5 X4.out.1.size _ _ _ _ _, took_old (w0 := w3.alloc (.cells #[.bool false, .bool false, .bool false, .slice none 0 0, .slice none 0 0] 35)) X5'.out.2 hA.out.1 hA.out.2.1 hA.out.2.2.1 hA.out.2.2.2.2.1 hA.out.2.2.2.2.2.1 hA.out.2.2.2.2.2.2 (by simp) w⟩
        intro W hW
        generalize w3.heap.size = pb at hW ⊢
        have HW : Aside (Boxed w W 24 e r d (.slice a1 l1.length c1) (.slice a2 l2.length c2) ms frm kd id x ∧ Took w W pb t b1 b2 ao k1 k2) := hW
        have BS : Aside (Below W.heap.size W W.drew) := (Below.refl _ W).drew
        clear hW hA X3 X4 X5' TH TK BV q0 q1 q2 q3 q4 q5 q6 q7 q8 q9 nz0 nz1 nz2 ny0 ny1 ny2 z0 z1 z2 z3 z4 zf zl
        by_cases he : t.e = 0
        · rw [he]
          have TA := Vt.take_again TT.out.1 he
          have LN := Vt.take_len ⟨e, r, d, l1, l2⟩ ms frm kd id x
          have SM := Vt.take_small (c := ⟨e, r, d, l1, l2⟩) ⟨H0.out.1.2, H0.out.2.1.2⟩ ms frm kd id x
          have IN : Aside (d = true → t.is = false) := fun h => Vt.is_new TT.out.1 h
          have RS : Aside (r = true → t.c.readied = true) := fun h => Vt.readied_stays TT.out.1 h
          rw [TT.out.1] at LN SM
          have T2 : Aside (Calls Try.prog 15 #[.agg #[.bool t.c.echoed, .bool t.c.readied, .bool t.c.done, .slice b1 t.c.echoes.length k1, .slice b2 t.c.readies.length k2], .int .u16 (ms : Nat), .int .u8 (frm : Nat), .int .i64 kd, .int .u8 (id : Nat), .string x] W _) :=
            take_let TA ⟨HW.out.2.at_.2.1, HW.out.2.at_.2.2, SM, by have := TT.out.2.1; have := LN.1; dsimp only at this; omega, by have := TT.out.2.2; have := LN.2; dsimp only at this; omega⟩ H0.out.2.2
          obtain ⟨q0, q1, q2, q3, q4, q5, q6, q7, q8, q9⟩ := HW.out.1.ten
          obtain ⟨u0, u1, u2, u3, u4⟩ := HW.out.2.at_.1.cells
          have pl := HW.out.2.at_.1.lt
          clear TA LN SM TT
          go_wp2_with fail
          refine T2.out.mono ?_
          rintro z w6 ⟨e1, i1, e2, i2, eo, io, rfl, hA⟩
          have X6 : Aside (Boxed w w6 24 e r d (.slice a1 l1.length c1) (.slice a2 l2.length c2) ms frm kd id x ∧ Took w w6 pb t b1 b2 ao k1 k2) := ⟨HW.out.1.later hA.out.2.2.2.1, HW.out.2.later hA.out.2.2.2.1⟩
          have B9 : Aside (∀ o, Below w.heap.size w (w6.alloc o)) := fun o => X6.out.1.below.alloc X6.out.1.below.size o
          clear hA T2 HW q0 q1 q2 q3 q4 q5 q6 q7 q8 q9 u0 u1 u2 u3 u4 pl
          obtain ⟨q0, q1, q2, q3, q4, q5, q6, q7, q8, q9⟩ := X6.out.1.ten
          obtain ⟨u0, u1, u2, u3, u4⟩ := X6.out.2.at_.1.cells
          have pl := X6.out.2.at_.1.lt
          have ql : w.heap.size < w6.heap.size := by have := X6.out.1.size; omega
          clear X6
          generalize t.is = is at *
          generalize t.c.readied = rd at *
          cases d with
          | true =>
            have h1 := IN.out rfl
            subst h1
            cases r with
            | true =>
              have h2 := RS.out rfl
              subst h2
              clear IN RS
              go_wp2
              go_ret
              exact ⟨rfl, B9.out _⟩
            | false =>
              clear IN RS
              go_wp2
              go_ret
              exact ⟨rfl, B9.out _⟩
          | false =>
            cases r with
            | true =>
              have h2 := RS.out rfl
              subst h2
              clear IN RS
              go_wp2
              go_ret
              exact ⟨rfl, B9.out _⟩
            | false =>
              clear IN RS
              go_wp2
              go_ret
              exact ⟨rfl, B9.out _⟩
        · have hT := Vt.take_err TT.out.1 he
          obtain ⟨te, hte⟩ : ∃ te, te = t.e := ⟨_, rfl⟩
          rw [← hte] at hT he ⊢
          clear hte
          have LL : Aside (l1.length ≤ 20 ∧ l2.length ≤ 20) := ⟨TT.out.2.1, TT.out.2.2⟩
          clear TT
          subst hT
          have t9 : ((te : Int) != 0) = true := by
            have : ¬ (te : Int) = 0 := by omega
            simpa using this
          obtain ⟨K0, hb0⟩ := HW.out
          have OU : Aside (∀ X, Below W.heap.size W X → Calls Try.prog 19 #[.agg #[.bool e, .bool r, .bool d, .slice b1 l1.length k1, .slice b2 l2.length k2]] X fun z w' => ∃ g1 j1 g2 j2, z = .returned (.agg #[.bool e, .bool r, .bool d, .slice g1 l1.length j1, .slice g2 l2.length j2]) ∧ Aside (Vt.At w' g1 l1 ∧ Vt.At w' g2 l2 ∧ Below X.heap.size X w')) := fun X hb =>
            (ours_any e r d b1 b2 k1 k2 l1 l2 X (hb0.at_.2.1.later hb) (hb0.at_.2.2.later hb) (Nat.le_trans LL.out.1 (by decide)) (Nat.le_trans LL.out.2 (by decide))).mono fun _ _ ⟨g1, j1, g2, j2, h0, h1, h2, h3⟩ => ⟨g1, j1, g2, j2, h0, h1, h2, h3⟩
          have SE : Aside (∀ X g1 g2 j1 j2, Vt.At X g1 l1 → Vt.At X g2 l2 → Below w.heap.size w X → Calls Try.prog 18 #[.agg #[.bool e, .bool r, .bool d, .slice g1 l1.length j1, .slice g2 l2.length j2], .agg #[.bool e, .bool r, .bool d, .slice a1 l1.length c1, .slice a2 l2.length c2]] X fun z w' => z = .returned (.bool true) ∧ Below X.heap.size X w') := fun X g1 g2 j1 j2 p1 p2 hb =>
            same_eq e r d g1 g2 a1 a2 j1 j2 c1 c2 l1 l2 X p1 p2 (H0.out.1.1.later hb) (H0.out.2.1.1.later hb) (Nat.le_trans LL.out.1 (by decide)) (Nat.le_trans LL.out.2 (by decide))
          clear K0 hb0
          obtain ⟨q0, q1, q2, q3, q4, q5, q6, q7, q8, q9⟩ := HW.out.1.ten
          obtain ⟨u0, u1, u2, u3, u4⟩ := HW.out.2.at_.1.cells
          unfold Vt.err Vt.none at *
          dsimp only at u0 u1 u2 u3 u4 ⊢
          clear q5 q6 q7 q8 q9
          go_wp2_with fail
          go_region_held3 (fun w' => w'.cell? ⟨w.heap.size, 0, none⟩ = some (.bool e) ∧ w'.cell? ⟨w.heap.size, 1, none⟩ = some (.bool r) ∧ w'.cell? ⟨w.heap.size, 2, none⟩ = some (.bool d) ∧ w'.cell? ⟨w.heap.size, 3, none⟩ = some (.slice a1 l1.length c1) ∧ w'.cell? ⟨w.heap.size, 4, none⟩ = some (.slice a2 l2.length c2) ∧
              w'.cell? ⟨pb, 0, none⟩ = some (.bool e) ∧ w'.cell? ⟨pb, 1, none⟩ = some (.bool r) ∧ w'.cell? ⟨pb, 2, none⟩ = some (.bool d) ∧ w'.cell? ⟨pb, 3, none⟩ = some (.slice b1 l1.length k1) ∧ w'.cell? ⟨pb, 4, none⟩ = some (.slice b2 l2.length k2))
            (first | go_keep)
            (first
              | (go_at_call 19; refine (OU.out W.drew BS.out).mono ?_; rintro z w7 ⟨g1, j1, g2, j2, rfl, hA⟩; have X7 : Aside (Boxed w w7 24 e r d (.slice a1 l1.length c1) (.slice a2 l2.length c2) ms frm kd id x ∧ Took w w7 pb _ b1 b2 ao k1 k2 ∧ Vt.At w7 g1 l1 ∧ Vt.At w7 g2 l2) := ⟨HW.out.1.later (below_step BS.out hA.out.2.2), HW.out.2.later (below_step BS.out hA.out.2.2), hA.out.1, hA.out.2.1⟩; clear hA q0 q1 q2 q3 q4 u0 u1 u2 u3 u4; obtain ⟨q0, q1, q2, q3, q4, -, -, -, -, -⟩ := X7.out.1.ten; obtain ⟨u0, u1, u2, u3, u4⟩ := X7.out.2.1.at_.1.cells)
              | (go_at_call 18; refine (SE.out w7 g1 g2 j1 j2 X7.out.2.2.1 X7.out.2.2.2 X7.out.1.below).mono ?_; rintro z w8 ⟨rfl, hb8⟩; have B8 : Aside (Below w.heap.size w w8) := below_step X7.out.1.below hb8; have X8 : Aside (Boxed w w8 24 e r d (.slice a1 l1.length c1) (.slice a2 l2.length c2) ms frm kd id x ∧ Took w w8 pb _ b1 b2 ao k1 k2) := ⟨X7.out.1.later hb8, X7.out.2.1.later hb8⟩; clear hb8 q0 q1 q2 q3 q4 u0 u1 u2 u3 u4; obtain ⟨q0, q1, q2, q3, q4, -, -, -, -, -⟩ := X8.out.1.ten; obtain ⟨u0, u1, u2, u3, u4⟩ := X8.out.2.at_.1.cells)
              | fail)
          go_wp2
          go_ret
          exact ⟨rfl, B8.out⟩
      · refine (?_ : ∀ W, (Boxed w W 24 e r d (.slice a1 l1.length c1) (.slice a2 l2.length c2) ms frm kd id x ∧ Took w W V2.heap.size t b1 b2 ao k1 k2) → Exit.then _ _ _ _ W) _ ⟨X5'.out.1.set5 X3.out.size _ _ _ _ _, took_old (w0 := w3) X5'.out.2 hA.out.1 hA.out.2.1 hA.out.2.2.1 hA.out.2.2.2.2.1 hA.out.2.2.2.2.2.1 hA.out.2.2.2.2.2.2 X4.out.2.2.2.2 w⟩
        intro W hW
        generalize V2.heap.size = pb at hW ⊢
        have HW : Aside (Boxed w W 24 e r d (.slice a1 l1.length c1) (.slice a2 l2.length c2) ms frm kd id x ∧ Took w W pb t b1 b2 ao k1 k2) := hW
        have BS : Aside (Below W.heap.size W W.drew) := (Below.refl _ W).drew
        clear hW hA X3 X4 X5' TH TK BV q0 q1 q2 q3 q4 q5 q6 q7 q8 q9 nz0 nz1 nz2 ny0 ny1 ny2 z0 z1 z2 z3 z4 zf zl
        by_cases he : t.e = 0
        · rw [he]
          have TA := Vt.take_again TT.out.1 he
          have LN := Vt.take_len ⟨e, r, d, l1, l2⟩ ms frm kd id x
          have SM := Vt.take_small (c := ⟨e, r, d, l1, l2⟩) ⟨H0.out.1.2, H0.out.2.1.2⟩ ms frm kd id x
          have IN : Aside (d = true → t.is = false) := fun h => Vt.is_new TT.out.1 h
          have RS : Aside (r = true → t.c.readied = true) := fun h => Vt.readied_stays TT.out.1 h
          rw [TT.out.1] at LN SM
          have T2 : Aside (Calls Try.prog 15 #[.agg #[.bool t.c.echoed, .bool t.c.readied, .bool t.c.done, .slice b1 t.c.echoes.length k1, .slice b2 t.c.readies.length k2], .int .u16 (ms : Nat), .int .u8 (frm : Nat), .int .i64 kd, .int .u8 (id : Nat), .string x] W _) :=
            take_let TA ⟨HW.out.2.at_.2.1, HW.out.2.at_.2.2, SM, by have := TT.out.2.1; have := LN.1; dsimp only at this; omega, by have := TT.out.2.2; have := LN.2; dsimp only at this; omega⟩ H0.out.2.2
          obtain ⟨q0, q1, q2, q3, q4, q5, q6, q7, q8, q9⟩ := HW.out.1.ten
          obtain ⟨u0, u1, u2, u3, u4⟩ := HW.out.2.at_.1.cells
          have pl := HW.out.2.at_.1.lt
          clear TA LN SM TT
          go_wp2_with fail
          refine T2.out.mono ?_
          rintro z w6 ⟨e1, i1, e2, i2, eo, io, rfl, hA⟩
          have X6 : Aside (Boxed w w6 24 e r d (.slice a1 l1.length c1) (.slice a2 l2.length c2) ms frm kd id x ∧ Took w w6 pb t b1 b2 ao k1 k2) := ⟨HW.out.1.later hA.out.2.2.2.1, HW.out.2.later hA.out.2.2.2.1⟩
          have B9 : Aside (∀ o, Below w.heap.size w (w6.alloc o)) := fun o => X6.out.1.below.alloc X6.out.1.below.size o
          clear hA T2 HW q0 q1 q2 q3 q4 q5 q6 q7 q8 q9 u0 u1 u2 u3 u4 pl
          obtain ⟨q0, q1, q2, q3, q4, q5, q6, q7, q8, q9⟩ := X6.out.1.ten
          obtain ⟨u0, u1, u2, u3, u4⟩ := X6.out.2.at_.1.cells
          have pl := X6.out.2.at_.1.lt
          have ql : w.heap.size < w6.heap.size := by have := X6.out.1.size; omega
          clear X6
          generalize t.is = is at *
          generalize t.c.readied = rd at *
          cases d with
          | true =>
            have h1 := IN.out rfl
            subst h1
            cases r with
            | true =>
              have h2 := RS.out rfl
              subst h2
              clear IN RS
              go_wp2
              go_ret
              exact ⟨rfl, B9.out _⟩
            | false =>
              clear IN RS
              go_wp2
              go_ret
              exact ⟨rfl, B9.out _⟩
          | false =>
            cases r with
            | true =>
              have h2 := RS.out rfl
              subst h2
              clear IN RS
              go_wp2
              go_ret
              exact ⟨rfl, B9.out _⟩
            | false =>
              clear IN RS
              go_wp2
              go_ret
              exact ⟨rfl, B9.out _⟩
        · have hT := Vt.take_err TT.out.1 he
          obtain ⟨te, hte⟩ : ∃ te, te = t.e := ⟨_, rfl⟩
          rw [← hte] at hT he ⊢
          clear hte
          have LL : Aside (l1.length ≤ 20 ∧ l2.length ≤ 20) := ⟨TT.out.2.1, TT.out.2.2⟩
          clear TT
          subst hT
          have t9 : ((te : Int) != 0) = true := by
            have : ¬ (te : Int) = 0 := by omega
            simpa using this
          obtain ⟨K0, hb0⟩ := HW.out
          have OU : Aside (∀ X, Below W.heap.size W X → Calls Try.prog 19 #[.agg #[.bool e, .bool r, .bool d, .slice b1 l1.length k1, .slice b2 l2.length k2]] X fun z w' => ∃ g1 j1 g2 j2, z = .returned (.agg #[.bool e, .bool r, .bool d, .slice g1 l1.length j1, .slice g2 l2.length j2]) ∧ Aside (Vt.At w' g1 l1 ∧ Vt.At w' g2 l2 ∧ Below X.heap.size X w')) := fun X hb =>
            (ours_any e r d b1 b2 k1 k2 l1 l2 X (hb0.at_.2.1.later hb) (hb0.at_.2.2.later hb) (Nat.le_trans LL.out.1 (by decide)) (Nat.le_trans LL.out.2 (by decide))).mono fun _ _ ⟨g1, j1, g2, j2, h0, h1, h2, h3⟩ => ⟨g1, j1, g2, j2, h0, h1, h2, h3⟩
          have SE : Aside (∀ X g1 g2 j1 j2, Vt.At X g1 l1 → Vt.At X g2 l2 → Below w.heap.size w X → Calls Try.prog 18 #[.agg #[.bool e, .bool r, .bool d, .slice g1 l1.length j1, .slice g2 l2.length j2], .agg #[.bool e, .bool r, .bool d, .slice a1 l1.length c1, .slice a2 l2.length c2]] X fun z w' => z = .returned (.bool true) ∧ Below X.heap.size X w') := fun X g1 g2 j1 j2 p1 p2 hb =>
            same_eq e r d g1 g2 a1 a2 j1 j2 c1 c2 l1 l2 X p1 p2 (H0.out.1.1.later hb) (H0.out.2.1.1.later hb) (Nat.le_trans LL.out.1 (by decide)) (Nat.le_trans LL.out.2 (by decide))
          clear K0 hb0
          obtain ⟨q0, q1, q2, q3, q4, q5, q6, q7, q8, q9⟩ := HW.out.1.ten
          obtain ⟨u0, u1, u2, u3, u4⟩ := HW.out.2.at_.1.cells
          unfold Vt.err Vt.none at *
          dsimp only at u0 u1 u2 u3 u4 ⊢
          clear q5 q6 q7 q8 q9
          go_wp2_with fail
          go_region_held3 (fun w' => w'.cell? ⟨w.heap.size, 0, none⟩ = some (.bool e) ∧ w'.cell? ⟨w.heap.size, 1, none⟩ = some (.bool r) ∧ w'.cell? ⟨w.heap.size, 2, none⟩ = some (.bool d) ∧ w'.cell? ⟨w.heap.size, 3, none⟩ = some (.slice a1 l1.length c1) ∧ w'.cell? ⟨w.heap.size, 4, none⟩ = some (.slice a2 l2.length c2) ∧
              w'.cell? ⟨pb, 0, none⟩ = some (.bool e) ∧ w'.cell? ⟨pb, 1, none⟩ = some (.bool r) ∧ w'.cell? ⟨pb, 2, none⟩ = some (.bool d) ∧ w'.cell? ⟨pb, 3, none⟩ = some (.slice b1 l1.length k1) ∧ w'.cell? ⟨pb, 4, none⟩ = some (.slice b2 l2.length k2))
            (first | go_keep)
            (first
              | (go_at_call 19; refine (OU.out W.drew BS.out).mono ?_; rintro z w7 ⟨g1, j1, g2, j2, rfl, hA⟩; have X7 : Aside (Boxed w w7 24 e r d (.slice a1 l1.length c1) (.slice a2 l2.length c2) ms frm kd id x ∧ Took w w7 pb _ b1 b2 ao k1 k2 ∧ Vt.At w7 g1 l1 ∧ Vt.At w7 g2 l2) := ⟨HW.out.1.later (below_step BS.out hA.out.2.2), HW.out.2.later (below_step BS.out hA.out.2.2), hA.out.1, hA.out.2.1⟩; clear hA q0 q1 q2 q3 q4 u0 u1 u2 u3 u4; obtain ⟨q0, q1, q2, q3, q4, -, -, -, -, -⟩ := X7.out.1.ten; obtain ⟨u0, u1, u2, u3, u4⟩ := X7.out.2.1.at_.1.cells)
              | (go_at_call 18; refine (SE.out w7 g1 g2 j1 j2 X7.out.2.2.1 X7.out.2.2.2 X7.out.1.below).mono ?_; rintro z w8 ⟨rfl, hb8⟩; have B8 : Aside (Below w.heap.size w w8) := below_step X7.out.1.below hb8; have X8 : Aside (Boxed w w8 24 e r d (.slice a1 l1.length c1) (.slice a2 l2.length c2) ms frm kd id x ∧ Took w w8 pb _ b1 b2 ao k1 k2) := ⟨X7.out.1.later hb8, X7.out.2.1.later hb8⟩; clear hb8 q0 q1 q2 q3 q4 u0 u1 u2 u3 u4; obtain ⟨q0, q1, q2, q3, q4, -, -, -, -, -⟩ := X8.out.1.ten; obtain ⟨u0, u1, u2, u3, u4⟩ := X8.out.2.at_.1.cells)
              | fail)
          go_wp2
          go_ret
          exact ⟨rfl, B8.out⟩
    · have B9 : Aside (Below w.heap.size w V) := X1.out.below
      rw [decide_eq_false f2] at F2
      go_wp2_with fail
      refine (F1.out _).mono ?_
      rintro z w1 ⟨rfl, hw⟩
      replace hw := hw.symm; subst hw
      clear F1
      go_wp2_with fail
      refine (F2.out _).mono ?_
      rintro z w1 ⟨rfl, hw⟩
      replace hw := hw.symm; subst hw
      clear F2
      go_wp2
      go_ret
      exact ⟨rfl, B9.out⟩
  · have B9 : Aside (Below w.heap.size w V) := X1.out.below
    rw [decide_eq_false f1] at F1
    go_wp2_with fail
    refine (F1.out _).mono ?_
    rintro z w1 ⟨rfl, hw⟩
    replace hw := hw.symm; subst hw
    clear F1 F2
    go_wp2
    go_ret
    exact ⟨rfl, B9.out⟩
end Go.Proofs.Ytlekbbpancaenaa
