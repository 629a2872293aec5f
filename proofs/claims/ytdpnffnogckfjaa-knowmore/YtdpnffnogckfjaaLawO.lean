/- KnowMore: the walk. -/
import Derived.Test.YtdpnffnogckfjaaLawS
namespace Go.Proofs.Ytdpnffnogckfjaa
open Go.RowKit

theorem known_good {l : List (List UInt8)} (h1 : Tm.knownE l = 0) (hk : (Tm.knownL l).length ≤ 200) : Tm.knownE (Tm.knownL l) = 0 ∧ (∀ t ∈ Tm.knownL l, Tm.derives l t = true ∧ Tm.derivesE l t = 0) ∧ ∀ g, Tm.chk g = 0 → Tm.derives (Tm.knownL l) g = Tm.derives l g := by
  have hkl : Tm.knownL l = Tm.closeL l (Tm.allL l) := by unfold Tm.knownL; rw [if_pos h1]
  obtain ⟨p1, p2, p3⟩ := Tm.known_parts (knownE_good h1)
  rw [← hkl] at p1 p2 p3
  have hg : Tm.knownE (Tm.knownL l) = 0 := by
    have : Tm.knownE (Tm.knownL l) = Tm.firstErr (Tm.knownL l) := by
      show (if 200 < (Tm.knownL l).length then 3 else _) = _
      rw [if_neg (by omega)]
    rw [this]
    exact Tm.firstErr_zero.2 fun x hx => (p2 x hx).2.1
  refine ⟨hg, fun t ht => ?_, fun g hgc => ?_⟩
  · obtain ⟨e1, e2⟩ := der_good h1 (p2 t ht).2.1
    rw [e2]
    exact ⟨(p2 t ht).2.2, e1⟩
  · rw [(der_good hg hgc).2, (der_good h1 hgc).2, hkl]
    exact Tm.can_known (knownE_good h1) hgc

set_option maxRecDepth 20000 in
set_option maxHeartbeats 16000000 in
theorem more_main (a : Option Addr) (n cap : Nat) (l : List (List UInt8)) (mo g : ByteArray) (w : World) (h : IsTermsC w a n cap l) (h1 : Tm.knownE l = 0) (hn20 : n ≤ 20) (t1 : ¬ (400 : Int) < (mo.size : Int)) (t2 : ¬ (400 : Int) < (g.size : Int))
    (h4 : Tm.chk mo.data.toList = 0) (h5 : Tm.chk g.data.toList = 0) :
    Calls Try.prog 4 #[.slice a n cap, .string mo, .string g] w fun e w' => e = .returned (.bool true) ∧ Below w.heap.size w w' := by
  have AL : Aside (∀ W, Below w.heap.size w W → _) := fun W hb => c_alive w W hb
  have FW : Aside (∀ W, Below w.heap.size w W → _) := fun W hb => c_few cap h.1 W hb
  have RT : Aside (∀ W, n ≤ 20 → Below w.heap.size w W → _) := fun W hn hb => c_right cap h.1 W hn hb
  have C1 : Aside (∀ W, Below w.heap.size w W → Calls Try.prog 19 #[.string mo] W fun e w' => e = .returned (.int .i64 (Tm.chk mo.data.toList : Nat)) ∧ Below w.heap.size w w') := fun W hb => c_chk mo W hb
  have C2 : Aside (∀ W, Below w.heap.size w W → Calls Try.prog 19 #[.string g] W fun e w' => e = .returned (.int .i64 (Tm.chk g.data.toList : Nat)) ∧ Below w.heap.size w w') := fun W hb => c_chk g W hb
  rw [decide_eq_true h1] at RT
  rw [h4] at C1
  rw [h5] at C2
  have DG0 := fun W hb => c_der cap h.1 g W hb
  rw [(der_good h1 h5).1] at DG0
  have DG : Aside (∀ W, Below w.heap.size w W → _) := DG0
  clear DG0
  have hsg := snoc_good h1 (by rw [h.1.1]; exact hn20) h4
  have DM : Aside (∀ W ma mn mc, (l ++ [mo.data.toList]).length = mn → AtS W ma (l ++ [mo.data.toList]) → Calls Try.prog 15 #[.slice ma mn mc, .string g] W fun e w' => e = .returned (.tuple #[.bool (Tm.derives (l ++ [mo.data.toList]) g.data.toList), .int .i64 0]) ∧ Below W.heap.size W w') := fun W ma mn mc hmn hm => by
    refine (derives_any ma mn mc (l ++ [mo.data.toList]) g.data.toList W hmn hm).mono ?_
    rintro e w' ⟨he, hb2⟩
    rw [(der_good hsg h5).1] at he
    exact ⟨he, hb2⟩
  have XY : Aside (Tm.derives l g.data.toList = true → Tm.derives (l ++ [mo.data.toList]) g.data.toList = true) := by
    intro hx
    rw [(der_good h1 h5).2] at hx
    rw [(der_good hsg h5).2]
    exact Tm.can_more (knownE_good h1) (knownE_good hsg) h5 (fun x hx => by simp [hx]) hx
  have KL : Aside (∀ W, Below w.heap.size w W → Calls Try.prog 13 #[.slice a n cap] W fun e w' => ∃ ka kc, e = .returned (.tuple #[.slice ka (Tm.knownL l).length kc, .int .i64 0]) ∧ AtS w' ka (Tm.knownL l) ∧ Below W.heap.size W w') := fun W hb => by
    have := d_known cap h.1.1 W (atS_later hb h.1.2.2.1)
    rw [h1] at this
    exact this
  have F : Aside (strs l ++ [.string mo] = strs (l ++ [mo.data.toList])) := by show _ = _; rw [strs_append]; rfl
  have AT : Aside (AtS w a l) := h.1.2.2.1
  have HN : Hid (l.length = n) := h.1.1
  have NO : Aside (a = none → n = 0 ∧ cap = 0) := h.2
  obtain ⟨i0, hi, hz0, hz1, hz2⟩ := info_parts info22
  have I : Aside (Try.prog.info? 23 = some i0 ∧ i0.zero = some (.string ⟨#[]⟩) ∧ i0.size = 1 ∧ i0.bytes = 16) := ⟨hi, hz0, hz1, hz2⟩
  have KN := known_len l
  by_cases hlong : 200 < (Tm.knownL l).length
  · have t9 : (200 : Int) < ((Tm.knownL l).length : Int) := by omega
    clear h h1 h4 h5 hsg hi hz0 hz1 hz2 hn20 hlong
    generalize Tm.knownL l = K at *
    generalize K.length = m at *
    generalize Tm.derives l g.data.toList = X at *
    generalize Tm.derives (l ++ [mo.data.toList]) g.data.toList = Y at *
    cases X <;> cases Y
    all_goals first
      | exact absurd (XY.out rfl) (by decide)
      | (clear XY
         go_enter Try.func4, Try.ntmps4
         go_wp2_with fail
         refine (AL.out w (Below.refl _ _)).mono ?_
         rintro e w1 ⟨rfl, b1⟩
         have B1 : Aside (Below w.heap.size w w1) := b1
         clear b1 AL
         go_wp2_with fail
         refine (FW.out w1 B1.out).mono ?_
         rintro e w2 ⟨b, rfl, h20, b2⟩
         have B2 : Aside (Below w.heap.size w w2) := b2
         clear b2 B1
         cases b with
         | false =>
           go_wp2
           go_ret
           exact ⟨rfl, B2.out⟩
         | true =>
           have n20 := h20 rfl
           clear h20
           clear FW
           go_wp2_with fail
           refine ((fun W hb => RT.out W n20 hb) w2 B2.out).mono ?_
           rintro e w3 ⟨rfl, b3⟩
           have B3 : Aside (Below w.heap.size w w3) := b3
           clear b3 B2 RT
           go_wp2_with fail
           refine (C1.out w3 B3.out).mono ?_
           rintro e w4 ⟨rfl, b4⟩
           have B4 : Aside (Below w.heap.size w w4) := b4
           clear b4 B3 C1
           go_wp2_with fail
           refine (C2.out w4 B4.out).mono ?_
           rintro e w5 ⟨rfl, b5⟩
           have B5 : Aside (Below w.heap.size w w5) := b5
           clear b5 B4 C2
           go_wp2_with fail
           refine (DG.out w5 B5.out).mono ?_
           rintro e w6 ⟨rfl, b6⟩
           have B6 : Aside (Below w.heap.size w w6) := b6
           clear b6 B5
           have AT2 : Aside (AtS w6 a l) := atS_later B6.out AT.out
           have hsz : w.heap.size ≤ w6.heap.size := B6.out.size
           go_wp2_with (at_builtin; refine wpList_copy _ rfl _ _ rfl rfl w.heap.size a n cap l rfl AT2.out HN.out NO.out (by omega) hsz ?_)
           intro v3 w30 hown3 hb3
           have O3 : Aside (w30.ownsRow w.heap.size 23 1 v3 n (strs l) ∧ Below w.heap.size w w30) := ⟨hown3, later2 B6.out hb3⟩
           have hs3 : w.heap.size ≤ w30.heap.size := O3.out.2.size
           clear hown3 hb3 B6 AT2 hsz
           generalize strs l = xs at *
           go_wp2_with (at_builtin; refine wpList_append_own _ rfl _ _ 22 rfl w.heap.size 23 i0 (.string ⟨#[]⟩) 1 16 Try.underlying22 I.out.1 I.out.2.1 I.out.2.2.1 I.out.2.2.2 rfl (by decide) _ _ _ rfl (O3.out.1.alloc _) ⟨w30.heap.size, 0, none⟩ 1 1 [.string mo] rfl rfl ?c1 ?c2 ?c3 ?c4 ?c5 ?_)
           case c1 => exact cell_new1 _ _ _
           case c2 => intro u hu; simp at hu; subst hu; rfl
           case c3 => unfold maxLen; omega
           case c4 => omega
           case c5 => simp; omega
           intro v4 w40 hown4 hgrow4 _
           rw [F.out] at hown4
           have hb4 : Below w.heap.size w w40 := grown_below hs3 O3.out.1 O3.out.2 hgrow4
           obtain ⟨ma, mc, rfl, hml, -, hmat⟩ := owns_strs hown4
           have E2 := DM.out w40 ma (n + 1) mc hml hmat
           have B40 : Aside (Below w.heap.size w w40) := hb4
           clear hgrow4 O3 hown4 hb4 hml hmat F DM
           go_wp2_with fail
           refine E2.mono ?_
           rintro e w50 ⟨rfl, b5⟩
           have B50 : Aside (Below w.heap.size w w50) := later2 B40.out b5
           clear E2 b5 B40
           have E3 := KL.out w50 B50.out
           go_wp2_with fail
           refine E3.mono ?_
           rintro e w60 ⟨ka, kc, rfl, hat6, b6⟩
           have M6 : Aside (Below w.heap.size w w60 ∧ AtS w60 ka K) := ⟨later2 B50.out b6, hat6⟩
           clear E3 b6 hat6 B50 KL
           go_wp2
           go_ret
           exact ⟨rfl, M6.out.1⟩)
  · have t9 : ¬ (200 : Int) < ((Tm.knownL l).length : Int) := by omega
    obtain ⟨k1, k2, k3⟩ := known_good h1 (by omega)
    have DK : Aside (∀ W ka kc, AtS W ka (Tm.knownL l) → Calls Try.prog 15 #[.slice ka (Tm.knownL l).length kc, .string g] W fun e w' => e = .returned (.tuple #[.bool (Tm.derives l g.data.toList), .int .i64 0]) ∧ Below W.heap.size W w') := fun W ka kc hk => by
      refine (derives_any ka (Tm.knownL l).length kc (Tm.knownL l) g.data.toList W rfl hk).mono ?_
      rintro e w' ⟨he, hb2⟩
      rw [(der_good k1 h5).1, k3 _ h5] at he
      exact ⟨he, hb2⟩
    have DT : Aside (∀ t ∈ Tm.knownL l, ∀ W, Below w.heap.size w W → Calls Try.prog 15 #[.slice a n cap, str t] W fun e w' => e = .returned (.tuple #[.bool true, .int .i64 0]) ∧ Below W.heap.size W w') := fun t ht W hb => by
      refine (derives_any a n cap l t W h.1.1 (atS_later hb h.1.2.2.1)).mono ?_
      rintro e w' ⟨he, hb2⟩
      rw [(k2 t ht).1, (k2 t ht).2] at he
      exact ⟨he, hb2⟩
    clear h h1 h4 h5 hsg hi hz0 hz1 hz2 hn20 hlong k1 k2 k3
    generalize Tm.knownL l = K at *
    obtain ⟨m, hm⟩ : ∃ m, m = K.length := ⟨_, rfl⟩
    have HM : Hid (m = K.length) := hm
    rw [← hm] at KL DK t9 KN
    clear hm
    generalize Tm.derives l g.data.toList = X at *
    generalize Tm.derives (l ++ [mo.data.toList]) g.data.toList = Y at *
    cases X <;> cases Y
    all_goals first
      | exact absurd (XY.out rfl) (by decide)
      | (clear XY
         go_enter Try.func4, Try.ntmps4
         go_wp2_with fail
         refine (AL.out w (Below.refl _ _)).mono ?_
         rintro e w1 ⟨rfl, b1⟩
         have B1 : Aside (Below w.heap.size w w1) := b1
         clear b1 AL
         go_wp2_with fail
         refine (FW.out w1 B1.out).mono ?_
         rintro e w2 ⟨b, rfl, h20, b2⟩
         have B2 : Aside (Below w.heap.size w w2) := b2
         clear b2 B1
         cases b with
         | false =>
           go_wp2
           go_ret
           exact ⟨rfl, B2.out⟩
         | true =>
           have n20 := h20 rfl
           clear h20
           clear FW
           go_wp2_with fail
           refine ((fun W hb => RT.out W n20 hb) w2 B2.out).mono ?_
           rintro e w3 ⟨rfl, b3⟩
           have B3 : Aside (Below w.heap.size w w3) := b3
           clear b3 B2 RT
           go_wp2_with fail
           refine (C1.out w3 B3.out).mono ?_
           rintro e w4 ⟨rfl, b4⟩
           have B4 : Aside (Below w.heap.size w w4) := b4
           clear b4 B3 C1
           go_wp2_with fail
           refine (C2.out w4 B4.out).mono ?_
           rintro e w5 ⟨rfl, b5⟩
           have B5 : Aside (Below w.heap.size w w5) := b5
           clear b5 B4 C2
           go_wp2_with fail
           refine (DG.out w5 B5.out).mono ?_
           rintro e w6 ⟨rfl, b6⟩
           have B6 : Aside (Below w.heap.size w w6) := b6
           clear b6 B5
           have AT2 : Aside (AtS w6 a l) := atS_later B6.out AT.out
           have hsz : w.heap.size ≤ w6.heap.size := B6.out.size
           go_wp2_with (at_builtin; refine wpList_copy _ rfl _ _ rfl rfl w.heap.size a n cap l rfl AT2.out HN.out NO.out (by omega) hsz ?_)
           intro v3 w30 hown3 hb3
           have O3 : Aside (w30.ownsRow w.heap.size 23 1 v3 n (strs l) ∧ Below w.heap.size w w30) := ⟨hown3, later2 B6.out hb3⟩
           have hs3 : w.heap.size ≤ w30.heap.size := O3.out.2.size
           clear hown3 hb3 B6 AT2 hsz
           generalize strs l = xs at *
           go_wp2_with (at_builtin; refine wpList_append_own _ rfl _ _ 22 rfl w.heap.size 23 i0 (.string ⟨#[]⟩) 1 16 Try.underlying22 I.out.1 I.out.2.1 I.out.2.2.1 I.out.2.2.2 rfl (by decide) _ _ _ rfl (O3.out.1.alloc _) ⟨w30.heap.size, 0, none⟩ 1 1 [.string mo] rfl rfl ?c1 ?c2 ?c3 ?c4 ?c5 ?_)
           case c1 => exact cell_new1 _ _ _
           case c2 => intro u hu; simp at hu; subst hu; rfl
           case c3 => unfold maxLen; omega
           case c4 => omega
           case c5 => simp; omega
           intro v4 w40 hown4 hgrow4 _
           rw [F.out] at hown4
           have hb4 : Below w.heap.size w w40 := grown_below hs3 O3.out.1 O3.out.2 hgrow4
           obtain ⟨ma, mc, rfl, hml, -, hmat⟩ := owns_strs hown4
           have E2 := DM.out w40 ma (n + 1) mc hml hmat
           have B40 : Aside (Below w.heap.size w w40) := hb4
           clear hgrow4 O3 hown4 hb4 hml hmat F DM
           go_wp2_with fail
           refine E2.mono ?_
           rintro e w50 ⟨rfl, b5⟩
           have B50 : Aside (Below w.heap.size w w50) := later2 B40.out b5
           clear E2 b5 B40
           have E3 := KL.out w50 B50.out
           go_wp2_with fail
           refine E3.mono ?_
           rintro e w60 ⟨ka, kc, rfl, hat6, b6⟩
           have M6 : Aside (Below w.heap.size w w60 ∧ AtS w60 ka K) := ⟨later2 B50.out b6, hat6⟩
           clear E3 b6 hat6 B50 KL
           have E4 := DK.out w60 ka kc M6.out.2
           go_wp2_with fail
           refine E4.mono ?_
           rintro e w70 ⟨rfl, b7⟩
           have M7 : Aside (Below w.heap.size w w70 ∧ AtS w70 ka K) := ⟨later2 M6.out.1 b7, atS_later b7 M6.out.2⟩
           clear E4 b7 M6
           go_wp2_with fail
           go_loopw [117] (fun i wr => ∃ j : Nat, j ≤ m ∧ i = .int .i64 j ∧ Below w70.heap.size w70 wr) (fun i _ => m - (intOf i).toNat)
           case atStart => exact ⟨0, Nat.zero_le _, rfl, Below.refl _ _⟩
           case round =>
             obtain ⟨j, hj, rfl, hb⟩ := hrel
             have S : Aside (Below w70.heap.size w70 wr) := hb
             clear hb
             by_cases hlt : j < m
             · have hjl : j < K.length := by rw [← HM.out]; exact hlt
               obtain ⟨pb, po, rfl, hcs⟩ : ∃ b off, ka = some ⟨b, off, none⟩ ∧ ∀ i y, K[i]? = some y → wr.cell? ⟨b, off + i, none⟩ = some (str y) := by
                 rcases atS_later S.out M7.out.2 with e | h
                 · rw [e] at hjl; simp at hjl
                 · exact h
               have c0 := hcs j K[j] (List.getElem?_eq_getElem hjl)
               have E5 := DT.out K[j] (List.getElem_mem hjl) wr (later2 M7.out.1 S.out)
               have u1 : (j : Int) < (m : Int) := by omega
               have u0 : (0 : Int) ≤ (j : Int) := by omega
               clear hcs
               unfold str at c0 E5
               generalize (⟨K[j].toArray⟩ : ByteArray) = x at *
               go_wp2_with fail
               refine E5.mono ?_
               rintro e w80 ⟨rfl, b8⟩
               have B80 : Aside (Below w70.heap.size w70 w80) := later2 S.out b8
               clear E5 b8 S c0
               go_wp2
               go_roundw
               case rel => exact ⟨j + 1, by omega, by go_num, B80.out⟩
               case measure => simp [intOf]; omega
             · obtain rfl : j = m := by omega
               have B90 : Aside (Below w.heap.size w wr) := later2 M7.out.1 S.out
               clear S M7
               go_wp2
               go_ret
               exact ⟨rfl, B90.out⟩)

set_option maxRecDepth 20000 in
set_option maxHeartbeats 16000000 in
theorem more_walk (a : Option Addr) (n cap : Nat) (l : List (List UInt8)) (mo g : ByteArray) (w : World) (h : IsTermsC w a n cap l) :
    Calls Try.prog 4 #[.slice a n cap, .string mo, .string g] w fun e w' => e = .returned (.bool true) ∧ Below w.heap.size w w' := by
  have AL : Aside (∀ W, Below w.heap.size w W → _) := fun W hb => c_alive w W hb
  have FW : Aside (∀ W, Below w.heap.size w W → _) := fun W hb => c_few cap h.1 W hb
  have RT : Aside (∀ W, n ≤ 20 → Below w.heap.size w W → _) := fun W hn hb => c_right cap h.1 W hn hb
  have C1 : Aside (∀ W, Below w.heap.size w W → Calls Try.prog 19 #[.string mo] W fun e w' => e = .returned (.int .i64 (Tm.chk mo.data.toList : Nat)) ∧ Below w.heap.size w w') := fun W hb => c_chk mo W hb
  have C2 : Aside (∀ W, Below w.heap.size w W → Calls Try.prog 19 #[.string g] W fun e w' => e = .returned (.int .i64 (Tm.chk g.data.toList : Nat)) ∧ Below w.heap.size w w') := fun W hb => c_chk g W hb
  by_cases h20 : n ≤ 20
  · by_cases h1 : Tm.knownE l = 0
    · by_cases g1 : 400 < mo.size
      · have t1 : (400 : Int) < (mo.size : Int) := by omega
        rw [decide_eq_true h1] at RT
        clear h h1 g1 C1 C2 h20
        go_enter Try.func4, Try.ntmps4
        go_wp2_with fail
        refine (AL.out w (Below.refl _ _)).mono ?_
        rintro e w1 ⟨rfl, b1⟩
        have B1 : Aside (Below w.heap.size w w1) := b1
        clear b1 AL
        go_wp2_with fail
        refine (FW.out w1 B1.out).mono ?_
        rintro e w2 ⟨b, rfl, h20, b2⟩
        have B2 : Aside (Below w.heap.size w w2) := b2
        clear b2 B1
        cases b with
        | false =>
          go_wp2
          go_ret
          exact ⟨rfl, B2.out⟩
        | true =>
          have n20 := h20 rfl
          clear h20
          clear FW
          go_wp2_with fail
          refine ((fun W hb => RT.out W n20 hb) w2 B2.out).mono ?_
          rintro e w3 ⟨rfl, b3⟩
          have B3 : Aside (Below w.heap.size w w3) := b3
          clear b3 B2 RT
          go_wp2
          go_ret
          exact ⟨rfl, B3.out⟩
      · have t1 : ¬ (400 : Int) < (mo.size : Int) := by omega
        by_cases g2 : 400 < g.size
        · have t2 : (400 : Int) < (g.size : Int) := by omega
          rw [decide_eq_true h1] at RT
          clear h h1 g1 g2 C1 C2 h20
          go_enter Try.func4, Try.ntmps4
          go_wp2_with fail
          refine (AL.out w (Below.refl _ _)).mono ?_
          rintro e w1 ⟨rfl, b1⟩
          have B1 : Aside (Below w.heap.size w w1) := b1
          clear b1 AL
          go_wp2_with fail
          refine (FW.out w1 B1.out).mono ?_
          rintro e w2 ⟨b, rfl, h20, b2⟩
          have B2 : Aside (Below w.heap.size w w2) := b2
          clear b2 B1
          cases b with
          | false =>
            go_wp2
            go_ret
            exact ⟨rfl, B2.out⟩
          | true =>
            have n20 := h20 rfl
            clear h20
            clear FW
            go_wp2_with fail
            refine ((fun W hb => RT.out W n20 hb) w2 B2.out).mono ?_
            rintro e w3 ⟨rfl, b3⟩
            have B3 : Aside (Below w.heap.size w w3) := b3
            clear b3 B2 RT
            go_wp2
            go_ret
            exact ⟨rfl, B3.out⟩
        · have t2 : ¬ (400 : Int) < (g.size : Int) := by omega
          by_cases h4 : Tm.chk mo.data.toList = 0
          · by_cases h5 : Tm.chk g.data.toList = 0
            · exact more_main a n cap l mo g w h h1 h20 t1 t2 h4 h5
            · have t9 := ne_zero h5
              rw [decide_eq_true h1] at RT
              rw [h4] at C1
              clear h h1 g1 g2 h4 h5 h20
              generalize Tm.chk g.data.toList = c at *
              go_enter Try.func4, Try.ntmps4
              go_wp2_with fail
              refine (AL.out w (Below.refl _ _)).mono ?_
              rintro e w1 ⟨rfl, b1⟩
              have B1 : Aside (Below w.heap.size w w1) := b1
              clear b1 AL
              go_wp2_with fail
              refine (FW.out w1 B1.out).mono ?_
              rintro e w2 ⟨b, rfl, h20, b2⟩
              have B2 : Aside (Below w.heap.size w w2) := b2
              clear b2 B1
              cases b with
              | false =>
                go_wp2
                go_ret
                exact ⟨rfl, B2.out⟩
              | true =>
                have n20 := h20 rfl
                clear h20
                clear FW
                go_wp2_with fail
                refine ((fun W hb => RT.out W n20 hb) w2 B2.out).mono ?_
                rintro e w3 ⟨rfl, b3⟩
                have B3 : Aside (Below w.heap.size w w3) := b3
                clear b3 B2 RT
                go_wp2_with fail
                refine (C1.out w3 B3.out).mono ?_
                rintro e w4 ⟨rfl, b4⟩
                have B4 : Aside (Below w.heap.size w w4) := b4
                clear b4 B3 C1
                go_wp2_with fail
                refine (C2.out w4 B4.out).mono ?_
                rintro e w5 ⟨rfl, b5⟩
                have B5 : Aside (Below w.heap.size w w5) := b5
                clear b5 B4 C2
                go_wp2
                go_ret
                exact ⟨rfl, B5.out⟩
          · have t9 := ne_zero h4
            rw [decide_eq_true h1] at RT
            clear h h1 g1 g2 h4 C2 h20
            generalize Tm.chk mo.data.toList = c at *
            go_enter Try.func4, Try.ntmps4
            go_wp2_with fail
            refine (AL.out w (Below.refl _ _)).mono ?_
            rintro e w1 ⟨rfl, b1⟩
            have B1 : Aside (Below w.heap.size w w1) := b1
            clear b1 AL
            go_wp2_with fail
            refine (FW.out w1 B1.out).mono ?_
            rintro e w2 ⟨b, rfl, h20, b2⟩
            have B2 : Aside (Below w.heap.size w w2) := b2
            clear b2 B1
            cases b with
            | false =>
              go_wp2
              go_ret
              exact ⟨rfl, B2.out⟩
            | true =>
              have n20 := h20 rfl
              clear h20
              clear FW
              go_wp2_with fail
              refine ((fun W hb => RT.out W n20 hb) w2 B2.out).mono ?_
              rintro e w3 ⟨rfl, b3⟩
              have B3 : Aside (Below w.heap.size w w3) := b3
              clear b3 B2 RT
              go_wp2_with fail
              refine (C1.out w3 B3.out).mono ?_
              rintro e w4 ⟨rfl, b4⟩
              have B4 : Aside (Below w.heap.size w w4) := b4
              clear b4 B3 C1
              go_wp2
              go_ret
              exact ⟨rfl, B4.out⟩
    · rw [decide_eq_false h1] at RT
      clear h h1 C1 C2 h20
      go_enter Try.func4, Try.ntmps4
      go_wp2_with fail
      refine (AL.out w (Below.refl _ _)).mono ?_
      rintro e w1 ⟨rfl, b1⟩
      have B1 : Aside (Below w.heap.size w w1) := b1
      clear b1 AL
      go_wp2_with fail
      refine (FW.out w1 B1.out).mono ?_
      rintro e w2 ⟨b, rfl, h20, b2⟩
      have B2 : Aside (Below w.heap.size w w2) := b2
      clear b2 B1
      cases b with
      | false =>
        go_wp2
        go_ret
        exact ⟨rfl, B2.out⟩
      | true =>
        have n20 := h20 rfl
        clear h20
        clear FW
        go_wp2_with fail
        refine ((fun W hb => RT.out W n20 hb) w2 B2.out).mono ?_
        rintro e w3 ⟨rfl, b3⟩
        have B3 : Aside (Below w.heap.size w w3) := b3
        clear b3 B2 RT
        go_wp2
        go_ret
        exact ⟨rfl, B3.out⟩
  · have FW2 : Aside (∀ W, Below w.heap.size w W → Calls Try.prog 12 #[.slice a n cap] W fun e w' => e = .returned (.bool false) ∧ Below w.heap.size w w') := fun W hb => (FW.out W hb).mono fun _ _ ⟨b, e1, e2, e3⟩ => by
      cases b with
      | false => exact ⟨e1, e3⟩
      | true => exact absurd (e2 rfl) h20
    clear h h20 FW RT C1 C2
    go_enter Try.func4, Try.ntmps4
    go_wp2_with fail
    refine (AL.out w (Below.refl _ _)).mono ?_
    rintro e w1 ⟨rfl, b1⟩
    have B1 : Aside (Below w.heap.size w w1) := b1
    clear b1 AL
    go_wp2_with fail
    refine (FW2.out w1 B1.out).mono ?_
    rintro e w2 ⟨rfl, b2⟩
    have B2 : Aside (Below w.heap.size w w2) := b2
    clear b2 B1 FW2
    go_wp2
    go_ret
    exact ⟨rfl, B2.out⟩

end Go.Proofs.Ytdpnffnogckfjaa
