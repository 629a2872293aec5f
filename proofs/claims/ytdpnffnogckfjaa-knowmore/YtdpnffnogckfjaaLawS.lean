/- KnowSealed: the walk. -/
import Derived.Test.YtdpnffnogckfjaaLwE
namespace Go.Proofs.Ytdpnffnogckfjaa
open Go.RowKit

theorem snoc_good {l : List (List UInt8)} {s : List UInt8} (h1 : Tm.knownE l = 0) (hn : l.length ≤ 20) (hs : Tm.chk s = 0) : Tm.knownE (l ++ [s]) = 0 := by
  unfold Tm.knownE
  rw [if_neg (by simp; omega)]
  refine Tm.firstErr_zero.2 fun x hx => ?_
  rcases List.mem_append.1 hx with hx | hx
  · exact knownE_good h1 x hx
  · simp at hx; subst hx; exact hs
theorem c_has_one {w : World} (g : ByteArray) (t : List UInt8) (W : World) (hb : Below w.heap.size w W) :
    Calls Try.prog 20 #[.slice (some ⟨W.heap.size, 0, none⟩) 1 1, str t] (W.alloc (.cells #[.string g] 23)) fun e w' => e = .returned (.bool (hasB [g.data.toList] t)) ∧ Below w.heap.size w w' :=
  (has_any _ 1 1 [g.data.toList] ⟨t.toArray⟩ _ rfl (by omega) (at_one W g.data.toList)).mono fun _ _ h => ⟨h.1, later2 hb (over_new h.2)⟩

set_option maxRecDepth 20000 in
set_option maxHeartbeats 16000000 in
theorem sealed_main (a : Option Addr) (n cap : Nat) (l : List (List UInt8)) (kx tx g : ByteArray) (w : World) (h : IsTermsC w a n cap l) (h1 : Tm.knownE l = 0) (hn20 : n ≤ 20) (t1 : ¬ (400 : Int) < (kx.size : Int)) (t2 : ¬ (400 : Int) < (tx.size : Int)) (t3 : ¬ (400 : Int) < (g.size : Int))
    (h4 : Tm.chk kx.data.toList = 0) (h5 : Tm.chk tx.data.toList = 0) (h6 : Tm.chk g.data.toList = 0) :
    Calls Try.prog 6 #[.slice a n cap, .agg #[.string kx, .string tx], .string g] w fun e w' => e = .returned (.bool true) ∧ Below w.heap.size w w' := by
  have B0 : Aside (Below w.heap.size w (w.alloc (.cells #[.string kx, .string tx] 44))) := (Below.refl _ w).alloc (Nat.le_refl _) _
  have BX : Aside (∀ W, Below (w.alloc (.cells #[.string kx, .string tx] 44)).heap.size (w.alloc (.cells #[.string kx, .string tx] 44)) W → W.cell? ⟨w.heap.size, 0, none⟩ = some (.string kx) ∧ W.cell? ⟨w.heap.size, 1, none⟩ = some (.string tx)) := fun W hb => by
    have hh : W.heap[w.heap.size]? = some (.cells #[.string kx, .string tx] 44 (0, 0)) := (hb.block _ (by simp)).trans (heap_alloc_new w _)
    exact ⟨by rw [cell_of_row W w.heap.size 0 _ _ _ hh]; rfl, by rw [cell_of_row W w.heap.size 1 _ _ _ hh]; rfl⟩
  have AL : Aside (∀ W, Below w.heap.size w W → Calls Try.prog 11 #[] W fun e w' => e = .returned (.bool true) ∧ Below W.heap.size W w') := fun W _ => alive_any W
  have FW : Aside (∀ W, Below w.heap.size w W → _) := fun W hb => c_few cap h.1 W hb
  have RT : Aside (∀ W, n ≤ 20 → Below w.heap.size w W → _) := fun W hn hb => c_right cap h.1 W hn hb
  have C1 : Aside (∀ W, Below w.heap.size w W → Calls Try.prog 19 #[.string kx] W fun e w' => e = .returned (.int .i64 (Tm.chk kx.data.toList : Nat)) ∧ Below w.heap.size w w') := fun W hb => c_chk kx W hb
  have C2 : Aside (∀ W, Below w.heap.size w W → Calls Try.prog 19 #[.string tx] W fun e w' => e = .returned (.int .i64 (Tm.chk tx.data.toList : Nat)) ∧ Below w.heap.size w w') := fun W hb => c_chk tx W hb
  have C3 : Aside (∀ W, Below w.heap.size w W → Calls Try.prog 19 #[.string g] W fun e w' => e = .returned (.int .i64 (Tm.chk g.data.toList : Nat)) ∧ Below w.heap.size w w') := fun W hb => c_chk g W hb
  have MK : Aside (∀ W, Below w.heap.size w W → Calls Try.prog 23 #[.int .u8 115, .slice (some ⟨W.heap.size, 0, none⟩) 2 2] (W.alloc (.cells #[.string kx, .string tx] 23)) fun e w' => e = .returned (.tuple #[str (Tm.make 115 [kx.data.toList, tx.data.toList]), .int .i64 (Tm.makeE 115 [kx.data.toList, tx.data.toList] : Nat)]) ∧ Below w.heap.size w w') := fun W hb => c_make 115 kx.data.toList tx.data.toList W hb
  rw [decide_eq_true h1] at RT
  rw [h4] at C1
  rw [h5] at C2
  rw [h6] at C3
  have DK0 := fun W hb => c_der cap h.1 kx W hb
  rw [(der_good h1 h4).1, (der_good h1 h4).2] at DK0
  have DK : Aside (∀ W, Below w.heap.size w W → _) := DK0
  have DG0 := fun W hb => c_der cap h.1 g W hb
  rw [(der_good h1 h6).1] at DG0
  have DG : Aside (∀ W, Below w.heap.size w W → _) := DG0
  clear DK0 DG0
  by_cases h7 : Tm.makeE 115 [kx.data.toList, tx.data.toList] = 0
  · obtain ⟨_, _, g3, g4, g5, g6, _⟩ := Tm.make_two_ok (by decide) h7
    rw [h7, g4] at MK
    generalize hst : (115 :: (kx.data.toList ++ tx.data.toList) : List UInt8) = st at *
    clear hst g4
    have HS : Aside (∀ W, n ≤ 20 → Below w.heap.size w W → Calls Try.prog 20 #[.slice a n cap, str st] W fun e w' => e = .returned (.bool (hasB l st)) ∧ Below w.heap.size w w') := fun W hn hb => c_has cap h.1 ⟨st.toArray⟩ W hn hb
    have HG : Aside (∀ W, Below w.heap.size w W → Calls Try.prog 20 #[.slice (some ⟨W.heap.size, 0, none⟩) 1 1, str st] (W.alloc (.cells #[.string g] 23)) fun e w' => e = .returned (.bool (hasB [g.data.toList] st)) ∧ Below w.heap.size w w') := fun W hb => c_has_one g st W hb
    by_cases h8 : hasB l st = true
    · rw [h8] at HS
      clear h h1 h4 h5 h6 h7 h8 g3 g5 g6 DK DG HG hn20
      unfold str at MK HS
      generalize (⟨st.toArray⟩ : ByteArray) = xs9 at *
      go_enter Try.func6, Try.ntmps6
      go_wp2_with fail
      refine (AL.out (w.alloc (.cells #[.string kx, .string tx] 44)) B0.out).mono ?_
      rintro e w1 ⟨rfl, b1⟩
      have B1 : Aside (Below w.heap.size w w1) := later2 B0.out b1
      obtain ⟨k0, k1⟩ := BX.out w1 b1
      clear b1 B0 AL BX
      go_wp2_with fail
      go_quiet (fail)
      have B9 : Aside (∀ q, Below w.heap.size w (w1.drewN q)) := fun q => below_drew B1.out q
      clear B1 k0 k1
      have BQ : Aside (Below w.heap.size w (w1.drewN nq)) := B9.out nq
      clear B9
      generalize w1.drewN nq = w2 at *
      go_wp2_with fail
      refine (FW.out w2 BQ.out).mono ?_
      rintro e w3 ⟨b, rfl, h20, b3⟩
      have B3 : Aside (Below w.heap.size w w3) := b3
      clear b3 BQ
      cases b with
      | false =>
        go_wp2
        go_ret
        exact ⟨rfl, B3.out⟩
      | true =>
        have n20 := h20 rfl
        clear h20
        clear FW
        go_wp2_with fail
        refine ((fun W hb => RT.out W n20 hb) w3 B3.out).mono ?_
        rintro e w4 ⟨rfl, b4⟩
        have B4 : Aside (Below w.heap.size w w4) := b4
        clear b4 B3 RT
        go_wp2_with fail
        refine (C1.out w4 B4.out).mono ?_
        rintro e w5 ⟨rfl, b5⟩
        have B5 : Aside (Below w.heap.size w w5) := b5
        clear b5 B4 C1
        go_wp2_with fail
        refine (C2.out w5 B5.out).mono ?_
        rintro e w6 ⟨rfl, b6⟩
        have B6 : Aside (Below w.heap.size w w6) := b6
        clear b6 B5 C2
        go_wp2_with fail
        refine (C3.out w6 B6.out).mono ?_
        rintro e w7 ⟨rfl, b7⟩
        have B7 : Aside (Below w.heap.size w w7) := b7
        clear b7 B6 C3
        go_wp2_with fail
        refine (MK.out w7 B7.out).mono ?_
        rintro e w8 ⟨rfl, b8⟩
        have B8 : Aside (Below w.heap.size w w8) := b8
        clear b8 B7 MK
        go_wp2_with fail
        refine ((fun W hb => HS.out W n20 hb) w8 B8.out).mono ?_
        rintro e w9 ⟨rfl, b9⟩
        have B9 : Aside (Below w.heap.size w w9) := b9
        clear b9 B8 HS
        go_wp2
        go_ret
        exact ⟨rfl, B9.out⟩
    · rw [Bool.eq_false_iff.2 h8] at HS
      by_cases h9 : hasB [g.data.toList] st = true
      · rw [h9] at HG
        clear h h1 h4 h5 h6 h7 h8 h9 g3 g5 g6 DK DG hn20
        unfold str at MK HS HG
        generalize (⟨st.toArray⟩ : ByteArray) = xs9 at *
        go_enter Try.func6, Try.ntmps6
        go_wp2_with fail
        refine (AL.out (w.alloc (.cells #[.string kx, .string tx] 44)) B0.out).mono ?_
        rintro e w1 ⟨rfl, b1⟩
        have B1 : Aside (Below w.heap.size w w1) := later2 B0.out b1
        obtain ⟨k0, k1⟩ := BX.out w1 b1
        clear b1 B0 AL BX
        go_wp2_with fail
        go_quiet (fail)
        have B9 : Aside (∀ q, Below w.heap.size w (w1.drewN q)) := fun q => below_drew B1.out q
        clear B1 k0 k1
        have BQ : Aside (Below w.heap.size w (w1.drewN nq)) := B9.out nq
        clear B9
        generalize w1.drewN nq = w2 at *
        go_wp2_with fail
        refine (FW.out w2 BQ.out).mono ?_
        rintro e w3 ⟨b, rfl, h20, b3⟩
        have B3 : Aside (Below w.heap.size w w3) := b3
        clear b3 BQ
        cases b with
        | false =>
          go_wp2
          go_ret
          exact ⟨rfl, B3.out⟩
        | true =>
          have n20 := h20 rfl
          clear h20
          clear FW
          go_wp2_with fail
          refine ((fun W hb => RT.out W n20 hb) w3 B3.out).mono ?_
          rintro e w4 ⟨rfl, b4⟩
          have B4 : Aside (Below w.heap.size w w4) := b4
          clear b4 B3 RT
          go_wp2_with fail
          refine (C1.out w4 B4.out).mono ?_
          rintro e w5 ⟨rfl, b5⟩
          have B5 : Aside (Below w.heap.size w w5) := b5
          clear b5 B4 C1
          go_wp2_with fail
          refine (C2.out w5 B5.out).mono ?_
          rintro e w6 ⟨rfl, b6⟩
          have B6 : Aside (Below w.heap.size w w6) := b6
          clear b6 B5 C2
          go_wp2_with fail
          refine (C3.out w6 B6.out).mono ?_
          rintro e w7 ⟨rfl, b7⟩
          have B7 : Aside (Below w.heap.size w w7) := b7
          clear b7 B6 C3
          go_wp2_with fail
          refine (MK.out w7 B7.out).mono ?_
          rintro e w8 ⟨rfl, b8⟩
          have B8 : Aside (Below w.heap.size w w8) := b8
          clear b8 B7 MK
          go_wp2_with fail
          refine ((fun W hb => HS.out W n20 hb) w8 B8.out).mono ?_
          rintro e w9 ⟨rfl, b9⟩
          have B9 : Aside (Below w.heap.size w w9) := b9
          clear b9 B8 HS
          go_wp2_with fail
          refine (HG.out w9 B9.out).mono ?_
          rintro e w10 ⟨rfl, b10⟩
          have B10 : Aside (Below w.heap.size w w10) := b10
          clear b10 B9 HG
          go_wp2
          go_ret
          exact ⟨rfl, B10.out⟩
      · rw [Bool.eq_false_iff.2 h9] at HG
        by_cases h10 : Tm.canB l kx.data.toList = true
        · rw [h10] at DK
          clear h h1 h4 h5 h6 h7 h8 h9 h10 g3 g5 g6 DG hn20
          unfold str at MK HS HG
          generalize (⟨st.toArray⟩ : ByteArray) = xs9 at *
          go_enter Try.func6, Try.ntmps6
          go_wp2_with fail
          refine (AL.out (w.alloc (.cells #[.string kx, .string tx] 44)) B0.out).mono ?_
          rintro e w1 ⟨rfl, b1⟩
          have B1 : Aside (Below w.heap.size w w1) := later2 B0.out b1
          obtain ⟨k0, k1⟩ := BX.out w1 b1
          clear b1 B0 AL BX
          go_wp2_with fail
          go_quiet (fail)
          have B9 : Aside (∀ q, Below w.heap.size w (w1.drewN q)) := fun q => below_drew B1.out q
          clear B1 k0 k1
          have BQ : Aside (Below w.heap.size w (w1.drewN nq)) := B9.out nq
          clear B9
          generalize w1.drewN nq = w2 at *
          go_wp2_with fail
          refine (FW.out w2 BQ.out).mono ?_
          rintro e w3 ⟨b, rfl, h20, b3⟩
          have B3 : Aside (Below w.heap.size w w3) := b3
          clear b3 BQ
          cases b with
          | false =>
            go_wp2
            go_ret
            exact ⟨rfl, B3.out⟩
          | true =>
            have n20 := h20 rfl
            clear h20
            clear FW
            go_wp2_with fail
            refine ((fun W hb => RT.out W n20 hb) w3 B3.out).mono ?_
            rintro e w4 ⟨rfl, b4⟩
            have B4 : Aside (Below w.heap.size w w4) := b4
            clear b4 B3 RT
            go_wp2_with fail
            refine (C1.out w4 B4.out).mono ?_
            rintro e w5 ⟨rfl, b5⟩
            have B5 : Aside (Below w.heap.size w w5) := b5
            clear b5 B4 C1
            go_wp2_with fail
            refine (C2.out w5 B5.out).mono ?_
            rintro e w6 ⟨rfl, b6⟩
            have B6 : Aside (Below w.heap.size w w6) := b6
            clear b6 B5 C2
            go_wp2_with fail
            refine (C3.out w6 B6.out).mono ?_
            rintro e w7 ⟨rfl, b7⟩
            have B7 : Aside (Below w.heap.size w w7) := b7
            clear b7 B6 C3
            go_wp2_with fail
            refine (MK.out w7 B7.out).mono ?_
            rintro e w8 ⟨rfl, b8⟩
            have B8 : Aside (Below w.heap.size w w8) := b8
            clear b8 B7 MK
            go_wp2_with fail
            refine ((fun W hb => HS.out W n20 hb) w8 B8.out).mono ?_
            rintro e w9 ⟨rfl, b9⟩
            have B9 : Aside (Below w.heap.size w w9) := b9
            clear b9 B8 HS
            go_wp2_with fail
            refine (HG.out w9 B9.out).mono ?_
            rintro e w10 ⟨rfl, b10⟩
            have B10 : Aside (Below w.heap.size w w10) := b10
            clear b10 B9 HG
            go_wp2_with fail
            refine (DK.out w10 B10.out).mono ?_
            rintro e w11 ⟨rfl, b11⟩
            have B11 : Aside (Below w.heap.size w w11) := b11
            clear b11 B10 DK
            go_wp2
            go_ret
            exact ⟨rfl, B11.out⟩
        · have hcf := Bool.eq_false_iff.2 h10
          rw [hcf] at DK
          have hsg := snoc_good h1 (by rw [h.1.1]; exact hn20) g3
          have hns : st ∉ Tm.subsOf g.data.toList := fun hm => h9 (hasB_iff.2 ⟨_, by simp, hm⟩)
          have hcan := Tm.can_sealed (knownE_good h1) g3 h6 g5 g6 (fun hu => h8 (hasB_iff.2 hu)) hns hcf
          have hde : Tm.derives (l ++ [st]) g.data.toList = Tm.derives l g.data.toList := by
            rw [(der_good hsg h6).2, (der_good h1 h6).2, hcan]
          have DM : Aside (∀ W ma mn mc, (l ++ [st]).length = mn → AtS W ma (l ++ [st]) → Calls Try.prog 15 #[.slice ma mn mc, .string g] W fun e w' => e = .returned (.tuple #[.bool (Tm.derives l g.data.toList), .int .i64 0]) ∧ Below W.heap.size W w') := fun W ma mn mc hmn hm => by
            refine (derives_any ma mn mc (l ++ [st]) g.data.toList W hmn hm).mono ?_
            rintro e w' ⟨he, hb2⟩
            rw [(der_good hsg h6).1, hde] at he
            exact ⟨he, hb2⟩
          have F : Aside (strs l ++ [str st] = strs (l ++ [st])) := by show _ = _; rw [strs_append]; rfl
          have AT : Aside (AtS w a l) := h.1.2.2.1
          have HN : Hid (l.length = n) := h.1.1
          have NO : Aside (a = none → n = 0 ∧ cap = 0) := h.2
          obtain ⟨i0, hi, hz0, hz1, hz2⟩ := info_parts info22
          have I : Aside (Try.prog.info? 23 = some i0 ∧ i0.zero = some (.string ⟨#[]⟩) ∧ i0.size = 1 ∧ i0.bytes = 16) := ⟨hi, hz0, hz1, hz2⟩
          clear h h1 h4 h5 h6 h7 h8 h9 h10 g3 g5 g6 hcf hsg hns hcan hde hi hz0 hz1 hz2 hn20
          unfold str at MK HS HG F
          generalize (⟨st.toArray⟩ : ByteArray) = xs9 at *
          go_enter Try.func6, Try.ntmps6
          go_wp2_with fail
          refine (AL.out (w.alloc (.cells #[.string kx, .string tx] 44)) B0.out).mono ?_
          rintro e w1 ⟨rfl, b1⟩
          have B1 : Aside (Below w.heap.size w w1) := later2 B0.out b1
          obtain ⟨k0, k1⟩ := BX.out w1 b1
          clear b1 B0 AL BX
          go_wp2_with fail
          go_quiet (fail)
          have B9 : Aside (∀ q, Below w.heap.size w (w1.drewN q)) := fun q => below_drew B1.out q
          clear B1 k0 k1
          have BQ : Aside (Below w.heap.size w (w1.drewN nq)) := B9.out nq
          clear B9
          generalize w1.drewN nq = w2 at *
          go_wp2_with fail
          refine (FW.out w2 BQ.out).mono ?_
          rintro e w3 ⟨b, rfl, h20, b3⟩
          have B3 : Aside (Below w.heap.size w w3) := b3
          clear b3 BQ
          cases b with
          | false =>
            go_wp2
            go_ret
            exact ⟨rfl, B3.out⟩
          | true =>
            have n20 := h20 rfl
            clear h20
            clear FW
            go_wp2_with fail
            refine ((fun W hb => RT.out W n20 hb) w3 B3.out).mono ?_
            rintro e w4 ⟨rfl, b4⟩
            have B4 : Aside (Below w.heap.size w w4) := b4
            clear b4 B3 RT
            go_wp2_with fail
            refine (C1.out w4 B4.out).mono ?_
            rintro e w5 ⟨rfl, b5⟩
            have B5 : Aside (Below w.heap.size w w5) := b5
            clear b5 B4 C1
            go_wp2_with fail
            refine (C2.out w5 B5.out).mono ?_
            rintro e w6 ⟨rfl, b6⟩
            have B6 : Aside (Below w.heap.size w w6) := b6
            clear b6 B5 C2
            go_wp2_with fail
            refine (C3.out w6 B6.out).mono ?_
            rintro e w7 ⟨rfl, b7⟩
            have B7 : Aside (Below w.heap.size w w7) := b7
            clear b7 B6 C3
            go_wp2_with fail
            refine (MK.out w7 B7.out).mono ?_
            rintro e w8 ⟨rfl, b8⟩
            have B8 : Aside (Below w.heap.size w w8) := b8
            clear b8 B7 MK
            go_wp2_with fail
            refine ((fun W hb => HS.out W n20 hb) w8 B8.out).mono ?_
            rintro e w9 ⟨rfl, b9⟩
            have B9 : Aside (Below w.heap.size w w9) := b9
            clear b9 B8 HS
            go_wp2_with fail
            refine (HG.out w9 B9.out).mono ?_
            rintro e w10 ⟨rfl, b10⟩
            have B10 : Aside (Below w.heap.size w w10) := b10
            clear b10 B9 HG
            go_wp2_with fail
            refine (DK.out w10 B10.out).mono ?_
            rintro e w11 ⟨rfl, b11⟩
            have B11 : Aside (Below w.heap.size w w11) := b11
            clear b11 B10 DK
            go_wp2_with fail
            refine (DG.out w11 B11.out).mono ?_
            rintro e w12 ⟨rfl, b12⟩
            have B12 : Aside (Below w.heap.size w w12) := b12
            clear b12 B11 DG
            have AT2 : Aside (AtS w12 a l) := atS_later B12.out AT.out
            have hsz : w.heap.size ≤ w12.heap.size := B12.out.size
            go_wp2_with (at_builtin; refine wpList_copy _ rfl _ _ rfl rfl w.heap.size a n cap l rfl AT2.out HN.out NO.out (by omega) hsz ?_)
            intro v3 w30 hown3 hb3
            have O3 : Aside (w30.ownsRow w.heap.size 23 1 v3 n (strs l) ∧ Below w.heap.size w w30) := ⟨hown3, later2 B12.out hb3⟩
            have hs3 : w.heap.size ≤ w30.heap.size := O3.out.2.size
            clear hown3 hb3 B12 AT2 hsz
            generalize strs l = xs at *
            go_wp2_with (at_builtin; refine wpList_append_own _ rfl _ _ 22 rfl w.heap.size 23 i0 (.string ⟨#[]⟩) 1 16 Try.underlying22 I.out.1 I.out.2.1 I.out.2.2.1 I.out.2.2.2 rfl (by decide) _ _ _ rfl (O3.out.1.alloc _) ⟨w30.heap.size, 0, none⟩ 1 1 [.string xs9] rfl rfl ?c1 ?c2 ?c3 ?c4 ?c5 ?_)
            case c1 => exact cell_new1 _ _ _
            case c2 => intro u hu; simp at hu; subst hu; rfl
            case c3 => unfold maxLen; omega
            case c4 => omega
            case c5 => simp; omega
            intro v4 w40 hown4 hgrow4 _
            rw [F.out] at hown4
            have hb4 : Below w.heap.size w w40 := grown_below hs3 O3.out.1 O3.out.2 hgrow4
            obtain ⟨ma, mc, rfl, hml, -, hmat⟩ := owns_strs hown4
            have E2 := DM.out w40 ma (n + 1) mc hml hmat
            have B40 : Aside (Below w.heap.size w w40) := hb4
            clear hgrow4 O3 hown4 hb4 hml hmat F DM
            generalize Tm.derives l g.data.toList = dd at *
            go_wp2_with fail
            refine E2.mono ?_
            rintro e w50 ⟨rfl, b5⟩
            have B50 : Aside (Below w.heap.size w w50) := later2 B40.out b5
            clear E2 b5 B40
            go_wp2
            go_ret
            exact ⟨rfl, B50.out⟩
  · have t9 := ne_zero h7
    clear h h1 h4 h5 h6 h7 DK DG hn20
    generalize Tm.makeE 115 [kx.data.toList, tx.data.toList] = c at *
    generalize Tm.make 115 [kx.data.toList, tx.data.toList] = st at *
    unfold str at MK
    generalize (⟨st.toArray⟩ : ByteArray) = xs9 at *
    go_enter Try.func6, Try.ntmps6
    go_wp2_with fail
    refine (AL.out (w.alloc (.cells #[.string kx, .string tx] 44)) B0.out).mono ?_
    rintro e w1 ⟨rfl, b1⟩
    have B1 : Aside (Below w.heap.size w w1) := later2 B0.out b1
    obtain ⟨k0, k1⟩ := BX.out w1 b1
    clear b1 B0 AL BX
    go_wp2_with fail
    go_quiet (fail)
    have B9 : Aside (∀ q, Below w.heap.size w (w1.drewN q)) := fun q => below_drew B1.out q
    clear B1 k0 k1
    have BQ : Aside (Below w.heap.size w (w1.drewN nq)) := B9.out nq
    clear B9
    generalize w1.drewN nq = w2 at *
    go_wp2_with fail
    refine (FW.out w2 BQ.out).mono ?_
    rintro e w3 ⟨b, rfl, h20, b3⟩
    have B3 : Aside (Below w.heap.size w w3) := b3
    clear b3 BQ
    cases b with
    | false =>
      go_wp2
      go_ret
      exact ⟨rfl, B3.out⟩
    | true =>
      have n20 := h20 rfl
      clear h20
      clear FW
      go_wp2_with fail
      refine ((fun W hb => RT.out W n20 hb) w3 B3.out).mono ?_
      rintro e w4 ⟨rfl, b4⟩
      have B4 : Aside (Below w.heap.size w w4) := b4
      clear b4 B3 RT
      go_wp2_with fail
      refine (C1.out w4 B4.out).mono ?_
      rintro e w5 ⟨rfl, b5⟩
      have B5 : Aside (Below w.heap.size w w5) := b5
      clear b5 B4 C1
      go_wp2_with fail
      refine (C2.out w5 B5.out).mono ?_
      rintro e w6 ⟨rfl, b6⟩
      have B6 : Aside (Below w.heap.size w w6) := b6
      clear b6 B5 C2
      go_wp2_with fail
      refine (C3.out w6 B6.out).mono ?_
      rintro e w7 ⟨rfl, b7⟩
      have B7 : Aside (Below w.heap.size w w7) := b7
      clear b7 B6 C3
      go_wp2_with fail
      refine (MK.out w7 B7.out).mono ?_
      rintro e w8 ⟨rfl, b8⟩
      have B8 : Aside (Below w.heap.size w w8) := b8
      clear b8 B7 MK
      go_wp2
      go_ret
      exact ⟨rfl, B8.out⟩

set_option maxRecDepth 20000 in
set_option maxHeartbeats 16000000 in
theorem sealed_walk (a : Option Addr) (n cap : Nat) (l : List (List UInt8)) (kx tx g : ByteArray) (w : World) (h : IsTermsC w a n cap l) :
    Calls Try.prog 6 #[.slice a n cap, .agg #[.string kx, .string tx], .string g] w fun e w' => e = .returned (.bool true) ∧ Below w.heap.size w w' := by
  have B0 : Aside (Below w.heap.size w (w.alloc (.cells #[.string kx, .string tx] 44))) := (Below.refl _ w).alloc (Nat.le_refl _) _
  have BX : Aside (∀ W, Below (w.alloc (.cells #[.string kx, .string tx] 44)).heap.size (w.alloc (.cells #[.string kx, .string tx] 44)) W → W.cell? ⟨w.heap.size, 0, none⟩ = some (.string kx) ∧ W.cell? ⟨w.heap.size, 1, none⟩ = some (.string tx)) := fun W hb => by
    have hh : W.heap[w.heap.size]? = some (.cells #[.string kx, .string tx] 44 (0, 0)) := (hb.block _ (by simp)).trans (heap_alloc_new w _)
    exact ⟨by rw [cell_of_row W w.heap.size 0 _ _ _ hh]; rfl, by rw [cell_of_row W w.heap.size 1 _ _ _ hh]; rfl⟩
  have AL : Aside (∀ W, Below w.heap.size w W → Calls Try.prog 11 #[] W fun e w' => e = .returned (.bool true) ∧ Below W.heap.size W w') := fun W _ => alive_any W
  have FW : Aside (∀ W, Below w.heap.size w W → _) := fun W hb => c_few cap h.1 W hb
  have RT : Aside (∀ W, n ≤ 20 → Below w.heap.size w W → _) := fun W hn hb => c_right cap h.1 W hn hb
  have C1 : Aside (∀ W, Below w.heap.size w W → Calls Try.prog 19 #[.string kx] W fun e w' => e = .returned (.int .i64 (Tm.chk kx.data.toList : Nat)) ∧ Below w.heap.size w w') := fun W hb => c_chk kx W hb
  have C2 : Aside (∀ W, Below w.heap.size w W → Calls Try.prog 19 #[.string tx] W fun e w' => e = .returned (.int .i64 (Tm.chk tx.data.toList : Nat)) ∧ Below w.heap.size w w') := fun W hb => c_chk tx W hb
  have C3 : Aside (∀ W, Below w.heap.size w W → Calls Try.prog 19 #[.string g] W fun e w' => e = .returned (.int .i64 (Tm.chk g.data.toList : Nat)) ∧ Below w.heap.size w w') := fun W hb => c_chk g W hb
  have MK : Aside (∀ W, Below w.heap.size w W → Calls Try.prog 23 #[.int .u8 115, .slice (some ⟨W.heap.size, 0, none⟩) 2 2] (W.alloc (.cells #[.string kx, .string tx] 23)) fun e w' => e = .returned (.tuple #[str (Tm.make 115 [kx.data.toList, tx.data.toList]), .int .i64 (Tm.makeE 115 [kx.data.toList, tx.data.toList] : Nat)]) ∧ Below w.heap.size w w') := fun W hb => c_make 115 kx.data.toList tx.data.toList W hb
  by_cases h20 : n ≤ 20
  · by_cases h1 : Tm.knownE l = 0
    · by_cases g1 : 400 < kx.size
      · have t1 : (400 : Int) < (kx.size : Int) := by omega
        rw [decide_eq_true h1] at RT
        clear h h1 g1 C1 C2 C3 MK h20
        go_enter Try.func6, Try.ntmps6
        go_wp2_with fail
        refine (AL.out (w.alloc (.cells #[.string kx, .string tx] 44)) B0.out).mono ?_
        rintro e w1 ⟨rfl, b1⟩
        have B1 : Aside (Below w.heap.size w w1) := later2 B0.out b1
        obtain ⟨k0, k1⟩ := BX.out w1 b1
        clear b1 B0 AL BX
        go_wp2_with fail
        go_quiet (fail)
        have B9 : Aside (∀ q, Below w.heap.size w (w1.drewN q)) := fun q => below_drew B1.out q
        clear B1 k0 k1
        have BQ : Aside (Below w.heap.size w (w1.drewN nq)) := B9.out nq
        clear B9
        generalize w1.drewN nq = w2 at *
        go_wp2_with fail
        refine (FW.out w2 BQ.out).mono ?_
        rintro e w3 ⟨b, rfl, h20, b3⟩
        have B3 : Aside (Below w.heap.size w w3) := b3
        clear b3 BQ
        cases b with
        | false =>
          go_wp2
          go_ret
          exact ⟨rfl, B3.out⟩
        | true =>
          have n20 := h20 rfl
          clear h20
          clear FW
          go_wp2_with fail
          refine ((fun W hb => RT.out W n20 hb) w3 B3.out).mono ?_
          rintro e w4 ⟨rfl, b4⟩
          have B4 : Aside (Below w.heap.size w w4) := b4
          clear b4 B3 RT
          go_wp2
          go_ret
          exact ⟨rfl, B4.out⟩
      · have t1 : ¬ (400 : Int) < (kx.size : Int) := by omega
        by_cases g2 : 400 < tx.size
        · have t2 : (400 : Int) < (tx.size : Int) := by omega
          rw [decide_eq_true h1] at RT
          clear h h1 g1 g2 C1 C2 C3 MK h20
          go_enter Try.func6, Try.ntmps6
          go_wp2_with fail
          refine (AL.out (w.alloc (.cells #[.string kx, .string tx] 44)) B0.out).mono ?_
          rintro e w1 ⟨rfl, b1⟩
          have B1 : Aside (Below w.heap.size w w1) := later2 B0.out b1
          obtain ⟨k0, k1⟩ := BX.out w1 b1
          clear b1 B0 AL BX
          go_wp2_with fail
          go_quiet (fail)
          have B9 : Aside (∀ q, Below w.heap.size w (w1.drewN q)) := fun q => below_drew B1.out q
          clear B1 k0 k1
          have BQ : Aside (Below w.heap.size w (w1.drewN nq)) := B9.out nq
          clear B9
          generalize w1.drewN nq = w2 at *
          go_wp2_with fail
          refine (FW.out w2 BQ.out).mono ?_
          rintro e w3 ⟨b, rfl, h20, b3⟩
          have B3 : Aside (Below w.heap.size w w3) := b3
          clear b3 BQ
          cases b with
          | false =>
            go_wp2
            go_ret
            exact ⟨rfl, B3.out⟩
          | true =>
            have n20 := h20 rfl
            clear h20
            clear FW
            go_wp2_with fail
            refine ((fun W hb => RT.out W n20 hb) w3 B3.out).mono ?_
            rintro e w4 ⟨rfl, b4⟩
            have B4 : Aside (Below w.heap.size w w4) := b4
            clear b4 B3 RT
            go_wp2
            go_ret
            exact ⟨rfl, B4.out⟩
        · have t2 : ¬ (400 : Int) < (tx.size : Int) := by omega
          by_cases g3 : 400 < g.size
          · have t3 : (400 : Int) < (g.size : Int) := by omega
            rw [decide_eq_true h1] at RT
            clear h h1 g1 g2 g3 C1 C2 C3 MK h20
            go_enter Try.func6, Try.ntmps6
            go_wp2_with fail
            refine (AL.out (w.alloc (.cells #[.string kx, .string tx] 44)) B0.out).mono ?_
            rintro e w1 ⟨rfl, b1⟩
            have B1 : Aside (Below w.heap.size w w1) := later2 B0.out b1
            obtain ⟨k0, k1⟩ := BX.out w1 b1
            clear b1 B0 AL BX
            go_wp2_with fail
            go_quiet (fail)
            have B9 : Aside (∀ q, Below w.heap.size w (w1.drewN q)) := fun q => below_drew B1.out q
            clear B1 k0 k1
            have BQ : Aside (Below w.heap.size w (w1.drewN nq)) := B9.out nq
            clear B9
            generalize w1.drewN nq = w2 at *
            go_wp2_with fail
            refine (FW.out w2 BQ.out).mono ?_
            rintro e w3 ⟨b, rfl, h20, b3⟩
            have B3 : Aside (Below w.heap.size w w3) := b3
            clear b3 BQ
            cases b with
            | false =>
              go_wp2
              go_ret
              exact ⟨rfl, B3.out⟩
            | true =>
              have n20 := h20 rfl
              clear h20
              clear FW
              go_wp2_with fail
              refine ((fun W hb => RT.out W n20 hb) w3 B3.out).mono ?_
              rintro e w4 ⟨rfl, b4⟩
              have B4 : Aside (Below w.heap.size w w4) := b4
              clear b4 B3 RT
              go_wp2
              go_ret
              exact ⟨rfl, B4.out⟩
          · have t3 : ¬ (400 : Int) < (g.size : Int) := by omega
            by_cases h4 : Tm.chk kx.data.toList = 0
            · by_cases h5 : Tm.chk tx.data.toList = 0
              · by_cases h6 : Tm.chk g.data.toList = 0
                · exact sealed_main a n cap l kx tx g w h h1 h20 t1 t2 t3 h4 h5 h6
                · have t9 := ne_zero h6
                  rw [decide_eq_true h1] at RT
                  rw [h4] at C1
                  rw [h5] at C2
                  clear h h1 g1 g2 g3 h4 h5 h6 MK h20
                  generalize Tm.chk g.data.toList = c at *
                  go_enter Try.func6, Try.ntmps6
                  go_wp2_with fail
                  refine (AL.out (w.alloc (.cells #[.string kx, .string tx] 44)) B0.out).mono ?_
                  rintro e w1 ⟨rfl, b1⟩
                  have B1 : Aside (Below w.heap.size w w1) := later2 B0.out b1
                  obtain ⟨k0, k1⟩ := BX.out w1 b1
                  clear b1 B0 AL BX
                  go_wp2_with fail
                  go_quiet (fail)
                  have B9 : Aside (∀ q, Below w.heap.size w (w1.drewN q)) := fun q => below_drew B1.out q
                  clear B1 k0 k1
                  have BQ : Aside (Below w.heap.size w (w1.drewN nq)) := B9.out nq
                  clear B9
                  generalize w1.drewN nq = w2 at *
                  go_wp2_with fail
                  refine (FW.out w2 BQ.out).mono ?_
                  rintro e w3 ⟨b, rfl, h20, b3⟩
                  have B3 : Aside (Below w.heap.size w w3) := b3
                  clear b3 BQ
                  cases b with
                  | false =>
                    go_wp2
                    go_ret
                    exact ⟨rfl, B3.out⟩
                  | true =>
                    have n20 := h20 rfl
                    clear h20
                    clear FW
                    go_wp2_with fail
                    refine ((fun W hb => RT.out W n20 hb) w3 B3.out).mono ?_
                    rintro e w4 ⟨rfl, b4⟩
                    have B4 : Aside (Below w.heap.size w w4) := b4
                    clear b4 B3 RT
                    go_wp2_with fail
                    refine (C1.out w4 B4.out).mono ?_
                    rintro e w5 ⟨rfl, b5⟩
                    have B5 : Aside (Below w.heap.size w w5) := b5
                    clear b5 B4 C1
                    go_wp2_with fail
                    refine (C2.out w5 B5.out).mono ?_
                    rintro e w6 ⟨rfl, b6⟩
                    have B6 : Aside (Below w.heap.size w w6) := b6
                    clear b6 B5 C2
                    go_wp2_with fail
                    refine (C3.out w6 B6.out).mono ?_
                    rintro e w7 ⟨rfl, b7⟩
                    have B7 : Aside (Below w.heap.size w w7) := b7
                    clear b7 B6 C3
                    go_wp2
                    go_ret
                    exact ⟨rfl, B7.out⟩
              · have t9 := ne_zero h5
                rw [decide_eq_true h1] at RT
                rw [h4] at C1
                clear h h1 g1 g2 g3 h4 h5 MK C3 h20
                generalize Tm.chk tx.data.toList = c at *
                go_enter Try.func6, Try.ntmps6
                go_wp2_with fail
                refine (AL.out (w.alloc (.cells #[.string kx, .string tx] 44)) B0.out).mono ?_
                rintro e w1 ⟨rfl, b1⟩
                have B1 : Aside (Below w.heap.size w w1) := later2 B0.out b1
                obtain ⟨k0, k1⟩ := BX.out w1 b1
                clear b1 B0 AL BX
                go_wp2_with fail
                go_quiet (fail)
                have B9 : Aside (∀ q, Below w.heap.size w (w1.drewN q)) := fun q => below_drew B1.out q
                clear B1 k0 k1
                have BQ : Aside (Below w.heap.size w (w1.drewN nq)) := B9.out nq
                clear B9
                generalize w1.drewN nq = w2 at *
                go_wp2_with fail
                refine (FW.out w2 BQ.out).mono ?_
                rintro e w3 ⟨b, rfl, h20, b3⟩
                have B3 : Aside (Below w.heap.size w w3) := b3
                clear b3 BQ
                cases b with
                | false =>
                  go_wp2
                  go_ret
                  exact ⟨rfl, B3.out⟩
                | true =>
                  have n20 := h20 rfl
                  clear h20
                  clear FW
                  go_wp2_with fail
                  refine ((fun W hb => RT.out W n20 hb) w3 B3.out).mono ?_
                  rintro e w4 ⟨rfl, b4⟩
                  have B4 : Aside (Below w.heap.size w w4) := b4
                  clear b4 B3 RT
                  go_wp2_with fail
                  refine (C1.out w4 B4.out).mono ?_
                  rintro e w5 ⟨rfl, b5⟩
                  have B5 : Aside (Below w.heap.size w w5) := b5
                  clear b5 B4 C1
                  go_wp2_with fail
                  refine (C2.out w5 B5.out).mono ?_
                  rintro e w6 ⟨rfl, b6⟩
                  have B6 : Aside (Below w.heap.size w w6) := b6
                  clear b6 B5 C2
                  go_wp2
                  go_ret
                  exact ⟨rfl, B6.out⟩
            · have t9 := ne_zero h4
              rw [decide_eq_true h1] at RT
              clear h h1 g1 g2 g3 h4 MK C2 C3 h20
              generalize Tm.chk kx.data.toList = c at *
              go_enter Try.func6, Try.ntmps6
              go_wp2_with fail
              refine (AL.out (w.alloc (.cells #[.string kx, .string tx] 44)) B0.out).mono ?_
              rintro e w1 ⟨rfl, b1⟩
              have B1 : Aside (Below w.heap.size w w1) := later2 B0.out b1
              obtain ⟨k0, k1⟩ := BX.out w1 b1
              clear b1 B0 AL BX
              go_wp2_with fail
              go_quiet (fail)
              have B9 : Aside (∀ q, Below w.heap.size w (w1.drewN q)) := fun q => below_drew B1.out q
              clear B1 k0 k1
              have BQ : Aside (Below w.heap.size w (w1.drewN nq)) := B9.out nq
              clear B9
              generalize w1.drewN nq = w2 at *
              go_wp2_with fail
              refine (FW.out w2 BQ.out).mono ?_
              rintro e w3 ⟨b, rfl, h20, b3⟩
              have B3 : Aside (Below w.heap.size w w3) := b3
              clear b3 BQ
              cases b with
              | false =>
                go_wp2
                go_ret
                exact ⟨rfl, B3.out⟩
              | true =>
                have n20 := h20 rfl
                clear h20
                clear FW
                go_wp2_with fail
                refine ((fun W hb => RT.out W n20 hb) w3 B3.out).mono ?_
                rintro e w4 ⟨rfl, b4⟩
                have B4 : Aside (Below w.heap.size w w4) := b4
                clear b4 B3 RT
                go_wp2_with fail
                refine (C1.out w4 B4.out).mono ?_
                rintro e w5 ⟨rfl, b5⟩
                have B5 : Aside (Below w.heap.size w w5) := b5
                clear b5 B4 C1
                go_wp2
                go_ret
                exact ⟨rfl, B5.out⟩
    · rw [decide_eq_false h1] at RT
      clear h h1 C1 C2 C3 MK h20
      go_enter Try.func6, Try.ntmps6
      go_wp2_with fail
      refine (AL.out (w.alloc (.cells #[.string kx, .string tx] 44)) B0.out).mono ?_
      rintro e w1 ⟨rfl, b1⟩
      have B1 : Aside (Below w.heap.size w w1) := later2 B0.out b1
      obtain ⟨k0, k1⟩ := BX.out w1 b1
      clear b1 B0 AL BX
      go_wp2_with fail
      go_quiet (fail)
      have B9 : Aside (∀ q, Below w.heap.size w (w1.drewN q)) := fun q => below_drew B1.out q
      clear B1 k0 k1
      have BQ : Aside (Below w.heap.size w (w1.drewN nq)) := B9.out nq
      clear B9
      generalize w1.drewN nq = w2 at *
      go_wp2_with fail
      refine (FW.out w2 BQ.out).mono ?_
      rintro e w3 ⟨b, rfl, h20, b3⟩
      have B3 : Aside (Below w.heap.size w w3) := b3
      clear b3 BQ
      cases b with
      | false =>
        go_wp2
        go_ret
        exact ⟨rfl, B3.out⟩
      | true =>
        have n20 := h20 rfl
        clear h20
        clear FW
        go_wp2_with fail
        refine ((fun W hb => RT.out W n20 hb) w3 B3.out).mono ?_
        rintro e w4 ⟨rfl, b4⟩
        have B4 : Aside (Below w.heap.size w w4) := b4
        clear b4 B3 RT
        go_wp2
        go_ret
        exact ⟨rfl, B4.out⟩
  · have FW2 : Aside (∀ W, Below w.heap.size w W → Calls Try.prog 12 #[.slice a n cap] W fun e w' => e = .returned (.bool false) ∧ Below w.heap.size w w') := fun W hb => (FW.out W hb).mono fun _ _ ⟨b, e1, e2, e3⟩ => by
      cases b with
      | false => exact ⟨e1, e3⟩
      | true => exact absurd (e2 rfl) h20
    clear h h20 FW RT C1 C2 C3 MK
    go_enter Try.func6, Try.ntmps6
    go_wp2_with fail
    refine (AL.out (w.alloc (.cells #[.string kx, .string tx] 44)) B0.out).mono ?_
    rintro e w1 ⟨rfl, b1⟩
    have B1 : Aside (Below w.heap.size w w1) := later2 B0.out b1
    obtain ⟨k0, k1⟩ := BX.out w1 b1
    clear b1 B0 AL BX
    go_wp2_with fail
    go_quiet (fail)
    have B9 : Aside (∀ q, Below w.heap.size w (w1.drewN q)) := fun q => below_drew B1.out q
    clear B1 k0 k1
    have BQ : Aside (Below w.heap.size w (w1.drewN nq)) := B9.out nq
    clear B9
    generalize w1.drewN nq = w2 at *
    go_wp2_with fail
    refine (FW2.out w2 BQ.out).mono ?_
    rintro e w3 ⟨rfl, b3⟩
    have B3 : Aside (Below w.heap.size w w3) := b3
    clear b3 BQ FW2
    go_wp2
    go_ret
    exact ⟨rfl, B3.out⟩

end Go.Proofs.Ytdpnffnogckfjaa
