/- KnowMade: the walk. -/
import Derived.Test.YtdpnffnogckfjaaLwE
namespace Go.Proofs.Ytdpnffnogckfjaa
open Go.RowKit

def kinds4 : List UInt8 := [112, 115, 109, 100]
theorem kinds_cell (w : World) (j : Nat) (kk : UInt8) (h : kinds4[j]? = some kk) : (w.alloc (.cells #[.int .u8 112, .int .u8 115, .int .u8 109, .int .u8 100] 5)).cell? ⟨w.heap.size, j, none⟩ = some (.int .u8 (kk.toNat : Int)) := by
  rw [World.cell?_alloc_at _ _ _ _ rfl]
  match j, h with
  | 0, h => cases h; rfl
  | 1, h => cases h; rfl
  | 2, h => cases h; rfl
  | 3, h => cases h; rfl
  | j + 4, h => simp [kinds4] at h
theorem kinds_two {j : Nat} {kk : UInt8} (h : kinds4[j]? = some kk) : Tm.ar1 kk = 2 := by
  match j, h with
  | 0, h => cases h; decide
  | 1, h => cases h; decide
  | 2, h => cases h; decide
  | 3, h => cases h; decide
  | j + 4, h => simp [kinds4] at h
theorem later3 {w w9 wr : World} {kb : Nat} (h : Below w.heap.size w w9) (k : Below w9.heap.size w9 wr) (_ : w.heap.size ≤ kb) (_ : kb < w9.heap.size) : Below w.heap.size w wr := h.trans (k.mono h.size)

/-- What is made of two: as one can come to them. -/
theorem made_good {l : List (List UInt8)} {x y : List UInt8} (hl : Tm.knownE l = 0) (hx : Tm.chk x = 0) (hy : Tm.chk y = 0) (kk : UInt8) (har : Tm.ar1 kk = 2) (hg : Tm.makeE kk [x, y] = 0) :
    Tm.derivesE l (Tm.make kk [x, y]) = 0 ∧ (Tm.derives l x && Tm.derives l y && !Tm.derives l (Tm.make kk [x, y])) = false ∧ (decide (kk = 112) && (Tm.derives l (Tm.make kk [x, y]) != (Tm.derives l x && Tm.derives l y))) = false := by
  obtain ⟨_, _, g3, g4, g5, g6, _⟩ := Tm.make_two_ok har hg
  rw [g4]
  obtain ⟨e1, e2⟩ := der_good hl g3
  rw [e1, e2, (der_good hl hx).2, (der_good hl hy).2]
  have hG := knownE_good hl
  refine ⟨rfl, ?_, ?_⟩
  · cases ha : Tm.canB l x
    · rfl
    · cases hb : Tm.canB l y
      · rfl
      · rw [Tm.can_made hG g3 g6 ha hb]; rfl
  · by_cases hk : kk = 112
    · rw [Tm.can_pair_iff hG g3 (g5.trans hk) g6]
      simp
    · rw [decide_eq_false hk]; rfl

set_option maxRecDepth 20000 in
set_option maxHeartbeats 16000000 in
theorem made_main (a : Option Addr) (n cap : Nat) (l : List (List UInt8)) (x y : ByteArray) (w : World) (h : IsTerms w a n l) (h1 : Tm.knownE l = 0) (t2 : ¬ (400 : Int) < (x.size : Int)) (t3 : ¬ (400 : Int) < (y.size : Int)) (h4 : Tm.chk x.data.toList = 0) (h5 : Tm.chk y.data.toList = 0) :
    Calls Try.prog 7 #[.slice a n cap, .string x, .string y] w fun e w' => e = .returned (.bool true) ∧ Below w.heap.size w w' := by
  have AL : Aside (∀ W, Below w.heap.size w W → _) := fun W hb => c_alive w W hb
  have FW : Aside (∀ W, Below w.heap.size w W → _) := fun W hb => c_few cap h W hb
  have RT : Aside (∀ W, n ≤ 20 → Below w.heap.size w W → _) := fun W hn hb => c_right cap h W hn hb
  have CX : Aside (∀ W, Below w.heap.size w W → Calls Try.prog 19 #[.string x] W fun e w' => e = .returned (.int .i64 (Tm.chk x.data.toList : Nat)) ∧ Below w.heap.size w w') := fun W hb => c_chk x W hb
  have CY : Aside (∀ W, Below w.heap.size w W → Calls Try.prog 19 #[.string y] W fun e w' => e = .returned (.int .i64 (Tm.chk y.data.toList : Nat)) ∧ Below w.heap.size w w') := fun W hb => c_chk y W hb
  have DX : Aside (∀ W, Below w.heap.size w W → _) := fun W hb => c_der cap h x W hb
  have DY : Aside (∀ W, Below w.heap.size w W → _) := fun W hb => c_der cap h y W hb
  have DD : Aside (∀ (t : List UInt8) (W : World), Below w.heap.size w W → Calls Try.prog 15 #[.slice a n cap, str t] W fun e w' => e = .returned (.tuple #[.bool (Tm.derives l t), .int .i64 (Tm.derivesE l t : Nat)]) ∧ Below W.heap.size W w') := fun t W hb => derives_any a n cap l t W h.1 (atS_later hb h.2.2.1)
  have GD : Aside (∀ kk : UInt8, Tm.ar1 kk = 2 → Tm.makeE kk [x.data.toList, y.data.toList] = 0 → Tm.derivesE l (Tm.make kk [x.data.toList, y.data.toList]) = 0 ∧ (Tm.derives l x.data.toList && Tm.derives l y.data.toList && !Tm.derives l (Tm.make kk [x.data.toList, y.data.toList])) = false ∧ (decide (kk = 112) && (Tm.derives l (Tm.make kk [x.data.toList, y.data.toList]) != (Tm.derives l x.data.toList && Tm.derives l y.data.toList))) = false) := fun kk har hg => made_good h1 h4 h5 kk har hg
  rw [decide_eq_true h1] at RT
  rw [(der_good h1 h4).1] at DX
  rw [(der_good h1 h5).1] at DY
  rw [h4] at CX
  rw [h5] at CY
  clear h h1 h4 h5
  generalize hDx : Tm.derives l x.data.toList = Dx at *
  generalize hDy : Tm.derives l y.data.toList = Dy at *
  clear hDx hDy
  go_enter Try.func7, Try.ntmps7
  go_wp2_with fail
  refine (AL.out w (Below.refl _ _)).mono ?_
  rintro e w1 ⟨rfl, b1⟩
  have B1 : Aside (Below w.heap.size w w1) := b1
  clear b1 AL
  go_wp2_with fail
  refine (FW.out w1 B1.out).mono ?_
  rintro e w2 ⟨b, rfl, h20, b2⟩
  have B2 : Aside (Below w.heap.size w w2) := b2
  clear b2 B1
  cases b with
  | false =>
    go_wp2
    go_ret
    exact ⟨rfl, B2.out⟩
  | true =>
    have n20 := h20 rfl
    clear h20
    clear FW
    go_wp2_with fail
    refine ((fun W hb => RT.out W n20 hb) w2 B2.out).mono ?_
    rintro e w3 ⟨rfl, b3⟩
    have B3 : Aside (Below w.heap.size w w3) := b3
    clear b3 B2 RT
    go_wp2_with fail
    refine (CX.out w3 B3.out).mono ?_
    rintro e w4 ⟨rfl, b4⟩
    have B4 : Aside (Below w.heap.size w w4) := b4
    clear b4 B3 CX
    go_wp2_with fail
    refine (CY.out w4 B4.out).mono ?_
    rintro e w5 ⟨rfl, b5⟩
    have B5 : Aside (Below w.heap.size w w5) := b5
    clear b5 B4 CY
    go_wp2_with fail
    refine (DX.out w5 B5.out).mono ?_
    rintro e w6 ⟨rfl, b6⟩
    have B6 : Aside (Below w.heap.size w w6) := b6
    clear b6 B5 DX
    go_wp2_with fail
    refine (DY.out w6 B6.out).mono ?_
    rintro e w7 ⟨rfl, b7⟩
    have B7 : Aside (Below w.heap.size w w7) := b7
    clear b7 B6 DY
    go_wp2_with fail
    have KC : Aside (∀ j (kk : UInt8), kinds4[j]? = some kk → (w7.alloc (.cells #[.int .u8 112, .int .u8 115, .int .u8 109, .int .u8 100] 5)).cell? ⟨w7.heap.size, j, none⟩ = some (.int .u8 (kk.toNat : Int))) := fun j kk hj => kinds_cell w7 j kk hj
    have B9 : Aside (Below w.heap.size w (w7.alloc (.cells #[.int .u8 112, .int .u8 115, .int .u8 109, .int .u8 100] 5))) := B7.out.alloc B7.out.size _
    have S9 : Aside (w7.heap.size < (w7.alloc (.cells #[.int .u8 112, .int .u8 115, .int .u8 109, .int .u8 100] 5)).heap.size ∧ w.heap.size ≤ w7.heap.size) := ⟨by simp, B7.out.size⟩
    generalize w7.alloc (.cells #[.int .u8 112, .int .u8 115, .int .u8 109, .int .u8 100] 5) = w9 at *
    generalize w7.heap.size = kb at *
    clear B7
    go_loopw [67] (fun i wr => ∃ j : Nat, j ≤ 4 ∧ i = .int .i64 j ∧ Below w9.heap.size w9 wr) (fun i _ => 4 - (intOf i).toNat)
    case atStart => exact ⟨0, Nat.zero_le _, rfl, Below.refl _ _⟩
    case round =>
      obtain ⟨j, hj, rfl, hb⟩ := hrel
      have S : Aside (Below w9.heap.size w9 wr) := hb
      clear hb
      by_cases hlt : j < 4
      · have hj4 : j < kinds4.length := hlt
        obtain ⟨kk, hkk⟩ : ∃ kk, kinds4[j]? = some kk := ⟨_, List.getElem?_eq_getElem hj4⟩
        have har : Tm.ar1 kk = 2 := kinds_two hkk
        have c0 : wr.cell? ⟨kb, j, none⟩ = some (.int .u8 (kk.toNat : Int)) := cell_later S.out (KC.out j kk hkk)
        have MK : Aside (∀ W, Below wr.heap.size wr W → _) := fun W hb => c_make (w := wr) kk x.data.toList y.data.toList W hb
        have HZ0 := GD.out kk har
        have pbE : ((kk.toNat : Int) == 112) = decide (kk = 112) := by
          rw [Bool.eq_iff_iff, decide_eq_true_eq, beq_iff_eq]
          constructor
          · intro e; exact UInt8.toNat_inj.1 (by simpa using (by omega : kk.toNat = 112))
          · intro e; subst e; rfl
        have DT : Aside (∀ W, Below w.heap.size w W → _) := fun W hb => DD.out (Tm.make kk [x.data.toList, y.data.toList]) W hb
        have u1 : (j : Int) < 4 := by omega
        have u0 : (0 : Int) ≤ (j : Int) := by omega
        have BW : Aside (Below w.heap.size w wr) := later3 B9.out S.out S9.out.2 S9.out.1
        clear hkk hj4 har DD GD KC
        rw [str_of, str_of] at MK
        by_cases hg : Tm.makeE kk [x.data.toList, y.data.toList] = 0
        · obtain ⟨z1, z2, z3⟩ := HZ0 hg
          rw [hg] at MK
          rw [z1] at DT
          have HZ : Aside (_ ∧ _) := ⟨z2, z3⟩
          clear HZ0 z1 z2 z3 hg
          generalize Tm.makeE kk [x.data.toList, y.data.toList] = gg at *
          generalize Tm.make kk [x.data.toList, y.data.toList] = tt at *
          generalize Tm.derives l tt = z at *
          generalize decide (kk = 112) = pb at *
          generalize (kk.toNat : Int) = ki at *
          unfold str at MK DT
          generalize (⟨tt.toArray⟩ : ByteArray) = xt at *
          cases Dx <;> cases Dy <;> cases z <;> cases pb
          all_goals first
            | exact absurd HZ.out.1 (by decide)
            | exact absurd HZ.out.2 (by decide)
            | (clear HZ
               go_wp2_with fail
               refine (MK.out wr (Below.refl _ _)).mono ?_
               rintro e wa ⟨rfl, ba⟩
               have BA : Aside (Below wr.heap.size wr wa) := ba
               clear ba MK
               go_wp2_with fail
               refine (DT.out wa (later2 BW.out BA.out)).mono ?_
               rintro e wb ⟨rfl, bb⟩
               have BB : Aside (Below wa.heap.size wa wb) := bb
               clear bb DT c0
               go_wp2
               go_roundw
               case rel => exact ⟨j + 1, by omega, by go_num, later2 S.out (later2 BA.out BB.out)⟩
               case measure => simp [intOf]; omega)
        · have t9 := ne_zero hg
          clear HZ0 hg DT
          generalize Tm.makeE kk [x.data.toList, y.data.toList] = gg at *
          generalize Tm.make kk [x.data.toList, y.data.toList] = tt at *
          generalize (kk.toNat : Int) = ki at *
          unfold str at MK
          generalize (⟨tt.toArray⟩ : ByteArray) = xt at *
          go_wp2_with fail
          refine (MK.out wr (Below.refl _ _)).mono ?_
          rintro e wa ⟨rfl, ba⟩
          have BA : Aside (Below wr.heap.size wr wa) := ba
          clear ba MK c0
          go_wp2
          go_roundw
          case rel => exact ⟨j + 1, by omega, by go_num, later2 S.out BA.out⟩
          case measure => simp [intOf]; omega
      · obtain rfl : j = 4 := by omega
        have BW : Aside (Below w.heap.size w wr) := later3 B9.out S.out S9.out.2 S9.out.1
        clear S DD GD
        go_wp2
        go_ret
        exact ⟨rfl, BW.out⟩

set_option maxRecDepth 20000 in
set_option maxHeartbeats 8000000 in
theorem made_walk (a : Option Addr) (n cap : Nat) (l : List (List UInt8)) (x y : ByteArray) (w : World) (h : IsTerms w a n l) :
    Calls Try.prog 7 #[.slice a n cap, .string x, .string y] w fun e w' => e = .returned (.bool true) ∧ Below w.heap.size w w' := by
  have AL : Aside (∀ W, Below w.heap.size w W → _) := fun W hb => c_alive w W hb
  have FW : Aside (∀ W, Below w.heap.size w W → _) := fun W hb => c_few cap h W hb
  have RT : Aside (∀ W, n ≤ 20 → Below w.heap.size w W → _) := fun W hn hb => c_right cap h W hn hb
  have CX : Aside (∀ W, Below w.heap.size w W → Calls Try.prog 19 #[.string x] W fun e w' => e = .returned (.int .i64 (Tm.chk x.data.toList : Nat)) ∧ Below w.heap.size w w') := fun W hb => c_chk x W hb
  have CY : Aside (∀ W, Below w.heap.size w W → Calls Try.prog 19 #[.string y] W fun e w' => e = .returned (.int .i64 (Tm.chk y.data.toList : Nat)) ∧ Below w.heap.size w w') := fun W hb => c_chk y W hb
  by_cases h1 : Tm.knownE l = 0
  · by_cases h2 : 400 < x.size
    · have t2 : (400 : Int) < (x.size : Int) := by omega
      rw [decide_eq_true h1] at RT
      clear h h1 h2 CX CY
      go_enter Try.func7, Try.ntmps7
      go_wp2_with fail
      refine (AL.out w (Below.refl _ _)).mono ?_
      rintro e w1 ⟨rfl, b1⟩
      have B1 : Aside (Below w.heap.size w w1) := b1
      clear b1 AL
      go_wp2_with fail
      refine (FW.out w1 B1.out).mono ?_
      rintro e w2 ⟨b, rfl, h20, b2⟩
      have B2 : Aside (Below w.heap.size w w2) := b2
      clear b2 B1
      cases b with
      | false =>
        go_wp2
        go_ret
        exact ⟨rfl, B2.out⟩
      | true =>
        have n20 := h20 rfl
        clear h20
        clear FW
        go_wp2_with fail
        refine ((fun W hb => RT.out W n20 hb) w2 B2.out).mono ?_
        rintro e w3 ⟨rfl, b3⟩
        have B3 : Aside (Below w.heap.size w w3) := b3
        clear b3 B2 RT
        go_wp2
        go_ret
        exact ⟨rfl, B3.out⟩
    · have t2 : ¬ (400 : Int) < (x.size : Int) := by omega
      by_cases h3 : 400 < y.size
      · have t3 : (400 : Int) < (y.size : Int) := by omega
        rw [decide_eq_true h1] at RT
        clear h h1 h2 h3 CX CY
        go_enter Try.func7, Try.ntmps7
        go_wp2_with fail
        refine (AL.out w (Below.refl _ _)).mono ?_
        rintro e w1 ⟨rfl, b1⟩
        have B1 : Aside (Below w.heap.size w w1) := b1
        clear b1 AL
        go_wp2_with fail
        refine (FW.out w1 B1.out).mono ?_
        rintro e w2 ⟨b, rfl, h20, b2⟩
        have B2 : Aside (Below w.heap.size w w2) := b2
        clear b2 B1
        cases b with
        | false =>
          go_wp2
          go_ret
          exact ⟨rfl, B2.out⟩
        | true =>
          have n20 := h20 rfl
          clear h20
          clear FW
          go_wp2_with fail
          refine ((fun W hb => RT.out W n20 hb) w2 B2.out).mono ?_
          rintro e w3 ⟨rfl, b3⟩
          have B3 : Aside (Below w.heap.size w w3) := b3
          clear b3 B2 RT
          go_wp2
          go_ret
          exact ⟨rfl, B3.out⟩
      · have t3 : ¬ (400 : Int) < (y.size : Int) := by omega
        by_cases h4 : Tm.chk x.data.toList = 0
        · by_cases h5 : Tm.chk y.data.toList = 0
          · exact made_main a n cap l x y w h h1 t2 t3 h4 h5
          · have t5 := ne_zero h5
            rw [decide_eq_true h1] at RT
            rw [h4] at CX
            clear h h1 h2 h3 h4 h5
            generalize Tm.chk y.data.toList = c at *
            go_enter Try.func7, Try.ntmps7
            go_wp2_with fail
            refine (AL.out w (Below.refl _ _)).mono ?_
            rintro e w1 ⟨rfl, b1⟩
            have B1 : Aside (Below w.heap.size w w1) := b1
            clear b1 AL
            go_wp2_with fail
            refine (FW.out w1 B1.out).mono ?_
            rintro e w2 ⟨b, rfl, h20, b2⟩
            have B2 : Aside (Below w.heap.size w w2) := b2
            clear b2 B1
            cases b with
            | false =>
              go_wp2
              go_ret
              exact ⟨rfl, B2.out⟩
            | true =>
              have n20 := h20 rfl
              clear h20
              clear FW
              go_wp2_with fail
              refine ((fun W hb => RT.out W n20 hb) w2 B2.out).mono ?_
              rintro e w3 ⟨rfl, b3⟩
              have B3 : Aside (Below w.heap.size w w3) := b3
              clear b3 B2 RT
              go_wp2_with fail
              refine (CX.out w3 B3.out).mono ?_
              rintro e w4 ⟨rfl, b4⟩
              have B4 : Aside (Below w.heap.size w w4) := b4
              clear b4 B3 CX
              go_wp2_with fail
              refine (CY.out w4 B4.out).mono ?_
              rintro e w5 ⟨rfl, b5⟩
              have B5 : Aside (Below w.heap.size w w5) := b5
              clear b5 B4 CY
              go_wp2
              go_ret
              exact ⟨rfl, B5.out⟩
        · have t5 := ne_zero h4
          rw [decide_eq_true h1] at RT
          clear h h1 h2 h3 h4 CY
          generalize Tm.chk x.data.toList = c at *
          go_enter Try.func7, Try.ntmps7
          go_wp2_with fail
          refine (AL.out w (Below.refl _ _)).mono ?_
          rintro e w1 ⟨rfl, b1⟩
          have B1 : Aside (Below w.heap.size w w1) := b1
          clear b1 AL
          go_wp2_with fail
          refine (FW.out w1 B1.out).mono ?_
          rintro e w2 ⟨b, rfl, h20, b2⟩
          have B2 : Aside (Below w.heap.size w w2) := b2
          clear b2 B1
          cases b with
          | false =>
            go_wp2
            go_ret
            exact ⟨rfl, B2.out⟩
          | true =>
            have n20 := h20 rfl
            clear h20
            clear FW
            go_wp2_with fail
            refine ((fun W hb => RT.out W n20 hb) w2 B2.out).mono ?_
            rintro e w3 ⟨rfl, b3⟩
            have B3 : Aside (Below w.heap.size w w3) := b3
            clear b3 B2 RT
            go_wp2_with fail
            refine (CX.out w3 B3.out).mono ?_
            rintro e w4 ⟨rfl, b4⟩
            have B4 : Aside (Below w.heap.size w w4) := b4
            clear b4 B3 CX
            go_wp2
            go_ret
            exact ⟨rfl, B4.out⟩
  · rw [decide_eq_false h1] at RT
    clear h h1 CX CY
    go_enter Try.func7, Try.ntmps7
    go_wp2_with fail
    refine (AL.out w (Below.refl _ _)).mono ?_
    rintro e w1 ⟨rfl, b1⟩
    have B1 : Aside (Below w.heap.size w w1) := b1
    clear b1 AL
    go_wp2_with fail
    refine (FW.out w1 B1.out).mono ?_
    rintro e w2 ⟨b, rfl, h20, b2⟩
    have B2 : Aside (Below w.heap.size w w2) := b2
    clear b2 B1
    cases b with
    | false =>
      go_wp2
      go_ret
      exact ⟨rfl, B2.out⟩
    | true =>
      have n20 := h20 rfl
      clear h20
      clear FW
      go_wp2_with fail
      refine ((fun W hb => RT.out W n20 hb) w2 B2.out).mono ?_
      rintro e w3 ⟨rfl, b3⟩
      have B3 : Aside (Below w.heap.size w w3) := b3
      clear b3 B2 RT
      go_wp2
      go_ret
      exact ⟨rfl, B3.out⟩

end Go.Proofs.Ytdpnffnogckfjaa
