/- KnowFresh: the walk. -/
import Derived.Test.YtdpnffnogckfjaaLwD
namespace Go.Proofs.Ytdpnffnogckfjaa
open Go.RowKit

set_option maxRecDepth 20000 in
set_option maxHeartbeats 8000000 in
theorem fresh_walk (a : Option Addr) (n cap : Nat) (l : List (List UInt8)) (k : Nat) (o : ByteArray) (w : World) (h : IsTerms w a n l) (hk : k < 65536) :
    Calls Try.prog 5 #[.slice a n cap, .int .u16 (k : Int), .string o] w fun e w' => e = .returned (.bool true) ∧ Below w.heap.size w w' := by
  have AL : Aside (∀ W, Below w.heap.size w W → _) := fun W hb => c_alive w W hb
  have FW : Aside (∀ W, Below w.heap.size w W → _) := fun W hb => c_few cap h W hb
  have RT : Aside (∀ W, n ≤ 20 → Below w.heap.size w W → _) := fun W hn hb => c_right cap h W hn hb
  have CK : Aside (∀ W, Below w.heap.size w W → Calls Try.prog 19 #[.string o] W fun e w' => e = .returned (.int .i64 (Tm.chk o.data.toList : Nat)) ∧ Below w.heap.size w w') := fun W hb => c_chk o W hb
  have NR : Aside (∀ W, Below w.heap.size w W → Calls Try.prog 21 #[.int .u16 (k : Int)] W fun e w' => e = .returned (str (Tm.nonce k)) ∧ Below w.heap.size w w') := fun W hb => (rnonce_any k W hk).mono fun _ _ h => ⟨h.1, later2 hb h.2⟩
  have NN : Aside (∀ W, Below w.heap.size w W → Calls Try.prog 22 #[.int .u16 (k : Int)] W fun e w' => e = .returned (str (Tm.nonce k)) ∧ Below w.heap.size w w') := fun W hb => (nonce_any k W hk).mono fun _ _ h => ⟨h.1, later2 hb h.2⟩
  have HS : Aside (∀ W, n ≤ 20 → Below w.heap.size w W → Calls Try.prog 20 #[.slice a n cap, str (Tm.nonce k)] W fun e w' => e = .returned (.bool (hasB l (Tm.nonce k))) ∧ Below w.heap.size w w') := fun W hn hb => c_has cap h ⟨(Tm.nonce k).toArray⟩ W hn hb
  have MK : Aside (∀ W, Below w.heap.size w W → Calls Try.prog 23 #[.int .u8 112, .slice (some ⟨W.heap.size, 0, none⟩) 2 2] (W.alloc (.cells #[.string o, str (Tm.nonce k)] 23)) fun e w' => e = .returned (.tuple #[str (Tm.make 112 [o.data.toList, Tm.nonce k]), .int .i64 (Tm.makeE 112 [o.data.toList, Tm.nonce k] : Nat)]) ∧ Below w.heap.size w w') := fun W hb => c_make 112 o.data.toList (Tm.nonce k) W hb
  have D1 : Aside (∀ W, Below w.heap.size w W → Calls Try.prog 15 #[.slice a n cap, str (Tm.nonce k)] W fun e w' => e = .returned (.tuple #[.bool (Tm.derives l (Tm.nonce k)), .int .i64 (Tm.derivesE l (Tm.nonce k) : Nat)]) ∧ Below w.heap.size w w') := fun W hb => c_der cap h ⟨(Tm.nonce k).toArray⟩ W hb
  have D2 : Aside (∀ W, Below w.heap.size w W → Calls Try.prog 15 #[.slice a n cap, str (Tm.make 112 [o.data.toList, Tm.nonce k])] W fun e w' => e = .returned (.tuple #[.bool (Tm.derives l (Tm.make 112 [o.data.toList, Tm.nonce k])), .int .i64 (Tm.derivesE l (Tm.make 112 [o.data.toList, Tm.nonce k]) : Nat)]) ∧ Below w.heap.size w w') := fun W hb => c_der cap h ⟨(Tm.make 112 [o.data.toList, Tm.nonce k]).toArray⟩ W hb
  clear h
  by_cases h1 : Tm.knownE l = 0
  · rw [decide_eq_true h1] at RT
    by_cases h2 : 400 < o.size
    · have t2 : (400 : Int) < (o.size : Int) := by omega
      clear h1 h2 CK NR NN HS MK D1 D2
      go_enter Try.func5, Try.ntmps5
      go_wp2_with fail
      refine (AL.out w (Below.refl _ _)).mono ?_
      rintro e w1 ⟨rfl, b1⟩
      have B1 : Aside (Below w.heap.size w w1) := b1
      clear b1 AL
      go_wp2_with fail
      refine (FW.out w1 B1.out).mono ?_
      rintro e w2 ⟨b, rfl, h20, b2⟩
      have B2 : Aside (Below w.heap.size w w2) := b2
      clear b2 B1
      cases b with
      | false =>
        go_wp2
        go_ret
        exact ⟨rfl, B2.out⟩
      | true =>
        have n20 := h20 rfl
        clear h20
        clear FW
        go_wp2_with fail
        refine ((fun W hb => RT.out W n20 hb) w2 B2.out).mono ?_
        rintro e w3 ⟨rfl, b3⟩
        have B3 : Aside (Below w.heap.size w w3) := b3
        clear b3 B2 RT
        go_wp2
        go_ret
        exact ⟨rfl, B3.out⟩
    · have t2 : ¬ (400 : Int) < (o.size : Int) := by omega
      by_cases h3 : Tm.chk o.data.toList = 0
      · rw [h3] at CK
        by_cases h4 : hasB l (Tm.nonce k) = true
        · rw [h4] at HS
          clear h1 h2 h3 h4 NN MK D1 D2
          unfold str at NR HS
          generalize (⟨(Tm.nonce k).toArray⟩ : ByteArray) = xn at *
          go_enter Try.func5, Try.ntmps5
          go_wp2_with fail
          refine (AL.out w (Below.refl _ _)).mono ?_
          rintro e w1 ⟨rfl, b1⟩
          have B1 : Aside (Below w.heap.size w w1) := b1
          clear b1 AL
          go_wp2_with fail
          refine (FW.out w1 B1.out).mono ?_
          rintro e w2 ⟨b, rfl, h20, b2⟩
          have B2 : Aside (Below w.heap.size w w2) := b2
          clear b2 B1
          cases b with
          | false =>
            go_wp2
            go_ret
            exact ⟨rfl, B2.out⟩
          | true =>
            have n20 := h20 rfl
            clear h20
            clear FW
            go_wp2_with fail
            refine ((fun W hb => RT.out W n20 hb) w2 B2.out).mono ?_
            rintro e w3 ⟨rfl, b3⟩
            have B3 : Aside (Below w.heap.size w w3) := b3
            clear b3 B2 RT
            go_wp2_with fail
            refine (CK.out w3 B3.out).mono ?_
            rintro e w4 ⟨rfl, b4⟩
            have B4 : Aside (Below w.heap.size w w4) := b4
            clear b4 B3 CK
            go_wp2_with fail
            refine (NR.out w4 B4.out).mono ?_
            rintro e w5 ⟨rfl, b5⟩
            have B5 : Aside (Below w.heap.size w w5) := b5
            clear b5 B4 NR
            go_wp2_with fail
            refine ((fun W hb => HS.out W n20 hb) w5 B5.out).mono ?_
            rintro e w6 ⟨rfl, b6⟩
            have B6 : Aside (Below w.heap.size w w6) := b6
            clear b6 B5 HS
            go_wp2
            go_ret
            exact ⟨rfl, B6.out⟩
        · have hno : ¬ Tm.Uni l (Tm.nonce k) := fun hu => h4 (hasB_iff.2 hu)
          rw [Bool.eq_false_iff.2 h4] at HS
          have e1 := der_good h1 (Tm.nonce_chk k)
          rw [e1.1, e1.2, Tm.can_fresh (knownE_good h1) hno] at D1
          by_cases h5 : Tm.makeE 112 [o.data.toList, Tm.nonce k] = 0
          · obtain ⟨_, _, g3, g4, g5, g6, _⟩ := Tm.make_two_ok (by decide) h5
            rw [h5] at MK
            rw [g4] at MK D2
            have e2 := der_good h1 g3
            rw [e2.1, e2.2, Tm.can_pair_iff (knownE_good h1) g3 g5 g6, Tm.can_fresh (knownE_good h1) hno, Bool.and_false] at D2
            clear h1 h2 h3 h4 h5 e1 e2 g3 g4 g5 g6 hno
            generalize (112 :: (o.data.toList ++ Tm.nonce k)) = pt at *
            unfold str at NR HS NN MK D1 D2
            generalize (⟨(Tm.nonce k).toArray⟩ : ByteArray) = xn at *
            generalize (⟨pt.toArray⟩ : ByteArray) = xp at *
            go_enter Try.func5, Try.ntmps5
            go_wp2_with fail
            refine (AL.out w (Below.refl _ _)).mono ?_
            rintro e w1 ⟨rfl, b1⟩
            have B1 : Aside (Below w.heap.size w w1) := b1
            clear b1 AL
            go_wp2_with fail
            refine (FW.out w1 B1.out).mono ?_
            rintro e w2 ⟨b, rfl, h20, b2⟩
            have B2 : Aside (Below w.heap.size w w2) := b2
            clear b2 B1
            cases b with
            | false =>
              go_wp2
              go_ret
              exact ⟨rfl, B2.out⟩
            | true =>
              have n20 := h20 rfl
              clear h20
              clear FW
              go_wp2_with fail
              refine ((fun W hb => RT.out W n20 hb) w2 B2.out).mono ?_
              rintro e w3 ⟨rfl, b3⟩
              have B3 : Aside (Below w.heap.size w w3) := b3
              clear b3 B2 RT
              go_wp2_with fail
              refine (CK.out w3 B3.out).mono ?_
              rintro e w4 ⟨rfl, b4⟩
              have B4 : Aside (Below w.heap.size w w4) := b4
              clear b4 B3 CK
              go_wp2_with fail
              refine (NR.out w4 B4.out).mono ?_
              rintro e w5 ⟨rfl, b5⟩
              have B5 : Aside (Below w.heap.size w w5) := b5
              clear b5 B4 NR
              go_wp2_with fail
              refine ((fun W hb => HS.out W n20 hb) w5 B5.out).mono ?_
              rintro e w6 ⟨rfl, b6⟩
              have B6 : Aside (Below w.heap.size w w6) := b6
              clear b6 B5 HS
              go_wp2_with fail
              refine (NN.out w6 B6.out).mono ?_
              rintro e w7 ⟨rfl, b7⟩
              have B7 : Aside (Below w.heap.size w w7) := b7
              clear b7 B6 NN
              go_wp2_with fail
              refine (MK.out w7 B7.out).mono ?_
              rintro e w8 ⟨rfl, b8⟩
              have B8 : Aside (Below w.heap.size w w8) := b8
              clear b8 B7 MK
              go_wp2_with fail
              refine (D1.out w8 B8.out).mono ?_
              rintro e w9 ⟨rfl, b9⟩
              have B9 : Aside (Below w.heap.size w w9) := b9
              clear b9 B8 D1
              go_wp2_with fail
              refine (D2.out w9 B9.out).mono ?_
              rintro e w10 ⟨rfl, b10⟩
              have B10 : Aside (Below w.heap.size w w10) := b10
              clear b10 B9 D2
              go_wp2
              go_ret
              exact ⟨rfl, B10.out⟩
          · have t5 := ne_zero h5
            clear D2 h1 h2 h3 h4 h5 e1 hno
            generalize Tm.makeE 112 [o.data.toList, Tm.nonce k] = c at *
            generalize Tm.make 112 [o.data.toList, Tm.nonce k] = pt at *
            unfold str at NR HS NN MK D1
            generalize (⟨(Tm.nonce k).toArray⟩ : ByteArray) = xn at *
            generalize (⟨pt.toArray⟩ : ByteArray) = xp at *
            go_enter Try.func5, Try.ntmps5
            go_wp2_with fail
            refine (AL.out w (Below.refl _ _)).mono ?_
            rintro e w1 ⟨rfl, b1⟩
            have B1 : Aside (Below w.heap.size w w1) := b1
            clear b1 AL
            go_wp2_with fail
            refine (FW.out w1 B1.out).mono ?_
            rintro e w2 ⟨b, rfl, h20, b2⟩
            have B2 : Aside (Below w.heap.size w w2) := b2
            clear b2 B1
            cases b with
            | false =>
              go_wp2
              go_ret
              exact ⟨rfl, B2.out⟩
            | true =>
              have n20 := h20 rfl
              clear h20
              clear FW
              go_wp2_with fail
              refine ((fun W hb => RT.out W n20 hb) w2 B2.out).mono ?_
              rintro e w3 ⟨rfl, b3⟩
              have B3 : Aside (Below w.heap.size w w3) := b3
              clear b3 B2 RT
              go_wp2_with fail
              refine (CK.out w3 B3.out).mono ?_
              rintro e w4 ⟨rfl, b4⟩
              have B4 : Aside (Below w.heap.size w w4) := b4
              clear b4 B3 CK
              go_wp2_with fail
              refine (NR.out w4 B4.out).mono ?_
              rintro e w5 ⟨rfl, b5⟩
              have B5 : Aside (Below w.heap.size w w5) := b5
              clear b5 B4 NR
              go_wp2_with fail
              refine ((fun W hb => HS.out W n20 hb) w5 B5.out).mono ?_
              rintro e w6 ⟨rfl, b6⟩
              have B6 : Aside (Below w.heap.size w w6) := b6
              clear b6 B5 HS
              go_wp2_with fail
              refine (NN.out w6 B6.out).mono ?_
              rintro e w7 ⟨rfl, b7⟩
              have B7 : Aside (Below w.heap.size w w7) := b7
              clear b7 B6 NN
              go_wp2_with fail
              refine (MK.out w7 B7.out).mono ?_
              rintro e w8 ⟨rfl, b8⟩
              have B8 : Aside (Below w.heap.size w w8) := b8
              clear b8 B7 MK
              go_wp2_with fail
              refine (D1.out w8 B8.out).mono ?_
              rintro e w9 ⟨rfl, b9⟩
              have B9 : Aside (Below w.heap.size w w9) := b9
              clear b9 B8 D1
              go_wp2
              go_ret
              exact ⟨rfl, B9.out⟩
      · have t3 := ne_zero h3
        clear h1 h2 h3 NR NN HS MK D1 D2
        generalize Tm.chk o.data.toList = c at *
        go_enter Try.func5, Try.ntmps5
        go_wp2_with fail
        refine (AL.out w (Below.refl _ _)).mono ?_
        rintro e w1 ⟨rfl, b1⟩
        have B1 : Aside (Below w.heap.size w w1) := b1
        clear b1 AL
        go_wp2_with fail
        refine (FW.out w1 B1.out).mono ?_
        rintro e w2 ⟨b, rfl, h20, b2⟩
        have B2 : Aside (Below w.heap.size w w2) := b2
        clear b2 B1
        cases b with
        | false =>
          go_wp2
          go_ret
          exact ⟨rfl, B2.out⟩
        | true =>
          have n20 := h20 rfl
          clear h20
          clear FW
          go_wp2_with fail
          refine ((fun W hb => RT.out W n20 hb) w2 B2.out).mono ?_
          rintro e w3 ⟨rfl, b3⟩
          have B3 : Aside (Below w.heap.size w w3) := b3
          clear b3 B2 RT
          go_wp2_with fail
          refine (CK.out w3 B3.out).mono ?_
          rintro e w4 ⟨rfl, b4⟩
          have B4 : Aside (Below w.heap.size w w4) := b4
          clear b4 B3 CK
          go_wp2
          go_ret
          exact ⟨rfl, B4.out⟩
  · rw [decide_eq_false h1] at RT
    clear h1 CK NR NN HS MK D1 D2
    go_enter Try.func5, Try.ntmps5
    go_wp2_with fail
    refine (AL.out w (Below.refl _ _)).mono ?_
    rintro e w1 ⟨rfl, b1⟩
    have B1 : Aside (Below w.heap.size w w1) := b1
    clear b1 AL
    go_wp2_with fail
    refine (FW.out w1 B1.out).mono ?_
    rintro e w2 ⟨b, rfl, h20, b2⟩
    have B2 : Aside (Below w.heap.size w w2) := b2
    clear b2 B1
    cases b with
    | false =>
      go_wp2
      go_ret
      exact ⟨rfl, B2.out⟩
    | true =>
      have n20 := h20 rfl
      clear h20
      clear FW
      go_wp2_with fail
      refine ((fun W hb => RT.out W n20 hb) w2 B2.out).mono ?_
      rintro e w3 ⟨rfl, b3⟩
      have B3 : Aside (Below w.heap.size w w3) := b3
      clear b3 B2 RT
      go_wp2
      go_ret
      exact ⟨rfl, B3.out⟩

theorem fresh_law (a : Option Addr) (n cap : Nat) (l : List (List UInt8)) (k : Int) (o : ByteArray) (w : World) (h : IsTerms w a n l) (hk : (Lit.int .u16 k).wf = true) :
    Calls Try.prog 5 #[.slice a n cap, .int .u16 k, .string o] w fun e w' => e = .returned (.bool true) ∧ Below w.heap.size w w' := by
  have b0 : 0 ≤ k ∧ k ≤ 65535 := bounds_u16 hk
  obtain ⟨m, rfl⟩ : ∃ m : Nat, k = (m : Int) := ⟨k.toNat, by omega⟩
  exact fresh_walk a n cap l m o w h (by omega)

end Go.Proofs.Ytdpnffnogckfjaa
