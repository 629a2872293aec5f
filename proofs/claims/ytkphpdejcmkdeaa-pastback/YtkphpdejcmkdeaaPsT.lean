/- The law that bodies come back: what it walks. -/
import Derived.Test.YtkphpdejcmkdeaaPsS
set_option linter.unusedVariables false
namespace Go.Proofs.Ytkphpdejcmkdeaa
open Go.RowKit Go.Shelf
namespace Ps

set_option maxHeartbeats 16000000 in
set_option maxRecDepth 100000 in
theorem back_walk (a b : Bd) (s : ByteArray) (w : World) (ha : Small a) (hb : Small b) :
    Calls Try.prog 5 #[.agg (bdA a), .agg (bdA b), .string s] w fun e w' => e = .returned (.bool true) ∧ Below w.heap.size w w' := by
  have CA : Aside (∀ W, Calls Try.prog 9 #[] W fun e w' => e = .returned (.bool true) ∧ Below W.heap.size W w') := fun W => alive_any W
  obtain ⟨X, hX⟩ : ∃ X, X = encS a := ⟨_, rfl⟩
  obtain ⟨Y, hY⟩ : ∃ Y, Y = encS b := ⟨_, rfl⟩
  have CE : Aside (∀ W, Calls Try.prog 14 #[.agg (bdA a)] W fun e w' => e = .returned (.tuple #[.string X, .int .i64 (encK a : Nat)]) ∧ Below W.heap.size W w') := fun W => by rw [hX]; exact encode_bd a W ha
  have CF : Aside (∀ W, Calls Try.prog 14 #[.agg (bdA b)] W fun e w' => e = .returned (.tuple #[.string Y, .int .i64 (encK b : Nat)]) ∧ Below W.heap.size W w') := fun W => by rw [hY]; exact encode_bd b W hb
  have CN : Aside (dec s.data.toList = none → ∀ W, Calls Try.prog 16 #[.string s] W fun e w' => e = .returned (.tuple #[.agg (bdA zeroB), .int .i64 4]) ∧ Below W.heap.size W w') := fun h W => by
    have := decode_bd s W
    unfold DecP decB decK at this
    rw [h] at this; exact this
  have CS : Aside (∀ z, dec s.data.toList = some z → (∀ W, Calls Try.prog 16 #[.string s] W fun e w' => e = .returned (.tuple #[.agg (bdA z), .int .i64 0]) ∧ Below W.heap.size W w') ∧ (∀ W, Calls Try.prog 14 #[.agg (bdA z)] W fun e w' => e = .returned (.tuple #[.string s, .int .i64 0]) ∧ Below W.heap.size W w') ∧ Small z) := fun z h => by
    obtain ⟨hm, hby⟩ := dec_some h
    have hs : Small z := fun i hi => by have := (may_iff.1 hm).2.2.1 i hi; omega
    refine ⟨fun W => ?_, fun W => ?_, hs⟩
    · have := decode_bd s W
      unfold DecP decB decK at this
      rw [h] at this; exact this
    · have := encode_bd z W hs
      unfold encS encK at this
      rw [hm, hby] at this; exact this
  have DA : Aside (may a = true → ∀ W, Calls Try.prog 16 #[.string X] W fun e w' => e = .returned (.tuple #[.agg (bdA a), .int .i64 0]) ∧ Below W.heap.size W w') := fun hm W => by
    obtain ⟨b', h1, h2⟩ := dec_bytes hm
    have := decode_bd X W
    unfold DecP decB decK at this
    rw [show X.data.toList = bytes a by rw [hX]; unfold encS; rw [hm]; rfl, h1] at this
    rw [← bdA_alike h2]; exact this
  have n1 : ∀ W, (binOp .neq 29 (.agg (bdA a)) (.agg (bdA a))).run Try.prog W = .ok (.bool false) W := fun W => by
    have := neq_bd29 a a W
    rw [eqB_alike (Alike.refl a)] at this; exact this
  have q1 := fun W => eql_bd29 a b W
  have XY : Aside (may a = true → may b = true → (X.toList == Y.toList) = eqB a b) := fun h1 h2 => by
    rw [eq_arr, hX, hY, Bool.eq_iff_iff, decide_eq_true_eq, eqB_iff]
    unfold encS
    rw [h1, h2]
    simp only [if_true]
    exact ⟨fun e => bytes_inj h1 h2 (by have := congrArg (fun x : ByteArray => x.data.toList) e; exact this), fun e => by rw [bytes_alike e]⟩
  have g1 := fun x y xs ys W => guard_neq29 x y xs ys W
  have g2 := fun x y xs ys W => guard_eql29 x y xs ys W
  generalize eqB a b = rab at q1 XY
  clear hX hY
  obtain ⟨V, hV⟩ : ∃ V, V = (w.alloc (.cells (bdA a) 29)).alloc (.cells (bdA b) 29) := ⟨_, rfl⟩
  have XV : Aside (B18 V w.heap.size 29 a ∧ B18 V (w.heap.size + 1) 29 b ∧ Below w.heap.size w V) := by
    rw [hV]
    refine ⟨(B18.new w 29 a).alloc _, ?_, ((Below.refl _ w).alloc (Nat.le_refl _) _).alloc (by simp) _⟩
    have := B18.new (w.alloc (.cells (bdA a) 29)) 29 b
    rwa [World.size_alloc] at this
  go_enter Try.func5, Try.ntmps5
  go_wp2_with fail
  rw [← hV]
  clear hV
  refine (CA.out V).mono ?_
  rintro e w1 ⟨rfl, hb1⟩
  have A1 : Aside (B18 w1 w.heap.size 29 a) := XV.out.1.later hb1
  have B1 : Aside (B18 w1 (w.heap.size + 1) 29 b) := XV.out.2.1.later hb1
  have Z1 : Aside (Below w.heap.size w w1) := step_below XV.out.2.2 hb1
  have t0 := A1.out.text
  have t1 := B1.out.text
  obtain ⟨T, hT⟩ : ∃ T, T = a.text := ⟨_, rfl⟩
  obtain ⟨U, hU⟩ : ∃ U, U = b.text := ⟨_, rfl⟩
  rw [← hT] at t0
  rw [← hU] at t1
  clear hb1 XV CA hT hU
  by_cases h1000 : (1000 : Int) < (T.size : Int)
  · go_wp2
    go_ret
    exact ⟨rfl, Z1.out⟩
  by_cases h1001 : (1000 : Int) < (U.size : Int)
  · go_wp2
    go_ret
    exact ⟨rfl, Z1.out⟩
  by_cases h1002 : (1000 : Int) < (s.size : Int)
  · go_wp2
    go_ret
    exact ⟨rfl, Z1.out⟩
  go_wp2_with (first
    | (with_reducible refine wpList_bd29 A1.out rfl _ rfl rfl ?_)
    | (go_at_call 14; refine (CE.out _).mono ?_; rintro e w2 ⟨rfl, hb2⟩; have A2 : Aside (B18 w2 w.heap.size 29 a) := A1.out.later hb2; have B2 : Aside (B18 w2 (w.heap.size + 1) 29 b) := B1.out.later hb2; have Z2 : Aside (Below w.heap.size w w2) := step_below Z1.out hb2; clear hb2 A1 B1 Z1 CE t0 t1)
    | (with_reducible refine wpList_bd29 B2.out rfl _ rfl rfl ?_))
  refine (CF.out w2).mono ?_
  rintro e w3 ⟨rfl, hb3⟩
  have A3 : Aside (B18 w3 w.heap.size 29 a) := A2.out.later hb3
  have B3 : Aside (B18 w3 (w.heap.size + 1) 29 b) := B2.out.later hb3
  have Z3 : Aside (Below w.heap.size w w3) := step_below Z2.out hb3
  clear hb3 A2 B2 Z2 CF
  rcases hma : may a with _ | _
  · have ka : encK a = 2 := by unfold encK; rw [hma]; rfl
    rw [ka]
    clear ka DA XY
    generalize encK b = kb
    go_wp2_with fail
    rcases hd : dec s.data.toList with _ | z
    · have C16 := CN.out hd
      have CD : Aside (∀ W, _) := C16
      clear C16
      refine (CD.out w3).mono ?_
      rintro e v1 ⟨rfl, hv1⟩
      have A5 : Aside (B18 v1 w.heap.size 29 a) := A3.out.later hv1
      have B5 : Aside (B18 v1 (w.heap.size + 1) 29 b) := B3.out.later hv1
      have Z5 : Aside (Below w.heap.size w v1) := step_below Z3.out hv1
      clear hv1 A3 B3 Z3 CN CS hd CD
      go_wp2_with ((with_reducible refine wpList_bdS35 v1.heap.size rfl rfl _ _ rfl rfl rfl (fun V6 hW hv6 => ?_)); have A6 : Aside (B18 V6 w.heap.size 29 a) := A5.out.later hv6; have B6 : Aside (B18 V6 (w.heap.size + 1) 29 b) := B5.out.later hv6; have Z6 : Aside (Below w.heap.size w V6) := step_below Z5.out hv6; clear hW hv6 A5 B5 Z5)
      go_ret
      exact ⟨rfl, Z6.out⟩
    · obtain ⟨C16, C14z, hsm⟩ := CS.out z hd
      have CD : Aside (∀ W, _) := C16
      have CZ : Aside (∀ W, _) := C14z
      clear C16 C14z hsm
      refine (CD.out w3).mono ?_
      rintro e v1 ⟨rfl, hv1⟩
      have A5 : Aside (B18 v1 w.heap.size 29 a) := A3.out.later hv1
      have B5 : Aside (B18 v1 (w.heap.size + 1) 29 b) := B3.out.later hv1
      have Z5 : Aside (Below w.heap.size w v1) := step_below Z3.out hv1
      clear hv1 A3 B3 Z3 CN CS hd CD
      go_wp2_with (first
        | ((with_reducible refine wpList_bdS35 v1.heap.size rfl rfl _ _ rfl rfl rfl (fun V6 hW hv6 => ?_)); have Y6 : Aside (B18 V6 v1.heap.size 35 z) := hW; have A6 : Aside (B18 V6 w.heap.size 29 a) := A5.out.later hv6; have B6 : Aside (B18 V6 (w.heap.size + 1) 29 b) := B5.out.later hv6; have Z6 : Aside (Below w.heap.size w V6) := step_below Z5.out hv6; clear hW hv6 A5 B5 Z5)
        | (with_reducible refine wpList_bd35 Y6.out rfl _ rfl rfl ?_)
        | (go_at_call 14; refine (CZ.out _).mono ?_; rintro e v7 ⟨rfl, hv7⟩; have A7 : Aside (B18 v7 w.heap.size 29 a) := A6.out.later hv7; have B7 : Aside (B18 v7 (w.heap.size + 1) 29 b) := B6.out.later hv7; have Z7 : Aside (Below w.heap.size w v7) := step_below Z6.out hv7; clear hv7 A6 B6 Z6 CZ))
      go_ret
      exact ⟨rfl, Z7.out⟩
  · have ka : encK a = 0 := by unfold encK; rw [hma]; rfl
    rw [ka]
    have DA0 := DA.out hma
    have XY0 := XY.out hma
    clear ka DA XY
    have DA : Aside (∀ W, _) := DA0
    clear DA0
    rcases hmb : may b with _ | _
    · have kb : encK b = 2 := by unfold encK; rw [hmb]; rfl
      rw [kb]
      clear kb XY0
      go_wp2_with (first
        | (go_at_call 16; refine (DA.out _).mono ?_; rintro e u4 ⟨rfl, hu4⟩; have A4 : Aside (B18 u4 w.heap.size 29 a) := A3.out.later hu4; have B4 : Aside (B18 u4 (w.heap.size + 1) 29 b) := B3.out.later hu4; have Z4 : Aside (Below w.heap.size w u4) := step_below Z3.out hu4; clear hu4 A3 B3 Z3 DA)
        | ((with_reducible refine wpList_bdS35 u4.heap.size rfl rfl _ _ rfl rfl rfl (fun U5 hW hu5 => ?_)); have Y8 : Aside (B18 U5 u4.heap.size 35 a) := hW; have A8 : Aside (B18 U5 w.heap.size 29 a) := A4.out.later hu5; have B8 : Aside (B18 U5 (w.heap.size + 1) 29 b) := B4.out.later hu5; have Z8 : Aside (Below w.heap.size w U5) := step_below Z4.out hu5; clear hW hu5 A4 B4 Z4)
        | (with_reducible refine wpList_bd35_g Y8.out _ rfl rfl ?_ ?_; focus (go_simp; done))
        | (with_reducible refine wpList_bd29_g A8.out _ rfl rfl ?_ ?_; focus (go_simp; done)))
      rcases hd : dec s.data.toList with _ | z
      · have C16 := CN.out hd
        have CD : Aside (∀ W, _) := C16
        clear C16
        refine (CD.out U5).mono ?_
        rintro e v1 ⟨rfl, hv1⟩
        have A5 : Aside (B18 v1 w.heap.size 29 a) := A8.out.later hv1
        have B5 : Aside (B18 v1 (w.heap.size + 1) 29 b) := B8.out.later hv1
        have Z5 : Aside (Below w.heap.size w v1) := step_below Z8.out hv1
        clear hv1 A8 B8 Z8 CN CS hd CD
        go_wp2_with ((with_reducible refine wpList_bdS35 v1.heap.size rfl rfl _ _ rfl rfl rfl (fun V6 hW hv6 => ?_)); have A6 : Aside (B18 V6 w.heap.size 29 a) := A5.out.later hv6; have B6 : Aside (B18 V6 (w.heap.size + 1) 29 b) := B5.out.later hv6; have Z6 : Aside (Below w.heap.size w V6) := step_below Z5.out hv6; clear hW hv6 A5 B5 Z5)
        go_ret
        exact ⟨rfl, Z6.out⟩
      · obtain ⟨C16, C14z, hsm⟩ := CS.out z hd
        have CD : Aside (∀ W, _) := C16
        have CZ : Aside (∀ W, _) := C14z
        clear C16 C14z hsm
        refine (CD.out U5).mono ?_
        rintro e v1 ⟨rfl, hv1⟩
        have A5 : Aside (B18 v1 w.heap.size 29 a) := A8.out.later hv1
        have B5 : Aside (B18 v1 (w.heap.size + 1) 29 b) := B8.out.later hv1
        have Z5 : Aside (Below w.heap.size w v1) := step_below Z8.out hv1
        clear hv1 A8 B8 Z8 CN CS hd CD
        go_wp2_with (first
          | ((with_reducible refine wpList_bdS35 v1.heap.size rfl rfl _ _ rfl rfl rfl (fun V6 hW hv6 => ?_)); have Y6 : Aside (B18 V6 v1.heap.size 35 z) := hW; have A6 : Aside (B18 V6 w.heap.size 29 a) := A5.out.later hv6; have B6 : Aside (B18 V6 (w.heap.size + 1) 29 b) := B5.out.later hv6; have Z6 : Aside (Below w.heap.size w V6) := step_below Z5.out hv6; clear hW hv6 A5 B5 Z5)
          | (with_reducible refine wpList_bd35 Y6.out rfl _ rfl rfl ?_)
          | (go_at_call 14; refine (CZ.out _).mono ?_; rintro e v7 ⟨rfl, hv7⟩; have A7 : Aside (B18 v7 w.heap.size 29 a) := A6.out.later hv7; have B7 : Aside (B18 v7 (w.heap.size + 1) 29 b) := B6.out.later hv7; have Z7 : Aside (Below w.heap.size w v7) := step_below Z6.out hv7; clear hv7 A6 B6 Z6 CZ))
        go_ret
        exact ⟨rfl, Z7.out⟩
    · have kb : encK b = 0 := by unfold encK; rw [hmb]; rfl
      rw [kb]
      have xy := XY0 hmb
      clear kb XY0
      go_wp2_with (first
        | (go_at_call 16; refine (DA.out _).mono ?_; rintro e u4 ⟨rfl, hu4⟩; have A4 : Aside (B18 u4 w.heap.size 29 a) := A3.out.later hu4; have B4 : Aside (B18 u4 (w.heap.size + 1) 29 b) := B3.out.later hu4; have Z4 : Aside (Below w.heap.size w u4) := step_below Z3.out hu4; clear hu4 A3 B3 Z3 DA)
        | ((with_reducible refine wpList_bdS35 u4.heap.size rfl rfl _ _ rfl rfl rfl (fun U5 hW hu5 => ?_)); have Y8 : Aside (B18 U5 u4.heap.size 35 a) := hW; have A8 : Aside (B18 U5 w.heap.size 29 a) := A4.out.later hu5; have B8 : Aside (B18 U5 (w.heap.size + 1) 29 b) := B4.out.later hu5; have Z8 : Aside (Below w.heap.size w U5) := step_below Z4.out hu5; clear hW hu5 A4 B4 Z4)
        | (with_reducible refine wpList_bd35_g Y8.out _ rfl rfl ?_ ?_; focus (go_simp; done))
        | (with_reducible refine wpList_bd29_g A8.out _ rfl rfl ?_ ?_; focus (go_simp; done)))
      rcases hd : dec s.data.toList with _ | z
      · have C16 := CN.out hd
        have CD : Aside (∀ W, _) := C16
        clear C16
        refine (CD.out U5).mono ?_
        rintro e v1 ⟨rfl, hv1⟩
        have A5 : Aside (B18 v1 w.heap.size 29 a) := A8.out.later hv1
        have B5 : Aside (B18 v1 (w.heap.size + 1) 29 b) := B8.out.later hv1
        have Z5 : Aside (Below w.heap.size w v1) := step_below Z8.out hv1
        clear hv1 A8 B8 Z8 CN CS hd CD
        go_wp2_with (first | (with_reducible refine wpList_bd29_g A6.out _ rfl rfl ?_ ?_; focus (go_simp; done)) | (with_reducible refine wpList_bd29_g B6.out _ rfl rfl ?_ ?_; focus (go_simp; done)) | ((with_reducible refine wpList_bdS35 v1.heap.size rfl rfl _ _ rfl rfl rfl (fun V6 hW hv6 => ?_)); have A6 : Aside (B18 V6 w.heap.size 29 a) := A5.out.later hv6; have B6 : Aside (B18 V6 (w.heap.size + 1) 29 b) := B5.out.later hv6; have Z6 : Aside (Below w.heap.size w V6) := step_below Z5.out hv6; clear hW hv6 A5 B5 Z5))
        go_ret
        exact ⟨rfl, Z6.out⟩
      · obtain ⟨C16, C14z, hsm⟩ := CS.out z hd
        have CD : Aside (∀ W, _) := C16
        have CZ : Aside (∀ W, _) := C14z
        clear C16 C14z hsm
        refine (CD.out U5).mono ?_
        rintro e v1 ⟨rfl, hv1⟩
        have A5 : Aside (B18 v1 w.heap.size 29 a) := A8.out.later hv1
        have B5 : Aside (B18 v1 (w.heap.size + 1) 29 b) := B8.out.later hv1
        have Z5 : Aside (Below w.heap.size w v1) := step_below Z8.out hv1
        clear hv1 A8 B8 Z8 CN CS hd CD
        go_wp2_with (first
          | ((with_reducible refine wpList_bdS35 v1.heap.size rfl rfl _ _ rfl rfl rfl (fun V6 hW hv6 => ?_)); have Y6 : Aside (B18 V6 v1.heap.size 35 z) := hW; have A6 : Aside (B18 V6 w.heap.size 29 a) := A5.out.later hv6; have B6 : Aside (B18 V6 (w.heap.size + 1) 29 b) := B5.out.later hv6; have Z6 : Aside (Below w.heap.size w V6) := step_below Z5.out hv6; clear hW hv6 A5 B5 Z5)
          | (with_reducible refine wpList_bd35 Y6.out rfl _ rfl rfl ?_)
          | (go_at_call 14; refine (CZ.out _).mono ?_; rintro e v7 ⟨rfl, hv7⟩; have A7 : Aside (B18 v7 w.heap.size 29 a) := A6.out.later hv7; have B7 : Aside (B18 v7 (w.heap.size + 1) 29 b) := B6.out.later hv7; have Z7 : Aside (Below w.heap.size w v7) := step_below Z6.out hv7; clear hv7 A6 B6 Z6 CZ)
          | (with_reducible refine wpList_bd29_g A7.out _ rfl rfl ?_ ?_; focus (go_simp; done))
          | (with_reducible refine wpList_bd29_g B7.out _ rfl rfl ?_ ?_; focus (go_simp; done)))
        go_ret
        exact ⟨rfl, Z7.out⟩
end Ps
end Go.Proofs.Ytkphpdejcmkdeaa
