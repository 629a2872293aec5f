/- What the document's own Subs and Make give. -/
import Derived.Test.YtimeggbjmcnnoaaSubs
namespace Go.Proofs.Ytimeggbjmcnnoaa
open Go.RowKit

theorem need_low {k : UInt8} (h : Tm.ar1 k = 0) : needI k < 1 := by
  unfold needI
  rw [if_pos h]
  split <;> omega
theorem need_high {k : UInt8} (h : Tm.ar1 k ≠ 0) : needI k = Tm.ar1 k := by
  have := need_own (k := k) (r := []) (by rw [Tm.own_kind [] h]; omega)
  exact this

set_option maxRecDepth 20000 in
set_option maxHeartbeats 4000000 in
theorem rmake_any (k : UInt8) (a : Option Addr) (n cap : Nat) (l : List (List UInt8)) (w : World) (hn : l.length = n) (hcap : n ≤ 9223372036854775807) (h : AtS w a l) :
    Calls Try.prog 30 #[.int .u8 (k.toNat : Int), .slice a n cap] w (MakePost k l w) := by
  have hP := fun W => need_any k W
  by_cases g1 : Tm.ar1 k = 0 ∨ l.length ≠ Tm.ar1 k
  · have Q1 : Aside (MakePost k l w (.returned (.tuple #[.string ⟨#[]⟩, .int .i64 (2 : Nat)])) w) := makePost_err (by unfold Tm.makeE; rw [if_pos g1]) (by omega) (Below.refl _ _)
    generalize MakePost k l w = Q at Q1 ⊢
    rw [hn] at g1
    by_cases g2 : Tm.ar1 k = 0
    · have t1 := need_low g2
      generalize needI k = c at *
      generalize k.toNat = kk at *
      have P1 : Aside (∀ W, _) := hP
      clear hP h hn g1 g2
      go_enter Try.func30, Try.ntmps30
      go_wp2_with fail
      refine (P1.out w).mono ?_
      rintro e w1 ⟨rfl, hw⟩
      replace hw := hw.symm; subst hw
      go_wp2
      exact Q1.out
    · rw [need_high g2] at hP
      have g3 : n ≠ Tm.ar1 k := by rcases g1 with h | h <;> first | exact h | exact absurd h g2
      generalize Tm.ar1 k = c at *
      generalize k.toNat = kk at *
      have P1 : Aside (∀ W, _) := hP
      have t1 : ¬ (c : Int) < 1 := by omega
      have t2 : ((c : Int) != (n : Int)) = true := by
        have : ¬ (c : Int) = (n : Int) := by omega
        simpa using this
      clear hP h hn g1 g2 g3
      go_enter Try.func30, Try.ntmps30
      go_wp2_with fail
      refine (P1.out w).mono ?_
      rintro e w1 ⟨rfl, hw⟩
      replace hw := hw.symm; subst hw
      go_wp2_with fail
      refine (P1.out w).mono ?_
      rintro e w1 ⟨rfl, hw⟩
      replace hw := hw.symm; subst hw
      go_wp2
      exact Q1.out
  · have g2 : Tm.ar1 k ≠ 0 := fun e => g1 (.inl e)
    have g3 : l.length = Tm.ar1 k := Classical.byContradiction fun e => g1 (.inr e)
    have ha := Tm.ar1_le k
    have E : Aside (Tm.makeE k l = if Tm.firstErr l = 0 then Tm.chk (k :: l.flatten) else Tm.firstErr l) := by
      show _ = _
      unfold Tm.makeE; rw [if_neg g1]
    have G1 : Aside (∀ w' c, Tm.firstErr l = c → c ≠ 0 → Below w.heap.size w w' → MakePost k l w (.returned (.tuple #[.string ⟨#[]⟩, .int .i64 (c : Nat)])) w') :=
      fun w' c h1 h2 hb => makePost_err (by rw [E.out, if_neg (by omega)]; exact h1) h2 hb
    have G2 : Aside (∀ w', Tm.firstErr l = 0 → Tm.chk (k :: l.flatten) ≠ 0 → Below w.heap.size w w' → MakePost k l w (.returned (.tuple #[.string ⟨#[]⟩, .int .i64 3])) w') :=
      fun w' h0 h2 hb => makePost_err (c := 3) (by rw [E.out, if_pos h0]; exact Tm.made_big g2 g3 h0 h2) (by omega) hb
    have G3 : Aside (∀ w' x, Tm.firstErr l = 0 → Tm.chk (k :: l.flatten) = 0 → x.data.toList = k :: l.flatten → Below w.heap.size w w' → MakePost k l w (.returned (.tuple #[.string x, .int .i64 0])) w') :=
      fun w' x h0 h1 h2 hb => makePost_ok (by rw [E.out, if_pos h0]; exact h1) h2 hb
    generalize MakePost k l w = Q at G1 G2 G3 ⊢
    obtain ⟨x0, hx0, hcv⟩ := kind_conv k w
    rw [need_high g2] at hP
    rw [← g3, hn] at hP ha
    have t1 : ¬ (n : Int) < 1 := by omega
    have HN : Hid (l.length = n) := hn
    have B0 : Aside (Below w.heap.size w (w.alloc (.cells #[.int .u8 (k.toNat : Int)] 5))) := (Below.refl _ w).alloc (Nat.le_refl _) _
    have X0 : Aside (x0.data.toList = [k]) := hx0
    have H : Aside (AtS w a l) := h
    generalize k.toNat = kk at *
    have P1 : Aside (∀ W, _) := hP
    clear hP h hn g1 g2 g3 E hx0 hcap
    go_enter Try.func30, Try.ntmps30
    go_wp2_with fail
    refine (P1.out w).mono ?_
    rintro e w1 ⟨rfl, hw⟩
    replace hw := hw.symm; subst hw
    go_wp2_with fail
    refine (P1.out w).mono ?_
    rintro e w1 ⟨rfl, hw⟩
    replace hw := hw.symm; subst hw
    go_wp2_with fail
    go_loopw [6, 7] (fun tx i wr => ∃ (j : Nat) (x : ByteArray), j ≤ n ∧ i = .int .i64 j ∧ tx = .string x ∧ x.size ≤ 1 + 2000 * j ∧ x.data.toList = k :: (l.take j).flatten ∧ Tm.firstErr (l.take j) = 0 ∧ Below w.heap.size w wr) (fun _ i _ => n - (intOf i).toNat)
    case atStart => exact ⟨0, x0, Nat.zero_le _, rfl, rfl, by rw [← len_bytes, X0.out]; simp, by rw [X0.out]; simp, rfl, B0.out⟩
    case round =>
      obtain ⟨j, x, hj, rfl, rfl, hxs, hx, hf, hb⟩ := hrel
      have S : Aside (x.data.toList = k :: (l.take j).flatten ∧ Tm.firstErr (l.take j) = 0 ∧ Below w.heap.size w wr) := ⟨hx, hf, hb⟩
      clear hx hf hb B0 X0
      by_cases hlt : j < n
      · have hjl : j < l.length := by rw [HN.out]; exact hlt
        have hget : l[j]? = some l[j] := List.getElem?_eq_getElem hjl
        have hat := atS_later S.out.2.2 H.out
        rcases hat with he | ⟨b, off, rfl, hc⟩
        · rw [he] at hjl; simp at hjl
        have c0 := hc j _ hget
        unfold str at c0
        obtain ⟨F1, F2⟩ := Tm.firstErr_step hget S.out.2.1
        have F3 := Tm.flat_step hget
        obtain ⟨y, hy⟩ : ∃ y : ByteArray, y = ⟨l[j].toArray⟩ := ⟨_, rfl⟩
        have hyl : y.data.toList = l[j] := by rw [hy]
        rw [← hy] at c0
        have hC := rcheck_any y wr
        rw [hyl] at hC
        by_cases hz : Tm.chk l[j] = 0
        · rw [hz] at hC
          have hys : y.size ≤ 2000 := by rw [← len_bytes, hyl]; exact (Tm.chk_zero hz).1
          have F : Aside ((x ++ y).data.toList = k :: (l.take (j + 1)).flatten ∧ Tm.firstErr (l.take (j + 1)) = 0) := ⟨by rw [app_bytes, S.out.1, hyl, F3]; rfl, F1 hz⟩
          have hsz : (x ++ y).size ≤ 1 + 2000 * (j + 1) := by rw [ByteArray.size_append']; omega
          clear F1 F2 F3 hz hyl hy hc hget hjl G1 G2 G3
          go_wp2_with fail
          refine hC.mono ?_
          rintro e w1 ⟨rfl, hb1⟩
          have B1 : Aside (Below w.heap.size w w1) := below_step S.out.2.2 hb1
          have c1 := cell_later hb1 c0
          clear hC hb1
          go_wp2
          go_roundw
          case rel => exact ⟨j + 1, x ++ y, by omega, by go_num, rfl, hsz, F.out.1, F.out.2, B1.out⟩
          case measure => simp [intOf]; omega
        · have Q1 : Aside (∀ w1, Below wr.heap.size wr w1 → Q (.returned (.tuple #[.string ⟨#[]⟩, .int .i64 (Tm.chk l[j] : Nat)])) w1) := fun w1 hb1 => G1.out w1 _ (F2 hz) hz (below_step S.out.2.2 hb1)
          have t2 : (((Tm.chk l[j] : Nat) : Int) != 0) = true := by
            have : ¬ ((Tm.chk l[j] : Nat) : Int) = 0 := by omega
            simpa using this
          generalize Tm.chk l[j] = cc at *
          clear F1 F2 F3 hz hyl hy hc hget hjl G1 G2 G3 S
          go_wp2_with fail
          refine hC.mono ?_
          rintro e w1 ⟨rfl, hb1⟩
          have Q2 := Q1.out w1 hb1
          clear hC hb1 Q1
          go_wp2
          exact Q2
      · obtain rfl : j = n := by omega
        have S1 := S.out
        rw [List.take_of_length_le (by rw [HN.out]; exact Nat.le_refl _)] at S1
        have hC := rcheck_any x wr
        rw [S1.1] at hC
        by_cases hz : Tm.chk (k :: l.flatten) = 0
        · have Q1 : Aside (∀ w1, Below wr.heap.size wr w1 → Q (.returned (.tuple #[.string x, .int .i64 0])) w1) := fun w1 hb1 => G3.out w1 x S1.2.1 hz S1.1 (below_step S1.2.2 hb1)
          rw [hz] at hC
          clear G1 G2 G3 S S1 hz
          go_wp2_with fail
          refine hC.mono ?_
          rintro e w1 ⟨rfl, hb1⟩
          have Q2 := Q1.out w1 hb1
          clear hC hb1 Q1
          go_wp2
          exact Q2
        · have Q1 : Aside (∀ w1, Below wr.heap.size wr w1 → Q (.returned (.tuple #[.string ⟨#[]⟩, .int .i64 3])) w1) := fun w1 hb1 => G2.out w1 S1.2.1 hz (below_step S1.2.2 hb1)
          have t2 : (((Tm.chk (k :: l.flatten) : Nat) : Int) != 0) = true := by
            have : ¬ ((Tm.chk (k :: l.flatten) : Nat) : Int) = 0 := by omega
            simpa using this
          generalize Tm.chk (k :: l.flatten) = cc at *
          clear G1 G2 G3 S S1 hz
          go_wp2_with fail
          refine hC.mono ?_
          rintro e w1 ⟨rfl, hb1⟩
          have Q2 := Q1.out w1 hb1
          clear hC hb1 Q1
          go_wp2
          exact Q2

end Go.Proofs.Ytimeggbjmcnnoaa
