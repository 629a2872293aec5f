/- What the document's own need and own give. -/
import Derived.Test.YtimeggbjmcnnoaaRdB
namespace Go.Proofs.Ytimeggbjmcnnoaa
open Go.RowKit

/-- How many terms stand behind a kind's byte; -1: it is none. -/
def needI (k : UInt8) : Int := if k = 110 ∨ k = 99 then 0 else if Tm.ar1 k = 0 then -1 else Tm.ar1 k

theorem need_any (k : UInt8) (w : World) : Calls Try.prog 41 #[.int .u8 (k.toNat : Int)] w fun e w' => e = .returned (.int .i64 (needI k)) ∧ w' = w := by
  by_cases g1 : k = 110
  · subst g1
    rw [show needI 110 = 0 by decide]
    show Calls Try.prog 41 #[.int .u8 110] w _
    go_enter Try.func41, Try.ntmps41
    go_wp2
    go_ret
    exact ⟨rfl, rfl⟩
  by_cases g2 : k = 99
  · subst g2
    rw [show needI 99 = 0 by decide]
    show Calls Try.prog 41 #[.int .u8 99] w _
    go_enter Try.func41, Try.ntmps41
    go_wp2
    go_ret
    exact ⟨rfl, rfl⟩
  have n1 : ((k.toNat : Int) == 110) = false := byte_ne (m := 110) g1
  have n2 : ((k.toNat : Int) == 99) = false := byte_ne (m := 99) g2
  rcases kind_cases k with rfl | rfl | rfl | rfl | rfl | ⟨h0, h1, h2, h3, h4, h5⟩
  · rw [show needI 104 = 1 by decide]
    show Calls Try.prog 41 #[.int .u8 104] w _
    clear n1 n2 g1 g2
    go_enter Try.func41, Try.ntmps41
    go_wp2
    go_ret
    exact ⟨rfl, rfl⟩
  · rw [show needI 100 = 2 by decide]
    show Calls Try.prog 41 #[.int .u8 100] w _
    clear n1 n2 g1 g2
    go_enter Try.func41, Try.ntmps41
    go_wp2
    go_ret
    exact ⟨rfl, rfl⟩
  · rw [show needI 109 = 2 by decide]
    show Calls Try.prog 41 #[.int .u8 109] w _
    clear n1 n2 g1 g2
    go_enter Try.func41, Try.ntmps41
    go_wp2
    go_ret
    exact ⟨rfl, rfl⟩
  · rw [show needI 115 = 2 by decide]
    show Calls Try.prog 41 #[.int .u8 115] w _
    clear n1 n2 g1 g2
    go_enter Try.func41, Try.ntmps41
    go_wp2
    go_ret
    exact ⟨rfl, rfl⟩
  · rw [show needI 112 = 2 by decide]
    show Calls Try.prog 41 #[.int .u8 112] w _
    clear n1 n2 g1 g2
    go_enter Try.func41, Try.ntmps41
    go_wp2
    go_ret
    exact ⟨rfl, rfl⟩
  · have e : needI k = -1 := by unfold needI; rw [if_neg (by simp [g1, g2]), if_pos h0]
    rw [e]
    generalize (k.toNat : Int) = n at *
    go_enter Try.func41, Try.ntmps41
    go_wp2
    go_ret
    exact ⟨rfl, rfl⟩

theorem need_own {k : UInt8} {r : List UInt8} (h : Tm.own (k :: r) ≠ 0) : needI k = Tm.ar1 k := by
  unfold needI
  by_cases g : k = 110 ∨ k = 99
  · rw [if_pos g]
    rcases g with rfl | rfl <;> rfl
  · rw [if_neg g]
    by_cases e : Tm.ar1 k = 0
    · exfalso; apply h
      rw [not_or] at g
      simp [Tm.own, g.1, g.2, e]
    · rw [if_neg e]

set_option maxHeartbeats 2000000 in
theorem own_any (s : ByteArray) (i : Nat) (bs : List UInt8) (w : World) (hi : i ≤ s.size) (hs : s.size ≤ 2100) (hb : s.data.toList.drop i = bs) :
    Calls Try.prog 42 #[.string s, .int .i64 (i : Nat)] w fun e w' => e = .returned (.int .i64 (Tm.own bs : Nat)) ∧ w' = w := by
  have hlen := drop_len hb hi
  cases bs with
  | nil =>
    have t1 : (s.size : Int) - (i : Int) < 1 := by simp at hlen; omega
    rw [show Tm.own [] = 0 from rfl]
    clear hb
    go_enter Try.func42, Try.ntmps42
    go_wp2
    go_ret
    exact ⟨rfl, rfl⟩
  | cons k r =>
    have X := fun W => idx hb W
    have hr := (at_place hb).2.2
    have t1 : ¬ (s.size : Int) - (i : Int) < 1 := by simp at hlen; omega
    have hN := fun W => need_any k W
    by_cases e1 : k = 110
    · subst e1
      rw [show needI 110 = 0 by decide] at hN
      rw [show ((110 : UInt8).toNat : Int) = 110 from rfl] at hN X
      by_cases e2 : 2 ≤ r.length
      · have t2 : ¬ (s.size : Int) - (i : Int) < 3 := by simp at hlen; omega
        rw [show Tm.own (110 :: r) = 3 by simp [Tm.own, e2]]
        clear hb hr hlen
        go_enter Try.func42, Try.ntmps42
        go_wp2_with fail
        refine (hN w).mono ?_
        rintro e w1 ⟨rfl, hw⟩
        replace hw := hw.symm; subst hw
        go_wp2
        go_ret
        exact ⟨rfl, rfl⟩
      · have t2 : (s.size : Int) - (i : Int) < 3 := by simp at hlen; omega
        rw [show Tm.own (110 :: r) = 0 by simp [Tm.own]; omega]
        clear hb hr hlen
        go_enter Try.func42, Try.ntmps42
        go_wp2_with fail
        refine (hN w).mono ?_
        rintro e w1 ⟨rfl, hw⟩
        replace hw := hw.symm; subst hw
        go_wp2
        go_ret
        exact ⟨rfl, rfl⟩
    · have n1 : ((k.toNat : Int) == 110) = false := byte_ne (m := 110) e1
      by_cases e2 : k = 99
      · subst e2
        rw [show needI 99 = 0 by decide] at hN
        rw [show ((99 : UInt8).toNat : Int) = 99 from rfl] at hN X
        clear n1 e1
        cases r with
        | nil =>
          have t2 : (s.size : Int) - (i : Int) < 2 := by simp at hlen; omega
          rw [show Tm.own [99] = 0 by simp [Tm.own]]
          clear hb hr hlen
          go_enter Try.func42, Try.ntmps42
          go_wp2_with fail
          refine (hN w).mono ?_
          rintro e w1 ⟨rfl, hw⟩
          replace hw := hw.symm; subst hw
          go_wp2
          go_ret
          exact ⟨rfl, rfl⟩
        | cons n q =>
          have t2 : ¬ (s.size : Int) - (i : Int) < 2 := by simp at hlen; omega
          have X2 := fun W => idx hr W
          rw [show ((i + 1 : Nat) : Int) = (i : Int) + 1 by omega] at X2
          by_cases e3 : n.toNat ≤ 40
          · have t3 : ¬ (40 : Int) < (n.toNat : Int) := by omega
            by_cases e4 : n.toNat ≤ q.length
            · have t4 : ¬ (s.size : Int) - (i : Int) < 2 + (n.toNat : Int) := by simp at hlen; omega
              rw [show Tm.own (99 :: n :: q) = 2 + n.toNat by simp [Tm.own, e3, e4]]
              generalize n.toNat = m at *
              clear hb hr hlen
              go_enter Try.func42, Try.ntmps42
              go_wp2_with fail
              refine (hN w).mono ?_
              rintro e w1 ⟨rfl, hw⟩
              replace hw := hw.symm; subst hw
              go_wp2
              go_ret
              exact ⟨rfl, rfl⟩
            · have t4 : (s.size : Int) - (i : Int) < 2 + (n.toNat : Int) := by simp at hlen; omega
              rw [show Tm.own (99 :: n :: q) = 0 by simp [Tm.own]; omega]
              generalize n.toNat = m at *
              clear hb hr hlen
              go_enter Try.func42, Try.ntmps42
              go_wp2_with fail
              refine (hN w).mono ?_
              rintro e w1 ⟨rfl, hw⟩
              replace hw := hw.symm; subst hw
              go_wp2
              go_ret
              exact ⟨rfl, rfl⟩
          · have t3 : (40 : Int) < (n.toNat : Int) := by omega
            rw [show Tm.own (99 :: n :: q) = 0 by simp [Tm.own]; omega]
            generalize n.toNat = m at *
            clear hb hr hlen
            go_enter Try.func42, Try.ntmps42
            go_wp2_with fail
            refine (hN w).mono ?_
            rintro e w1 ⟨rfl, hw⟩
            replace hw := hw.symm; subst hw
            go_wp2
            go_ret
            exact ⟨rfl, rfl⟩
      · have n2 : ((k.toNat : Int) == 99) = false := byte_ne (m := 99) e2
        by_cases e3 : Tm.ar1 k = 0
        · have e4 : needI k = -1 := by unfold needI; rw [if_neg (by simp [e1, e2]), if_pos e3]
          rw [e4] at hN
          rw [show Tm.own (k :: r) = 0 by simp [Tm.own, e1, e2, e3]]
          generalize k.toNat = m at *
          clear hb hr hlen e1 e2 e3 e4
          go_enter Try.func42, Try.ntmps42
          go_wp2_with fail
          refine (hN w).mono ?_
          rintro e w1 ⟨rfl, hw⟩
          replace hw := hw.symm; subst hw
          go_wp2
          go_ret
          exact ⟨rfl, rfl⟩
        · have e4 : needI k = Tm.ar1 k := by unfold needI; rw [if_neg (by simp [e1, e2]), if_neg e3]
          rw [e4] at hN
          have t3 : ¬ (Tm.ar1 k : Int) < 0 := by omega
          rw [show Tm.own (k :: r) = 1 from Tm.own_kind r e3]
          generalize Tm.ar1 k = a at *
          generalize k.toNat = m at *
          clear hb hr hlen e1 e2 e3 e4
          go_enter Try.func42, Try.ntmps42
          go_wp2_with fail
          refine (hN w).mono ?_
          rintro e w1 ⟨rfl, hw⟩
          replace hw := hw.symm; subst hw
          go_wp2
          go_ret
          exact ⟨rfl, rfl⟩

end Go.Proofs.Ytimeggbjmcnnoaa
