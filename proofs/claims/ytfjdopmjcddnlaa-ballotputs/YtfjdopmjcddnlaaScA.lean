/- What Has, With and Without give, the program's and the document's own: a contract a function, over the translated program. -/
import Derived.Test.YtfjdopmjcddnlaaNmA
import Derived.Laws.BitsAllLaws
namespace Go.Proofs.Ytfjdopmjcddnlaa
open Go.RowKit

namespace Cn
/-- A member's bit; nought, if there is no such member. -/
def bitV (id : Nat) : Nat := if id ≤ 15 then 2 ^ id else 0
theorem bitV_small (id : Nat) : bitV id < 65536 := by
  unfold bitV; split
  · exact Nat.pow_lt_pow_right (by omega) (show id < 16 by omega)
  · omega
theorem test_bit (id j : Nat) : (bitV id).testBit j = (decide (id ≤ 15) && decide (id = j)) := by
  unfold bitV; split
  · next h => rw [Nat.testBit_two_pow]; simp [h]
  · next h => simp [h]
theorem or_bit (s id : Nat) : s ||| bitV id = withS s id := by
  refine Nat.eq_of_testBit_eq fun j => ?_
  rw [Nat.testBit_or, test_bit, test_with]
theorem not_bit {s : Nat} (hs : s < 65536) (id : Nat) : s &&& (65535 - bitV id) = withoutS s id := by
  refine Nat.eq_of_testBit_eq fun j => ?_
  have h := bitV_small id
  have e : 65535 - bitV id = 2 ^ 16 - (bitV id + 1) := by omega
  rw [Nat.testBit_and, e, Nat.testBit_two_pow_sub_succ h, test_bit, test_without]
  by_cases hj : j < 16
  · simp [hj]
  · rw [test_big hs (by omega)]; simp
theorem and_bit (s id : Nat) : (s &&& bitV id = 0) ↔ hasS s id = false := by
  constructor
  · intro h
    unfold hasS
    by_cases h1 : id ≤ 15
    · have := congrArg (fun x => Nat.testBit x id) h
      simp only [Nat.testBit_and, test_bit] at this
      simpa [h1] using this
    · simp [h1]
  · intro h
    refine Nat.eq_of_testBit_eq fun j => ?_
    rw [Nat.testBit_and, test_bit, Nat.zero_testBit]
    unfold hasS at h
    by_cases h1 : id = j
    · subst h1
      by_cases h2 : id ≤ 15
      · simp [h2] at h; simp [h]
      · simp [h2]
    · simp [h1]
theorem has_true {s id : Nat} (h : hasS s id = true) : id ≤ 15 ∧ s.testBit id = true := by
  unfold hasS at h
  rw [Bool.and_eq_true, decide_eq_true_eq] at h
  exact h
end Cn

theorem ret_s {a b : Int} (h : a = b) : Ending.returned (.int .u16 a) = .returned (.int .u16 b) := by rw [h]

theorem bit_any (id : Nat) (w : World) : Calls Try.prog 42 #[.int .u8 (id : Nat)] w fun e w' => e = .returned (.int .u16 (Cn.bitV id : Nat)) ∧ w' = w := by
  by_cases h : id ≤ 15
  · have e : id = 0 ∨ id = 1 ∨ id = 2 ∨ id = 3 ∨ id = 4 ∨ id = 5 ∨ id = 6 ∨ id = 7 ∨ id = 8 ∨ id = 9 ∨ id = 10 ∨ id = 11 ∨ id = 12 ∨ id = 13 ∨ id = 14 ∨ id = 15 := by omega
    clear h
    rcases e with rfl | rfl | rfl | rfl | rfl | rfl | rfl | rfl | rfl | rfl | rfl | rfl | rfl | rfl | rfl | rfl
    all_goals
      simp only [Cn.bitV, Nat.reduceLeDiff, if_true, Nat.reducePow, Int.cast_ofNat_Int]
      go_enter Try.func42, Try.ntmps42
      go_wp2
      go_ret
      exact ⟨rfl, rfl⟩
  · have e : Cn.bitV id = 0 := if_neg h
    rw [e]
    have t1 : (16 : Int) ≤ (id : Int) := by omega
    go_enter Try.func42, Try.ntmps42
    go_wp2
    go_ret
    exact ⟨rfl, rfl⟩

set_option maxHeartbeats 1000000 in
theorem value_any (id : Nat) (w : World) (h8 : id < 256) : Calls Try.prog 40 #[.int .u8 (id : Nat)] w fun e w' => e = .returned (.int .u16 (Cn.bitV id : Nat)) ∧ w' = w := by
  by_cases h : id ≤ 15
  · have e : Cn.bitV id = 2 ^ id := if_pos h
    rw [e]
    have t1 : ¬ (15 : Int) < (id : Int) := by omega
    obtain ⟨r, hr⟩ : ∃ r, r = 2 ^ id := ⟨_, rfl⟩
    have R : Hid (r = 2 ^ id) := hr
    rw [← hr]
    clear hr e
    go_enter Try.func40, Try.ntmps40
    go_wp2_with fail
    go_loop [3, 4] (fun v i => ∃ j p : Nat, j ≤ id ∧ i = .int .i64 j ∧ v = .int .u16 p ∧ p = 2 ^ j) (fun _ i => id - (intOf i).toNat)
    case atStart => exact ⟨0, 1, Nat.zero_le _, rfl, rfl, rfl⟩
    case round =>
      obtain ⟨j, p, hj, rfl, rfl, hp⟩ := hrel
      by_cases hlt : j < id
      · have t2 : (j : Int) < (id : Int) := by omega
        have t3 : (p : Int) < 32768 := by
          have : 2 ^ j < 2 ^ 15 := Nat.pow_lt_pow_right (by omega) (by omega)
          omega
        have P : Hid (2 * p = 2 ^ (j + 1)) := by show 2 * p = _; rw [hp, Nat.pow_succ]; omega
        clear hp
        go_wp2
        go_round
        case rel => exact ⟨j + 1, 2 * p, by omega, by go_num, by congr 1; omega, P.out⟩
        case measure => simp [intOf]; omega
      · have t2 : ¬ (j : Int) < (id : Int) := by omega
        have P : Hid (p = r) := by show p = _; rw [hp, R.out]; congr 1; omega
        clear hp
        go_wp2
        go_ret
        exact ⟨ret_s (by rw [P.out]), rfl⟩
  · have e : Cn.bitV id = 0 := if_neg h
    rw [e]
    have t1 : (15 : Int) < (id : Int) := by omega
    go_enter Try.func40, Try.ntmps40
    go_wp2
    go_ret
    exact ⟨rfl, rfl⟩

theorem ne_zero {c : Nat} {t : Bool} (h : c = 0 ↔ t = false) : ((c : Int) != 0) = t := by
  cases t
  · have := h.2 rfl; subst this; rfl
  · have : ¬ c = 0 := fun e => by have := h.1 e; cases this
    have h2 : ¬ (c : Int) = 0 := by omega
    simpa using h2

theorem has_any (s id : Nat) (w : World) (hs : s < 65536) : Calls Try.prog 26 #[.int .u16 (s : Nat), .int .u8 (id : Nat)] w fun e w' => e = .returned (.bool (Cn.hasS s id)) ∧ w' = w := by
  have hb := bit_any id w
  have hu := u16_and_nat s (Cn.bitV id) hs (Cn.bitV_small id)
  have hn := ne_zero (Cn.and_bit s id)
  generalize s &&& Cn.bitV id = c at hu hn
  generalize Cn.hasS s id = t at hn ⊢
  generalize (Cn.bitV id : Int) = b at hu hb
  clear hs
  go_enter Try.func26, Try.ntmps26
  go_wp2_with (go_at_call 42; refine hb.mono ?_; rintro e w' ⟨rfl, rfl⟩)
  go_ret
  exact ⟨rfl, rfl⟩

theorem with_any (s id : Nat) (w : World) (hs : s < 65536) : Calls Try.prog 51 #[.int .u16 (s : Nat), .int .u8 (id : Nat)] w fun e w' => e = .returned (.int .u16 (Cn.withS s id : Nat)) ∧ w' = w := by
  have hb := bit_any id w
  have hu := u16_or_nat s (Cn.bitV id) hs (Cn.bitV_small id)
  rw [Cn.or_bit] at hu
  generalize (Cn.withS s id : Int) = c at hu ⊢
  generalize (Cn.bitV id : Int) = b at hu hb
  clear hs
  go_enter Try.func51, Try.ntmps51
  go_wp2_with (go_at_call 42; refine hb.mono ?_; rintro e w' ⟨rfl, rfl⟩)
  go_ret
  exact ⟨rfl, rfl⟩

theorem without_any (s id : Nat) (w : World) (hs : s < 65536) : Calls Try.prog 52 #[.int .u16 (s : Nat), .int .u8 (id : Nat)] w fun e w' => e = .returned (.int .u16 (Cn.withoutS s id : Nat)) ∧ w' = w := by
  have hb := bit_any id w
  have hu := u16_andNot_nat s (Cn.bitV id) hs (Cn.bitV_small id)
  rw [Cn.not_bit hs] at hu
  generalize (Cn.withoutS s id : Int) = c at hu ⊢
  generalize (Cn.bitV id : Int) = b at hu hb
  clear hs
  go_enter Try.func52, Try.ntmps52
  go_wp2_with (go_at_call 42; refine hb.mono ?_; rintro e w' ⟨rfl, rfl⟩)
  go_ret
  exact ⟨rfl, rfl⟩

theorem rhas_any (s id : Nat) (w : World) (hs : s < 65536) (h8 : id < 256) : Calls Try.prog 23 #[.int .u16 (s : Nat), .int .u8 (id : Nat)] w fun e w' => e = .returned (.bool (Cn.hasS s id)) ∧ w' = w := by
  have hb := value_any id w h8
  by_cases h : id ≤ 15
  · have t1 : (id : Int) ≤ 15 := by omega
    have e : Cn.bitV id = 2 ^ id := if_pos h
    rw [e] at hb
    rw [Cn.hasS_div, decide_eq_true h, Bool.true_and]
    have hp : 0 < 2 ^ id := Nat.two_pow_pos _
    generalize 2 ^ id = p at hb hp ⊢
    have hd : ((s : Int) / (p : Int)) = ((s / p : Nat) : Int) := (Int.natCast_ediv s p).symm
    have hq : s / p < 65536 := Nat.lt_of_le_of_lt (Nat.div_le_self _ _) hs
    have hr : decide (s / p % 2 = 1) = ((((s / p : Nat) : Int) % 2) == 1) := by
      by_cases g : s / p % 2 = 1
      · rw [decide_eq_true g]; symm; simp; omega
      · rw [decide_eq_false g]; symm; simp; omega
    rw [hr]
    generalize s / p = q at hd hq ⊢
    have t0 : (p : Int) ≠ 0 := by omega
    have t2 : (0 : Int) < (p : Int) := by omega
    go_enter Try.func23, Try.ntmps23
    go_wp2_with (go_at_call 40; refine hb.mono ?_; rintro e w' ⟨rfl, rfl⟩)
    go_ret
    exact ⟨rfl, rfl⟩
  · have t1 : ¬ (id : Int) ≤ 15 := by omega
    have e : Cn.hasS s id = false := by unfold Cn.hasS; rw [decide_eq_false h]; rfl
    rw [e]
    go_enter Try.func23, Try.ntmps23
    go_wp2
    go_ret
    exact ⟨rfl, rfl⟩

theorem rwith_any (s id : Nat) (w : World) (hs : s < 65536) (h8 : id < 256) : Calls Try.prog 35 #[.int .u16 (s : Nat), .int .u8 (id : Nat)] w fun e w' => e = .returned (.int .u16 (Cn.withS s id : Nat)) ∧ w' = w := by
  have hh := rhas_any s id w hs h8
  have hb := value_any id w h8
  have hw := Cn.with_small (id := id) hs
  cases ht : Cn.hasS s id with
  | true =>
    rw [ht] at hh
    have e : Cn.withS s id = s := by
      obtain ⟨g1, g2⟩ := Cn.has_true ht
      unfold Cn.withS; rw [g2]; simp
    rw [e]
    clear hb hw ht e
    go_enter Try.func35, Try.ntmps35
    go_wp2_with (go_at_call 23; refine hh.mono ?_; rintro e w' ⟨rfl, rfl⟩)
    go_ret
    exact ⟨rfl, rfl⟩
  | false =>
    rw [ht] at hh
    have e : Cn.withS s id = s + Cn.bitV id := by
      unfold Cn.hasS at ht
      unfold Cn.withS Cn.bitV
      by_cases g : id ≤ 15
      · simp [g] at ht; simp [g, ht]
      · simp [g]
    rw [e] at hw ⊢
    clear ht e
    generalize Cn.bitV id = b at *
    go_enter Try.func35, Try.ntmps35
    go_wp2_with fail
    refine hh.mono ?_; rintro e w' ⟨rfl, rfl⟩
    go_wp2_with fail
    refine hb.mono ?_; rintro e w' ⟨rfl, rfl⟩
    go_wp2
    go_ret
    exact ⟨ret_s (by omega), rfl⟩

theorem rwithout_any (s id : Nat) (w : World) (hs : s < 65536) (h8 : id < 256) : Calls Try.prog 47 #[.int .u16 (s : Nat), .int .u8 (id : Nat)] w fun e w' => e = .returned (.int .u16 (Cn.withoutS s id : Nat)) ∧ w' = w := by
  have hh := rhas_any s id w hs h8
  have hb := value_any id w h8
  cases ht : Cn.hasS s id with
  | false =>
    rw [ht] at hh
    have e : Cn.withoutS s id = s := by unfold Cn.withoutS; rw [ht]; rfl
    rw [e]
    clear hb ht e
    go_enter Try.func47, Try.ntmps47
    go_wp2_with (go_at_call 23; refine hh.mono ?_; rintro e w' ⟨rfl, rfl⟩)
    go_ret
    exact ⟨rfl, rfl⟩
  | true =>
    rw [ht] at hh
    obtain ⟨g1, g2⟩ := Cn.has_true ht
    have e : Cn.withoutS s id = s - 2 ^ id := by unfold Cn.withoutS; rw [ht]; rfl
    have e2 : Cn.bitV id = 2 ^ id := if_pos g1
    have hge := Cn.ge_bit g2
    rw [e]
    rw [e2] at hb
    clear ht e e2
    generalize 2 ^ id = b at *
    go_enter Try.func47, Try.ntmps47
    go_wp2_with fail
    refine hh.mono ?_; rintro e w' ⟨rfl, rfl⟩
    go_wp2_with fail
    refine hb.mono ?_; rintro e w' ⟨rfl, rfl⟩
    go_wp2
    go_ret
    exact ⟨ret_s (by omega), rfl⟩

end Go.Proofs.Ytfjdopmjcddnlaa
