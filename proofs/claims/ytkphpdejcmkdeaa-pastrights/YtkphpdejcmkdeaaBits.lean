/- Plain mathematics on the model's words for bits: the highest bit of 64, and all of them turned. -/
import Derived.WalkKit
import Derived.WalkSpells
import Derived.WalkLawsBesides
import Derived.Laws.Bits64
import Derived.Laws.Bits64b
namespace Go.Proofs.Ytkphpdejcmkdeaa
namespace Fl

theorem and_top (k : Nat) (h : k < 18446744073709551616) : k &&& 9223372036854775808 = if 9223372036854775808 ≤ k then 9223372036854775808 else 0 := by
  have e : (9223372036854775808 : Nat) = 2 ^ 63 := rfl
  apply Nat.eq_of_testBit_eq
  intro i
  rw [Nat.testBit_and]
  by_cases g : 9223372036854775808 ≤ k
  · rw [if_pos g, e, Nat.testBit_two_pow]
    by_cases q : 63 = i
    · subst q; rw [Nat.testBit_eq_decide_div_mod_eq, decide_eq_true (by omega)]; rfl
    · rw [decide_eq_false q]; simp
  · rw [if_neg g, e, Nat.testBit_two_pow, Nat.zero_testBit]
    by_cases q : 63 = i
    · subst q; rw [Nat.testBit_eq_decide_div_mod_eq, decide_eq_false (by omega)]; rfl
    · rw [decide_eq_false q]; simp

theorem low_xor_top (r : Nat) (h : r < 9223372036854775808) : r ^^^ 9223372036854775808 = r + 9223372036854775808 := by
  have e : (9223372036854775808 : Nat) = 2 ^ 63 := rfl
  apply Nat.eq_of_testBit_eq
  intro i
  rw [Nat.testBit_xor, e, Nat.testBit_two_pow, Nat.add_comm]
  rcases Nat.lt_trichotomy i 63 with g | g | g
  · rw [Nat.testBit_two_pow_add_gt g, decide_eq_false (by omega)]; simp
  · subst g; rw [Nat.testBit_two_pow_add_eq]; simp
  · rw [decide_eq_false (by omega)]
    have h1 : r < 2 ^ i := Nat.lt_of_lt_of_le h (Nat.pow_le_pow_right (n := 2) (by omega) (by omega : 63 ≤ i))
    have h2 : 2 ^ 63 + r < 2 ^ i := Nat.lt_of_lt_of_le (m := 2 ^ 64) (by omega) (Nat.pow_le_pow_right (by omega) (by omega))
    rw [Nat.testBit_lt_two_pow h1, Nat.testBit_lt_two_pow h2]; rfl

theorem xor_top (k : Nat) : k < 18446744073709551616 → k ^^^ 9223372036854775808 = if 9223372036854775808 ≤ k then k - 9223372036854775808 else k + 9223372036854775808 := by
  intro h
  by_cases g : 9223372036854775808 ≤ k
  · rw [if_pos g]
    have hl := low_xor_top (k - 9223372036854775808) (by omega)
    have e : k = (k - 9223372036854775808) ^^^ 9223372036854775808 := by rw [hl]; omega
    conv => lhs; rw [e]
    rw [Nat.xor_assoc, Nat.xor_self, Nat.xor_zero]
  · rw [if_neg g, low_xor_top k (by omega)]

theorem not_all (k : Nat) (h : k < 18446744073709551616) : 18446744073709551615 ^^^ k = 18446744073709551615 - k := by
  have e1 : (BitVec.allOnes 64 ^^^ BitVec.ofNat 64 k).toNat = 18446744073709551615 ^^^ k := by
    rw [BitVec.toNat_xor, BitVec.toNat_allOnes, BitVec.toNat_ofNat, Nat.mod_eq_of_lt h]
  rw [← e1, BitVec.allOnes_xor, BitVec.toNat_not, BitVec.toNat_ofNat, Nat.mod_eq_of_lt h]

theorem b_and (k : Nat) (h : k < 18446744073709551616) : (bits .and .u64 (k : Int) 9223372036854775808 != 0) = decide (9223372036854775808 ≤ k) := by
  have e := bits_and_u64_nat k 9223372036854775808 h (by omega)
  rw [and_top k h] at e
  have e' : bits .and .u64 (k : Int) 9223372036854775808 = _ := e
  rw [e']
  by_cases g : 9223372036854775808 ≤ k
  · rw [if_pos g, decide_eq_true g]; rfl
  · rw [if_neg g, decide_eq_false g]; rfl

theorem b_xor (k : Nat) (h : k < 18446744073709551616) : bits .xor .u64 (k : Int) 9223372036854775808 = ((if 9223372036854775808 ≤ k then k - 9223372036854775808 else k + 9223372036854775808 : Nat) : Int) := by
  have e := bits_xor_u64_nat k 9223372036854775808 h (by omega)
  rw [xor_top k h] at e
  exact e

theorem b_not (k : Nat) (h : k < 18446744073709551616) : bits .xor .u64 IntKind.u64.max (k : Int) = ((18446744073709551615 - k : Nat) : Int) := by
  have e := bits_xor_u64_nat 18446744073709551615 k (by omega) h
  rw [not_all k h] at e
  exact e

end Fl
end Go.Proofs.Ytkphpdejcmkdeaa
