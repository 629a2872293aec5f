/- The law on two sets of enough: what holds of the sets, and which way the walk goes. -/
import Derived.Test.YtogieccgblojdaaMtA
namespace Go.Proofs.Ytogieccgblojdaa
open Go.RowKit

namespace Cn
theorem wrap_pow {m : Nat} (h : m ≤ 16) : ∃ p : Nat, IntKind.u16.wrap ((2 : Int) ^ m) = (p : Int) ∧ IntKind.u16.wrap ((p : Int) - 1) = ((2 ^ m - 1 : Nat) : Int) := by
  have key : ∀ k : Fin 17, IntKind.u16.wrap ((2 : Int) ^ k.val) = ((2 ^ k.val % 65536 : Nat) : Int) ∧ IntKind.u16.wrap (((2 ^ k.val % 65536 : Nat) : Int) - 1) = ((2 ^ k.val - 1 : Nat) : Int) := by decide +kernel
  exact ⟨_, key ⟨m, by omega⟩⟩
theorem all_small {m : Nat} (h : m ≤ 16) : 2 ^ m - 1 < 65536 := by
  have : 2 ^ m ≤ 2 ^ 16 := Nat.pow_le_pow_right (by omega) h
  omega
theorem test_all {m j : Nat} (x : Nat) (h : (x &&& (2 ^ m - 1)).testBit j = true) : j < m := by
  rw [Nat.testBit_and, Nat.testBit_two_pow_sub_one, Bool.and_eq_true, decide_eq_true_eq] at h
  exact h.2
theorem test_rest {m c j : Nat} (hc : c < 65536) (hj : j < 16) : ((2 ^ m - 1) &&& (65535 - c)).testBit j = (decide (j < m) && !c.testBit j) := by
  have e : 65535 - c = 2 ^ 16 - (c + 1) := by omega
  rw [Nat.testBit_and, Nat.testBit_two_pow_sub_one, e, Nat.testBit_two_pow_sub_succ hc, decide_eq_true hj, Bool.true_and]

/-- P5.4, of a set and of those who are not corrupt. -/
theorem rest_size {m x : Nat} (h : m ≤ 16) : let A := 2 ^ m - 1
    ∀ c, c = x &&& A → sizeS (A &&& (65535 - c)) + sizeS c = m := by
  intro A c hc
  subst hc
  have hs : x &&& A < 65536 := Nat.and_lt_two_pow (n := 16) _ (all_small h)
  have h1 := size_minus (a := A) hs
  rw [size_all h] at h1
  have h2 : A &&& (x &&& A) = x &&& A := by
    refine Nat.eq_of_testBit_eq fun j => ?_
    simp only [Nat.testBit_and]
    cases A.testBit j <;> simp
  rw [h2] at h1
  exact h1
theorem meet_rest {m a c : Nat} (h : m ≤ 16) (ha : ∀ j, j < 16 → a.testBit j = true → j < m) (hc : c < 65536) (hcm : ∀ j, j < 16 → c.testBit j = true → j < m) :
    sizeS a ≤ sizeS (a &&& ((2 ^ m - 1) &&& (65535 - c))) + sizeS c := by
  have h1 := meet (a := a) (b := (2 ^ m - 1) &&& (65535 - c)) h ha (fun j hj hb => by
    rw [test_rest hc hj, Bool.and_eq_true, decide_eq_true_eq] at hb; exact hb.1)
  have e : c = c &&& (2 ^ m - 1) := by
    refine Nat.eq_of_testBit_eq fun j => ?_
    rw [Nat.testBit_and, Nat.testBit_two_pow_sub_one]
    by_cases hj : j < 16
    · cases hb : c.testBit j with
      | false => simp
      | true => rw [decide_eq_true (hcm j hj hb)]; rfl
    · rw [test_big hc (by omega)]; simp
  have h2 := rest_size (x := c) h c e
  omega
end Cn

theorem meet_walk (n x0 x1 x2 : Nat) (w : World) (hn : n < 256) (h0 : x0 < 65536) (h1 : x1 < 65536) (h2 : x2 < 65536) :
    Calls Try.prog 6 #[.int .u8 (n : Nat), .agg #[.int .u16 (x0 : Nat), .int .u16 (x1 : Nat), .int .u16 (x2 : Nat)]] w fun e w' => e = .returned (.bool true) ∧ Below w.heap.size w w' := by
  obtain ⟨m, hm⟩ : ∃ m, m = n % 16 + 1 := ⟨_, rfl⟩
  have m1 : 1 ≤ m := by omega
  have m2 : m ≤ 16 := by omega
  obtain ⟨p, hp, hq⟩ := Cn.wrap_pow m2
  have hAs := Cn.all_small m2
  have has : x0 &&& (2 ^ m - 1) < 65536 := Nat.and_lt_two_pow (n := 16) _ hAs
  have hbs : x1 &&& (2 ^ m - 1) < 65536 := Nat.and_lt_two_pow (n := 16) _ hAs
  have hcs : x2 &&& (2 ^ m - 1) < 65536 := Nat.and_lt_two_pow (n := 16) _ hAs
  have hrs : (2 ^ m - 1) &&& (65535 - (x2 &&& (2 ^ m - 1))) < 65536 := Nat.and_lt_two_pow (n := 16) _ (by omega)
  have u0 := u16_and_nat x0 (2 ^ m - 1) h0 hAs
  have u1 := u16_and_nat x1 (2 ^ m - 1) h1 hAs
  have u2 := u16_and_nat x2 (2 ^ m - 1) h2 hAs
  have u3 := u16_andNot_nat (2 ^ m - 1) (x2 &&& (2 ^ m - 1)) hAs hcs
  have u4 := u16_and_nat (x0 &&& (2 ^ m - 1)) (x1 &&& (2 ^ m - 1)) has hbs
  have u5 := u16_and_nat (x0 &&& (2 ^ m - 1)) ((2 ^ m - 1) &&& (65535 - (x2 &&& (2 ^ m - 1)))) has hrs
  have habs : (x0 &&& (2 ^ m - 1)) &&& (x1 &&& (2 ^ m - 1)) < 65536 := Nat.and_lt_two_pow (n := 16) _ hbs
  have hars : (x0 &&& (2 ^ m - 1)) &&& ((2 ^ m - 1) &&& (65535 - (x2 &&& (2 ^ m - 1)))) < 65536 := Nat.and_lt_two_pow (n := 16) _ hrs
  have s1 := Cn.size_all m2
  have s2 := Cn.meet (a := x0 &&& (2 ^ m - 1)) (b := x1 &&& (2 ^ m - 1)) m2 (fun j _ h => Cn.test_all _ h) (fun j _ h => Cn.test_all _ h)
  have s3 := Cn.rest_size (x := x2) m2 _ rfl
  have s4 := Cn.meet_rest (a := x0 &&& (2 ^ m - 1)) m2 (fun j _ h => Cn.test_all _ h) hcs (fun j _ h => Cn.test_all _ h)
  have s5 := Cn.size_zero_iff hars
  obtain ⟨q1, q2, q3, q4, q5⟩ := Cn.numbers (m := (m : Int)) (by omega) (by omega)
  have q6 : Cn.readies (m : Int) = Cn.faulty (m : Int) + 1 := rfl
  have q7 : Cn.enough (m : Int) = 2 * Cn.faulty (m : Int) + 1 := rfl
  have kf := fun W => faulty_any (m : Int) W
  have kE := fun W => echoes_any (m : Int) W
  have kG := fun W => enough_any (m : Int) W
  have kR := fun W => readies_any (m : Int) W
  have kA := fun W (h : Below w.heap.size w W) => c_size _ hAs h
  have ka := fun W (h : Below w.heap.size w W) => c_size _ has h
  have kb := fun W (h : Below w.heap.size w W) => c_size _ hbs h
  have kc := fun W (h : Below w.heap.size w W) => c_size _ hcs h
  have kr := fun W (h : Below w.heap.size w W) => c_size _ hrs h
  have kab := fun W (h : Below w.heap.size w W) => c_size _ habs h
  have kar := fun W (h : Below w.heap.size w W) => c_size _ hars h
  generalize Cn.faulty (m : Int) = f at *
  generalize Cn.echoes (m : Int) = E at *
  generalize Cn.enough (m : Int) = G at *
  generalize Cn.readies (m : Int) = Rr at *
  generalize Cn.sizeS ((x0 &&& (2 ^ m - 1)) &&& (x1 &&& (2 ^ m - 1))) = sab at *
  generalize Cn.sizeS ((x0 &&& (2 ^ m - 1)) &&& ((2 ^ m - 1) &&& (65535 - (x2 &&& (2 ^ m - 1))))) = sar at *
  generalize Cn.sizeS ((2 ^ m - 1) &&& (65535 - (x2 &&& (2 ^ m - 1)))) = sr at *
  generalize Cn.sizeS (x0 &&& (2 ^ m - 1)) = sa at *
  generalize Cn.sizeS (x1 &&& (2 ^ m - 1)) = sb at *
  generalize Cn.sizeS (x2 &&& (2 ^ m - 1)) = sc at *
  generalize Cn.sizeS (2 ^ m - 1) = sA at *
  generalize (x0 &&& (2 ^ m - 1)) &&& (x1 &&& (2 ^ m - 1)) = ab at *
  generalize (x0 &&& (2 ^ m - 1)) &&& ((2 ^ m - 1) &&& (65535 - (x2 &&& (2 ^ m - 1)))) = ar at *
  generalize (2 ^ m - 1) &&& (65535 - (x2 &&& (2 ^ m - 1))) = r at *
  generalize x0 &&& (2 ^ m - 1) = a at *
  generalize x1 &&& (2 ^ m - 1) = b at *
  generalize x2 &&& (2 ^ m - 1) = c at *
  generalize 2 ^ m - 1 = A at *
  have e0 : (n : Int) % 16 + 1 = (m : Int) := by omega
  have hf : 3 * (f : Int) + 1 ≤ (m : Int) := q1
  have hm2 : (m : Int) ≤ 16 := by omega
  have hA : (sA : Int) = (m : Int) := by omega
  have zero : ¬ sar = 0 → ((ar : Int) == 0) = false := by
    intro h
    have h3 : ¬ ar = 0 := fun e => h (s5.2 e)
    have : ¬ (ar : Int) = 0 := by omega
    simpa using this
  by_cases g1 : (E : Int) ≤ (sa : Int)
  · by_cases g2 : (E : Int) ≤ (sb : Int)
    · have g3 : ¬ (sab : Int) ≤ (f : Int) := by omega
      by_cases g4 : (sc : Int) ≤ (f : Int)
      · have g5 : ¬ (sr : Int) < (E : Int) := by omega
        have g6 : ¬ (sr : Int) < (G : Int) := by omega
        by_cases g7 : (G : Int) ≤ (sa : Int)
        · exact meet_32 n m x0 x1 x2 A a b c r ab ar f E G Rr sA sa sb sc sr sab sar w hn e0 p hp hq u0 u1 u2 u3 u4 u5 kf kE kG kR kA ka kb kc kr kab kar hf hm2 hA g1 g2 g3 g4 g5 g6 g7 (by omega) (by omega) (zero (by omega))
        · by_cases g9 : (Rr : Int) ≤ (sa : Int)
          · exact meet_33 n m x0 x1 x2 A a b c r ab ar f E G Rr sA sa sb sc sr sab sar w hn e0 p hp hq u0 u1 u2 u3 u4 u5 kf kE kG kR kA ka kb kc kr kab kar hf hm2 hA g1 g2 g3 g4 g5 g6 g7 g9 (zero (by omega))
          · exact meet_34 n m x0 x1 x2 A a b c r ab ar f E G Rr sA sa sb sc sr sab sar w hn e0 p hp hq u0 u1 u2 u3 u4 u5 kf kE kG kR kA ka kb kc kr kab kar hf hm2 hA g1 g2 g3 g4 g5 g6 g7 g9
      · exact meet_31 n m x0 x1 x2 A a b c r ab ar f E G Rr sA sa sb sc sr sab sar w hn e0 p hp hq u0 u1 u2 u3 u4 u5 kf kE kG kR kA ka kb kc kr kab kar hf hm2 hA g1 g2 g3 g4
    · by_cases g4 : (sc : Int) ≤ (f : Int)
      · have g5 : ¬ (sr : Int) < (E : Int) := by omega
        have g6 : ¬ (sr : Int) < (G : Int) := by omega
        by_cases g7 : (G : Int) ≤ (sa : Int)
        · exact meet_22 n m x0 x1 x2 A a b c r ab ar f E G Rr sA sa sb sc sr sab sar w hn e0 p hp hq u0 u1 u2 u3 u4 u5 kf kE kG kR kA ka kb kc kr kab kar hf hm2 hA g1 g2 g4 g5 g6 g7 (by omega) (by omega) (zero (by omega))
        · by_cases g9 : (Rr : Int) ≤ (sa : Int)
          · exact meet_23 n m x0 x1 x2 A a b c r ab ar f E G Rr sA sa sb sc sr sab sar w hn e0 p hp hq u0 u1 u2 u3 u4 u5 kf kE kG kR kA ka kb kc kr kab kar hf hm2 hA g1 g2 g4 g5 g6 g7 g9 (zero (by omega))
          · exact meet_24 n m x0 x1 x2 A a b c r ab ar f E G Rr sA sa sb sc sr sab sar w hn e0 p hp hq u0 u1 u2 u3 u4 u5 kf kE kG kR kA ka kb kc kr kab kar hf hm2 hA g1 g2 g4 g5 g6 g7 g9
      · exact meet_21 n m x0 x1 x2 A a b c r ab ar f E G Rr sA sa sb sc sr sab sar w hn e0 p hp hq u0 u1 u2 u3 u4 u5 kf kE kG kR kA ka kb kc kr kab kar hf hm2 hA g1 g2 g4
  · by_cases g4 : (sc : Int) ≤ (f : Int)
    · have g5 : ¬ (sr : Int) < (E : Int) := by omega
      have g6 : ¬ (sr : Int) < (G : Int) := by omega
      by_cases g7 : (G : Int) ≤ (sa : Int)
      · exact meet_12 n m x0 x1 x2 A a b c r ab ar f E G Rr sA sa sb sc sr sab sar w hn e0 p hp hq u0 u1 u2 u3 u4 u5 kf kE kG kR kA ka kb kc kr kab kar hf hm2 hA g1 g4 g5 g6 g7 (by omega) (by omega) (zero (by omega))
      · by_cases g9 : (Rr : Int) ≤ (sa : Int)
        · exact meet_13 n m x0 x1 x2 A a b c r ab ar f E G Rr sA sa sb sc sr sab sar w hn e0 p hp hq u0 u1 u2 u3 u4 u5 kf kE kG kR kA ka kb kc kr kab kar hf hm2 hA g1 g4 g5 g6 g7 g9 (zero (by omega))
        · exact meet_14 n m x0 x1 x2 A a b c r ab ar f E G Rr sA sa sb sc sr sab sar w hn e0 p hp hq u0 u1 u2 u3 u4 u5 kf kE kG kR kA ka kb kc kr kab kar hf hm2 hA g1 g4 g5 g6 g7 g9
    · exact meet_11 n m x0 x1 x2 A a b c r ab ar f E G Rr sA sa sb sc sr sab sar w hn e0 p hp hq u0 u1 u2 u3 u4 u5 kf kE kG kR kA ka kb kc kr kab kar hf hm2 hA g1 g4

end Go.Proofs.Ytogieccgblojdaa
