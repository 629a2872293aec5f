/- Plain mathematics, no program: two words of float64 that are no NaN stand to each other as their codes do. -/
import Ieee.Arith
namespace Go.Proofs.Ytkphpdejcmkdeaa
namespace Fl
open Ieee

def isN (b : Nat) : Bool := decide (9218868437227405312 < b % 9223372036854775808)
def can (b : Nat) : Nat := if b = 9223372036854775808 then 0 else if 9218868437227405312 < b % 9223372036854775808 then 9221120237041090561 else b
def cod (b : Nat) : Nat := if 9223372036854775808 ≤ can b then 18446744073709551615 - can b else can b + 9223372036854775808
def ord (a b : Nat) : Int := if cod a < cod b then -1 else if cod b < cod a then 1 else 0

/-- The magnitude of a rung, in units of the least place. -/
def val (r : Nat) : Nat := if r < 4503599627370496 then r else (4503599627370496 + r % 4503599627370496) * 2 ^ (r / 4503599627370496 - 1)

theorem val_lt {r s : Nat} (h : r < s) : val r < val s := by
  unfold val
  by_cases h1 : s < 4503599627370496
  · rw [if_pos (by omega), if_pos h1]; exact h
  · rw [if_neg h1]
    have p1 : 0 < 2 ^ (s / 4503599627370496 - 1) := Nat.two_pow_pos _
    by_cases h2 : r < 4503599627370496
    · rw [if_pos h2]
      have := Nat.le_mul_of_pos_right (4503599627370496 + s % 4503599627370496) p1
      omega
    · rw [if_neg h2]
      have hq : r / 4503599627370496 ≤ s / 4503599627370496 := Nat.div_le_div_right (Nat.le_of_lt h)
      rcases Nat.lt_or_eq_of_le hq with hl | he
      · have e1 : (4503599627370496 + r % 4503599627370496) * 2 ^ (r / 4503599627370496 - 1) < (2 * 4503599627370496) * 2 ^ (r / 4503599627370496 - 1) :=
          Nat.mul_lt_mul_of_pos_right (by omega) (Nat.two_pow_pos _)
        have e2 : (2 * 4503599627370496) * 2 ^ (r / 4503599627370496 - 1) = 4503599627370496 * 2 ^ (r / 4503599627370496) := by
          have : r / 4503599627370496 = (r / 4503599627370496 - 1) + 1 := by omega
          conv => rhs; rw [this, Nat.pow_succ]
          rw [Nat.mul_comm 2, Nat.mul_assoc, Nat.mul_comm 2]
        have e3 : 4503599627370496 * 2 ^ (r / 4503599627370496) ≤ (4503599627370496 + s % 4503599627370496) * 2 ^ (s / 4503599627370496 - 1) :=
          Nat.mul_le_mul (by omega) (Nat.pow_le_pow_right (by omega) (by omega))
        omega
      · rw [he]
        exact Nat.mul_lt_mul_of_pos_right (by omega) p1

theorem val_lt_iff (r s : Nat) : val r < val s ↔ r < s := by
  refine ⟨fun h => ?_, val_lt⟩
  rcases Nat.lt_trichotomy r s with h1 | h1 | h1
  · exact h1
  · subst h1; omega
  · have := val_lt h1; omega

theorem val_zero : val 0 = 0 := rfl
theorem val_pos {r : Nat} (h : 0 < r) : 0 < val r := by have := val_lt h; omega

/-- A rung with its sign, as a whole number. -/
def sv (neg : Bool) (r : Nat) : Int := if neg then -(val r : Int) else (val r : Int)

theorem cmp_scale (a b : Int) (c : Int) (h : 0 < c) : compare (a * c) (b * c) = compare a b := by
  show compareOfLessAndEq _ _ = compareOfLessAndEq _ _
  unfold compareOfLessAndEq
  have e1 : (a * c < b * c) ↔ a < b := ⟨fun h' => Int.lt_of_mul_lt_mul_right h' (by omega), fun h' => Int.mul_lt_mul_of_pos_right h' h⟩
  have e2 : (a * c = b * c) ↔ a = b := ⟨fun h' => Int.eq_of_mul_eq_mul_right (by omega) h', fun h' => by rw [h']⟩
  simp only [e1, e2]

theorem signed_scale (s : Bool) (m e k : Nat) (h : k ≤ e) : signed s m e = signed s m (e - k) * (2 : Int) ^ k := by
  unfold signed
  have h1 : (m <<< e : Nat) = (m <<< (e - k)) * 2 ^ k := by
    rw [Nat.shiftLeft_eq, Nat.shiftLeft_eq, Nat.mul_assoc, ← Nat.pow_add]
    congr 2; omega
  rw [h1]
  cases s
  · simp
  · simp [Int.neg_mul]

theorem order_num (s t : Bool) (m n e f : Nat) (L : Int) :
    Datum.order (.number s m (L + e)) (.number t n (L + f)) = some (compare (signed s m e) (signed t n f)) := by
  show some (compare (signed s m ((L + e) - min (L + e) (L + f)).toNat) (signed t n ((L + f) - min (L + e) (L + f)).toNat)) = _
  have h1 : ((L + e) - min (L + e) (L + f)).toNat = e - min e f := by omega
  have h2 : ((L + f) - min (L + e) (L + f)).toNat = f - min e f := by omega
  rw [h1, h2, signed_scale s m e (min e f) (Nat.min_le_left _ _), signed_scale t n f (min e f) (Nat.min_le_right _ _)]
  rw [cmp_scale _ _ _ (Int.pow_pos (by omega))]

theorem sw : double.signWeight = 9223372036854775808 := by decide
theorem bn : double.binade = 4503599627370496 := by decide
theorem ir : double.infRung = 9218868437227405312 := by decide
theorem lp : double.leastPlace = -1074 := by decide

def ng (b : Nat) : Bool := b / 9223372036854775808 % 2 == 1

theorem read_fin (b : Nat) (h : b % 9223372036854775808 < 9218868437227405312) :
    ∃ m e : Nat, double.read b = .number (ng b) m (-1074 + e) ∧ m * 2 ^ e = val (b % 9223372036854775808) := by
  unfold Format.read
  simp only [sw, bn, ir, lp]
  by_cases h1 : b % 9223372036854775808 < 4503599627370496
  · rw [if_pos h1]
    exact ⟨b % 9223372036854775808, 0, rfl, by unfold val; rw [if_pos h1]; omega⟩
  · rw [if_neg h1, if_pos h]
    exact ⟨_, _, rfl, by unfold val; rw [if_neg h1]⟩

theorem read_inf (b : Nat) (h : b % 9223372036854775808 = 9218868437227405312) : double.read b = .infinity (ng b) := by
  unfold Format.read
  simp only [sw, bn, ir, lp]
  rw [if_neg (by omega), if_neg (by omega), if_pos h]; rfl

theorem read_nan (b : Nat) (h : 9218868437227405312 < b % 9223372036854775808) : ∃ t, double.read b = .nan (ng b) t := by
  unfold Format.read
  simp only [sw, bn, ir, lp]
  rw [if_neg (by omega), if_neg (by omega), if_neg (by omega)]
  exact ⟨_, rfl⟩

theorem signed_sv (s : Bool) (m e r : Nat) (h : m * 2 ^ e = val r) : signed s m e = sv s r := by
  unfold signed sv
  rw [Nat.shiftLeft_eq, h]

theorem cmp_lt {a b : Int} (h : a < b) : compare a b = .lt := by
  show compareOfLessAndEq _ _ = _
  unfold compareOfLessAndEq; rw [if_pos h]
theorem cmp_gt {a b : Int} (h : b < a) : compare a b = .gt := by
  show compareOfLessAndEq _ _ = _
  unfold compareOfLessAndEq; rw [if_neg (by omega), if_neg (by omega)]
theorem cmp_eq {a b : Int} (h : a = b) : compare a b = .eq := by
  show compareOfLessAndEq _ _ = _
  unfold compareOfLessAndEq; rw [if_neg (by omega), if_pos h]

theorem order_sv (a b : Nat) (ha : b % 9223372036854775808 ≤ 9218868437227405312) (hb : a % 9223372036854775808 ≤ 9218868437227405312) :
    double.order a b = some (compare (sv (ng a) (a % 9223372036854775808)) (sv (ng b) (b % 9223372036854775808))) := by
  unfold Format.order
  rcases Nat.lt_or_eq_of_le hb with h1 | h1
  · obtain ⟨m, e, he, hm⟩ := read_fin a h1
    rcases Nat.lt_or_eq_of_le ha with h2 | h2
    · obtain ⟨n, f, hf, hn⟩ := read_fin b h2
      rw [he, hf, order_num, signed_sv _ _ _ _ hm, signed_sv _ _ _ _ hn]
    · rw [he, read_inf b h2, h2]
      have hv := val_lt h1
      generalize a % 9223372036854775808 = r at *
      show some (if ng b = true then Ordering.gt else Ordering.lt) = _
      unfold sv
      cases ng b <;> cases ng a
      all_goals first
        | (rw [cmp_lt (by simp only [if_true, if_false, Bool.false_eq_true]; omega)]; rfl)
        | (rw [cmp_gt (by simp only [if_true, if_false, Bool.false_eq_true]; omega)]; rfl)
  · rcases Nat.lt_or_eq_of_le ha with h2 | h2
    · obtain ⟨n, f, hf, hn⟩ := read_fin b h2
      rw [hf, read_inf a h1, h1]
      have hv := val_lt h2
      generalize b % 9223372036854775808 = r at *
      show some (if ng a = true then Ordering.lt else Ordering.gt) = _
      unfold sv
      cases ng b <;> cases ng a
      all_goals first
        | (rw [cmp_lt (by simp only [if_true, if_false, Bool.false_eq_true]; omega)]; rfl)
        | (rw [cmp_gt (by simp only [if_true, if_false, Bool.false_eq_true]; omega)]; rfl)
    · rw [read_inf a h1, read_inf b h2, h1, h2]
      show some (compare (ng b).toNat (ng a).toNat) = _
      have hp := val_pos (r := 9218868437227405312) (by omega)
      unfold sv
      generalize val 9218868437227405312 = v at hp ⊢
      cases ng b <;> cases ng a
      · rw [cmp_eq rfl]; rfl
      · rw [cmp_lt (by simp only [if_true, if_false, Bool.false_eq_true]; omega)]; rfl
      · rw [cmp_gt (by simp only [if_true, if_false, Bool.false_eq_true]; omega)]; rfl
      · rw [cmp_eq rfl]; rfl

theorem order_nan_left (a b : Nat) (h : 9218868437227405312 < a % 9223372036854775808) : double.order a b = none := by
  obtain ⟨t, ht⟩ := read_nan a h
  unfold Format.order
  rw [ht]
  cases double.read b <;> rfl

theorem order_nan_right (a b : Nat) (h : 9218868437227405312 < b % 9223372036854775808) : double.order a b = none := by
  obtain ⟨t, ht⟩ := read_nan b h
  unfold Format.order
  rw [ht]
  cases double.read a <;> rfl

/-- How the code of a word that is no NaN comes of its sign and its rung. -/
theorem cod_of (b : Nat) (hb : b < 18446744073709551616) (h : b % 9223372036854775808 ≤ 9218868437227405312) :
    (ng b = false ∧ b = b % 9223372036854775808 ∧ cod b = b % 9223372036854775808 + 9223372036854775808) ∨
    (ng b = true ∧ b % 9223372036854775808 = 0 ∧ cod b = 9223372036854775808) ∨
    (ng b = true ∧ 0 < b % 9223372036854775808 ∧ cod b = 9223372036854775807 - b % 9223372036854775808) := by
  unfold cod can ng
  by_cases h1 : b < 9223372036854775808
  · refine Or.inl ⟨?_, by omega, ?_⟩
    · rw [Nat.div_eq_of_lt h1]; rfl
    · rw [if_neg (show ¬ b = 9223372036854775808 by omega), if_neg (show ¬ 9218868437227405312 < b % 9223372036854775808 by omega), if_neg (by omega)]; omega
  · have e : b / 9223372036854775808 = 1 := by omega
    refine Or.inr ?_
    rw [e]
    by_cases h2 : b = 9223372036854775808
    · refine Or.inl ⟨rfl, by omega, ?_⟩
      rw [if_pos h2]; rfl
    · refine Or.inr ⟨rfl, by omega, ?_⟩
      rw [if_neg h2, if_neg (show ¬ 9218868437227405312 < b % 9223372036854775808 by omega), if_pos (by omega)]; omega

/-- Of two words that are no NaN: they stand as their codes do. -/
theorem order_cod (a b : Nat) (ha : a < 18446744073709551616) (hb : b < 18446744073709551616) (na : a % 9223372036854775808 ≤ 9218868437227405312) (nb : b % 9223372036854775808 ≤ 9218868437227405312) :
    (cod a < cod b → double.order a b = some .lt) ∧ (cod a = cod b → double.order a b = some .eq) ∧ (cod b < cod a → double.order a b = some .gt) := by
  rw [order_sv a b nb na]
  have hv := val_lt_iff (a % 9223372036854775808) (b % 9223372036854775808)
  have hv' := val_lt_iff (b % 9223372036854775808) (a % 9223372036854775808)
  have z : ∀ r, r = 0 → val r = 0 := fun r h => by rw [h]; rfl
  have za := z (a % 9223372036854775808)
  have zb := z (b % 9223372036854775808)
  have pa := val_pos (r := a % 9223372036854775808)
  have pb := val_pos (r := b % 9223372036854775808)
  unfold sv
  rcases cod_of a ha na with ⟨e1, _, c1⟩ | ⟨e1, z1, c1⟩ | ⟨e1, z1, c1⟩ <;> rcases cod_of b hb nb with ⟨e2, _, c2⟩ | ⟨e2, z2, c2⟩ | ⟨e2, z2, c2⟩ <;> rw [e1, e2, c1, c2] <;>
    simp only [if_true, if_false, Bool.false_eq_true] <;>
    generalize val (a % 9223372036854775808) = va at * <;> generalize val (b % 9223372036854775808) = vb at * <;>
    generalize a % 9223372036854775808 = ra at * <;> generalize b % 9223372036854775808 = rb at * <;>
    refine ⟨fun h => congrArg some (cmp_lt ?_), fun h => congrArg some (cmp_eq ?_), fun h => congrArg some (cmp_gt ?_)⟩ <;> omega

/-- Of a word and its own comparison with itself. -/
theorem self_order (b : Nat) (hb : b < 18446744073709551616) : (double.order b b != some .eq) = isN b := by
  unfold isN
  by_cases h : 9218868437227405312 < b % 9223372036854775808
  · rw [order_nan_left b b h, decide_eq_true h]; rfl
  · rw [((order_cod b b hb hb (by omega) (by omega)).2.1 rfl), decide_eq_false h]; rfl

theorem isN_true {b : Nat} (h : isN b = true) : 9218868437227405312 < b % 9223372036854775808 := of_decide_eq_true h
theorem isN_false {b : Nat} (h : isN b = false) : b % 9223372036854775808 ≤ 9218868437227405312 := by have := of_decide_eq_false h; omega

theorem can_nan {b : Nat} (h : isN b = true) : can b = 9221120237041090561 := by
  have h1 := isN_true h
  unfold can; rw [if_neg (by omega), if_pos h1]
theorem can_num {b : Nat} (h : isN b = false) : can b = if b = 9223372036854775808 then 0 else b := by
  have h1 := isN_false h
  unfold can; rw [if_neg (show ¬ 9218868437227405312 < b % 9223372036854775808 by omega)]
theorem can_lt {b : Nat} (hb : b < 18446744073709551616) : can b < 18446744073709551616 := by
  unfold can; split
  · omega
  · split <;> omega
theorem cod_lt {b : Nat} (hb : b < 18446744073709551616) : cod b < 18446744073709551616 := by
  have := can_lt hb
  unfold cod can at *; split <;> split <;> (try split) <;> omega
theorem can_can (b : Nat) : can (can b) = can b := by
  unfold can
  by_cases h1 : b = 9223372036854775808
  · rw [if_pos h1]; rfl
  · rw [if_neg h1]
    by_cases h2 : 9218868437227405312 < b % 9223372036854775808
    · rw [if_pos h2]; rfl
    · rw [if_neg h2, if_neg h1, if_neg h2]
theorem cod_can (b : Nat) : cod (can b) = cod b := by unfold cod; rw [can_can]
theorem cod_nan {b : Nat} (h : isN b = true) : cod b = 18444492273895866369 := by
  unfold cod; rw [can_nan h]; rfl
theorem cod_num {b : Nat} (hb : b < 18446744073709551616) (h : isN b = false) : cod b ≤ 18442240474082181120 := by
  have h1 := isN_false h
  rcases cod_of b hb h1 with ⟨_, _, c⟩ | ⟨_, _, c⟩ | ⟨_, _, c⟩ <;> omega
/-- Codes are alike just where the numbers of their kind are. -/
theorem cod_eq_iff {a b : Nat} (ha : a < 18446744073709551616) (hb : b < 18446744073709551616) : cod a = cod b ↔ can a = can b := by
  refine ⟨fun h => ?_, fun h => by unfold cod; rw [h]⟩
  have h1 := can_lt ha
  have h2 := can_lt hb
  unfold cod at h
  generalize can a = x at *
  generalize can b = y at *
  by_cases c1 : 9223372036854775808 ≤ x <;> by_cases c2 : 9223372036854775808 ≤ y
  · rw [if_pos c1, if_pos c2] at h; omega
  · rw [if_pos c1, if_neg c2] at h; omega
  · rw [if_neg c1, if_pos c2] at h; omega
  · rw [if_neg c1, if_neg c2] at h; omega

theorem ord_lt {a b : Nat} (h : cod a < cod b) : ord a b = -1 := by unfold ord; rw [if_pos h]
theorem ord_gt {a b : Nat} (h : cod b < cod a) : ord a b = 1 := by unfold ord; rw [if_neg (by omega), if_pos h]
theorem ord_eq {a b : Nat} (h : cod a = cod b) : ord a b = 0 := by unfold ord; rw [if_neg (by omega), if_neg (by omega)]
theorem ord_cases (a b : Nat) : (cod a < cod b ∧ ord a b = -1) ∨ (cod a = cod b ∧ ord a b = 0) ∨ (cod b < cod a ∧ ord a b = 1) := by
  rcases Nat.lt_trichotomy (cod a) (cod b) with h | h | h
  · exact Or.inl ⟨h, ord_lt h⟩
  · exact Or.inr (Or.inl ⟨h, ord_eq h⟩)
  · exact Or.inr (Or.inr ⟨h, ord_gt h⟩)

/-- A word of no NaN against nought. -/
theorem zero_order (b : Nat) (hb : b < 18446744073709551616) (h : isN b = false) : (double.order b 0 == some .eq) = decide (can b = 0) := by
  have h1 := isN_false h
  have c0 : cod 0 = 9223372036854775808 := rfl
  have ce := cod_eq_iff (a := b) (b := 0) hb (by omega)
  have z0 : can 0 = 0 := rfl
  obtain ⟨o1, o2, o3⟩ := order_cod b 0 hb (by omega) h1 (by omega)
  rcases Nat.lt_trichotomy (cod b) (cod 0) with g | g | g
  · rw [o1 g, decide_eq_false (by rw [← z0, ← ce]; omega)]; rfl
  · rw [o2 g, decide_eq_true (by rw [← z0, ← ce]; exact g)]; rfl
  · rw [o3 g, decide_eq_false (by rw [← z0, ← ce]; omega)]; rfl

def clampB (x lo hi : Nat) : Nat := if ord x lo < 0 then can lo else if 0 < ord x hi then can hi else can x

def raw (c : Nat) : Nat := if 9223372036854775808 ≤ c then c - 9223372036854775808 else 18446744073709551615 - c
def decOk (c : Nat) : Bool := cod (raw c) == c
def dec (c : Nat) : Nat := if decOk c = true then raw c else 0

theorem raw_lt {c : Nat} (h : c < 18446744073709551616) : raw c < 18446744073709551616 := by unfold raw; split <;> omega

end Fl
end Go.Proofs.Ytkphpdejcmkdeaa
