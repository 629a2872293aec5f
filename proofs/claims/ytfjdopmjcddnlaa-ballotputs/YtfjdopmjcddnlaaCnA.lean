/- Plain mathematics for layer 5, no program: sets of members as numbers, how many there are, and how many are enough. -/
namespace Go.Proofs.Ytfjdopmjcddnlaa
namespace Cn

def hasS (s id : Nat) : Bool := decide (id ≤ 15) && s.testBit id
def withS (s id : Nat) : Nat := if decide (id ≤ 15) && !s.testBit id then s + 2 ^ id else s
def withoutS (s id : Nat) : Nat := if hasS s id then s - 2 ^ id else s
def listS (s : Nat) : List Nat := (List.range 16).filter (s.testBit ·)
def sizeS (s : Nat) : Nat := (List.range 16).countP (s.testBit ·)
/-- The set of some ids beside those that are there. -/
def ofS : Nat → List Nat → Option Nat
  | s, [] => some s
  | s, x :: l => if decide (15 < x) || hasS s x then none else ofS (withS s x) l
def held (n : Int) : Nat := if n < 1 then 1 else if 16 < n then 16 else n.toNat
def faulty (n : Int) : Nat := (held n - 1) / 3
def echoes (n : Int) : Nat := (held n + faulty n) / 2 + 1
def readies (n : Int) : Nat := faulty n + 1
def enough (n : Int) : Nat := 2 * faulty n + 1

theorem held_bound (n : Int) : 1 ≤ held n ∧ held n ≤ 16 := by
  unfold held; split
  · omega
  · split <;> omega
theorem hasS_div (s id : Nat) : hasS s id = (decide (id ≤ 15) && decide (s / 2 ^ id % 2 = 1)) := by
  unfold hasS; rw [Nat.testBit_eq_decide_div_mod_eq]

/-- A bit more. -/
theorem add_bit {s i : Nat} (h : s.testBit i = false) : s + 2 ^ i = s ||| 2 ^ i := by
  have e : s = 2 ^ (i + 1) * (s / 2 ^ (i + 1)) + s % 2 ^ (i + 1) := (Nat.div_add_mod _ _).symm
  have hr : s % 2 ^ (i + 1) < 2 ^ i := by
    have h1 : s % 2 ^ (i + 1) < 2 ^ (i + 1) := Nat.mod_lt _ (Nat.two_pow_pos _)
    refine Nat.lt_pow_two_of_testBit _ fun j hj => ?_
    rw [Nat.testBit_mod_two_pow]
    by_cases hji : j = i
    · subst hji; simp [h]
    · have : ¬ j < i + 1 := by omega
      simp [this]
  generalize s / 2 ^ (i + 1) = q at e
  generalize s % 2 ^ (i + 1) = r at e hr
  have e1 : 2 ^ i + r = 2 ^ i ||| r := by
    have := Nat.two_pow_add_eq_or_of_lt hr 1
    simpa using this
  have e2 : 2 ^ i + r < 2 ^ (i + 1) := by rw [Nat.pow_succ]; omega
  have e3 : r < 2 ^ (i + 1) := by omega
  subst e
  rw [Nat.add_assoc, Nat.add_comm r, Nat.two_pow_add_eq_or_of_lt e2, e1, Nat.two_pow_add_eq_or_of_lt e3, Nat.or_assoc, Nat.or_comm r]
theorem test_add {s i j : Nat} (h : s.testBit i = false) : (s + 2 ^ i).testBit j = (s.testBit j || decide (i = j)) := by
  rw [add_bit h, Nat.testBit_or, Nat.testBit_two_pow]
theorem ge_bit {s i : Nat} (h : s.testBit i = true) : 2 ^ i ≤ s := Nat.ge_two_pow_of_testBit h
theorem sub_bit {s i : Nat} (h : s.testBit i = true) : (s - 2 ^ i).testBit i = false := by
  have h1 := ge_bit h
  have h2 := Nat.testBit_two_pow_add_eq (s - 2 ^ i) i
  rw [Nat.add_sub_cancel' h1, h] at h2
  simpa using h2.symm
theorem test_sub {s i j : Nat} (h : s.testBit i = true) : (s - 2 ^ i).testBit j = (s.testBit j && !decide (i = j)) := by
  have h1 := test_add (j := j) (sub_bit h)
  rw [Nat.sub_add_cancel (ge_bit h)] at h1
  by_cases hij : i = j
  · subst hij; simp [sub_bit h]
  · simp [hij] at h1 ⊢; exact h1.symm
theorem test_big {s j : Nat} (h : s < 65536) (hj : 16 ≤ j) : s.testBit j = false := by
  refine Nat.testBit_lt_two_pow (Nat.lt_of_lt_of_le h ?_)
  exact Nat.pow_le_pow_right (n := 2) (by omega) hj
theorem small_of {s : Nat} (h : ∀ j, 16 ≤ j → s.testBit j = false) : s < 65536 := Nat.lt_pow_two_of_testBit (n := 16) s h

theorem test_with (s id j : Nat) : (withS s id).testBit j = (s.testBit j || (decide (id ≤ 15) && decide (id = j))) := by
  unfold withS
  by_cases h1 : id ≤ 15
  · cases h2 : s.testBit id with
    | true =>
      simp [h1]
      by_cases h : id = j
      · subst h; simp [h2]
      · simp [h]
    | false => simp [h1, test_add h2]
  · simp [h1]
theorem test_without (s id j : Nat) : (withoutS s id).testBit j = (s.testBit j && !(decide (id ≤ 15) && decide (id = j))) := by
  unfold withoutS hasS
  by_cases h1 : id ≤ 15
  · cases h2 : s.testBit id with
    | true => simp [h1, test_sub h2]
    | false =>
      simp [h1]
      by_cases h : id = j
      · subst h; simp [h2]
      · simp [h]
  · simp [h1]
theorem with_small {s id : Nat} (h : s < 65536) : withS s id < 65536 := small_of fun j hj => by
  rw [test_with, test_big h hj]
  by_cases h1 : id ≤ 15
  · have : ¬ id = j := by omega
    simp [this]
  · simp [h1]
theorem without_small {s id : Nat} (h : s < 65536) : withoutS s id < 65536 := small_of fun j hj => by
  rw [test_without, test_big h hj]; rfl
theorem ext16 {s t : Nat} (hs : s < 65536) (ht : t < 65536) (h : ∀ j, j < 16 → s.testBit j = t.testBit j) : s = t := by
  refine Nat.eq_of_testBit_eq fun j => ?_
  by_cases hj : j < 16
  · exact h j hj
  · rw [test_big hs (by omega), test_big ht (by omega)]
theorem without_with {s id : Nat} (h : hasS s id = false) : withoutS (withS s id) id = s := by
  refine Nat.eq_of_testBit_eq fun j => ?_
  rw [test_without, test_with]
  unfold hasS at h
  by_cases h1 : id ≤ 15
  · by_cases hj : id = j
    · subst hj; simp [h1] at h ⊢; simp [h]
    · simp [hj]
  · simp [h1]
theorem with_without {s id : Nat} (h : hasS s id = true) : withS (withoutS s id) id = s := by
  refine Nat.eq_of_testBit_eq fun j => ?_
  rw [test_with, test_without]
  unfold hasS at h
  rw [Bool.and_eq_true, decide_eq_true_eq] at h
  by_cases hj : id = j
  · subst hj; simp [h.1, h.2]
  · simp [hj]

/-- Sizes. -/
theorem size_list (s : Nat) : (listS s).length = sizeS s := by unfold listS sizeS; rw [List.countP_eq_length_filter]
theorem count_or (p q : Nat → Bool) (l : List Nat) : l.countP (fun j => p j || q j) + l.countP (fun j => p j && q j) = l.countP p + l.countP q := by
  induction l with
  | nil => rfl
  | cons x l ih =>
    simp only [List.countP_cons]
    cases p x <;> cases q x <;> simp <;> omega
theorem count_not (p q : Nat → Bool) (l : List Nat) : l.countP (fun j => p j && !q j) + l.countP (fun j => p j && q j) = l.countP p := by
  induction l with
  | nil => rfl
  | cons x l ih =>
    simp only [List.countP_cons]
    cases p x <;> cases q x <;> simp <;> omega
theorem size_or (a b : Nat) : sizeS (a ||| b) + sizeS (a &&& b) = sizeS a + sizeS b := by
  unfold sizeS
  simp only [Nat.testBit_or, Nat.testBit_and]
  exact count_or _ _ _
theorem size_of_test {a b c : Nat} (h : ∀ j, j < 16 → c.testBit j = (a.testBit j && !b.testBit j)) : sizeS c + sizeS (a &&& b) = sizeS a := by
  unfold sizeS
  have e : (List.range 16).countP (c.testBit ·) = (List.range 16).countP (fun j => a.testBit j && !b.testBit j) := by
    refine List.countP_congr fun j hj => ?_
    rw [h j (List.mem_range.1 hj)]
  rw [e]
  simp only [Nat.testBit_and]
  exact count_not _ _ _
theorem size_mono {a b : Nat} (h : ∀ j, j < 16 → a.testBit j = true → b.testBit j = true) : sizeS a ≤ sizeS b := by
  unfold sizeS
  exact List.countP_mono_left fun j hj => h j (List.mem_range.1 hj)
theorem size_le (s : Nat) : sizeS s ≤ 16 := by
  unfold sizeS
  have := List.countP_le_length (p := (s.testBit ·)) (l := List.range 16)
  simpa using this
theorem size_all {m : Nat} (h : m ≤ 16) : sizeS (2 ^ m - 1) = m := by
  have key : ∀ m : Fin 17, sizeS (2 ^ m.val - 1) = m.val := by decide +kernel
  exact key ⟨m, by omega⟩
theorem size_zero_iff {s : Nat} (h : s < 65536) : sizeS s = 0 ↔ s = 0 := by
  constructor
  · intro h0
    refine ext16 h (by omega) fun j hj => ?_
    unfold sizeS at h0
    rw [List.countP_eq_zero] at h0
    have := h0 j (List.mem_range.2 hj)
    simpa using this
  · rintro rfl; decide
theorem one_bit {id : Nat} (h : id ≤ 15) : sizeS (2 ^ id) = 1 := by
  have key : ∀ m : Fin 16, sizeS (2 ^ m.val) = 1 := by decide +kernel
  exact key ⟨id, by omega⟩
theorem size_add {s id : Nat} (h1 : id ≤ 15) (h2 : s.testBit id = false) : sizeS (s + 2 ^ id) = sizeS s + 1 := by
  have e := size_or s (2 ^ id)
  rw [← add_bit h2, one_bit h1] at e
  have : sizeS (s &&& 2 ^ id) = 0 := by
    unfold sizeS
    rw [List.countP_eq_zero]
    intro j _
    rw [Nat.testBit_and, Nat.testBit_two_pow]
    by_cases hj : id = j
    · subst hj; simp [h2]
    · simp [hj]
  omega
theorem size_with {s id : Nat} (h1 : id ≤ 15) (h : hasS s id = false) : sizeS (withS s id) = sizeS s + 1 := by
  unfold hasS at h
  simp [h1] at h
  unfold withS
  simp [h1, h, size_add h1 h]
theorem size_without {s id : Nat} (h : hasS s id = true) : sizeS (withoutS s id) + 1 = sizeS s := by
  have h' := h
  unfold hasS at h'
  rw [Bool.and_eq_true, decide_eq_true_eq] at h'
  unfold withoutS
  rw [if_pos h]
  have := size_add h'.1 (sub_bit h'.2)
  rw [Nat.sub_add_cancel (ge_bit h'.2)] at this
  exact this.symm

/-- Of. -/
theorem of_some {l : List Nat} : ∀ {s : Nat}, (∀ x ∈ l, x ≤ 15 ∧ s.testBit x = false) → l.Nodup → ∃ t, ofS s l = some t ∧ ∀ j, t.testBit j = (s.testBit j || decide (j ∈ l)) := by
  induction l with
  | nil => intro s _ _; exact ⟨s, rfl, fun j => by simp⟩
  | cons x l ih =>
    intro s h hn
    obtain ⟨hx, hb⟩ := h x (by simp)
    obtain ⟨hxl, hn2⟩ := List.nodup_cons.1 hn
    have hc : (decide (15 < x) || hasS s x) = false := by
      unfold hasS
      have : ¬ 15 < x := by omega
      simp [this, hb]
    obtain ⟨t, ht, hj⟩ := ih (s := withS s x) (fun y hy => ⟨(h y (by simp [hy])).1, by
      rw [test_with, (h y (by simp [hy])).2]
      have : ¬ x = y := fun e => hxl (e ▸ hy)
      simp [this]⟩) hn2
    refine ⟨t, ?_, fun j => ?_⟩
    · unfold ofS; rw [hc]; exact ht
    · rw [hj j, test_with]
      have e : decide (x = j) = decide (j = x) := by simp [eq_comm]
      rw [e]
      by_cases h1 : j = x
      · subst h1; simp [hx]
      · simp [h1]
theorem mem_list {s j : Nat} : j ∈ listS s ↔ j < 16 ∧ s.testBit j = true := by
  unfold listS; rw [List.mem_filter, List.mem_range]
theorem list_nodup (s : Nat) : (listS s).Nodup := List.nodup_range.filter _
theorem of_list {s : Nat} (h : s < 65536) : ofS 0 (listS s) = some s := by
  obtain ⟨t, ht, hj⟩ := of_some (s := 0) (l := listS s) (fun x hx => ⟨by have := (mem_list.1 hx).1; omega, by simp⟩) (list_nodup s)
  rw [ht]
  have : t = s := by
    refine Nat.eq_of_testBit_eq fun j => ?_
    rw [hj j]
    by_cases h16 : j < 16
    · cases hb : s.testBit j <;> simp [mem_list, h16, hb]
    · rw [test_big h (by omega)]
      simp [mem_list, h16]
  rw [this]

/-- How a list goes on: of the first i ids so many are in. -/
def upto (s i : Nat) : Nat := (List.range i).countP (s.testBit ·)
theorem upto_succ (s i : Nat) : upto s (i + 1) = upto s i + if s.testBit i then 1 else 0 := by
  unfold upto
  rw [List.range_succ, List.countP_append]
  simp [List.countP_cons]
theorem list_at {s i : Nat} (hi : i < 16) (h : s.testBit i = true) : (listS s)[upto s i]? = some i := by
  unfold listS upto
  have e : List.range 16 = List.range i ++ i :: (List.range' (i + 1) (16 - i - 1)) := by
    have : ∀ k : Fin 16, List.range 16 = List.range k.val ++ k.val :: (List.range' (k.val + 1) (16 - k.val - 1)) := by decide +kernel
    exact this ⟨i, hi⟩
  rw [e, List.filter_append, List.getElem?_append_right (by rw [List.countP_eq_length_filter]; exact Nat.le_refl _)]
  rw [List.countP_eq_length_filter, Nat.sub_self, List.filter_cons]
  simp [h]
theorem upto_all (s : Nat) : upto s 16 = sizeS s := rfl

/-- P5.4. -/
theorem meet {m a b : Nat} (hm2 : m ≤ 16) (ha : ∀ j, j < 16 → a.testBit j = true → j < m) (hb : ∀ j, j < 16 → b.testBit j = true → j < m) : sizeS a + sizeS b ≤ m + sizeS (a &&& b) := by
  have h1 := size_or a b
  have h2 : sizeS (a ||| b) ≤ sizeS (2 ^ m - 1) := size_mono fun j hj h => by
    rw [Nat.testBit_two_pow_sub_one, decide_eq_true_eq]
    rw [Nat.testBit_or, Bool.or_eq_true] at h
    rcases h with h | h
    · exact ha j hj h
    · exact hb j hj h
  rw [size_all hm2] at h2
  omega
theorem numbers {m : Int} (h1 : 1 ≤ m) (h2 : m ≤ 16) : 3 * (faulty m : Int) + 1 ≤ m ∧ m + faulty m < 2 * echoes m ∧ 2 * (echoes m : Int) ≤ m + faulty m + 2 ∧ (echoes m : Int) ≤ m - faulty m ∧ (enough m : Int) ≤ m - faulty m := by
  have e : (held m : Int) = m := by unfold held; rw [if_neg (by omega), if_neg (by omega)]; omega
  unfold echoes enough faulty
  omega

end Cn
end Go.Proofs.Ytfjdopmjcddnlaa
