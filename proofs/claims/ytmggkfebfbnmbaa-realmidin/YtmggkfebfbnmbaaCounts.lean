/- Plain mathematics of a row in order: how many stand ahead of its middle, and behind it. -/
import Derived.Test.YtmggkfebfbnmbaaMid
namespace Go.Proofs.Ytmggkfebfbnmbaa
open Go.RowKit Go.Shelf Go.Lib Go.Sort

theorem mid_counts (zs : List UInt64) (d : Array UInt64) (k : Nat) (hk : k < zs.length) (hp : PermIn 0 zs.length zs.toArray d) (hs : SortedIn (ltOf cfF) 0 zs.length d) :
    zs.countP (fun y => decide (Fl.cod y.toNat < Fl.cod (d[k]!).toNat)) ≤ k ∧ k < zs.countP (fun y => decide (Fl.cod y.toNat ≤ Fl.cod (d[k]!).toNat)) ∧ d[k]! ∈ zs := by
  obtain ⟨p1, _, p3⟩ := hp
  have hl : d.toList.length = zs.length := by simpa using p1
  have hpm : d.toList.Perm zs := by
    have e1 : (d.extract 0 zs.length).toList = d.toList := by
      have : zs.length = d.size := by simpa using p1.symm
      rw [this]; simp
    have e2 : (zs.toArray.extract 0 zs.length).toList = zs := by simp
    rw [e1, e2] at p3
    exact p3
  rw [← hpm.countP_eq, ← hpm.countP_eq]
  have hget : ∀ j, (hj : j < d.toList.length) → d.toList[j] = d[j]! := by
    intro j hj
    have : j < d.size := by simpa using hj
    simp [this]
  have hord : ∀ i j, i ≤ j → j < zs.length → Fl.cod (d[i]!).toNat ≤ Fl.cod (d[j]!).toNat := by
    intro i j hij hj
    rcases Nat.lt_or_eq_of_le hij with h | h
    · have := hs i j (Nat.zero_le _) h hj
      rw [ltF] at this
      have := of_decide_eq_false this
      omega
    · subst h; exact Nat.le_refl _
  refine ⟨?_, ?_, ?_⟩
  · have ht : (d.toList.drop k).countP (fun y => decide (Fl.cod y.toNat < Fl.cod (d[k]!).toNat)) = 0 := by
      rw [List.countP_eq_zero]
      intro y hy
      obtain ⟨i, hi, rfl⟩ := List.getElem_of_mem hy
      rw [List.length_drop] at hi
      rw [List.getElem_drop, hget (k + i) (by omega)]
      have := hord k (k + i) (by omega) (by omega)
      simp only [decide_eq_true_eq]
      omega
    have hle : (d.toList.take k).countP (fun y => decide (Fl.cod y.toNat < Fl.cod (d[k]!).toNat)) ≤ (d.toList.take k).length := List.countP_le_length
    rw [List.length_take] at hle
    have hsum : d.toList.countP (fun y => decide (Fl.cod y.toNat < Fl.cod (d[k]!).toNat)) = (d.toList.take k).countP (fun y => decide (Fl.cod y.toNat < Fl.cod (d[k]!).toNat)) + (d.toList.drop k).countP (fun y => decide (Fl.cod y.toNat < Fl.cod (d[k]!).toNat)) := by
      rw [← List.countP_append, List.take_append_drop]
    omega
  · have ht : (d.toList.take (k + 1)).countP (fun y => decide (Fl.cod y.toNat ≤ Fl.cod (d[k]!).toNat)) = (d.toList.take (k + 1)).length := by
      rw [List.countP_eq_length]
      intro y hy
      obtain ⟨i, hi, rfl⟩ := List.getElem_of_mem hy
      rw [List.length_take] at hi
      rw [List.getElem_take, hget i (by omega)]
      have := hord i k (by omega) hk
      exact decide_eq_true (by omega)
    rw [List.length_take] at ht
    have hsum : d.toList.countP (fun y => decide (Fl.cod y.toNat ≤ Fl.cod (d[k]!).toNat)) = (d.toList.take (k + 1)).countP (fun y => decide (Fl.cod y.toNat ≤ Fl.cod (d[k]!).toNat)) + (d.toList.drop (k + 1)).countP (fun y => decide (Fl.cod y.toNat ≤ Fl.cod (d[k]!).toNat)) := by
      rw [← List.countP_append, List.take_append_drop]
    omega
  · have : d[k]! ∈ d.toList := by
      rw [← hget k (by omega)]; exact List.getElem_mem _
    exact hpm.mem_iff.1 this

/-- How many of the first j come ahead of x; how many are the same. -/
def lessTo (us : List UInt64) (x j : Nat) : Nat := (us.take j).countP (fun y => decide (Fl.ord y.toNat x = -1))
def sameTo (us : List UInt64) (x j : Nat) : Nat := (us.take j).countP (fun y => decide (Fl.ord y.toNat x = 0))
def moreTo (us : List UInt64) (x j : Nat) : Nat := (us.take j).countP (fun y => decide (Fl.ord y.toNat x = 1))

theorem count_snoc (us : List UInt64) (p : UInt64 → Bool) (j : Nat) (h : j < us.length) : (us.take (j + 1)).countP p = (us.take j).countP p + if p us[j]! then 1 else 0 := by
  rw [List.take_succ_eq_append_getElem h, List.countP_append, List.countP_singleton]
  simp [h]

theorem lessTo_succ (us : List UInt64) (x j : Nat) (h : j < us.length) : lessTo us x (j + 1) = lessTo us x j + if Fl.ord (us[j]!).toNat x = -1 then 1 else 0 := by
  unfold lessTo; rw [count_snoc us _ j h]; simp only [decide_eq_true_eq]
theorem sameTo_succ (us : List UInt64) (x j : Nat) (h : j < us.length) : sameTo us x (j + 1) = sameTo us x j + if Fl.ord (us[j]!).toNat x = 0 then 1 else 0 := by
  unfold sameTo; rw [count_snoc us _ j h]; simp only [decide_eq_true_eq]
theorem moreTo_succ (us : List UInt64) (x j : Nat) (h : j < us.length) : moreTo us x (j + 1) = moreTo us x j + if Fl.ord (us[j]!).toNat x = 1 then 1 else 0 := by
  unfold moreTo; rw [count_snoc us _ j h]; simp only [decide_eq_true_eq]
theorem lessTo_le (us : List UInt64) (x j : Nat) : lessTo us x j ≤ j := by
  unfold lessTo; have := List.countP_le_length (p := fun y : UInt64 => decide (Fl.ord y.toNat x = -1)) (l := us.take j); rw [List.length_take] at this; omega
theorem sameTo_le (us : List UInt64) (x j : Nat) : sameTo us x j ≤ j := by
  unfold sameTo; have := List.countP_le_length (p := fun y : UInt64 => decide (Fl.ord y.toNat x = 0)) (l := us.take j); rw [List.length_take] at this; omega
theorem moreTo_le (us : List UInt64) (x j : Nat) : moreTo us x j ≤ j := by
  unfold moreTo; have := List.countP_le_length (p := fun y : UInt64 => decide (Fl.ord y.toNat x = 1)) (l := us.take j); rw [List.length_take] at this; omega

theorem lessTo_all (us : List UInt64) (x : Nat) : lessTo us x us.length = us.countP (fun y => decide (Fl.cod y.toNat < Fl.cod x)) := by
  unfold lessTo
  rw [List.take_length]
  refine List.countP_congr fun y _ => ?_
  simp only [decide_eq_true_eq]
  rcases Fl.ord_cases y.toNat x with ⟨h, e⟩ | ⟨h, e⟩ | ⟨h, e⟩ <;> omega

theorem both_all (us : List UInt64) (x : Nat) : lessTo us x us.length + sameTo us x us.length = us.countP (fun y => decide (Fl.cod y.toNat ≤ Fl.cod x)) := by
  unfold lessTo sameTo
  rw [List.take_length]
  induction us with
  | nil => rfl
  | cons y ys ih =>
    rw [List.countP_cons, List.countP_cons, List.countP_cons, ← ih]
    simp only [decide_eq_true_eq]
    rcases Fl.ord_cases y.toNat x with ⟨h, e⟩ | ⟨h, e⟩ | ⟨h, e⟩
    · rw [if_pos e, if_neg (by omega), if_pos (by omega)]; omega
    · rw [if_neg (by omega), if_pos e, if_pos (by omega)]; omega
    · rw [if_neg (by omega), if_neg (by omega), if_neg (by omega)]; omega

theorem three_all (us : List UInt64) (x : Nat) : lessTo us x us.length + sameTo us x us.length + moreTo us x us.length = us.length := by
  unfold lessTo sameTo moreTo
  rw [List.take_length]
  induction us with
  | nil => rfl
  | cons y ys ih =>
    rw [List.countP_cons, List.countP_cons, List.countP_cons, List.length_cons]
    simp only [decide_eq_true_eq]
    rcases Fl.ord_cases y.toNat x with ⟨h, e⟩ | ⟨h, e⟩ | ⟨h, e⟩
    · rw [if_pos e, if_neg (by omega), if_neg (by omega)]; omega
    · rw [if_neg (by omega), if_pos e, if_neg (by omega)]; omega
    · rw [if_neg (by omega), if_neg (by omega), if_pos e]; omega

end Go.Proofs.Ytmggkfebfbnmbaa
