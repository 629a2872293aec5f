/- Plain mathematics of layer 10: the places of those that wait, and which is the first that is ready. -/
import Derived.Test.YtbacnjkookakcaaHdG
set_option linter.unusedVariables false
namespace Go.Proofs.Ytbacnjkookakcaa
open Go.RowKit
namespace Hd
open Ps

def sameK (x y : It) : Prop := x.frm = y.frm ∧ x.seq = y.seq
theorem wtK_succ (l : List It) {k : Nat} {x : It} (h : l[k]? = some x) : wtK l (k + 1) = updH (wtK l k) x.frm x.seq (k : Int) := by
  show (match l[k]? with | some x => _ | none => _) = _
  rw [h]
theorem wtN_succ (l : List It) {k : Nat} {x : It} (h : l[k]? = some x) : wtN l (k + 1) = if (wtK l k x.frm x.seq).isSome then wtN l k else wtN l k + 1 := by
  show (match l[k]? with | some x => _ | none => _) = _
  rw [h]
/-- What is in the map is the place of one of those. -/
theorem wtK_some (l : List It) (f : Nat) (s : Int) : ∀ (k : Nat) (i : Int), k ≤ l.length → wtK l k f s = some i → ∃ (j : Nat) (x : It), i = (j : Int) ∧ j < k ∧ l[j]? = some x ∧ x.frm = f ∧ x.seq = s
  | 0, i, _, h => by cases h
  | k + 1, i, hk, h => by
    have hx : l[k]? = some (l[k]'(by omega)) := List.getElem?_eq_getElem (by omega)
    rw [wtK_succ l hx] at h
    unfold updH at h
    by_cases e : f = (l[k]'(by omega)).frm ∧ s = (l[k]'(by omega)).seq
    · rw [if_pos e] at h
      cases h
      exact ⟨k, _, rfl, by omega, hx, e.1.symm, e.2.symm⟩
    · rw [if_neg e] at h
      obtain ⟨j, x, h1, h2, h3⟩ := wtK_some l f s k i (by omega) h
      exact ⟨j, x, h1, by omega, h3⟩
theorem wtK_none (l : List It) (f : Nat) (s : Int) : ∀ (k : Nat), k ≤ l.length → wtK l k f s = none → ∀ (j : Nat) (x : It), j < k → l[j]? = some x → ¬ (x.frm = f ∧ x.seq = s)
  | 0, _, _, j, x, hj, _ => by omega
  | k + 1, hk, h, j, x, hj, hx => by
    have hy : l[k]? = some (l[k]'(by omega)) := List.getElem?_eq_getElem (by omega)
    rw [wtK_succ l hy] at h
    unfold updH at h
    by_cases e : f = (l[k]'(by omega)).frm ∧ s = (l[k]'(by omega)).seq
    · rw [if_pos e] at h; cases h
    · rw [if_neg e] at h
      by_cases hjk : j = k
      · subst hjk
        rw [hy] at hx
        obtain rfl := Option.some.inj hx
        exact fun h2 => e ⟨h2.1.symm, h2.2.symm⟩
      · exact wtK_none l f s k (by omega) h j x (by omega) hx
/-- No two that wait have one sender and number, just where the map has as many. -/
theorem wtN_apart (l : List It) : ∀ (k : Nat), k ≤ l.length → (wtN l k = k ↔ ∀ i j x y, i < j → j < k → l[i]? = some x → l[j]? = some y → ¬ sameK x y)
  | 0, _ => ⟨fun _ i j x y _ h => by omega, fun _ => rfl⟩
  | k + 1, hk => by
    have ih := wtN_apart l k (by omega)
    have hx : l[k]? = some (l[k]'(by omega)) := List.getElem?_eq_getElem (by omega)
    have hle := wtN_le l k
    rw [wtN_succ l hx]
    constructor
    · intro h
      cases hs : wtK l k (l[k]'(by omega)).frm (l[k]'(by omega)).seq with
      | some v => rw [hs] at h; simp at h; omega
      | none =>
        rw [hs] at h
        have h' : wtN l k + 1 = k + 1 := h
        intro i j x y hij hj hi hjy hsm
        by_cases e : j = k
        · subst e
          rw [hx] at hjy
          obtain rfl := Option.some.inj hjy
          exact wtK_none l _ _ j (by omega) hs i x hij hi ⟨hsm.1, hsm.2⟩
        · exact ih.1 (by omega) i j x y hij (by omega) hi hjy hsm
    · intro h
      have h1 := ih.2 fun i j x y hij hj => h i j x y hij (by omega)
      cases hs : wtK l k (l[k]'(by omega)).frm (l[k]'(by omega)).seq with
      | some v =>
        obtain ⟨j, x, _, hj, hjx, e1, e2⟩ := wtK_some l _ _ k v (by omega) hs
        exact absurd (⟨e1, e2⟩ : sameK _ _) (h j k x _ hj (by omega) hjx hx)
      | none => show wtN l k + 1 = k + 1; omega

/-- The first place at which one is ready whose sender is below k; the length, if none is. -/
def fstK (f : Nat → Nat) (l : List It) (k : Nat) : Nat := l.findIdx fun x => readyI f x && decide (x.frm < k)
theorem fstK_zero (f : Nat → Nat) (l : List It) : fstK f l 0 = l.length := by
  unfold fstK
  rw [List.findIdx_eq_length]
  intro x _; simp
theorem fstK_le (f : Nat → Nat) (l : List It) (k : Nat) : fstK f l k ≤ l.length := List.findIdx_le_length
theorem fstK_lt {f : Nat → Nat} {l : List It} {k i : Nat} (h : i < fstK f l k) {x : It} (hx : l[i]? = some x) : ¬ (readyI f x = true ∧ x.frm < k) := by
  unfold fstK at h
  have hlt : i < l.length := (List.getElem?_eq_some_iff.1 hx).1
  have := List.not_of_lt_findIdx h
  have e : l[i] = x := by rw [List.getElem?_eq_getElem hlt] at hx; exact Option.some.inj hx
  rw [e] at this
  simpa using this
theorem fstK_at {f : Nat → Nat} {l : List It} {k : Nat} (h : fstK f l k < l.length) : ∃ x, l[fstK f l k]? = some x ∧ readyI f x = true ∧ x.frm < k := by
  have := List.findIdx_getElem (w := h) (p := fun x => readyI f x && decide (x.frm < k)) (xs := l)
  refine ⟨_, List.getElem?_eq_getElem h, ?_⟩
  unfold fstK
  simpa using this
/-- The first place is told by these. -/
theorem fstK_eq {f : Nat → Nat} {l : List It} {k p : Nat} (h1 : p ≤ l.length) (h2 : ∀ i x, i < p → l[i]? = some x → ¬ (readyI f x = true ∧ x.frm < k)) (h3 : p < l.length → ∃ x, l[p]? = some x ∧ readyI f x = true ∧ x.frm < k) : fstK f l k = p := by
  rcases Nat.lt_trichotomy (fstK f l k) p with h | h | h
  · obtain ⟨x, hx, hr⟩ := fstK_at (f := f) (l := l) (k := k) (by omega)
    exact absurd hr (h2 _ x h hx)
  · exact h
  · have := fstK_le f l k
    obtain ⟨x, hx, hr⟩ := h3 (by omega)
    exact absurd hr (fstK_lt h hx)
/-- One sender more: the place at which the one behind those that were told waits. -/
theorem fstK_step {f : Nat → Nat} {l : List It} (hap : ∀ i j x y, i < j → j < l.length → l[i]? = some x → l[j]? = some y → ¬ sameK x y) (k : Nat) :
    (wtK l l.length k (f k : Int) = none → fstK f l (k + 1) = fstK f l k) ∧
    (∀ i : Nat, wtK l l.length k (f k : Int) = some (i : Int) → ∃ x, l[i]? = some x ∧ x.frm = k ∧ fstK f l (k + 1) = if i < fstK f l k ∧ readyI f x = true then i else fstK f l k) := by
  have hne : ∀ x : It, readyI f x = true → x.frm = k → x.seq = (f k : Int) := fun x h e => by have := (ready_may h).2.1; rw [e] at this; exact this.symm
  constructor
  · intro h
    refine fstK_eq (fstK_le f l k) (fun i x hi hx hr => ?_) (fun hlt => ?_)
    · by_cases e : x.frm = k
      · exact wtK_none l _ _ l.length (Nat.le_refl _) h i x (List.getElem?_eq_some_iff.1 hx).1 hx ⟨e, hne x hr.1 e⟩
      · exact fstK_lt hi hx ⟨hr.1, by omega⟩
    · obtain ⟨x, hx, hr⟩ := fstK_at hlt
      exact ⟨x, hx, hr.1, by omega⟩
  · intro i h
    obtain ⟨j, x, e1, hj, hx, e2, e3⟩ := wtK_some l _ _ l.length _ (Nat.le_refl _) h
    obtain rfl : i = j := by omega
    refine ⟨x, hx, e2, ?_⟩
    have huniq : ∀ j y, l[j]? = some y → readyI f y = true → y.frm = k → j = i := fun j y hy hr hk => by
      have hy2 := hne y hr hk
      have hj2 : j < l.length := (List.getElem?_eq_some_iff.1 hy).1
      rcases Nat.lt_trichotomy j i with h3 | h3 | h3
      · exact absurd (⟨by omega, by omega⟩ : sameK y x) (hap j i y x h3 hj hy hx)
      · exact h3
      · exact absurd (⟨by omega, by omega⟩ : sameK x y) (hap i j x y h3 hj2 hx hy)
    by_cases hc : i < fstK f l k ∧ readyI f x = true
    · rw [if_pos hc]
      refine fstK_eq (by omega) (fun j y hjy hy hr => ?_) (fun _ => ⟨x, hx, hc.2, by omega⟩)
      by_cases e : y.frm = k
      · have := huniq j y hy hr.1 e; omega
      · exact fstK_lt (Nat.lt_trans hjy hc.1) hy ⟨hr.1, by omega⟩
    · rw [if_neg hc]
      refine fstK_eq (fstK_le f l k) (fun j y hjy hy hr => ?_) (fun hlt => ?_)
      · by_cases e : y.frm = k
        · have hji := huniq j y hy hr.1 e
          subst hji
          rw [hx] at hy; obtain rfl := Option.some.inj hy
          exact hc ⟨hjy, hr.1⟩
        · exact fstK_lt hjy hy ⟨hr.1, by omega⟩
      · obtain ⟨y, hy, hr⟩ := fstK_at hlt
        exact ⟨y, hy, hr.1, by omega⟩
/-- The first that is ready. -/
def fstR (f : Nat → Nat) (l : List It) : Nat := l.findIdx (readyI f)
theorem fstK_all (f : Nat → Nat) (l : List It) : fstK f l 16 = fstR f l := by
  unfold fstK fstR
  congr 1
  funext x
  cases h : readyI f x with
  | false => rfl
  | true => have := may_frm (ready_may h).1; simp [this]
end Hd
end Go.Proofs.Ytbacnjkookakcaa
