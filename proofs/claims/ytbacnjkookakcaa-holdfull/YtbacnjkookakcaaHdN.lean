/- What tell tells: mathematics. -/
import Derived.Test.YtbacnjkookakcaaHdM
set_option linter.unusedVariables false
namespace Go.Proofs.Ytbacnjkookakcaa
open Go.RowKit
namespace Hd
open Ps

/-- One more of a member's bodies was told. -/
def bump (f : Nat → Nat) (k : Nat) : Nat → Nat := upd f k (f k + 1)
theorem bump_ge (f : Nat → Nat) (k i : Nat) : f i ≤ bump f k i := by
  unfold bump upd; split
  · rename_i h; subst h; omega
  · exact Nat.le_refl _
theorem bump_at (f : Nat → Nat) (k : Nat) : bump f k k = f k + 1 := by unfold bump upd; rw [if_pos rfl]
theorem ready_seq {f : Nat → Nat} {x : It} (h : readyI f x = true) : mayI x = true ∧ (f x.frm : Int) = x.seq := by
  unfold readyI at h
  simp only [Bool.and_eq_true, decide_eq_true_eq] at h
  exact ⟨h.1.1, h.1.2⟩
theorem ready_keep {f : Nat → Nat} {x : It} (h : readyI f x = true) : keep f x = true := by
  unfold keep oldI
  have := (ready_seq h).2
  simp; omega
theorem keep_bump {f : Nat → Nat} {k : Nat} {y : It} (h : keep (bump f k) y = true) : keep f y = true := by
  unfold keep oldI at h ⊢
  have := bump_ge f k y.frm
  simp at h ⊢; omega
theorem count_less {p q : It → Bool} {l : List It} (h : ∀ y ∈ l, q y = true → p y = true) {x : It} (hx : x ∈ l) (hp : p x = true) (hq : q x = false) : l.countP q + 1 ≤ l.countP p := by
  induction l with
  | nil => cases hx
  | cons y l ih =>
    have hm : l.countP q ≤ l.countP p := List.countP_mono_left fun z hz hqz => h z (List.mem_cons_of_mem _ hz) hqz
    rw [List.countP_cons, List.countP_cons]
    rcases List.mem_cons.1 hx with rfl | hx
    · rw [hp, hq]; simp; omega
    · have := ih (fun z hz => h z (List.mem_cons_of_mem _ hz)) hx
      have hy := h y (List.mem_cons_self ..)
      cases e : q y
      · simp; split <;> omega
      · rw [hy e]; simp; omega
/-- How many are not old. -/
def left (f : Nat → Nat) (l : List It) : Nat := l.countP (keep f)
theorem left_le (f : Nat → Nat) (l : List It) : left f l ≤ l.length := List.countP_le_length
theorem left_step {f : Nat → Nat} {l : List It} {x : It} (hx : x ∈ l) (h : readyI f x = true) : left (bump f x.frm) l + 1 ≤ left f l := by
  refine count_less (fun y _ hy => keep_bump hy) hx (ready_keep h) ?_
  unfold keep oldI
  rw [bump_at]
  have := (ready_seq h).2
  simp; omega
theorem fstR_ready {f : Nat → Nat} {l : List It} {x : It} (h : l[fstR f l]? = some x) : readyI f x = true := by
  obtain ⟨hlt, he⟩ := List.getElem?_eq_some_iff.1 h
  rw [← he]
  exact List.findIdx_getElem (w := hlt)
/-- What is told, and how many of each are then. -/
def tellN (l : List It) : Nat → (Nat → Nat) → (Nat → Nat) × List It
  | 0, f => (f, [])
  | n + 1, f => match l[fstR f l]? with
    | some x => ((tellN l n (bump f x.frm)).1, x :: (tellN l n (bump f x.frm)).2)
    | none => (f, [])
theorem tell_fuel (l : List It) : ∀ (n : Nat) (f : Nat → Nat), left f l ≤ n → ∀ m, left f l ≤ m → tellN l n f = tellN l m f := by
  intro n
  induction n with
  | zero =>
    intro f hn m hm
    cases m with
    | zero => rfl
    | succ m =>
      unfold tellN
      cases e : l[fstR f l]? with
      | none => rfl
      | some x =>
        have := left_step (List.mem_of_getElem? e) (fstR_ready e)
        omega
  | succ n ih =>
    intro f hn m hm
    cases m with
    | zero =>
      unfold tellN
      cases e : l[fstR f l]? with
      | none => rfl
      | some x =>
        have := left_step (List.mem_of_getElem? e) (fstR_ready e)
        omega
    | succ m =>
      unfold tellN
      cases e : l[fstR f l]? with
      | none => rfl
      | some x =>
        have := left_step (List.mem_of_getElem? e) (fstR_ready e)
        dsimp only
        rw [ih (bump f x.frm) (by omega) m (by omega)]
def tellT (f : Nat → Nat) (l : List It) : (Nat → Nat) × List It := tellN l (left f l) f
theorem tellT_go {f : Nat → Nat} {l : List It} {x : It} (h : l[fstR f l]? = some x) : tellT f l = ((tellT (bump f x.frm) l).1, x :: (tellT (bump f x.frm) l).2) := by
  have hs := left_step (List.mem_of_getElem? h) (fstR_ready h)
  unfold tellT
  obtain ⟨n, hn⟩ : ∃ n, left f l = n + 1 := ⟨left f l - 1, by omega⟩
  rw [hn, tellN, h]
  dsimp only
  rw [tell_fuel l n (bump f x.frm) (by omega) _ (Nat.le_refl _)]
theorem tellT_stop {f : Nat → Nat} {l : List It} (h : ¬ fstR f l < l.length) : tellT f l = (f, []) := by
  have e : l[fstR f l]? = none := List.getElem?_eq_none (by omega)
  unfold tellT
  cases left f l with
  | zero => rfl
  | succ n => rw [tellN, e]
end Hd
end Go.Proofs.Ytbacnjkookakcaa
