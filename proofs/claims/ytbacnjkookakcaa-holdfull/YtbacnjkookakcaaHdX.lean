/- Items of one member that wait in a row, and what tells them all: HoldFull's mathematics. -/
import Derived.Test.YtbacnjkookakcaaHdU
set_option linter.unusedVariables false
namespace Go.Proofs.Ytbacnjkookakcaa
open Go.RowKit
namespace Hd
open Ps

def zeroV : Nat → Nat := fun _ => 0
/-- Broadcast k of member q, behind all that q said ahead of it. -/
def rowX (q k : Nat) : It := ⟨q, (k : Int), ⟨1, upd zeroV q k, ByteArray.empty⟩⟩
theorem upd_at (f : Nat → Nat) (q k : Nat) : upd f q k q = k := by unfold upd; rw [if_pos rfl]
theorem upd_other (f : Nat → Nat) {q k i : Nat} (h : i ≠ q) : upd f q k i = f i := by unfold upd; rw [if_neg h]
theorem rowX_may {q k : Nat} (hq : q < 16) (hk : k ≤ 1000) : mayI (rowX q k) = true := by
  have h : may (rowX q k).body = true := by
    refine may_iff.2 ⟨by show (1 : Int) ≤ 1; decide, by show (1 : Int) ≤ 3; decide, fun i _ => ?_, by show ByteArray.empty.size ≤ 400; decide⟩
    by_cases h : i = q
    · subst h; show upd zeroV i k i ≤ 1000; rw [upd_at]; exact hk
    · show upd zeroV q k i ≤ 1000; rw [upd_other _ h]; exact Nat.zero_le _
  show (may (rowX q k).body && decide (q < 16) && decide (((upd zeroV q k q : Nat) : Int) = (k : Int))) = true
  rw [h, upd_at, decide_eq_true hq, decide_eq_true rfl]; rfl
theorem rowX_fit {q k : Nat} (hq : q < 16) (hk : k ≤ 1000) : Fit (rowX q k) := by
  refine ⟨by show q < 256; omega, by show (-9223372036854775808 : Int) ≤ (k : Int); omega, by show (k : Int) ≤ 9223372036854775807; omega, fun i _ => ?_⟩
  show upd zeroV q k i < 65536
  by_cases h : i = q
  · subst h; rw [upd_at]; omega
  · rw [upd_other _ h]; show (0 : Nat) < 65536; decide
theorem rowX_ready {q k j : Nat} (hq : q < 16) (hk : k ≤ 1000) : readyI (upd zeroV q j) (rowX q k) = decide (j = k) := by
  unfold readyI
  rw [rowX_may hq hk, Bool.true_and]
  show (decide (((upd zeroV q j q : Nat) : Int) = (k : Int)) && belowB (upd zeroV q k) (upd zeroV q j)) = decide (j = k)
  rw [upd_at]
  by_cases h : j = k
  · subst h
    rw [belowB_iff.2 (fun i _ => Nat.le_refl _), decide_eq_true rfl, decide_eq_true rfl]; rfl
  · rw [decide_eq_false h, decide_eq_false (by omega), Bool.false_and]
theorem rowX_keep {q k j : Nat} : keep (upd zeroV q j) (rowX q k) = decide (j ≤ k) := by
  unfold keep oldI
  show (!decide ((k : Int) < ((upd zeroV q j q : Nat) : Int))) = decide (j ≤ k)
  rw [upd_at]
  by_cases h : j ≤ k
  · rw [decide_eq_true h, decide_eq_false (by omega)]; rfl
  · rw [decide_eq_false h, decide_eq_true (by omega)]; rfl
theorem upd_zero (q : Nat) : upd zeroV q 0 = zeroV := by funext i; unfold upd zeroV; split <;> rfl
theorem bump_row (q j : Nat) : bump (upd zeroV q j) q = upd zeroV q (j + 1) := by
  unfold bump
  rw [upd_at]
  funext i; unfold upd; split <;> rfl
/-- Those that wait: 1 to m. -/
def waitL (q m : Nat) : List It := (List.range m).map fun i => rowX q (i + 1)
theorem waitL_length (q m : Nat) : (waitL q m).length = m := by simp [waitL]
theorem waitL_succ (q m : Nat) : waitL q (m + 1) = waitL q m ++ [rowX q (m + 1)] := by simp [waitL, List.range_succ]
theorem waitL_mem {q m : Nat} {x : It} (h : x ∈ waitL q m) : ∃ k, 1 ≤ k ∧ k ≤ m ∧ x = rowX q k := by
  unfold waitL at h
  obtain ⟨i, hi, rfl⟩ := List.mem_map.1 h
  exact ⟨i + 1, by omega, by have := List.mem_range.1 hi; omega, rfl⟩
theorem waitL_get {q m i : Nat} {x : It} (h : (waitL q m)[i]? = some x) : x = rowX q (i + 1) := by
  unfold waitL at h
  rw [List.getElem?_map] at h
  obtain ⟨y, hy, rfl⟩ := Option.map_eq_some_iff.1 h
  obtain ⟨h1, h2⟩ := List.getElem?_eq_some_iff.1 hy
  rw [List.getElem_range] at h2
  rw [h2]
theorem zero_ready {q k : Nat} (hq : q < 16) (hk : k ≤ 1000) : readyI zeroV (rowX q k) = decide (0 = k) := by rw [← upd_zero q]; exact rowX_ready hq hk
theorem zero_keep {q k : Nat} : keep zeroV (rowX q k) = true := by rw [← upd_zero q, rowX_keep]; exact decide_eq_true (Nat.zero_le _)
theorem zero_old {q k : Nat} : oldI zeroV (rowX q k) = false := by
  have h := @zero_keep q k
  unfold keep at h; simpa using h
theorem waitL_right {q m : Nat} (hq : q < 16) (hm : m ≤ 64) : rightH zeroV (waitL q m) = true := by
  have h3 : (waitL q m).all (waits zeroV) = true := by
    rw [List.all_eq_true]
    intro x hx
    obtain ⟨k, h1, h2, rfl⟩ := waitL_mem hx
    unfold waits
    rw [rowX_may hq (by omega), zero_old, zero_ready hq (by omega), decide_eq_false (by omega)]; rfl
  have h4 : wtN (waitL q m) (waitL q m).length = (waitL q m).length := by
    refine (wtN_apart _ _ (Nat.le_refl _)).2 fun i j x y hij hj hx hy hs => ?_
    have ex := waitL_get hx
    have ey := waitL_get hy
    subst ex ey
    have : ((i + 1 : Nat) : Int) = ((j + 1 : Nat) : Int) := hs.2
    omega
  unfold rightH
  rw [h3, h4, waitL_length, decide_eq_true hm, decide_eq_true rfl]
  have : mxV zeroV 16 ≤ 1000 := by decide
  rw [decide_eq_true this]; rfl
theorem waitL_new {q m k : Nat} (h : ∀ j, 1 ≤ j → j ≤ m → j ≠ k) : wtK (waitL q m) (waitL q m).length q (k : Int) = none := by
  cases e : wtK (waitL q m) (waitL q m).length q (k : Int) with
  | none => rfl
  | some i =>
    obtain ⟨j, x, _, hj, hx, _, hs⟩ := wtK_some _ _ _ _ _ (Nat.le_refl _) e
    have ex := waitL_get hx
    subst ex
    have hs' : ((j + 1 : Nat) : Int) = (k : Int) := hs
    rw [waitL_length] at hj
    exact absurd (by omega : j + 1 = k) (h (j + 1) (by omega) (by omega))
theorem putE_wait {q m : Nat} (hq : q < 16) (hm : m < 64) : putE zeroV (waitL q m) (rowX q (m + 1)) = 0 := by
  unfold putE
  rw [if_pos ⟨waitL_right hq (by omega), rowX_may hq (by omega)⟩]
  have e : wtK (waitL q m) (waitL q m).length (rowX q (m + 1)).frm (rowX q (m + 1)).seq = none := waitL_new (q := q) (m := m) (k := m + 1) (fun j _ _ => by omega)
  rw [e, zero_old, waitL_length, if_neg (by simp), if_neg (by omega)]
theorem putE_full {q k : Nat} (hq : q < 16) (hk : 64 < k) (h2 : k ≤ 1000) : putE zeroV (waitL q 64) (rowX q k) = 7 := by
  unfold putE
  rw [if_pos ⟨waitL_right hq (by omega), rowX_may hq (by omega)⟩]
  have e : wtK (waitL q 64) (waitL q 64).length (rowX q k).frm (rowX q k).seq = none := waitL_new (q := q) (m := 64) (k := k) (fun j _ _ => by omega)
  rw [e, zero_old, waitL_length, if_neg (by simp), if_pos ⟨rfl, by rw [zero_ready hq h2]; exact decide_eq_false (by omega)⟩]
theorem putE_all {q m : Nat} (hq : q < 16) (hm : m ≤ 64) : putE zeroV (waitL q m) (rowX q 0) = 0 := by
  unfold putE
  rw [if_pos ⟨waitL_right hq (by omega), rowX_may hq (by omega)⟩]
  have e : wtK (waitL q m) (waitL q m).length (rowX q 0).frm (rowX q 0).seq = none := waitL_new (q := q) (m := m) (k := 0) (fun j _ _ => by omega)
  have r : readyI zeroV (rowX q 0) = true := by rw [zero_ready hq (by omega)]; rfl
  rw [e, zero_old, r, if_neg (by simp), if_neg (by simp)]
theorem fstR_none {f : Nat → Nat} {l : List It} (h : ∀ x ∈ l, readyI f x = false) : ¬ fstR f l < l.length := by
  intro hlt
  have hr : readyI f (l[fstR f l]'hlt) = true := List.findIdx_getElem (p := readyI f) (xs := l) (w := hlt)
  rw [h _ (List.getElem_mem hlt)] at hr
  cases hr
/-- While the first is not there nothing is told. -/
theorem tell_wait {q m : Nat} (hq : q < 16) (hm : m ≤ 1000) : tellT zeroV (waitL q m) = (zeroV, []) := by
  refine tellT_stop (fstR_none fun x hx => ?_)
  obtain ⟨k, h1, h2, rfl⟩ := waitL_mem hx
  rw [zero_ready hq (by omega)]; exact decide_eq_false (by omega)
theorem all_mem {q m : Nat} {x : It} (h : x ∈ waitL q m ++ [rowX q 0]) : ∃ k, k ≤ m ∧ x = rowX q k := by
  rcases List.mem_append.1 h with h | h
  · obtain ⟨k, _, h2, e⟩ := waitL_mem h; exact ⟨k, h2, e⟩
  · simp only [List.mem_singleton] at h; exact ⟨0, Nat.zero_le _, h⟩
theorem mem_all {q m k : Nat} (h : k ≤ m) : rowX q k ∈ waitL q m ++ [rowX q 0] := by
  cases k with
  | zero => simp
  | succ k =>
    refine List.mem_append_left _ ?_
    unfold waitL
    exact List.mem_map.2 ⟨k, List.mem_range.2 (by omega), rfl⟩
/-- Once it is there all are told. -/
theorem tell_all {q m : Nat} (hq : q < 16) (hm : m ≤ 1000) : ∀ n j, j + n = m + 1 → (tellT (upd zeroV q j) (waitL q m ++ [rowX q 0])).2.length = n := by
  intro n
  induction n with
  | zero =>
    intro j hj
    rw [tellT_stop (fstR_none fun x hx => ?_)]
    · rfl
    · obtain ⟨k, h2, rfl⟩ := all_mem hx
      rw [rowX_ready hq (by omega)]; exact decide_eq_false (by omega)
  | succ n ih =>
    intro j hj
    have hr : readyI (upd zeroV q j) (rowX q j) = true := by rw [rowX_ready hq (by omega)]; exact decide_eq_true rfl
    have hlt : fstR (upd zeroV q j) (waitL q m ++ [rowX q 0]) < (waitL q m ++ [rowX q 0]).length := List.findIdx_lt_length_of_exists ⟨_, mem_all (by omega), hr⟩
    have hx := List.getElem?_eq_getElem hlt
    have hrd := fstR_ready hx
    obtain ⟨k, h2, ek⟩ := all_mem (List.getElem_mem hlt)
    rw [ek] at hx hrd
    rw [rowX_ready hq (by omega)] at hrd
    obtain rfl := of_decide_eq_true hrd
    rw [tellT_go hx]
    show (tellT (bump (upd zeroV q j) q) _).2.length + 1 = n + 1
    rw [bump_row, ih (j + 1) (by omega)]
theorem put_wait {q m : Nat} (hq : q < 16) (hm : m < 64) : putF zeroV (waitL q m) (rowX q (m + 1)) = zeroV ∧ putL zeroV (waitL q m) (rowX q (m + 1)) = waitL q (m + 1) ∧ putO zeroV (waitL q m) (rowX q (m + 1)) = [] := by
  have e := putE_wait hq hm
  have t : tellT zeroV (waitL q m ++ [rowX q (m + 1)]) = (zeroV, []) := by rw [← waitL_succ]; exact tell_wait hq (by omega)
  refine ⟨?_, ?_, ?_⟩
  · unfold putF; rw [if_pos e, t]
  · unfold putL; rw [if_pos e, t, ← waitL_succ]
    refine List.filter_eq_self.2 fun x hx => ?_
    obtain ⟨k, _, _, rfl⟩ := waitL_mem hx
    exact zero_keep
  · unfold putO; rw [if_pos e, t]
theorem put_full {q k : Nat} (hq : q < 16) (hk : 64 < k) (h2 : k ≤ 1000) : putF zeroV (waitL q 64) (rowX q k) = zeroV ∧ putL zeroV (waitL q 64) (rowX q k) = waitL q 64 ∧ putO zeroV (waitL q 64) (rowX q k) = [] := by
  have e : ¬ putE zeroV (waitL q 64) (rowX q k) = 0 := by rw [putE_full hq hk h2]; decide
  refine ⟨?_, ?_, ?_⟩
  · unfold putF; rw [if_neg e]
  · unfold putL; rw [if_neg e]
  · unfold putO; rw [if_neg e]
theorem put_all {q m : Nat} (hq : q < 16) (hm : m ≤ 64) : (putO zeroV (waitL q m) (rowX q 0)).length = m + 1 := by
  unfold putO
  rw [if_pos (putE_all hq hm), ← upd_zero q]
  exact tell_all hq (by omega) (m + 1) 0 (by omega)
end Hd
end Go.Proofs.Ytbacnjkookakcaa
