/- What Subs gives: all terms that a term is made of, itself first, or the error. -/
import Derived.Test.YtimeggbjmcnnoaaParts
namespace Go.Proofs.Ytimeggbjmcnnoaa
open Go.RowKit

/-- What Subs is to give. -/
def SubsPost (bs : List UInt8) (w : World) (e : Ending) (w' : World) : Prop :=
  ∃ v, e = .returned (.tuple #[v, .int .i64 (Tm.chk bs : Nat)]) ∧ w'.ownsRow w.heap.size 22 1 v (Tm.subsOf bs).length (strs (Tm.subsOf bs)) ∧ Below w.heap.size w w'

theorem subsPost_err {bs : List UInt8} {w w' : World} (h : Tm.chk bs ≠ 0) (hb : Below w.heap.size w w') : SubsPost bs w (.returned (.tuple #[.slice none 0 0, .int .i64 (Tm.chk bs : Nat)])) w' := by
  refine ⟨.slice none 0 0, rfl, ?_, hb⟩
  rw [show Tm.subsOf bs = [] by unfold Tm.subsOf; rw [if_neg h]]; exact World.ownsRow_nil _ _ _ _

namespace Tm
/-- What is in a term, found from left to right: done, and the terms that still wait. -/
def SInv (L : List UInt8) (all done : List (List UInt8)) (p : Nat) (ts : List T) : Prop :=
  wfs ts ∧ L.drop p = texts ts ∧ done ++ (subsAll ts).map text = all ∧ done.length ≤ p ∧ p ≤ L.length
theorem sInv_step {L : List UInt8} {all done : List (List UInt8)} {p : Nat} {t : T} {l : List T} (h : SInv L all done p (t :: l)) :
    wf t ∧ L.drop p = text t ++ texts l ∧ 0 < own (L.drop p) ∧ p + own (L.drop p) ≤ L.length ∧ SInv L all (done ++ [text t]) (p + own (L.drop p)) (kids t ++ l) := by
  obtain ⟨hw, he, hd, hp, hp2⟩ := h
  obtain ⟨w1, w2⟩ := wfs_cons.1 hw
  have e2 : L.drop p = text t ++ texts l := by rw [he, texts_cons]
  obtain ⟨s1, s2, s3, s4⟩ := wf_step w1 (texts l)
  rw [← e2] at s1 s2
  have hds := drop_step w1 l []
  rw [List.append_nil, ← he, List.append_nil] at hds
  have ho := own_le (L.drop p)
  rw [List.length_drop] at ho
  refine ⟨w1, e2, by omega, by omega, wfs_append.2 ⟨s4, w2⟩, by rw [← List.drop_drop]; exact hds, ?_, by simp; omega, by omega⟩
  rw [← hd, subsAll_cons, subs_eq, subsAll_append]
  simp
theorem sInv_end {L : List UInt8} {all done : List (List UInt8)} {p : Nat} {ts : List T} (h : SInv L all done p ts) (hp : L.length ≤ p) : done = all := by
  obtain ⟨hw, he, hd, _, _⟩ := h
  rw [List.drop_of_length_le hp] at he
  cases ts with
  | nil => rw [← hd]; simp [subsAll]
  | cons t l =>
    have := text_pos (wfs_cons.1 hw).1
    have := congrArg List.length he
    rw [texts_cons, List.length_append] at this
    simp at this; omega
theorem sInv_more {L : List UInt8} {all done : List (List UInt8)} {p : Nat} {ts : List T} (h : SInv L all done p ts) (hp : p < L.length) : ∃ t l, ts = t :: l := by
  cases ts with
  | nil =>
    have := h.2.1
    have := congrArg List.length this
    rw [List.length_drop] at this
    simp [texts] at this; omega
  | cons t l => exact ⟨t, l, rfl⟩
theorem subs_at {bs : List UInt8} (h : chk bs = 0) : ∃ t, SInv bs (subsOf bs) [] 0 [t] ∧ bs.length ≤ 2000 := by
  obtain ⟨hl, t, ht, hw, hx, _⟩ := chk_zero h
  refine ⟨t, ⟨by simp [wfs, hw], by rw [List.drop_zero, ← hx]; simp [texts], ?_, Nat.zero_le _, Nat.zero_le _⟩, hl⟩
  unfold subsOf
  rw [if_pos h, ht]
  simp [subsAll]
end Tm

end Go.Proofs.Ytimeggbjmcnnoaa
