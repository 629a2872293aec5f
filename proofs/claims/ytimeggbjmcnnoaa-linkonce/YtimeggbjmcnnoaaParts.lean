/- What Parts gives: a term's kind, and the terms that it is made of, or the error. -/
import Derived.Test.YtimeggbjmcnnoaaMake
namespace Go.Proofs.Ytimeggbjmcnnoaa
open Go.RowKit

theorem grown_own {a w w' : World} {pb : Nat} {row : Option Nat} (h : a.grownBy w (some pb)) (hg : w.grownBy w' row) (hr : ∀ k, row = some k → a.heap.size ≤ k) : a.grownBy w' (some pb) :=
  ⟨hg.os.trans h.os, hg.tape.trans h.tape, hg.output.trans h.output, Nat.le_trans h.size hg.size, fun k hk hne =>
    (hg.block k (Nat.lt_of_lt_of_le hk h.size) (fun e => by have := hr k e.symm; omega)).trans (h.block k hk hne)⟩

theorem rd_grown {w w' : World} {pb i : Nat} {s : ByteArray} {row : Option Nat} (h : Rd w pb s i) (hg : w.grownBy w' row) (hr : ∀ k, row = some k → pb ≠ k) : Rd w' pb s i := by
  have e : w'.heap[pb]? = w.heap[pb]? := hg.block pb (rd_lt h) (fun e => hr pb e.symm rfl)
  obtain ⟨h1, h2, h3, h4, h5⟩ := h
  exact ⟨(World.cell?_of_block (w := w) e).trans h1, (World.cell?_of_block (w := w) e).trans h2, (World.frozen?_of_block (w := w) e).trans h3, h4, h5⟩
theorem rd_alloc {w : World} {pb i : Nat} {s : ByteArray} (h : Rd w pb s i) (o : Obj) : Rd (w.alloc o) pb s i :=
  rd_grown h (World.grownBy_alloc w o none) (fun k hk => by cases hk)
theorem rd_new (w : World) (s : ByteArray) (hs : s.size ≤ 2000) : Rd (w.alloc (.cells #[.string s, .int .i64 0] 100)) w.heap.size s 0 := by
  refine ⟨?_, ?_, ?_, Nat.zero_le _, hs⟩ <;> simp [go_sem]

theorem cut_bytes {s : ByteArray} {p q : Nat} {a r : List UInt8} (h : s.data.toList.drop p = a ++ r) (hq : q = p + a.length) : (s.extract p q).data.toList = a := by
  have : (s.extract p q).data.toList = (s.data.toList.drop p).take (q - p) := by
    simp [ByteArray.data_extract, List.extract]
  rw [this, h, hq, Nat.add_sub_cancel_left, List.take_left]

/-- What Parts is to give. -/
def PartsPost (bs : List UInt8) (w : World) (e : Ending) (w' : World) : Prop :=
  ∃ v, e = .returned (.tuple #[.int .u8 ((Tm.kindOf bs).toNat : Int), v, .int .i64 (Tm.chk bs : Nat)]) ∧ w'.ownsRow w.heap.size 22 1 v (Tm.partsOf bs).length (strs (Tm.partsOf bs)) ∧ Below w.heap.size w w'

theorem partsPost_err {bs : List UInt8} {w w' : World} (h : Tm.chk bs ≠ 0) (hb : Below w.heap.size w w') : PartsPost bs w (.returned (.tuple #[.int .u8 0, .slice none 0 0, .int .i64 (Tm.chk bs : Nat)])) w' := by
  refine ⟨.slice none 0 0, ?_, ?_, hb⟩
  · rw [show Tm.kindOf bs = 0 by unfold Tm.kindOf; rw [if_neg h]]; rfl
  · rw [show Tm.partsOf bs = [] by unfold Tm.partsOf; rw [if_neg h]]; exact World.ownsRow_nil _ _ _ _

namespace Tm
/-- A good term's first byte, and its parts behind it. -/
theorem parts_at {bs : List UInt8} (h : chk bs = 0) : ∃ t k r, tree bs = some t ∧ wf t ∧ bs = k :: r ∧ kindOf bs = k ∧ partsOf bs = (kids t).map text ∧ ar1 k = (kids t).length ∧ wfs (kids t) ∧ bs.length ≤ 2000 ∧
    (kids t ≠ [] → r = texts (kids t)) := by
  obtain ⟨hl, t, ht, hw, hx, _⟩ := chk_zero h
  have hp := text_pos hw
  rw [hx] at hp
  match bs, hp with
  | k :: r, _ =>
    obtain ⟨s1, s2, s3, s4⟩ := wf_step hw []
    rw [List.append_nil, hx] at s1 s2
    refine ⟨t, k, r, ht, hw, rfl, ?_, ?_, s2, s4, hl, fun hne => ?_⟩
    · unfold kindOf; rw [if_pos h]; rfl
    · unfold partsOf; rw [if_pos h, ht]
    · have e := text_eq t
      rw [hx] at e
      have h1 : own (k :: r) = 1 := own_one (by rw [s2]; intro e0; exact hne (List.eq_nil_of_length_eq_zero e0))
      rw [h1] at s1
      match hh : head t, s1 with
      | [x], _ =>
        rw [hh] at e
        simp at e
        exact e.2
end Tm

end Go.Proofs.Ytimeggbjmcnnoaa
