/- Plain mathematics of VoteCounts: no member votes twice; what is delivered has enough readies, what it is ready for enough of either. No program. -/
import Derived.Test.YtmhjmeedoajkjaaBrA
import Derived.Test.YtmhjmeedoajkjaaVtQ
namespace Go.Proofs.Ytmhjmeedoajkjaa
namespace Vt

/-- Two ballots apart: for two bodies, of no member in common. -/
def Ap (a b : ByteArray × Nat) : Prop := a.1 ≠ b.1 ∧ a.2 &&& b.2 = 0
theorem and_with {a s id : Nat} (h : a &&& s = 0) (hi : Cn.hasS a id = false) : a &&& Cn.withS s id = 0 := by
  apply Nat.eq_of_testBit_eq
  intro j
  have hj : (a &&& s).testBit j = false := by rw [h]; exact Nat.zero_testBit j
  rw [Nat.testBit_and] at hj
  rw [Nat.testBit_and, Cn.test_with, Nat.zero_testBit]
  cases ha : a.testBit j with
  | false => rfl
  | true =>
    rw [ha, Bool.true_and] at hj
    rw [hj, Bool.true_and, Bool.false_or]
    by_cases e : id ≤ 15 ∧ id = j
    · exfalso
      obtain ⟨e1, rfl⟩ := e
      unfold Cn.hasS at hi
      rw [ha, decide_eq_true e1] at hi
      cases hi
    · by_cases e1 : id ≤ 15
      · rw [decide_eq_false (show ¬ id = j from fun e2 => e ⟨e1, e2⟩), Bool.and_false]
      · rw [decide_eq_false e1, Bool.false_and]
theorem with_and {a s id : Nat} (h : s &&& a = 0) (hi : Cn.hasS a id = false) : Cn.withS s id &&& a = 0 := by
  rw [Nat.and_comm] at h ⊢; exact and_with h hi
theorem not_voted {l : Bal} {id : Nat} (h : votedB l id = false) {b : ByteArray × Nat} (hb : b ∈ l) : Cn.hasS b.2 id = false := by
  cases e : Cn.hasS b.2 id with
  | false => rfl
  | true => have : votedB l id = true := List.any_eq_true.2 ⟨b, hb, e⟩; rw [h] at this; cases this
theorem pw_with {l : Bal} {id : Nat} {x : ByteArray} (h : l.Pairwise Ap) (hv : votedB l id = false) : (withB l id x).Pairwise Ap := by
  induction l with
  | nil => unfold withB; exact List.pairwise_singleton _ _
  | cons a l ih =>
    obtain ⟨h1, h2⟩ := List.pairwise_cons.1 h
    have hva : Cn.hasS a.2 id = false := not_voted hv List.mem_cons_self
    have hvl : votedB l id = false := by
      have e : votedB (a :: l) id = (Cn.hasS a.2 id || votedB l id) := rfl
      rw [e, hva, Bool.false_or] at hv; exact hv
    unfold withB
    by_cases ha : a.1 = x
    · rw [if_pos ha]
      refine List.pairwise_cons.2 ⟨fun b hb => ⟨(h1 b hb).1, with_and (h1 b hb).2 (not_voted hvl hb)⟩, h2⟩
    · rw [if_neg ha]
      refine List.pairwise_cons.2 ⟨fun b hb => ?_, ih h2 hvl⟩
      obtain ⟨bx, bs⟩ := b
      rcases mem_with hb with hb | ⟨rfl, rfl | ⟨s0, h0, rfl⟩⟩
      · exact h1 _ hb
      · exact ⟨ha, and_with (Nat.and_zero _) hva⟩
      · exact ⟨ha, and_with (h1 _ h0).2 hva⟩
theorem sound_pw {l : Bal} (h : l.Pairwise Ap) : SoundP l := by
  intro i k x y s t hki hi hk
  obtain ⟨i1, i2⟩ := List.getElem?_eq_some_iff.1 hi
  obtain ⟨k1, k2⟩ := List.getElem?_eq_some_iff.1 hk
  have := List.pairwise_iff_getElem.1 h k i k1 i1 hki
  rw [i2, k2] at this
  exact ⟨fun e => this.1 e.symm, by rw [Nat.and_comm]; exact this.2⟩
/-- Each set is one of some members. -/
def Some (ms : Nat) (l : Bal) : Prop := ∀ b s, (b, s) ∈ l → s ≠ 0 ∧ ∀ j, s.testBit j = true → ms.testBit j = true
theorem some_with {ms id : Nat} {l : Bal} {x : ByteArray} (h : Some ms l) (hm : Cn.hasS ms id = true) : Some ms (withB l id x) := by
  have h15 : id ≤ 15 := by unfold Cn.hasS at hm; simp only [Bool.and_eq_true, decide_eq_true_eq] at hm; exact hm.1
  have hmb : ms.testBit id = true := by unfold Cn.hasS at hm; simp only [Bool.and_eq_true] at hm; exact hm.2
  have key : ∀ s, (∀ j, s.testBit j = true → ms.testBit j = true) → Cn.withS s id ≠ 0 ∧ ∀ j, (Cn.withS s id).testBit j = true → ms.testBit j = true := fun s hs => by
    refine ⟨fun e => ?_, fun j hj => ?_⟩
    · have : (Cn.withS s id).testBit id = true := by rw [Cn.test_with, decide_eq_true h15, decide_eq_true (rfl : id = id)]; simp
      rw [e, Nat.zero_testBit] at this; cases this
    · rw [Cn.test_with] at hj
      cases hb : s.testBit j with
      | true => exact hs j hb
      | false =>
        rw [hb, Bool.false_or] at hj
        simp only [Bool.and_eq_true, decide_eq_true_eq] at hj
        rw [← hj.2]; exact hmb
  intro b s hb
  rcases mem_with hb with hb | ⟨rfl, rfl | ⟨s0, h0, rfl⟩⟩
  · exact h b s hb
  · exact key 0 fun j hj => by rw [Nat.zero_testBit] at hj; cases hj
  · exact key s0 (h _ _ h0).2
/-- All that VoteCounts asks of a case. -/
structure Cnt (ms : Nat) (c : Cs) : Prop where
  e : c.echoes.Pairwise Ap
  r : c.readies.Pairwise Ap
  se : Some ms c.echoes
  sr : Some ms c.readies
theorem cnt_none (ms : Nat) : Cnt ms Cs.none := ⟨List.Pairwise.nil, List.Pairwise.nil, (fun _ _ h => nomatch h), (fun _ _ h => nomatch h)⟩
theorem cnt_take {c : Cs} {ms frm : Nat} {kind : Int} {id : Nat} {x : ByteArray} {t : Told} (ht : take c ms frm kind id x = t) (h : Cnt ms c) :
    Cnt ms t.c ∧ (t.is = true → Cn.enough (Cn.sizeS ms) ≤ sizeB t.c.readies t.body) ∧ t.outs.length ≤ 1 ∧
      ∀ k y, (k, y) ∈ t.outs → (k = 2 ∨ k = 3 ∧ (Cn.echoes (Cn.sizeS ms) ≤ sizeB t.c.echoes y ∨ Cn.readies (Cn.sizeS ms) ≤ sizeB t.c.readies y)) := by
  subst ht
  rcases take_full c ms frm kind id x with ⟨e, _, ht⟩ | ⟨hm, _, _, _, ht⟩ | ⟨hm, _, hv, ht⟩ | ⟨hm, _, hv, _, ht⟩ | ⟨hm, _, hv, hd0, hd, ht⟩ <;> rw [ht]
  · exact ⟨h, (fun h => nomatch h), Nat.zero_le _, (fun _ _ h => nomatch h)⟩
  · refine ⟨⟨h.e, h.r, h.se, h.sr⟩, (fun h => nomatch h), Nat.le_refl _, fun k y hk => ?_⟩
    simp only [List.mem_cons, List.not_mem_nil, or_false, Prod.mk.injEq] at hk
    exact .inl hk.1
  · refine ⟨⟨pw_with h.e hv, h.r, some_with h.se hm, h.sr⟩, (fun h => nomatch h), ?_, fun k y hk => ?_⟩
    · show (ready _ _ _).2.length ≤ 1
      unfold ready; dsimp only; split <;> simp
    · have hk' : (k, y) ∈ (ready { c with echoes := withB c.echoes id x } x (decide (Cn.echoes (Cn.sizeS ms) ≤ sizeB (withB c.echoes id x) x))).2 := hk
      unfold ready at hk'
      dsimp only at hk'
      split at hk'
      · cases hk'
      · next hq =>
        simp only [List.mem_cons, List.not_mem_nil, or_false, Prod.mk.injEq] at hk'
        obtain ⟨rfl, rfl⟩ := hk'
        refine .inr ⟨rfl, .inl ?_⟩
        show Cn.echoes (Cn.sizeS ms) ≤ sizeB (withB c.echoes id y) y
        simp only [Bool.or_eq_true, Bool.not_eq_true', decide_eq_false_iff_not, not_or, Decidable.not_not] at hq
        exact hq.2
  all_goals
    have hO : ∀ k y, (k, y) ∈ (readyT c (Cn.sizeS ms) id x).2 → (k = 2 ∨ k = 3 ∧ (Cn.echoes (Cn.sizeS ms) ≤ sizeB (readyT c (Cn.sizeS ms) id x).1.echoes y ∨ Cn.readies (Cn.sizeS ms) ≤ sizeB (readyT c (Cn.sizeS ms) id x).1.readies y)) := fun k y hk => by
      have hk' : (k, y) ∈ (ready { c with readies := withB c.readies id x, done := c.done || decide (Cn.enough (Cn.sizeS ms) ≤ sizeB (withB c.readies id x) x) } x (decide (Cn.readies (Cn.sizeS ms) ≤ sizeB (withB c.readies id x) x))).2 := hk
      unfold ready at hk'
      dsimp only at hk'
      split at hk'
      · cases hk'
      · next hq =>
        simp only [List.mem_cons, List.not_mem_nil, or_false, Prod.mk.injEq] at hk'
        obtain ⟨rfl, rfl⟩ := hk'
        refine .inr ⟨rfl, .inr ?_⟩
        show Cn.readies (Cn.sizeS ms) ≤ sizeB (withB c.readies id y) y
        simp only [Bool.or_eq_true, Bool.not_eq_true', decide_eq_false_iff_not, not_or, Decidable.not_not] at hq
        exact hq.2
    have hL : (readyT c (Cn.sizeS ms) id x).2.length ≤ 1 := by
      show (ready _ _ _).2.length ≤ 1
      unfold ready; dsimp only; split <;> simp
    have hC : Cnt ms (readyT c (Cn.sizeS ms) id x).1 := ⟨h.e, pw_with h.r hv, h.se, some_with h.sr hm⟩
  · exact ⟨hC, (fun h => nomatch h), hL, hO⟩
  · refine ⟨hC, fun _ => ?_, hL, hO⟩
    have hd' : (c.done || decide (Cn.enough (Cn.sizeS ms) ≤ sizeB (withB c.readies id x) x)) = true := hd
    rw [hd0, Bool.false_or] at hd'
    exact of_decide_eq_true hd'
end Vt
end Go.Proofs.Ytmhjmeedoajkjaa
