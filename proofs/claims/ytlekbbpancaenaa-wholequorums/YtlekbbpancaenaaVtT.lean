/- Plain mathematics of WholeQuorums: echoes one by one; two quorums meet in one who is honest. works: true. -/
import Derived.Test.YtlekbbpancaenaaVtR
import Derived.Test.YtlekbbpancaenaaVtO
namespace Go.Proofs.Ytlekbbpancaenaa
open Go.RowKit Go.Shelf
namespace Vt

/-- A case behind k echoes of the members of L for b. -/
def QInv (b : ByteArray) (L : List Nat) (m k : Nat) (c : Cs) : Prop :=
  c.echoed = false ∧ c.done = false ∧ c.readies = [] ∧ c.readied = decide (Cn.echoes m ≤ k) ∧
    ((k = 0 ∧ c.echoes = []) ∨ ∃ s, c.echoes = [(b, s)] ∧ s < 65536 ∧ Cn.sizeS s = k ∧ ∀ j, s.testBit j = decide (j ∈ L.take k))
theorem echoes_pos (m : Int) : 1 ≤ Cn.echoes m := by unfold Cn.echoes; omega
theorem qinv_none (b : ByteArray) (L : List Nat) (m : Nat) : QInv b L m 0 Cs.none := by
  refine ⟨rfl, rfl, rfl, ?_, .inl ⟨rfl, rfl⟩⟩
  have := echoes_pos m
  exact (decide_eq_false (by omega)).symm
theorem qinv_step {b : ByteArray} {L : List Nat} {m k id : Nat} {c : Cs} (hm1 : 1 ≤ m) (hm : m ≤ 16) (hb : b.size ≤ 100) (hL : L.Nodup) (hk : L[k]? = some id) (hid : id < m) (h : QInv b L m k c) :
    (take c (2 ^ m - 1) 0 2 id b).e = 0 ∧ QInv b L m (k + 1) (take c (2 ^ m - 1) 0 2 id b).c := by
  obtain ⟨h1, h2, h3, h4, h5⟩ := h
  have hsz := Cn.size_all hm
  have hA : ∀ j, j < m → Cn.hasS (2 ^ m - 1) j = true := fun j hj => by
    unfold Cn.hasS; rw [Nat.testBit_two_pow_sub_one, decide_eq_true hj, decide_eq_true (show j ≤ 15 by omega)]; rfl
  have eb : badArg 2 b = false := by unfold badArg; rw [decide_eq_false (show ¬ 1000 < b.size by omega)]; rfl
  have eo : out (2 ^ m - 1) 0 id = false := by unfold out; rw [hA id hid, hA 0 hm1]; rfl
  have hnot : id ∉ L.take k := fun hin => by
    obtain ⟨j, hj, e⟩ := List.getElem_of_mem hin
    rw [List.length_take] at hj
    rw [List.getElem_take] at e
    have hk2 := List.getElem?_eq_some_iff.1 hk
    exact List.pairwise_iff_getElem.1 hL j k (by omega) hk2.1 (by omega) (e.trans hk2.2.symm)
  have htk : L.take (k + 1) = L.take k ++ [id] := by rw [List.take_add_one, hk]; rfl
  have eold : old c 2 id = false := by
    show votedB c.echoes id = false
    rcases h5 with ⟨_, e⟩ | ⟨s, e, _, _, e2⟩
    · rw [e]; rfl
    · rw [e]
      unfold votedB
      simp only [List.any_cons, List.any_nil, Bool.or_false]
      unfold Cn.hasS
      rw [e2, decide_eq_false hnot, Bool.and_false]
  -- the set behind it
  have hw : ∃ s, withB c.echoes id b = [(b, s)] ∧ s < 65536 ∧ Cn.sizeS s = k + 1 ∧ ∀ j, s.testBit j = decide (j ∈ L.take (k + 1)) := by
    rcases h5 with ⟨k0, e⟩ | ⟨s, e, e1, e3, e2⟩
    · refine ⟨Cn.withS 0 id, by rw [e]; rfl, Cn.with_small (by omega), ?_, fun j => ?_⟩
      · rw [Cn.size_with (by omega) (by unfold Cn.hasS; simp), k0]; rfl
      · rw [Cn.test_with, htk, k0]
        simp [show id ≤ 15 by omega, eq_comm]
    · refine ⟨Cn.withS s id, by rw [e]; simp [withB], Cn.with_small e1, ?_, fun j => ?_⟩
      · rw [Cn.size_with (by omega) (by unfold Cn.hasS; rw [e2, decide_eq_false hnot, Bool.and_false]), e3]
      · rw [Cn.test_with, e2, htk]
        simp [show id ≤ 15 by omega, eq_comm]
  obtain ⟨s, w1, w2, w3, w4⟩ := hw
  have hsB : sizeB (withB c.echoes id b) b = k + 1 := by rw [w1]; unfold sizeB; simp [forB, w3]
  have et : take c (2 ^ m - 1) 0 2 id b = ⟨(echoT c m id b).1, (echoT c m id b).2, none, false, 0⟩ := by
    unfold take
    rw [eb, eo, eold, hsz]
    have e1 : taken c m 2 id b = echoT c m id b := rfl
    rw [e1]
    have e2 : (echoT c m id b).1.done = false := h2
    dsimp only
    rw [e2, h2]
    rfl
  rw [et]
  refine ⟨rfl, h1, h2, h3, ?_, .inr ⟨s, w1, w2, w3, w4⟩⟩
  show (c.readied || decide (Cn.echoes m ≤ sizeB (withB c.echoes id b) b)) = _
  rw [h4, hsB]
  by_cases hE : Cn.echoes m ≤ k
  · rw [decide_eq_true hE, decide_eq_true (show Cn.echoes m ≤ k + 1 by omega)]; rfl
  · rw [decide_eq_false hE, Bool.false_or]
/-- Two quorums meet in one who is honest. -/
theorem quorums {m a b c : Nat} (hm1 : 1 ≤ m) (hm : m ≤ 16) (ha : ∀ j, j < 16 → a.testBit j = true → j < m) (hb : ∀ j, j < 16 → b.testBit j = true → j < m) (hab : ∀ j, j < 16 → (a &&& b).testBit j = true → c.testBit j = true) (hc : Cn.sizeS c ≤ Cn.faulty m) :
    (!decide (Cn.echoes m ≤ Cn.sizeS a) || !decide (Cn.echoes m ≤ Cn.sizeS b)) = true := by
  have h1 := Cn.meet hm ha hb
  have h2 := Cn.size_mono hab
  have h3 := (Cn.numbers (m := (m : Int)) (by omega) (by omega)).2.1
  by_cases q1 : Cn.echoes m ≤ Cn.sizeS a
  · have : ¬ Cn.echoes m ≤ Cn.sizeS b := by omega
    rw [decide_eq_false this]; simp
  · rw [decide_eq_false q1]; rfl
end Vt

theorem works_take : Vt.take Vt.Cs.none 1 0 3 0 ⟨#[120]⟩ = ⟨⟨false, true, true, [], [(⟨#[120]⟩, 1)]⟩, [(3, ⟨#[120]⟩)], ⟨#[120]⟩, true, 0⟩ := by kernel_rfl
theorem works_faulty : Cn.faulty 4 = 1 := by kernel_rfl
set_option maxHeartbeats 4000000 in
set_option maxRecDepth 100000 in
theorem works_any (w : World) : Calls Try.prog 31 #[] w fun e w' => e = .returned (.bool true) ∧ Below w.heap.size w w' := by
  have T1 := take_let (c1 := 0) (c2 := 0) works_take (w := w) (a1 := none) (a2 := none) ⟨.inl rfl, .inl rfl, none_small, by decide, by decide⟩ (by decide)
  have FA : Aside (∀ W, _) := fun W => faulty_any 4 W
  rw [works_faulty] at FA
  go_enter Try.func31, Try.ntmps31
  go_wp2_with fail
  refine T1.mono ?_
  rintro z w1 ⟨b1, k1, b2, k2, ao, co, rfl, hA⟩
  have B1 : Aside (∀ o, Below w.heap.size w (w1.alloc o)) := fun o => hA.out.2.2.2.1.alloc hA.out.2.2.2.1.size o
  clear T1 hA
  go_wp2_with fail
  refine (FA.out _).mono ?_
  rintro z w2 ⟨rfl, hw⟩
  replace hw := hw.symm; subst hw
  clear FA
  go_wp2
  go_ret
  exact ⟨rfl, B1.out _⟩
end Go.Proofs.Ytlekbbpancaenaa
