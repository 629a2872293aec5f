/- What the document's own End gives: the place behind the term that begins there. -/
import Derived.Test.YtimeggbjmcnnoaaRefA
import Derived.Test.YtimeggbjmcnnoaaRdC
namespace Go.Proofs.Ytimeggbjmcnnoaa
open Go.RowKit

/-- Behind the term at the front; -1: there is none. -/
def endI (bs : List UInt8) (i : Nat) : Int :=
  match Tm.first bs with
  | some t => ((i + (Tm.text t).length : Nat) : Int)
  | none => -1

/-- So many terms are still to be gone behind, from this place on. -/
def EInv (L bs : List UInt8) (i p k : Nat) : Prop :=
  match Tm.first bs with
  | some t => ∃ ts r, ts.length = k ∧ Tm.wfs ts ∧ L.drop p = Tm.texts ts ++ r ∧ p + (Tm.texts ts).length = i + (Tm.text t).length
  | none => ¬ ∃ ts r, ts.length = k ∧ Tm.wfs ts ∧ L.drop p = Tm.texts ts ++ r

theorem eInv_start (L : List UInt8) (i : Nat) : EInv L (L.drop i) i i 1 := by
  unfold EInv
  rcases hf : Tm.first (L.drop i) with _ | t
  · rintro ⟨ts, r, hl, hw, e⟩
    match ts, hl with
    | [u], _ => exact Tm.first_none hf u r (hw u (by simp)) (by rw [e]; simp [Tm.texts])
  · obtain ⟨ht, r, e⟩ := Tm.first_some.1 hf
    exact ⟨[t], r, rfl, by simp [Tm.wfs, ht], by rw [e]; simp [Tm.texts], by simp [Tm.texts]⟩
theorem eInv_end {L bs : List UInt8} {i p : Nat} (h : EInv L bs i p 0) : endI bs i = (p : Int) := by
  unfold EInv at h
  unfold endI
  rcases hf : Tm.first bs with _ | t
  · rw [hf] at h
    exact absurd ⟨[], L.drop p, rfl, Tm.wfs_nil, rfl⟩ h
  · rw [hf] at h
    obtain ⟨ts, r, hl, hw, e, hp⟩ := h
    obtain rfl : ts = [] := List.eq_nil_of_length_eq_zero hl
    simp [Tm.texts] at hp
    show ((i + (Tm.text t).length : Nat) : Int) = p
    rw [← hp]
theorem eInv_stop {L bs : List UInt8} {i p k : Nat} (h : EInv L bs i p (k + 1)) (h0 : Tm.own (L.drop p) = 0) : endI bs i = -1 := by
  unfold EInv at h
  unfold endI
  rcases hf : Tm.first bs with _ | t
  · rfl
  · rw [hf] at h
    obtain ⟨ts, r, hl, hw, e, hp⟩ := h
    have := Tm.has_own ⟨ts, r, hl, hw, e⟩
    omega
theorem eInv_step {L bs : List UInt8} {i p k : Nat} (h : EInv L bs i p (k + 1)) (h0 : Tm.own (L.drop p) ≠ 0) : EInv L bs i (p + Tm.own (L.drop p)) (Tm.ar (L.drop p) + k) := by
  unfold EInv at h ⊢
  rcases hf : Tm.first bs with _ | t
  · rw [hf] at h
    simp only at h ⊢
    rw [← List.drop_drop]
    intro hh
    exact h ((Tm.has_step (by omega)).2 hh)
  · rw [hf] at h
    obtain ⟨ts, r, hl, hw, e, hp⟩ := h
    match ts, hl with
    | u :: l, hl =>
      obtain ⟨w1, w2⟩ := Tm.wfs_cons.1 hw
      have e2 : L.drop p = Tm.text u ++ (Tm.texts l ++ r) := by rw [e, Tm.texts_cons, List.append_assoc]
      obtain ⟨s1, s2, s3, s4⟩ := Tm.wf_step w1 (Tm.texts l ++ r)
      rw [← e2] at s1 s2
      refine ⟨Tm.kids u ++ l, r, by simp at hl; rw [List.length_append, s2, hl], Tm.wfs_append.2 ⟨s4, w2⟩, ?_, ?_⟩
      · have hd := Tm.drop_step w1 l r
        rw [← e] at hd
        rw [← List.drop_drop]; exact hd
      · rw [s1, Tm.texts_append, List.length_append]
        rw [Tm.texts_cons, Tm.text_eq, List.length_append, List.length_append] at hp
        omega

set_option maxHeartbeats 2000000 in
theorem end_any (s : ByteArray) (i : Nat) (w : World) (hi : i ≤ s.size) (hs : s.size ≤ 2100) :
    Calls Try.prog 40 #[.string s, .int .i64 (i : Nat)] w fun e w' => e = .returned (.int .i64 (endI (s.data.toList.drop i) i)) ∧ w' = w := by
  have S0 : Aside (EInv s.data.toList (s.data.toList.drop i) i i 1) := eInv_start _ _
  have G : Aside (∀ p k, EInv s.data.toList (s.data.toList.drop i) i p k → (k = 0 → endI (s.data.toList.drop i) i = p) ∧ (0 < k → Tm.own (s.data.toList.drop p) = 0 → endI (s.data.toList.drop i) i = -1) ∧
      (0 < k → Tm.own (s.data.toList.drop p) ≠ 0 → EInv s.data.toList (s.data.toList.drop i) i (p + Tm.own (s.data.toList.drop p)) (Tm.ar (s.data.toList.drop p) + (k - 1)))) := by
    intro p k h
    refine ⟨fun e => by subst e; exact eInv_end h, fun hk h0 => ?_, fun hk h0 => ?_⟩
    · obtain ⟨k, rfl⟩ : ∃ j, k = j + 1 := ⟨k - 1, by omega⟩
      exact eInv_stop h h0
    · obtain ⟨k, rfl⟩ : ∃ j, k = j + 1 := ⟨k - 1, by omega⟩
      exact eInv_step h h0
  generalize endI (s.data.toList.drop i) i = E at G ⊢
  generalize hE : EInv s.data.toList (s.data.toList.drop i) i = inv at S0 G
  clear hE
  go_enter Try.func40, Try.ntmps40
  go_wp2_with fail
  go_loopw [1, 5] (fun at' td wr => ∃ (p k : Nat), p ≤ s.size ∧ k ≤ p + 1 ∧ at' = .int .i64 p ∧ td = .int .i64 k ∧ inv p k ∧ wr = w) (fun at' _ _ => s.size - (intOf at').toNat)
  case atStart => exact ⟨i, 1, hi, by omega, rfl, rfl, S0.out, rfl⟩
  case round =>
    obtain ⟨p, k, hp, hk, rfl, rfl, hinv, hw⟩ := hrel
    subst hw
    obtain ⟨g1, g2, g3⟩ := G.out p k hinv
    clear S0 G
    by_cases h0 : k = 0
    · subst h0
      have e1 := g1 rfl
      subst e1
      clear g1 g2 g3
      go_wp2
      go_ret
      exact ⟨rfl, rfl⟩
    · have tk : (0 : Int) < (k : Int) := by omega
      have hO := own_any s p (s.data.toList.drop p) wr hp hs rfl
      by_cases hn : Tm.own (s.data.toList.drop p) = 0
      · rw [hn] at hO
        have e1 := g2 (by omega) hn
        subst e1
        clear g1 g2 g3 hn
        go_wp2_with fail
        refine hO.mono ?_
        rintro e w1 ⟨rfl, hw⟩
        replace hw := hw.symm; subst hw
        go_wp2
        go_ret
        exact ⟨rfl, rfl⟩
      · have g4 := g3 (by omega) hn
        rcases hd : s.data.toList.drop p with _ | ⟨c, r⟩
        · rw [hd] at hn; exact absurd rfl hn
        · have hlen := drop_len hd hp
          have hol := Tm.own_le (s.data.toList.drop p)
          have X := fun W => idx hd W
          have hN := fun W => need_any c W
          rw [hd] at hO hn g4 hol
          rw [need_own hn] at hN
          have ha := Tm.ar1_le c
          rw [show Tm.ar (c :: r) = Tm.ar1 c from rfl] at g4
          have V : Aside (inv (p + Tm.own (c :: r)) (Tm.ar1 c + (k - 1))) := g4
          have t1 : (((Tm.own (c :: r) : Nat) : Int) == 0) = false := by
            have : ¬ ((Tm.own (c :: r) : Nat) : Int) = 0 := by omega
            simpa using this
          generalize Tm.own (c :: r) = n at *
          generalize Tm.ar1 c = a at *
          generalize (c :: r).length = m at *
          generalize c.toNat = cc at *
          have P : Aside (∀ W, _) := hN
          clear g1 g2 g3 g4 hd hN
          go_wp2_with fail
          refine hO.mono ?_
          rintro e w1 ⟨rfl, hw⟩
          replace hw := hw.symm; subst hw
          go_wp2_with fail
          refine (P.out wr).mono ?_
          rintro e w1 ⟨rfl, hw⟩
          replace hw := hw.symm; subst hw
          go_wp2
          go_roundw
          case rel => exact ⟨p + n, a + (k - 1), by omega, by omega, by go_num, by congr 1; omega, V.out, by first | rfl | trivial⟩
          case measure => simp [intOf]; omega

end Go.Proofs.Ytimeggbjmcnnoaa
