/- What term gives: it goes behind the term at the front and tells how deep it is, or gives up. -/
import Derived.Test.YtimeggbjmcnnoaaRdB
namespace Go.Proofs.Ytimeggbjmcnnoaa
open Go.RowKit

namespace Tm
/-- The deepest of some. -/
def maxd : List T → Nat
  | [] => 0
  | t :: l => max (depth t) (maxd l)
theorem maxd_snoc (l : List T) (t : T) : maxd (l ++ [t]) = max (maxd l) (depth t) := by
  induction l with
  | nil => simp [maxd]
  | cons x l ih => simp only [List.cons_append, maxd, ih]; omega
theorem maxd_eq (l : List T) : maxd l = maxl (l.map depth) := by
  induction l with
  | nil => rfl
  | cons x l ih => simp only [maxd, List.map_cons, maxl, ih]
theorem depth_kids (t : T) : depth t = maxd (kids t) + 1 := by
  obtain ⟨h, n, kid⟩ := t
  rw [maxd_eq]
  simp [depth, kids, List.map_ofFn]
  rfl
theorem maxd_of : ∀ l : List T, (∀ u ∈ l, depth u ≤ (text u).length) → maxd l ≤ (texts l).length
  | [], _ => by simp [maxd]
  | t :: l, hw => by
    have h1 := hw t (by simp)
    have h2 := maxd_of l (fun u hu => hw u (by simp [hu]))
    rw [texts_cons, List.length_append]; simp [maxd]; omega
theorem depth_le : ∀ t : T, wf t → depth t ≤ (text t).length
  | ⟨h, n, kid⟩, hw => by
    have h0 := (wf_iff _).1 hw
    have hk : ∀ u ∈ kids ⟨h, n, kid⟩, depth u ≤ (text u).length := by
      intro u hu
      obtain ⟨i, hi⟩ := List.mem_ofFn.1 hu
      rw [← hi]
      exact depth_le (kid i) (hw.2.2.2 i)
    have := maxd_of _ hk
    rw [depth_kids, text_eq, List.length_append]
    omega
theorem maxd_le (l : List T) (hw : wfs l) : maxd l ≤ (texts l).length := maxd_of l (fun u hu => depth_le u (hw u hu))

/-- All parts were read: the term is there. -/
theorem first_all {bs rest : List UInt8} {ks : List T} (h0 : own bs ≠ 0) (hw : wfs ks) (hl : ks.length = ar bs) (e : bs.drop (own bs) = texts ks ++ rest) :
    ∃ t, first bs = some t ∧ depth t = maxd ks + 1 ∧ (text t).length = own bs + (texts ks).length := by
  obtain ⟨t, ht, hh, hk⟩ := build (by omega) hw hl
  have ht2 : text t = bs.take (own bs) ++ texts ks := by rw [text_eq, hh, hk]
  refine ⟨t, first_some.2 ⟨ht, rest, ?_⟩, by rw [depth_kids, hk], ?_⟩
  · rw [ht2, List.append_assoc, ← e, List.take_append_drop]
  · rw [ht2, List.length_append, List.length_take, Nat.min_eq_left (own_le bs)]

/-- A part is missing: no term is there. -/
theorem first_lacks {bs rest : List UInt8} {ks : List T} (hw : wfs ks) (hl : ks.length < ar bs) (e : bs.drop (own bs) = texts ks ++ rest) (hn : first rest = none) : first bs = none := by
  rcases hf : first bs with _ | t
  · rfl
  · exfalso
    obtain ⟨ht, r, er⟩ := first_some.1 hf
    obtain ⟨s1, s2, s3, s4⟩ := wf_step ht r
    rw [← er] at s1 s2
    have ed : bs.drop (own bs) = texts (kids t) ++ r := by
      rw [s1, er, text_eq, List.append_assoc]; simp
    rw [e] at ed
    have ek : kids t = (kids t).take ks.length ++ (kids t).drop ks.length := (List.take_append_drop _ _).symm
    rw [ek, texts_append, List.append_assoc] at ed
    rw [ek] at s4
    obtain ⟨w1, w2⟩ := wfs_append.1 s4
    obtain ⟨-, e2⟩ := uniq hw w1 (by rw [List.length_take]; omega) ed
    rcases hd : (kids t).drop ks.length with _ | ⟨u, l⟩
    · have := List.drop_eq_nil_iff.1 hd; omega
    · rw [hd] at e2 w2
      exact first_none hn u (texts l ++ r) (wfs_cons.1 w2).1 (by rw [e2, texts_cons, List.append_assoc])

theorem first_no_own {bs : List UInt8} (h : own bs = 0) : first bs = none := by
  rcases hf : first bs with _ | t
  · rfl
  · obtain ⟨ht, r, er⟩ := first_some.1 hf
    have := (wf_step ht r).1
    have := (wf_step ht r).2.2.1
    rw [← er] at *
    omega
theorem ar_head (bs : List UInt8) : ar1 (bs.headD 0) = ar bs := by cases bs <;> rfl
end Tm

/-- What term is to give. -/
def TermPost (bs : List UInt8) (pb : Nat) (s : ByteArray) (i : Nat) (w : World) (e : Ending) (w' : World) : Prop :=
  (match Tm.first bs with
   | some t => e = .returned (.int .i64 (Tm.depth t : Nat)) ∧ Rd w' pb s (i + (Tm.text t).length)
   | none => e = .panicked (gave 4)) ∧ w.grownBy w' (some pb)

set_option maxHeartbeats 4000000 in
theorem term_all : ∀ (m : Nat) (pb i : Nat) (s : ByteArray) (bs : List UInt8) (w : World), bs.length ≤ m → Rd w pb s i → s.data.toList.drop i = bs →
    Calls Try.prog 53 #[.pointer (some ⟨pb, 0, none⟩)] w (TermPost bs pb s i w) := by
  intro m
  induction m with
  | zero =>
    intro pb i s bs w hm h hb
    obtain rfl : bs = [] := List.eq_nil_of_length_eq_zero (by omega)
    have hH := head_any pb i s [] w h hb
    unfold HeadPost at hH
    simp only [if_pos (show Tm.own [] = 0 from rfl)] at hH
    have G : Aside (∀ w', w.grownBy w' (some pb) → TermPost [] pb s i w (.panicked (gave 4)) w') := fun w' hg => ⟨rfl, hg⟩
    generalize TermPost [] pb s i w = Q at G ⊢
    clear h hb hm
    go_enter Try.func53, Try.ntmps53
    go_wp2_with fail
    refine hH.mono ?_
    rintro e w1 ⟨rfl, hg⟩
    have Q1 := G.out _ hg
    clear G hg hH
    go_wp2
    exact ⟨rfl, Q1⟩
  | succ m ih =>
    intro pb i s bs w hm h hb
    have hH := head_any pb i s bs w h hb
    unfold HeadPost at hH
    by_cases h0 : Tm.own bs = 0
    · simp only [if_pos h0] at hH
      have G : Aside (∀ w', w.grownBy w' (some pb) → TermPost bs pb s i w (.panicked (gave 4)) w') := fun w' hg => ⟨by rw [Tm.first_no_own h0], hg⟩
      generalize TermPost bs pb s i w = Q at G ⊢
      clear h hb hm ih
      go_enter Try.func53, Try.ntmps53
      go_wp2_with fail
      refine hH.mono ?_
      rintro e w1 ⟨rfl, hg⟩
      have Q1 := G.out _ hg
      clear G hg hH
      go_wp2
      exact ⟨rfl, Q1⟩
    · simp only [if_neg h0] at hH
      have hP := fun w1 => partsOf_any (bs.headD 0) w1
      rw [Tm.ar_head] at hP
      have ha2 := Tm.ar_le bs
      have hlen := drop_len hb h.2.2.2.1
      have h5 := h.2.2.2.2
      have hol := Tm.own_le bs
      have G1 : Aside (∀ w' ks p, Tm.wfs ks → ks.length < Tm.ar bs → bs.drop (Tm.own bs) = Tm.texts ks ++ s.data.toList.drop p → Tm.first (s.data.toList.drop p) = none → w.grownBy w' (some pb) → TermPost bs pb s i w (.panicked (gave 4)) w') := by
        intro w' ks p hw hl e hn hg
        exact ⟨by rw [Tm.first_lacks hw hl e hn], hg⟩
      have G2 : Aside (∀ w' ks p, Tm.wfs ks → ks.length = Tm.ar bs → bs.drop (Tm.own bs) = Tm.texts ks ++ s.data.toList.drop p → p = i + Tm.own bs + (Tm.texts ks).length → Rd w' pb s p → w.grownBy w' (some pb) → TermPost bs pb s i w (.returned (.int .i64 ((Tm.maxd ks + 1 : Nat) : Int))) w') := by
        intro w' ks p hw hl e hp hr hg
        obtain ⟨t, h1, h2, h3⟩ := Tm.first_all h0 hw hl e
        refine ⟨?_, hg⟩
        rw [h1]
        exact ⟨by rw [h2], by rw [h3, ← Nat.add_assoc, ← hp]; exact hr⟩
      have IH : Aside (∀ p w', i + Tm.own bs ≤ p → Rd w' pb s p → Calls Try.prog 53 #[.pointer (some ⟨pb, 0, none⟩)] w' (TermPost (s.data.toList.drop p) pb s p w')) := by
        intro p w' hp hr
        refine ih pb p s _ w' ?_ hr rfl
        have := drop_len (rfl : s.data.toList.drop p = _) hr.2.2.2.1
        omega
      have D0 : Aside (bs.drop (Tm.own bs) = s.data.toList.drop (i + Tm.own bs)) := by show _ = _; rw [← hb, List.drop_drop]
      generalize TermPost bs pb s i w = Q at G1 G2 ⊢
      have H0 : Aside (Tm.own bs ≤ bs.length ∧ i + bs.length = s.size ∧ s.size ≤ 2000) := ⟨hol, hlen, h5⟩
      clear h hb hm ih h0 hlen h5 hol
      generalize Tm.ar bs = a at *
      generalize Tm.own bs = o at *
      generalize (bs.headD 0).toNat = kk at *
      have P : Aside (∀ w1, _) := hP
      clear hP
      go_enter Try.func53, Try.ntmps53
      go_wp2_with fail
      refine hH.mono ?_
      rintro e w1 ⟨⟨rfl, hr⟩, hg⟩
      have R : Aside (Rd w1 pb s (i + o) ∧ w.grownBy w1 (some pb)) := ⟨hr, hg⟩
      clear hr hg hH
      go_wp2_with fail
      refine (P.out w1).mono ?_
      rintro e w2 ⟨rfl, hw⟩
      replace hw := hw.symm; subst hw
      go_wp2_with fail
      go_loopw [3, 7] (fun d j wr => ∃ (n : Nat) (ks : List Tm.T) (p : Nat), n ≤ a ∧ j = .int .i64 n ∧ ks.length = n ∧ Tm.wfs ks ∧ d = .int .i64 (Tm.maxd ks : Nat) ∧ Rd wr pb s p ∧ p = i + o + (Tm.texts ks).length ∧ bs.drop o = Tm.texts ks ++ s.data.toList.drop p ∧ w.grownBy wr (some pb)) (fun _ j _ => a - (intOf j).toNat)
      case atStart => exact ⟨0, [], i + o, Nat.zero_le _, rfl, rfl, Tm.wfs_nil, rfl, R.out.1, rfl, by rw [D0.out]; rfl, R.out.2⟩
      case round =>
        obtain ⟨n, ks, p, hn, rfl, hks, hwf, rfl, hr, hp, he, hg⟩ := hrel
        have hmd := Tm.maxd_le ks hwf
        have S : Aside (ks.length = n ∧ Tm.wfs ks ∧ Rd wr pb s p ∧ p = i + o + (Tm.texts ks).length ∧ bs.drop o = Tm.texts ks ++ s.data.toList.drop p ∧ w.grownBy wr (some pb)) := ⟨hks, hwf, hr, hp, he, hg⟩
        have hps := hr.2.2.2.1
        have h5 := H0.out.2.2
        have hmd2 : Tm.maxd ks ≤ 2000 := by omega
        clear R hks hwf hr hp he hg hmd
        by_cases hlt : n < a
        · have hT := IH.out p wr (by have := S.out.2.2.2.1; omega) S.out.2.2.1
          unfold TermPost at hT
          rcases hf : Tm.first (s.data.toList.drop p) with _ | t
          · rw [hf] at hT
            have Q1 : Aside (∀ w', wr.grownBy w' (some pb) → Q (.panicked (gave 4)) w') := fun w' hg => G1.out w' ks p S.out.2.1 (by rw [S.out.1]; exact hlt) S.out.2.2.2.2.1 hf (Lib.grownBy_trans S.out.2.2.2.2.2 hg)
            clear IH G1 G2 S hf
            go_wp2_with fail
            refine hT.mono ?_
            rintro e w2 ⟨rfl, hg2⟩
            have Q2 := Q1.out w2 hg2
            clear hT Q1 hg2
            go_wp2
            exact ⟨rfl, Q2⟩
          · rw [hf] at hT
            obtain ⟨ht, r, er⟩ := Tm.first_some.1 hf
            have hd := Tm.depth_le t ht
            have hd2 : Tm.depth t ≤ 2000 := by
              have := drop_len er S.out.2.2.1.2.2.2.1
              rw [List.length_append] at this; omega
            have M : Hid (max (Tm.maxd ks) (Tm.depth t) = Tm.maxd (ks ++ [t])) := (Tm.maxd_snoc ks t).symm
            have F : Aside (∀ w2, wr.grownBy w2 (some pb) → Rd w2 pb s (p + (Tm.text t).length) → (ks ++ [t]).length = n + 1 ∧ Tm.wfs (ks ++ [t]) ∧ p + (Tm.text t).length = i + o + (Tm.texts (ks ++ [t])).length ∧ bs.drop o = Tm.texts (ks ++ [t]) ++ s.data.toList.drop (p + (Tm.text t).length) ∧ w.grownBy w2 (some pb)) := by
              intro w2 hg2 hr2
              obtain ⟨a1, a2, a3, a4, a5, a6⟩ := S.out
              refine ⟨by simp [a1], Tm.wfs_append.2 ⟨a2, by simp [Tm.wfs, ht]⟩, ?_, ?_, Lib.grownBy_trans a6 hg2⟩
              · rw [Tm.texts_append, List.length_append, a4]; simp [Tm.texts]; omega
              · rw [a5, Tm.texts_append, List.append_assoc, ← List.drop_drop, er]; simp [Tm.texts]
            clear IH G1 G2 S hf er
            go_wp2_with fail
            refine hT.mono ?_
            rintro e w2 ⟨⟨rfl, hr2⟩, hg2⟩
            have F2 : Aside (_ ∧ _) := F.out w2 hg2 hr2
            have R2 : Aside (Rd w2 pb s (p + (Tm.text t).length)) := hr2
            clear hT F hg2 hr2
            go_wp2
            go_roundw
            case rel => exact ⟨n + 1, ks ++ [t], p + (Tm.text t).length, by omega, by go_num, F2.out.1, F2.out.2.1, by rw [← M.out]; congr 1; split <;> omega, R2.out, F2.out.2.2.1, F2.out.2.2.2.1, F2.out.2.2.2.2⟩
            case measure => simp [intOf]; omega
        · obtain rfl : n = a := by omega
          obtain ⟨a1, a2, a3, a4, a5, a6⟩ := S.out
          have Q1 := G2.out wr ks p a2 a1 a5 a4 a3 a6
          rw [show ((Tm.maxd ks + 1 : Nat) : Int) = (Tm.maxd ks : Int) + 1 by omega] at Q1
          clear a1 a2 a3 a4 a5 a6 S G1 G2 IH
          go_wp2
          exact Q1

theorem term_any (pb i : Nat) (s : ByteArray) (bs : List UInt8) (w : World) (h : Rd w pb s i) (hb : s.data.toList.drop i = bs) :
    Calls Try.prog 53 #[.pointer (some ⟨pb, 0, none⟩)] w (TermPost bs pb s i w) := term_all bs.length pb i s bs w (Nat.le_refl _) h hb

end Go.Proofs.Ytimeggbjmcnnoaa
