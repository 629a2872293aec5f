/- What Subs gives: all terms that a term is made of, itself first, or the error. -/
import Derived.Test.YtdpnffnogckfjaaParts
namespace Go.Proofs.Ytdpnffnogckfjaa
open Go.RowKit

/-- What Subs is to give. -/
def SubsPost (bs : List UInt8) (w : World) (e : Ending) (w' : World) : Prop :=
  ∃ v, e = .returned (.tuple #[v, .int .i64 (Tm.chk bs : Nat)]) ∧ w'.ownsRow w.heap.size 23 1 v (Tm.subsOf bs).length (strs (Tm.subsOf bs)) ∧ Below w.heap.size w w'

theorem subsPost_err {bs : List UInt8} {w w' : World} (h : Tm.chk bs ≠ 0) (hb : Below w.heap.size w w') : SubsPost bs w (.returned (.tuple #[.slice none 0 0, .int .i64 (Tm.chk bs : Nat)])) w' := by
  refine ⟨.slice none 0 0, rfl, ?_, hb⟩
  rw [show Tm.subsOf bs = [] by unfold Tm.subsOf; rw [if_neg h]]; exact World.ownsRow_nil _ _ _ _

namespace Tm
/-- What is in a term, found from left to right: done, and the terms that still wait. -/
def SInv (L : List UInt8) (all done : List (List UInt8)) (p : Nat) (ts : List T) : Prop :=
  wfs ts ∧ L.drop p = texts ts ∧ done ++ (subsAll ts).map text = all ∧ done.length ≤ p ∧ p ≤ L.length
theorem sInv_step {L : List UInt8} {all done : List (List UInt8)} {p : Nat} {t : T} {l : List T} (h : SInv L all done p (t :: l)) :
    wf t ∧ L.drop p = text t ++ texts l ∧ 0 < own (L.drop p) ∧ p + own (L.drop p) ≤ L.length ∧ SInv L all (done ++ [text t]) (p + own (L.drop p)) (kids t ++ l) := by
  obtain ⟨hw, he, hd, hp, hp2⟩ := h
  obtain ⟨w1, w2⟩ := wfs_cons.1 hw
  have e2 : L.drop p = text t ++ texts l := by rw [he, texts_cons]
  obtain ⟨s1, s2, s3, s4⟩ := wf_step w1 (texts l)
  rw [← e2] at s1 s2
  have hds := drop_step w1 l []
  rw [List.append_nil, ← he, List.append_nil] at hds
  have ho := own_le (L.drop p)
  rw [List.length_drop] at ho
  refine ⟨w1, e2, by omega, by omega, wfs_append.2 ⟨s4, w2⟩, by rw [← List.drop_drop]; exact hds, ?_, by simp; omega, by omega⟩
  rw [← hd, subsAll_cons, subs_eq, subsAll_append]
  simp
theorem sInv_end {L : List UInt8} {all done : List (List UInt8)} {p : Nat} {ts : List T} (h : SInv L all done p ts) (hp : L.length ≤ p) : done = all := by
  obtain ⟨hw, he, hd, _, _⟩ := h
  rw [List.drop_of_length_le hp] at he
  cases ts with
  | nil => rw [← hd]; simp [subsAll]
  | cons t l =>
    have := text_pos (wfs_cons.1 hw).1
    have := congrArg List.length he
    rw [texts_cons, List.length_append] at this
    simp at this; omega
theorem sInv_more {L : List UInt8} {all done : List (List UInt8)} {p : Nat} {ts : List T} (h : SInv L all done p ts) (hp : p < L.length) : ∃ t l, ts = t :: l := by
  cases ts with
  | nil =>
    have := h.2.1
    have := congrArg List.length this
    rw [List.length_drop] at this
    simp [texts] at this; omega
  | cons t l => exact ⟨t, l, rfl⟩
theorem subs_at {bs : List UInt8} (h : chk bs = 0) : ∃ t, SInv bs (subsOf bs) [] 0 [t] ∧ bs.length ≤ 2000 := by
  obtain ⟨hl, t, ht, hw, hx, _⟩ := chk_zero h
  refine ⟨t, ⟨by simp [wfs, hw], by rw [List.drop_zero, ← hx]; simp [texts], ?_, Nat.zero_le _, Nat.zero_le _⟩, hl⟩
  unfold subsOf
  rw [if_pos h, ht]
  simp [subsAll]
end Tm

set_option maxHeartbeats 4000000 in
theorem subs_any (s : ByteArray) (w : World) : Calls Try.prog 49 #[.string s] w (SubsPost s.data.toList w) := by
  have hC := check_any s w
  by_cases h0 : Tm.chk s.data.toList = 0
  · obtain ⟨t, hinv, hlen⟩ := Tm.subs_at h0
    have hs : s.size ≤ 2000 := by rw [← len_bytes]; exact hlen
    have G : Aside (∀ v w' done, done = Tm.subsOf s.data.toList → w'.ownsRow w.heap.size 23 1 v done.length (strs done) → Below w.heap.size w w' → SubsPost s.data.toList w (.returned (.tuple #[v, .int .i64 0])) w') := by
      intro v w' done hd ho hb
      subst hd
      exact ⟨v, by rw [h0]; rfl, ho, hb⟩
    generalize SubsPost s.data.toList w = Q at G ⊢
    rw [h0] at hC
    generalize Tm.subsOf s.data.toList = all at *
    have V0 : Aside (Tm.SInv s.data.toList all [] 0 [t]) := hinv
    obtain ⟨i0, hi, hz0, hz1, hz2⟩ := info_parts info22
    have I : Aside (Try.prog.info? 23 = some i0 ∧ i0.zero = some (.string ⟨#[]⟩) ∧ i0.size = 1 ∧ i0.bytes = 16) := ⟨hi, hz0, hz1, hz2⟩
    clear hi hz0 hz1 hz2 hinv h0 hlen
    go_enter Try.func49, Try.ntmps49
    go_wp2_with fail
    refine hC.mono ?_
    rintro e w1 ⟨rfl, hb1⟩
    have R1 : Aside (Rd (w1.alloc (.cells #[.string s, .int .i64 0] 86)) w1.heap.size s 0 ∧ Below w.heap.size w (w1.alloc (.cells #[.string s, .int .i64 0] 86))) := ⟨rd_new w1 s hs, hb1.alloc hb1.size _⟩
    have hs1 := hb1.size
    clear hC hb1
    go_wp2_with fail
    generalize w1.alloc (.cells #[.string s, .int .i64 0] 86) = W1 at R1 ⊢
    generalize w1.heap.size = pb at *
    go_loopw [5] (fun v wr => ∃ (p : Nat) (done : List (List UInt8)) (ts : List Tm.T), p ≤ s.size ∧ Rd wr pb s p ∧ Tm.SInv s.data.toList all done p ts ∧ wr.ownsRow (pb + 1) 23 1 v done.length (strs done) ∧ Below w.heap.size w wr) (fun _ wr => s.size - (intOf ((wr.cell? ⟨pb, 1, none⟩).getD undef)).toNat)
    case atStart => exact ⟨0, [], [t], Nat.zero_le _, R1.out.1, V0.out, World.ownsRow_nil _ _ _ _, R1.out.2⟩
    case round =>
      obtain ⟨p, done, ts, hp, hr, hinv, hown, hb⟩ := hrel
      have S : Aside (Rd wr pb s p ∧ Tm.SInv s.data.toList all done p ts ∧ wr.ownsRow (pb + 1) 23 1 u5 done.length (strs done) ∧ Below w.heap.size w wr) := ⟨hr, hinv, hown, hb⟩
      obtain ⟨r1, r2, r3, r4, r5⟩ := hr
      clear hinv hown hb R1 V0
      by_cases hlt : p < s.size
      · obtain ⟨u, l, rfl⟩ := Tm.sInv_more S.out.2.1 (by rw [len_bytes]; exact hlt)
        obtain ⟨hwu, hd, ho, hpo, hnx⟩ := Tm.sInv_step S.out.2.1
        rw [len_bytes] at hpo
        have hdl : done.length ≤ p := S.out.2.1.2.2.2.1
        have hRd : Rd (wr.alloc (.cells #[.string s, .int .i64 (p : Int)] 86)) wr.heap.size s p := by
          refine ⟨?_, ?_, ?_, r4, r5⟩ <;> simp [go_sem]
        have hT := term_any wr.heap.size p s _ _ hRd hd
        unfold TermPost at hT
        rw [Tm.first_some.2 ⟨hwu, _, rfl⟩] at hT
        simp only at hT
        have hH : Aside (∀ W, Rd W pb s p → _) := fun W h => head_any pb p s _ W h rfl
        unfold HeadPost at hH
        simp only [if_neg (show ¬ Tm.own (s.data.toList.drop p) = 0 by omega)] at hH
        have hcut := cut_bytes hd rfl
        have hlen2 := drop_len hd hp
        rw [List.length_append] at hlen2
        have F : Aside (strs done ++ [.string (s.extract p (p + (Tm.text u).length))] = strs (done ++ [Tm.text u])) := by
          show _ = _
          rw [strs_append, str_eq hcut]; rfl
        have V : Aside (Tm.SInv s.data.toList all (done ++ [Tm.text u]) (p + Tm.own (s.data.toList.drop p)) (Tm.kids u ++ l)) := hnx
        have K : Aside (Rd wr pb s p ∧ Below w.heap.size w wr) := ⟨S.out.1, S.out.2.2.2⟩
        have O1 : Aside (wr.ownsRow (pb + 1) 23 1 u5 done.length (strs done)) := S.out.2.2.1
        have hlo : ∀ g, u5.ownBlock = some g → pb + 1 ≤ g ∧ g < wr.heap.size := fun g hb => O1.out.lt g hb
        have hpw : pb < wr.heap.size := rd_lt S.out.1
        have EL : Hid (done.length + 1 = (done ++ [Tm.text u]).length) := by show _ = _; simp
        clear hcut hd hwu hnx S hRd
        obtain ⟨ys, hys⟩ : ∃ ys, ys = strs (done ++ [Tm.text u]) := ⟨_, rfl⟩
        rw [← hys] at F
        have EY : Hid (ys = strs (done ++ [Tm.text u])) := hys
        clear hys
        generalize strs done = xs at O1 F
        generalize Tm.own (s.data.toList.drop p) = o at *
        generalize (Tm.text u).length = tl at *
        generalize done.length = dn at *
        generalize ((s.data.toList.drop p).headD 0).toNat = kk at *
        have tp : (p : Int) < (s.size : Int) := by omega
        go_wp2_with fail
        refine hT.mono ?_
        rintro e w2 ⟨⟨rfl, hr2⟩, hg2⟩
        have hg0 : wr.grownBy w2 (some wr.heap.size) := Lib.grownBy_trans (World.grownBy_alloc _ _ _) hg2
        have hO2 : w2.ownsRow (pb + 1) 23 1 u5 dn xs := O1.out.kept hg0 (by
          rcases hb : u5.ownBlock with _ | g
          · exact .inl rfl
          · right; intro e; have := (hlo g hb).2; simp at e; omega)
        have K2 : Aside (Rd w2 pb s p ∧ Below w.heap.size w w2) := ⟨rd_grown K.out.1 hg0 (fun k hk => by simp at hk; omega), K.out.2.grown hg0 (by omega) (fun k hk => by simp at hk; omega)⟩
        have hs2 : pb + 1 ≤ w2.heap.size := by have := hg0.size; omega
        obtain ⟨q1, q2, q3, q4, q5⟩ := hr2
        have a2 := K2.out.1.2.1
        clear hT hg2 hg0 O1 K
        go_wp2_with (at_builtin; refine wpList_append_own _ rfl _ _ 22 rfl (pb + 1) 23 i0 (.string ⟨#[]⟩) 1 16 Try.underlying22 I.out.1 I.out.2.1 I.out.2.2.1 I.out.2.2.2 rfl (by decide) _ _ _ rfl (hO2.alloc _) ⟨w2.heap.size, 0, none⟩ 1 1 [.string (s.extract p (p + tl))] rfl rfl ?c1 ?c2 ?c3 ?c4 ?c5 ?_)
        case c1 => exact cell_new1 _ _ _
        case c2 => intro u hu; simp at hu; subst hu; rfl
        case c3 => unfold maxLen; omega
        case c4 => omega
        case c5 => simp; omega
        intro v3 w3 hown3 hgrow3 _
        rw [F.out] at hown3
        have K3 : Aside (Rd w3 pb s p ∧ Below w.heap.size w w3) := ⟨rd_grown (rd_alloc K2.out.1 _) hgrow3 (fun k hk => by have := (hlo k hk).1; omega), (K2.out.2.alloc K2.out.2.size _).grown hgrow3 (by have := K2.out.2.size; simp; omega) (fun k hk => by have := (hlo k hk).1; omega)⟩
        have hs3 : pb + 1 ≤ w3.heap.size := by have := hgrow3.size; simp at this; omega
        have hH3 := hH.out w3 K3.out.1
        clear hgrow3 hO2 K2 hH q1 q2 q3 a2
        go_wp2_with fail
        refine hH3.mono ?_
        rintro e w4 ⟨⟨rfl, hr4⟩, hg4⟩
        have hO4 : w4.ownsRow (pb + 1) 23 1 v3 (dn + 1) ys := hown3.kept hg4 (by
          rcases hb : v3.ownBlock with _ | g
          · exact .inl rfl
          · right; intro e; have := (hown3.lt g hb).1; simp at e; omega)
        have K4 : Aside (Rd w4 pb s (p + o) ∧ Below w.heap.size w w4 ∧ w4.ownsRow (pb + 1) 23 1 v3 (dn + 1) ys) := ⟨hr4, K3.out.2.grown hg4 (by omega) (fun k hk => by simp at hk; omega), hO4⟩
        clear hH3 hr4 hg4 hO4 hown3 K3
        go_wp2
        go_roundw
        case rel => exact ⟨p + o, done ++ [Tm.text u], Tm.kids u ++ l, by omega, K4.out.1, V.out, by rw [← EY.out, ← EL.out]; exact K4.out.2.2, K4.out.2.1⟩
        case measure =>
          have e1 := K4.out.1.2.1
          rw [e1, r2]
          simp [intOf]; omega
      · obtain rfl : p = s.size := by omega
        have Q1 := G.out u5 wr done (Tm.sInv_end S.out.2.1 (by rw [len_bytes]; exact Nat.le_refl _)) (owns_mono S.out.2.2.1 (by omega)) S.out.2.2.2
        clear S G
        go_wp2
        exact Q1
  · have Q1 : Aside (∀ w', Below w.heap.size w w' → SubsPost s.data.toList w (.returned (.tuple #[.slice none 0 0, .int .i64 (Tm.chk s.data.toList : Nat)])) w') := fun w' hb => subsPost_err h0 hb
    generalize SubsPost s.data.toList w = Q at Q1 ⊢
    have t1 : (((Tm.chk s.data.toList : Nat) : Int) != 0) = true := by
      have : ¬ ((Tm.chk s.data.toList : Nat) : Int) = 0 := by omega
      simpa using this
    generalize Tm.chk s.data.toList = c at *
    go_enter Try.func49, Try.ntmps49
    go_wp2_with fail
    refine hC.mono ?_
    rintro e w1 ⟨rfl, hb1⟩
    have Q2 := Q1.out w1 hb1
    clear hC hb1 Q1
    go_wp2
    exact Q2

end Go.Proofs.Ytdpnffnogckfjaa
