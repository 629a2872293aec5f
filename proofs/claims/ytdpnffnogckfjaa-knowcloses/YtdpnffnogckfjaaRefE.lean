/- What the document's own Subs and Make give. -/
import Derived.Test.YtdpnffnogckfjaaSubs
namespace Go.Proofs.Ytdpnffnogckfjaa
open Go.RowKit

set_option maxHeartbeats 4000000 in
theorem rsubs_any (s : ByteArray) (w : World) : Calls Try.prog 24 #[.string s] w (SubsPost s.data.toList w) := by
  have hC := rcheck_any s w
  by_cases h0 : Tm.chk s.data.toList = 0
  · obtain ⟨t, hinv, hlen⟩ := Tm.subs_at h0
    have hs : s.size ≤ 2000 := by rw [← len_bytes]; exact hlen
    have G : Aside (∀ v w' done, done = Tm.subsOf s.data.toList → w'.ownsRow w.heap.size 23 1 v done.length (strs done) → Below w.heap.size w w' → SubsPost s.data.toList w (.returned (.tuple #[v, .int .i64 0])) w') := by
      intro v w' done hd ho hb
      subst hd
      exact ⟨v, by rw [h0]; rfl, ho, hb⟩
    generalize SubsPost s.data.toList w = Q at G ⊢
    rw [h0] at hC
    generalize Tm.subsOf s.data.toList = all at *
    have V0 : Aside (Tm.SInv s.data.toList all [] 0 [t]) := hinv
    obtain ⟨i0, hi, hz0, hz1, hz2⟩ := info_parts info22
    have I : Aside (Try.prog.info? 23 = some i0 ∧ i0.zero = some (.string ⟨#[]⟩) ∧ i0.size = 1 ∧ i0.bytes = 16) := ⟨hi, hz0, hz1, hz2⟩
    clear hi hz0 hz1 hz2 hinv h0 hlen
    go_enter Try.func24, Try.ntmps24
    go_wp2_with fail
    refine hC.mono ?_
    rintro e w1 ⟨rfl, hb1⟩
    have B1 : Aside (Below w.heap.size w w1) := hb1
    clear hC hb1
    go_wp2_with fail
    go_loopw [5, 6] (fun v at' wr => ∃ (p : Nat) (done : List (List UInt8)) (ts : List Tm.T), p ≤ s.size ∧ at' = .int .i64 p ∧ Tm.SInv s.data.toList all done p ts ∧ wr.ownsRow w.heap.size 23 1 v done.length (strs done) ∧ Below w.heap.size w wr) (fun _ at' _ => s.size - (intOf at').toNat)
    case atStart => exact ⟨0, [], [t], Nat.zero_le _, rfl, V0.out, World.ownsRow_nil _ _ _ _, B1.out⟩
    case round =>
      obtain ⟨p, done, ts, hp, rfl, hinv, hown, hb⟩ := hrel
      have S : Aside (Tm.SInv s.data.toList all done p ts ∧ wr.ownsRow w.heap.size 23 1 u5 done.length (strs done) ∧ Below w.heap.size w wr) := ⟨hinv, hown, hb⟩
      clear hinv hown hb B1 V0
      by_cases hlt : p < s.size
      · obtain ⟨u, l, rfl⟩ := Tm.sInv_more S.out.1 (by rw [len_bytes]; exact hlt)
        obtain ⟨hwu, hd, ho, hpo, hnx⟩ := Tm.sInv_step S.out.1
        rw [len_bytes] at hpo
        have hdl : done.length ≤ p := S.out.1.2.2.2.1
        have hE := end_any s p wr hp (by omega)
        have hEv : endI (s.data.toList.drop p) p = ((p + (Tm.text u).length : Nat) : Int) := by
          unfold endI; rw [Tm.first_some.2 ⟨hwu, _, hd⟩]
        rw [hEv] at hE
        have hO : Aside (∀ W, _) := fun W => own_any s p _ W hp (by omega) rfl
        have hcut := cut_bytes hd rfl
        have hlen2 := drop_len hd hp
        rw [List.length_append] at hlen2
        have F : Aside (strs done ++ [.string (s.extract p (p + (Tm.text u).length))] = strs (done ++ [Tm.text u])) := by
          show _ = _
          rw [strs_append, str_eq hcut]; rfl
        have V : Aside (Tm.SInv s.data.toList all (done ++ [Tm.text u]) (p + Tm.own (s.data.toList.drop p)) (Tm.kids u ++ l)) := hnx
        have O1 : Aside (wr.ownsRow w.heap.size 23 1 u5 done.length (strs done) ∧ Below w.heap.size w wr) := S.out.2
        have EL : Hid (done.length + 1 = (done ++ [Tm.text u]).length) := by show _ = _; simp
        clear hcut hd hwu hnx S hEv
        obtain ⟨ys, hys⟩ : ∃ ys, ys = strs (done ++ [Tm.text u]) := ⟨_, rfl⟩
        rw [← hys] at F
        have EY : Hid (ys = strs (done ++ [Tm.text u])) := hys
        clear hys
        generalize strs done = xs at O1 F
        generalize Tm.own (s.data.toList.drop p) = o at *
        generalize (Tm.text u).length = tl at *
        generalize done.length = dn at *
        have tp : (p : Int) < (s.size : Int) := by omega
        have hs2 : w.heap.size ≤ wr.heap.size := O1.out.2.size
        go_wp2_with fail
        refine hE.mono ?_
        rintro e w2 ⟨rfl, hw⟩
        replace hw := hw.symm; subst hw
        go_wp2_with (at_builtin; refine wpList_append_own _ rfl _ _ 22 rfl w.heap.size 23 i0 (.string ⟨#[]⟩) 1 16 Try.underlying22 I.out.1 I.out.2.1 I.out.2.2.1 I.out.2.2.2 rfl (by decide) _ _ _ rfl (O1.out.1.alloc _) ⟨wr.heap.size, 0, none⟩ 1 1 [.string (s.extract p (p + tl))] rfl rfl ?c1 ?c2 ?c3 ?c4 ?c5 ?_)
        case c1 => exact cell_new1 _ _ _
        case c2 => intro u hu; simp at hu; subst hu; rfl
        case c3 => unfold maxLen; omega
        case c4 => omega
        case c5 => simp; omega
        intro v3 w3 hown3 hgrow3 _
        rw [F.out] at hown3
        have hb3 : Below w.heap.size w w3 := grown_below hs2 O1.out.1 O1.out.2 hgrow3
        clear hgrow3 O1 hE
        go_wp2_with fail
        refine (hO.out w3).mono ?_
        rintro e w4 ⟨rfl, hw⟩
        replace hw := hw.symm; subst hw
        go_wp2
        go_roundw
        case rel => exact ⟨p + o, done ++ [Tm.text u], Tm.kids u ++ l, by omega, by go_num, V.out, by rw [← EY.out, ← EL.out]; exact hown3, hb3⟩
        case measure => simp [intOf]; omega
      · obtain rfl : p = s.size := by omega
        have Q1 := G.out u5 wr done (Tm.sInv_end S.out.1 (by rw [len_bytes]; exact Nat.le_refl _)) S.out.2.1 S.out.2.2
        clear S G
        go_wp2
        exact Q1
  · have Q1 : Aside (∀ w', Below w.heap.size w w' → SubsPost s.data.toList w (.returned (.tuple #[.slice none 0 0, .int .i64 (Tm.chk s.data.toList : Nat)])) w') := fun w' hb => subsPost_err h0 hb
    generalize SubsPost s.data.toList w = Q at Q1 ⊢
    have t1 : (((Tm.chk s.data.toList : Nat) : Int) != 0) = true := by
      have : ¬ ((Tm.chk s.data.toList : Nat) : Int) = 0 := by omega
      simpa using this
    generalize Tm.chk s.data.toList = c at *
    go_enter Try.func24, Try.ntmps24
    go_wp2_with fail
    refine hC.mono ?_
    rintro e w1 ⟨rfl, hb1⟩
    have Q2 := Q1.out w1 hb1
    clear hC hb1 Q1
    go_wp2
    exact Q2

theorem need_low {k : UInt8} (h : Tm.ar1 k = 0) : needI k < 1 := by
  unfold needI
  rw [if_pos h]
  split <;> omega
theorem need_high {k : UInt8} (h : Tm.ar1 k ≠ 0) : needI k = Tm.ar1 k := by
  have := need_own (k := k) (r := []) (by rw [Tm.own_kind [] h]; omega)
  exact this

end Go.Proofs.Ytdpnffnogckfjaa
