/- What the document's own Parts gives. -/
import Derived.Test.YtdpnffnogckfjaaParts
namespace Go.Proofs.Ytdpnffnogckfjaa
open Go.RowKit

theorem results13 {tm : Array Value} {w : World} (a b c : Value) (ha : tm[2]? = some a) (hb : tm[3]? = some b) (hc : tm[4]? = some c) : (results Try.f57 tm).run Try.prog w = .ok (.tuple #[a, b, c]) w := by
  simp [results, Try.results57, go_sem, ha, hb, hc]

set_option maxHeartbeats 4000000 in
theorem rparts_any (s : ByteArray) (w : World) : Calls Try.prog 57 #[.string s] w (PartsPost s.data.toList w) := by
  have hC := rcheck_any s w
  by_cases h0 : Tm.chk s.data.toList = 0
  · obtain ⟨t, k, r, ht, hw, hbs, hk, hpt, har, hwk, hlen, hr⟩ := Tm.parts_at h0
    have hs : s.size ≤ 2000 := by rw [← len_bytes]; exact hlen
    have G : Aside (∀ v w', w'.ownsRow w.heap.size 23 1 v (Tm.kids t).length (strs ((Tm.kids t).map Tm.text)) → Below w.heap.size w w' → PartsPost s.data.toList w (.returned (.tuple #[.int .u8 (k.toNat : Int), v, .int .i64 0])) w') := by
      intro v w' ho hb
      refine ⟨v, by rw [hk, h0]; rfl, ?_, hb⟩
      rw [hpt, List.length_map]; exact ho
    generalize PartsPost s.data.toList w = Q at G ⊢
    rw [h0] at hC
    have hbs0 : s.data.toList.drop 0 = k :: r := by rw [List.drop_zero]; exact hbs
    have X := fun W => idx hbs0 W
    obtain ⟨s1, s2, s3, s4⟩ := Tm.wf_step hw []
    have htx := (Tm.tree_some.1 ht).2
    rw [List.append_nil, htx] at s1 s2
    have hO := fun W => own_any s 0 s.data.toList W (Nat.zero_le _) (by omega) (List.drop_zero)
    have hol := Tm.own_le s.data.toList
    rw [len_bytes] at hol
    have hN := fun W => need_any k W
    rw [need_own (r := r) (by rw [← hbs, s1]; omega), har] at hN
    have ha2 : (Tm.kids t).length ≤ 2 := by rw [← har]; exact Tm.ar1_le k
    have R1 : Aside (s.data.toList.drop (Tm.own s.data.toList) = Tm.texts (Tm.kids t)) := by
      show _ = _
      have := Tm.drop_step hw [] []
      rw [show Tm.texts [t] ++ [] = s.data.toList by rw [← htx]; simp [Tm.texts]] at this
      rw [this]; simp
    generalize Tm.own s.data.toList = o at *
    have WK : Aside (Tm.wfs (Tm.kids t)) := hwk
    obtain ⟨i0, hi, hz0, hz1, hz2⟩ := info_parts info22
    have I : Aside (Try.prog.info? 23 = some i0 ∧ i0.zero = some (.string ⟨#[]⟩) ∧ i0.size = 1 ∧ i0.bytes = 16) := ⟨hi, hz0, hz1, hz2⟩
    generalize Tm.kids t = ks at *
    obtain ⟨n, hn⟩ : ∃ n, n = ks.length := ⟨_, rfl⟩
    have HN : Hid (n = ks.length) := hn
    rw [← hn] at hN ha2
    generalize k.toNat = kk at *
    have P1 : Aside (∀ W, _) := hN
    have P2 : Aside (∀ W, _) := hO
    have X0 : ∀ W, (Instr.index 23 (.string s) (.int .i64 0)).run Try.prog W = .ok (.int .u8 (kk : Int)) W := X
    clear hi hz0 hz1 hz2 hN hn hwk hr h0 hbs har hk hpt ht hw hlen hO X hbs0 s1 s2 s3 s4 htx
    go_enter Try.func57, Try.ntmps57
    go_wp2_with fail
    refine hC.mono ?_
    rintro e w1 ⟨rfl, hb1⟩
    have B1 : Aside (Below w.heap.size w w1) := hb1
    clear hC hb1
    go_wp2_with fail
    refine (P2.out w1).mono ?_
    rintro e w2 ⟨rfl, hw⟩
    replace hw := hw.symm; subst hw
    go_wp2_with fail
    go_loopw [6, 7, 8] (fun v at' i wr => ∃ (j p : Nat), j ≤ n ∧ p ≤ s.size ∧ i = .int .i64 j ∧ at' = .int .i64 p ∧ s.data.toList.drop p = Tm.texts (ks.drop j) ∧ wr.ownsRow w.heap.size 23 1 v j (strs ((ks.take j).map Tm.text)) ∧ Below w.heap.size w wr) (fun _ _ i _ => n - (intOf i).toNat)
    case atStart => exact ⟨0, o, Nat.zero_le _, hol, rfl, rfl, R1.out, World.ownsRow_nil _ _ _ _, B1.out⟩
    case round =>
      obtain ⟨j, p, hj, hp, rfl, rfl, hd, hown, hb⟩ := hrel
      have S : Aside (s.data.toList.drop p = Tm.texts (ks.drop j) ∧ wr.ownsRow w.heap.size 23 1 u6 j (strs ((ks.take j).map Tm.text)) ∧ Below w.heap.size w wr) := ⟨hd, hown, hb⟩
      clear hd hown hb B1
      by_cases hlt : j < n
      · have hjl : j < ks.length := by rw [← HN.out]; exact hlt
        have hd : s.data.toList.drop p = Tm.text ks[j] ++ Tm.texts (ks.drop (j + 1)) := by rw [S.out.1, List.drop_eq_getElem_cons hjl, Tm.texts_cons]
        have hwj : Tm.wf ks[j] := WK.out _ (List.getElem_mem hjl)
        have hE := end_any s p wr hp (by omega)
        have hEv : endI (s.data.toList.drop p) p = ((p + (Tm.text ks[j]).length : Nat) : Int) := by
          unfold endI; rw [Tm.first_some.2 ⟨hwj, _, hd⟩]
        rw [hEv] at hE
        have hcut := cut_bytes hd rfl
        have hlen2 := drop_len hd hp
        rw [List.length_append] at hlen2
        have F : Aside (s.data.toList.drop (p + (Tm.text ks[j]).length) = Tm.texts (ks.drop (j + 1)) ∧ strs ((ks.take j).map Tm.text) ++ [.string (s.extract p (p + (Tm.text ks[j]).length))] = strs ((ks.take (j + 1)).map Tm.text)) := by
          refine ⟨?_, ?_⟩
          · rw [← List.drop_drop, hd, List.drop_left]
          · rw [List.take_succ_eq_append_getElem hjl, List.map_append, strs_append, str_eq hcut]; rfl
        have O1 : Aside (wr.ownsRow w.heap.size 23 1 u6 j (strs ((ks.take j).map Tm.text)) ∧ Below w.heap.size w wr) := S.out.2
        clear S hEv
        generalize strs ((ks.take j).map Tm.text) = xs at O1 F
        generalize (Tm.text ks[j]).length = tl at *
        have hs2 : w.heap.size ≤ wr.heap.size := O1.out.2.size
        have tj : (j : Int) < (n : Int) := by omega
        clear hcut hd hwj
        go_wp2_with fail
        refine (P1.out wr).mono ?_
        rintro e w2 ⟨rfl, hw⟩
        replace hw := hw.symm; subst hw
        go_wp2_with fail
        refine hE.mono ?_
        rintro e w2 ⟨rfl, hw⟩
        replace hw := hw.symm; subst hw
        go_wp2_with (at_builtin; refine wpList_append_own _ rfl _ _ 22 rfl w.heap.size 23 i0 (.string ⟨#[]⟩) 1 16 Try.underlying22 I.out.1 I.out.2.1 I.out.2.2.1 I.out.2.2.2 rfl (by decide) _ _ _ rfl (O1.out.1.alloc _) ⟨wr.heap.size, 0, none⟩ 1 1 [.string (s.extract p (p + tl))] rfl rfl ?c1 ?c2 ?c3 ?c4 ?c5 ?_)
        case c1 => exact cell_new1 _ _ _
        case c2 => intro u hu; simp at hu; subst hu; rfl
        case c3 => unfold maxLen; omega
        case c4 => omega
        case c5 => simp; omega
        intro v3 w3 hown3 hgrow3 _
        rw [F.out.2] at hown3
        have hb3 : Below w.heap.size w w3 := grown_below hs2 O1.out.1 O1.out.2 hgrow3
        clear hgrow3 O1 hE
        go_wp2
        go_roundw
        case rel => exact ⟨j + 1, p + tl, by omega, by omega, by go_num, by go_num, F.out.1, hown3, hb3⟩
        case measure => simp [intOf]; omega
      · obtain rfl : j = n := by omega
        have Q1 := G.out u6 wr (by
          have := S.out.2.1
          rw [List.take_of_length_le (by rw [HN.out]; exact Nat.le_refl _)] at this
          rw [← HN.out]
          exact this) S.out.2.2
        clear S G
        go_wp2_with fail
        refine (P1.out wr).mono ?_
        rintro e w2 ⟨rfl, hw⟩
        replace hw := hw.symm; subst hw
        go_wp2
        exact ⟨rfl, _, results13 _ _ _ rfl rfl rfl, Q1⟩
  · have Q1 : Aside (∀ w', Below w.heap.size w w' → PartsPost s.data.toList w (.returned (.tuple #[.int .u8 0, .slice none 0 0, .int .i64 (Tm.chk s.data.toList : Nat)])) w') := fun w' hb => partsPost_err h0 hb
    generalize PartsPost s.data.toList w = Q at Q1 ⊢
    have t1 : (((Tm.chk s.data.toList : Nat) : Int) != 0) = true := by
      have : ¬ ((Tm.chk s.data.toList : Nat) : Int) = 0 := by omega
      simpa using this
    generalize Tm.chk s.data.toList = c at *
    go_enter Try.func57, Try.ntmps57
    go_wp2_with fail
    refine hC.mono ?_
    rintro e w1 ⟨rfl, hb1⟩
    have Q2 := Q1.out w1 hb1
    clear hC hb1 Q1
    go_wp2
    exact ⟨rfl, _, results13 _ _ _ rfl rfl rfl, Q2⟩

end Go.Proofs.Ytdpnffnogckfjaa
