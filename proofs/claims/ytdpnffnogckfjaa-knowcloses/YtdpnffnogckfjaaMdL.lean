/- What place gives. -/
import Derived.Test.YtdpnffnogckfjaaMdK
namespace Go.Proofs.Ytdpnffnogckfjaa
open Go.RowKit Go.Maps

theorem still_name {P : Program} {ops : Array Oper} {w : World} {L : Act → Prop} {l : List Oper} {a : Act} (h : ∀ T, Aside (T = L) → wpStill P ops w T l a) : wpStill P ops w L l a := h L rfl

theorem place_end {ω : Tag} {pm bv bk : Nat} {M : Mst} {t : List UInt8} {w wr w' : World} (ht : t ∉ M.m.1) (hk : Tm.kindOf t = 99) : ∀ ω1, True → Kn ω1 wr pm bv bk M.σ → ViewG ω1 wr bv (edgesM t (newM t M.m) (Tm.partsOf t)).1 (edgesM t (newM t M.m) (Tm.partsOf t)).2 → Ext w ω ω1 → Free ω w wr →
    LearnPost ω1 pm bv bk wr (lrn M.σ t) (.returned (.tuple #[])) w' → PlacePost ω pm bv bk w (plc M t) (.returned (.tuple #[])) w' := by
  intro ω1 _ k1 v1 e1 f1 ⟨_, ω2, k2, e2, f2⟩
  refine ⟨rfl, ω2, ?_, e1.trans f1.size e2, f1.trans e1 f2.free⟩
  unfold plc
  rw [if_neg ht, if_pos hk]
  exact ⟨k2, v1.fix f2 e2⟩

set_option maxRecDepth 50000 in
set_option maxHeartbeats 8000000 in
theorem place_new (ω : Tag) (pm bv bk : Nat) (M : Mst) (t : List UInt8) (w : World) (h : MindAt ω w pm bv bk M) (hc : Tm.chk t = 0) (ht : t ∉ M.m.1)
    (hsm : Small M.m 7000000) (hk1 : M.σ.1.length ≤ 8000000) (hk2 : M.σ.2.length ≤ 8000000) :
    Calls Try.prog 51 #[.pointer (some ⟨pm, 0, none⟩), str t] w (PlacePost ω pm bv bk w (plc M t)) := by
  have hl := (Tm.chk_zero hc).1
  have a0 := h.1.cells.1
  obtain ⟨k9, pa9, pc9, wa9, wc9, n9, m9, hr⟩ := h.2.look_ok t hl
  rw [decide_eq_false ht] at hr
  have PA : Aside (∀ w1, Calls Try.prog 61 #[str t] w1 (PartsPost t w1)) := fun w1 => parts_any ⟨t.toArray⟩ w1
  have BG : Aside (∀ w1 w2 v, w.grownBy w1 none → Below w1.heap.size w1 w2 → w2.ownsRow w1.heap.size 23 1 v (Tm.partsOf t).length (strs (Tm.partsOf t)) → _) := fun w1 w2 v a b c => place_begin (t := t) h ht hl (by have := hsm.1; omega) a b c
  have QK : Aside (∀ wr pa pc w', Tm.kindOf t ≠ 99 → wr = w' → PlaceInv ω pm bv bk w (edgesM t (newM t M.m) (Tm.partsOf t)) M.σ pa (Tm.partsOf t).length pc (Tm.partsOf t) wr → PlacePost ω pm bv bk w (plc M t) (.returned (.tuple #[])) w') := by
    rintro wr pa pc w' hk rfl ⟨ω1, k1, v1, e1, f1, _, _⟩
    refine ⟨rfl, ω1, ?_, e1, f1⟩
    unfold plc
    rw [if_neg ht, if_neg hk]
    exact ⟨k1, v1⟩
  have LK : Aside (∀ wr pa pc, Tm.kindOf t = 99 → PlaceInv ω pm bv bk w (edgesM t (newM t M.m) (Tm.partsOf t)) M.σ pa (Tm.partsOf t).length pc (Tm.partsOf t) wr → Calls Try.prog 40 #[.pointer (some ⟨pm, 0, none⟩), str t] wr (fun e w' => e = .returned (.tuple #[]) ∧ PlacePost ω pm bv bk w (plc M t) (.returned (.tuple #[])) w')) := by
    intro wr pa pc hk hi
    have hi' := hi
    obtain ⟨ω1, k1, v1, e1, f1, _, _⟩ := hi'
    refine (learn_any ω1 pm bv bk M.σ t wr k1 hl (by omega) (by omega)).mono ?_
    intro e w' hq
    have he := hq.1
    subst he
    exact ⟨rfl, place_end ht hk ω1 trivial k1 v1 e1 f1 hq⟩
  have ED : Aside (∀ wr pa pc m p, p ∈ Tm.partsOf t → m.1.length ≤ 8000000 → PlaceInv ω pm bv bk w m M.σ pa (Tm.partsOf t).length pc (Tm.partsOf t) wr → _) := fun wr pa pc m p hp hm hi => place_edge p t hi (part_len hp) hm
  have WL : Aside (∀ j, Small (edgesM t (newM t M.m) ((Tm.partsOf t).take j)) 7000004) := by
    intro j
    have h2 := Tm.parts_few t
    refine ((hsm.new t).edges t _).mono ?_
    have : ((Tm.partsOf t).take j).length ≤ 2 := by rw [List.length_take]; omega
    omega
  have KC : Aside (Tm.chk t = 0) := hc
  have n2 := Tm.parts_few t
  generalize PlacePost ω pm bv bk w (plc M t) = Q at QK LK ⊢
  clear h hc ht hsm hk1 hk2 hl
  obtain ⟨i0, hi, hz0, hz1, hz2⟩ := info_parts info22
  have I : Aside (Try.prog.info? 23 = some i0 ∧ i0.zero = some (.string ⟨#[]⟩) ∧ i0.size = 1 ∧ i0.bytes = 16) := ⟨hi, hz0, hz1, hz2⟩
  clear hi hz0 hz1 hz2
  have bd := bd79
  obtain ⟨ps, hpse⟩ : ∃ ps, ps = Tm.partsOf t := ⟨_, rfl⟩
  have HP : Hid (ps = Tm.partsOf t) := hpse
  rw [← hpse] at BG QK LK ED WL n2
  obtain ⟨n, hn⟩ : ∃ n, n = ps.length := ⟨_, rfl⟩
  have HN : Hid (n = ps.length) := hn
  rw [← hn] at n2
  clear hpse hn
  obtain ⟨x, hx⟩ : ∃ x, str t = .string x := ⟨_, rfl⟩
  have HX : Hid (str t = .string x) := hx
  rw [hx] at hr PA LK ⊢
  clear hx
  go_enter Try.func51, Try.ntmps51
  go_wp2_with fail
  refine (PA.out _).mono ?_
  rintro e w2 ⟨v, rfl, ho, hb⟩
  have B2 : Aside (_) := BG.out _ w2 v (World.grownBy_alloc w _ none) hb (by rw [HP.out]; exact ho)
  clear PA BG hr ho hb a0
  rw [← HN.out] at B2
  obtain ⟨pa, pc, w3, rfl, hr3, hi3, c3⟩ := B2.out
  rw [KC.out]
  have HR : Aside ((Instr.mapUpdate 59 (.map (some bv)) (.string x) (.agg #[.int .u8 ((Tm.kindOf t).toNat : Int), .slice pa n pc, .slice none 0 0])).run Try.prog w2 = .ok () w3) := by
    have := hr3; unfold sgv at this; rw [HX.out] at this; exact this
  have I3 : Aside (PlaceInv ω pm bv bk w (edgesM t (newM t M.m) (ps.take 0)) M.σ pa n pc ps w3) := hi3
  clear hr3 hi3 B2
  obtain ⟨kk, hkk⟩ : ∃ kk : Int, kk = ((Tm.kindOf t).toNat : Int) := ⟨_, rfl⟩
  have HK : Hid (kk = ((Tm.kindOf t).toNat : Int)) := hkk
  rw [← hkk] at HR ⊢
  clear hkk
  go_wp2_with (at_mapUpdate; refine wpList_put _ rfl _ _ _ 59 rfl _ _ _ rfl rfl rfl _ HR.out ?_)
  clear HR c3
  go_loopw [38] (fun i wr => ∃ j : Nat, j ≤ n ∧ i = .int .i64 j ∧ PlaceInv ω pm bv bk w (edgesM t (newM t M.m) (ps.take j)) M.σ pa n pc ps wr) (fun i _ => n - (intOf i).toNat)
  case atStart => exact ⟨0, Nat.zero_le _, rfl, I3.out⟩
  case round =>
    obtain ⟨j, hj, rfl, hi⟩ := hrel
    have S : Aside (PlaceInv ω pm bv bk w (edgesM t (newM t M.m) (ps.take j)) M.σ pa n pc ps wr) := hi
    clear hi I3
    by_cases hlt : j < n
    · have hjl : j < ps.length := by rw [← HN.out]; exact hlt
      obtain ⟨b, off, rfl, hcs⟩ : ∃ b off, pa = some ⟨b, off, none⟩ ∧ ∀ i y, ps[i]? = some y → wr.cell? ⟨b, off + i, none⟩ = some (str y) := by
        obtain ⟨ω1, _, _, _, _, at1, _⟩ := S.out
        rcases at1 with e | h
        · rw [e] at hjl; simp at hjl
        · exact h
      have c0 := hcs j ps[j] (List.getElem?_eq_getElem hjl)
      have hmem : ps[j] ∈ ps := List.getElem_mem hjl
      have E1 : Aside (edgesM t (newM t M.m) (ps.take (j + 1)) = edgeM t (edgesM t (newM t M.m) (ps.take j)) ps[j]) := by
        show _ = _
        rw [List.take_succ_eq_append_getElem hjl, edgesM_snoc]
      have WL1 : Aside ((at0 (edgesM t (newM t M.m) (ps.take j)).1 (edgesM t (newM t M.m) (ps.take j)).2 ps[j]).ws.length ≤ 16000000) := Nat.le_trans ((WL.out j).2 _) (by omega)
      obtain ⟨pa2, pc2, wa, wc, hr2, a2, hrow, hstep⟩ := ED.out wr (some ⟨b, off, none⟩) pc _ ps[j] hmem (Nat.le_trans (WL.out j).1 (by omega)) (by rw [← HN.out]; exact S.out)
      have ST : Aside (wr.ownsRow 0 23 1 _ _ _ ∧ ∀ w3 va vc, _) := ⟨hrow, hstep⟩
      clear hrow hstep hcs hmem S WL ED LK QK
      generalize ps[j] = p at *
      generalize edgesM t (newM t M.m) (ps.take j) = m2 at *
      generalize (at0 m2.1 m2.2 p).ps.length = pl at *
      generalize ((at0 m2.1 m2.2 p).k.toNat : Int) = pk at *
      generalize (at0 m2.1 m2.2 p).ws.length = wl at *
      generalize strs (at0 m2.1 m2.2 p).ws = xs at *
      rw [HX.out] at ST
      unfold str at c0 hr2 ST
      generalize (⟨p.toArray⟩ : ByteArray) = xp at *
      have t1 : (j : Int) < (n : Int) := by omega
      have t0 : (0 : Int) ≤ (j : Int) := by omega
      go_wp2_with (at_builtin; refine wpList_append_own_at _ rfl _ _ 22 rfl 0 23 i0 (.string ⟨#[]⟩) 1 16 Try.underlying22 I.out.1 I.out.2.1 I.out.2.2.1 I.out.2.2.2 rfl (by decide) _ _ _ rfl ((ST.out.1.alloc _).alloc _) ⟨wr.heap.size + 1, 0, none⟩ 1 1 [.string x] rfl rfl ?c1 ?c2 ?c3 ?c4 ?c5 ?_)
      case c1 =>
        have := cell_new1 (wr.alloc (.cells #[.int .u8 pk, .slice pa2 pl pc2, .slice wa wl wc] 79)) (.string x) 23
        rw [World.size_alloc] at this
        exact this
      case c2 => intro u hu; simp at hu; subst hu; rfl
      case c3 => unfold maxLen; have := WL1.out; omega
      case c4 => have := WL1.out; omega
      case c5 => omega
      intro v4 w4 hown4 hgrow4 _ hat4
      obtain ⟨va, vc, rfl⟩ : ∃ va vc, v4 = .slice va (wl + 1) vc := by
        rcases hown4.2 with ⟨_, h0⟩ | ⟨g, cap, cur, e, _⟩
        · omega
        · exact ⟨_, _, e⟩
      have X4 := ST.out.2 w4 va vc hgrow4 hown4 (by simpa using hat4)
      obtain ⟨⟨d2, z2⟩, ⟨g0, g1, g2⟩, gp, w5, hr5, hi5⟩ := X4
      have HR5 : Aside (_) := hr5
      have I5 : Aside (PlaceInv ω pm bv bk w (edgesM t (newM t M.m) (ps.take (j + 1))) M.σ (some ⟨b, off, none⟩) n pc ps w5) := by
        have := hi5
        rw [← HN.out, ← E1.out] at this
        exact this
      clear hown4 hgrow4 hat4 hr5 hi5 ST hr2 a2 c0
      go_wp2_with fail
      generalize w4.setCell ⟨wr.heap.size, 2, none⟩ (.slice va (wl + 1) vc) = W4 at *
      clear d2 z2
      refine wp_region_still_tail 6 (by kernel_rfl) (by kernel_rfl) ?_
      simp only [List.take_succ_cons, List.take_zero, List.drop_succ_cons, List.drop_zero]
      refine still_name fun T HT => ?_
      repeat still_step
      refine wpStill_nil ?_
      rw [HT.out]
      clear HT T
      refine wpList_put _ rfl _ _ _ 59 rfl _ _ _ rfl rfl rfl w5 HR5.out ?_
      clear HR5 g0 g1 g2 gp
      go_wp2
      go_roundw
      case rel => exact ⟨j + 1, by omega, by go_num, I5.out⟩
      case measure => simp [intOf]; omega
    · obtain rfl : j = n := by omega
      have I6 : Aside (PlaceInv ω pm bv bk w (edgesM t (newM t M.m) ps) M.σ pa j pc ps wr) := by
        have := S.out
        rw [List.take_of_length_le (by rw [HN.out]; exact Nat.le_refl _)] at this
        exact this
      clear S WL ED
      by_cases hk : Tm.kindOf t = 99
      · have L2 : Aside (Calls Try.prog 40 #[.pointer (some ⟨pm, 0, none⟩), .string x] wr (fun e w' => e = .returned (.tuple #[]) ∧ Q (.returned (.tuple #[])) w')) := LK.out wr pa pc hk (by rw [← HN.out]; exact I6.out)
        have kq : (kk == 99) = true := by rw [HK.out, hk]; rfl
        have kq2 : kk = 99 := by rw [HK.out, hk]; rfl
        subst kq2
        clear LK QK I6 hk
        go_wp2_with fail
        refine L2.out.mono ?_
        rintro e w5 ⟨rfl, hq⟩
        have Q2 : Aside (Q (.returned (.tuple #[])) w5) := hq
        clear L2 hq
        go_wp2
        exact ⟨rfl, .tuple #[], results_none rfl _ _ _, Q2.out⟩
      · have Q2 : Aside (Q (.returned (.tuple #[])) wr) := QK.out wr pa pc wr hk rfl (by rw [← HN.out]; exact I6.out)
        have kq : (kk == 99) = false := by
          rw [HK.out]
          have : ¬ ((Tm.kindOf t).toNat : Int) = 99 := fun e => hk (UInt8.toNat_inj.1 (by simpa using (by omega : (Tm.kindOf t).toNat = 99)))
          simpa using this
        clear LK QK I6 hk
        go_wp2
        exact ⟨rfl, .tuple #[], results_none rfl _ _ _, Q2.out⟩

/-- What place gives, whatever is in view. -/
theorem place_any (ω : Tag) (pm bv bk : Nat) (M : Mst) (t : List UInt8) (w : World) (h : MindAt ω w pm bv bk M) (hc : Tm.chk t = 0) (hsm : Small M.m 7000000) (hk1 : M.σ.1.length ≤ 8000000) (hk2 : M.σ.2.length ≤ 8000000) :
    Calls Try.prog 51 #[.pointer (some ⟨pm, 0, none⟩), str t] w (PlacePost ω pm bv bk w (plc M t)) := by
  by_cases ht : t ∈ M.m.1
  · exact place_seen ω pm bv bk M t w h (Tm.chk_zero hc).1 ht
  · exact place_new ω pm bv bk M t w h hc ht hsm hk1 hk2

end Go.Proofs.Ytdpnffnogckfjaa

