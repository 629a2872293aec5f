/- What putTogether gives. -/
import Derived.Test.YtdpnffnogckfjaaMdF
import Derived.WalkMore
namespace Go.Proofs.Ytdpnffnogckfjaa
open Go.RowKit Go.Maps

/-- What stays of one moment of a mind at a later one. -/
def Later (ω : Tag) (pm bv bk : Nat) (w : World) (σ : St) (wr : World) : Prop := ∃ ω', Kn ω' wr pm bv bk σ ∧ Ext w ω ω' ∧ Fix ω w wr
theorem later_grown {ω : Tag} {pm bv bk : Nat} {w wr w' : World} {σ : St} (h : Later ω pm bv bk w σ wr) (hg : wr.grownBy w' none) : Later ω pm bv bk w σ w' := by
  obtain ⟨ω', h1, h2, h3⟩ := h
  exact ⟨ω', h1.grown hg (fun _ h => by cases h), h2, h3.trans h2 (Fix.grown hg (fun _ h => by cases h))⟩
theorem later_post {ω : Tag} {pm bv bk : Nat} {w wr w' : World} {σ' : St} {ω' : Tag} {e : Ending} (h2 : Ext w ω ω') (h3 : Fix ω w wr) (hq : LearnPost ω' pm bv bk wr σ' e w') : e = .returned (.tuple #[]) ∧ Later ω pm bv bk w σ' w' := by
  have := learn_then h3 h2 hq
  exact ⟨this.1, this.2⟩

theorem field79_2 (k : Int) (a c : Option Addr) (n m p q : Nat) (w : World) : (Instr.field 79 (.agg #[.int .u8 k, .slice a n p, .slice c m q]) 2).run Try.prog w = .ok (.slice c m q) w := by kernel_rfl
theorem field79_1 (k : Int) (a c : Option Addr) (n m p q : Nat) (w : World) : (Instr.field 79 (.agg #[.int .u8 k, .slice a n p, .slice c m q]) 1).run Try.prog w = .ok (.slice a n p) w := by kernel_rfl

set_option maxHeartbeats 8000000 in
theorem putTogether_any (ω : Tag) (pm bv bk : Nat) (σ : St) (V : List (List UInt8)) (E : List (List UInt8 × List UInt8)) (t : List UInt8) (w : World) (h : Kn ω w pm bv bk σ) (hv : View ω w bv V E) (hV : Wide V) (ht : t ∈ V)
    (hE : ∀ e ∈ E, e.2 ∈ V) (hok : Ok V σ) (hVl : V.length ≤ 8000000) (hwl : (wholes E t).length ≤ 20000000) :
    Calls Try.prog 42 #[.pointer (some ⟨pm, 0, none⟩), str t] w (LearnPost ω pm bv bk w (ptT σ (wholes E t))) := by
  have htl := (Tm.chk_zero (hV.good t ht)).1
  obtain ⟨pa, pc, wa, wc, hr, -, hw, -, hwo⟩ := hv.look ht htl
  have a0 := h.cells.1
  have hin : ∀ x ∈ wholes E t, x ∈ V := fun x hx => hE _ (mem_wholes.1 hx)
  generalize hws : wholes E t = ws at *
  have Q1 : Aside (∀ w', Later ω pm bv bk w (ptT σ ws) w' → LearnPost ω pm bv bk w (ptT σ ws) (.returned (.tuple #[])) w') := fun w' h => ⟨rfl, h⟩
  generalize LearnPost ω pm bv bk w (ptT σ ws) = Q at Q1 ⊢
  have LW : Aside (AtS w wa ws ∧ (∀ j, Value.ownBlock (.slice wa ws.length wc) = some j → ω j ≠ some none ∧ j < w.heap.size)) := ⟨hw, fun j hj => ⟨by rw [(hwo j hj).1]; simp, (hwo j hj).2⟩⟩
  have H0 : Aside (Later ω pm bv bk w (ptT σ (ws.take 0)) w) := ⟨ω, h, Ext.refl _ _, Fix.refl _ _⟩
  have HV : Aside (∀ ω' wr, Ext w ω ω' → Fix ω w wr → View ω' wr bv V E) := fun ω' wr he hf => hv.fix hf he
  have OK : Aside (∀ j, Ok V (ptT σ (ws.take j))) := fun j => hok.ptT hV (fun x hx => hin x (List.mem_of_mem_take hx))
  have IN : Aside ((∀ x ∈ ws, x ∈ V) ∧ Wide V ∧ V.length ≤ 8000000) := ⟨hin, hV, hVl⟩
  obtain ⟨n, hn⟩ : ∃ n, n = ws.length := ⟨_, rfl⟩
  have HN : Hid (n = ws.length) := hn
  rw [← hn] at hr hwl
  have HL : Aside (n ≤ 20000000) := hwl
  clear h hv hV ht hE hok hVl hin hwo hw hws htl hn hwl
  generalize (Tm.partsOf t).length = pl at *
  generalize ((Tm.kindOf t).toNat : Int) = kk at *
  unfold str at hr ⊢
  generalize (⟨t.toArray⟩ : ByteArray) = x at *
  have fd := field79_2
  have fd1 := field79_1
  go_enter Try.func42, Try.ntmps42
  go_wp2_with fail
  go_step3
  go_wp2_with fail
  go_step3
  go_wp2_with fail
  go_loopw [16] (fun i wr => ∃ j : Nat, j ≤ n ∧ i = .int .i64 j ∧ Later ω pm bv bk w (ptT σ (ws.take j)) wr) (fun i _ => n - (intOf i).toNat)
  case atStart => exact ⟨0, Nat.zero_le _, rfl, H0.out⟩
  case round =>
    obtain ⟨j, hj, rfl, hl⟩ := hrel
    have S : Aside (Later ω pm bv bk w (ptT σ (ws.take j)) wr) := hl
    clear hl H0 hr a0
    by_cases hlt : j < n
    · have hjl : j < ws.length := by rw [← HN.out]; exact hlt
      have hyV := IN.out.1 ws[j] (List.getElem_mem hjl)
      have hyc := IN.out.2.1.good _ hyV
      have hyl := (Tm.chk_zero hyc).1
      have hstep : ptT σ (ws.take (j + 1)) = ptS (ptT σ (ws.take j)) ws[j] := by rw [List.take_succ_eq_append_getElem hjl, ptT_snoc]
      obtain ⟨ω1, k1, e1, f1⟩ := S.out
      have hAt : AtS wr wa ws := atS_fix LW.out.1 f1 LW.out.2
      obtain ⟨b, off, rfl, hcs⟩ : ∃ b off, wa = some ⟨b, off, none⟩ ∧ ∀ i y, ws[i]? = some y → wr.cell? ⟨b, off + i, none⟩ = some (str y) := by
        rcases hAt with e | h
        · rw [e] at hjl; simp at hjl
        · exact h
      have c0 := hcs j ws[j] (List.getElem?_eq_getElem hjl)
      have t1 : (j : Int) < (n : Int) := by omega
      have t0 : (0 : Int) ≤ (j : Int) := by omega
      have ok1 := OK.out j
      have KN : Aside (Calls Try.prog 33 #[.pointer (some ⟨pm, 0, none⟩), str ws[j]] wr (fun e w' => e = .returned (.bool (decide (ws[j] ∈ (ptT σ (ws.take j)).1))) ∧ wr.grownBy w' none)) := knows_any ω1 pm bv bk _ ws[j] wr k1 hyl
      have ok1l : Aside (_ ∧ _) := ok1.len
      have HV1 : Aside (View ω1 wr bv V E) := HV.out ω1 wr e1 f1
      have HS : Hid (ptT σ (ws.take (j + 1)) = ptS (ptT σ (ws.take j)) ws[j]) := hstep
      have L1 : Aside (Kn ω1 wr pm bv bk (ptT σ (ws.take j)) ∧ Ext w ω ω1 ∧ Fix ω w wr ∧ ws[j] ∈ V ∧ Tm.chk ws[j] = 0) := ⟨k1, e1, f1, hyV, hyc⟩
      clear k1 e1 f1 hcs hAt hstep S ok1 hyV hyc OK HV
      generalize ws[j] = y at *
      generalize ptT σ (ws.take j) = τ at *
      generalize hτ : ptT σ (ws.take (j + 1)) = τ' at *
      have HT : Hid (ptT σ (ws.take (j + 1)) = τ') := hτ
      clear hτ
      obtain ⟨wo, rfl⟩ : ∃ x, x = wr := ⟨wr, rfl⟩
      unfold str at c0 KN
      by_cases hyin : y ∈ τ.1
      · rw [decide_eq_true hyin] at KN
        have LT : Aside (∀ w2, wo.grownBy w2 none → Calls Try.prog 41 #[.pointer (some ⟨pm, 0, none⟩), .string ⟨y.toArray⟩] w2 (fun e w' => e = .returned (.tuple #[]) ∧ Later ω pm bv bk w τ' w')) := by
          intro w2 hg
          obtain ⟨k1, e1, f1, hyV, hyc⟩ := L1.out
          have lm := ok1l.out
          have vm := IN.out.2.2
          have hfx : Fix ω1 wo w2 := Fix.grown hg (fun _ h => by cases h)
          refine (takeApart_any ω1 pm bv bk τ V E y w2 (k1.grown hg (fun _ h => by cases h)) (HV1.out.fix hfx (Ext.refl _ _)) hyV hyc (by omega) (by omega)).mono ?_
          intro e w' hq
          rw [HS.out]
          unfold ptS
          rw [if_pos hyin]
          exact later_post (f1.trans e1 hfx |> fun h => (e1.trans (w' := wo) f1.size (Ext.refl wo ω1))) (f1.trans e1 hfx) hq
        clear L1 HV1 ok1l hyin HS LW IN
        go_wp2_with fail
        refine KN.out.mono ?_
        rintro e w2 ⟨rfl, hg⟩
        have L2 := LT.out w2 hg
        clear KN LT hg
        go_wp2_with fail
        refine L2.mono ?_
        rintro e w3 ⟨rfl, hl⟩
        have L3 : Aside (Later ω pm bv bk w τ' w3) := hl
        clear L2 hl
        have hL9 := HL.out
        try have hm8 := hm9.out
        go_wp2
        go_roundw
        case rel => exact ⟨j + 1, by omega, by go_num, by rw [HT.out]; exact L3.out⟩
        case measure => simp [intOf]; omega
      · rw [decide_eq_false hyin] at KN
        have LK : Aside (∀ w2, wo.grownBy w2 none → Kn ω1 w2 pm bv bk τ ∧ View ω1 w2 bv V E ∧ Fix ω w w2) := by
          intro w2 hg
          obtain ⟨k1, e1, f1, hyV, hyc⟩ := L1.out
          have hfx : Fix ω1 wo w2 := Fix.grown hg (fun _ h => by cases h)
          exact ⟨k1.grown hg (fun _ h => by cases h), HV1.out.fix hfx (Ext.refl _ _), f1.trans e1 hfx⟩
        have LY : Aside (y ∈ V ∧ y.length ≤ 2000 ∧ Ext w ω ω1 ∧ τ.1.length ≤ 8000000 ∧ τ.2.length ≤ 8000000) := by
          have := IN.out.2.2
          have := ok1l.out
          exact ⟨L1.out.2.2.2.1, hyl, L1.out.2.1, by omega, by omega⟩
        have HS0 : Aside (¬ (∀ p ∈ Tm.partsOf y, p ∈ τ.1) → τ' = τ) := by
          intro hno
          have := HS.out
          unfold ptS at this
          rw [if_neg hyin, if_neg hno] at this
          exact this
        have HS1 : Aside ((∀ p ∈ Tm.partsOf y, p ∈ τ.1) → τ' = lrn τ y) := by
          intro hall
          have := HS.out
          unfold ptS at this
          rw [if_neg hyin, if_pos hall] at this
          exact this
        clear L1 HV1 ok1l hyin HS LW IN hyl
        go_wp2_with fail
        refine KN.out.mono ?_
        rintro e w2 ⟨rfl, hg⟩
        have K2 : Aside (Kn ω1 w2 pm bv bk τ ∧ View ω1 w2 bv V E ∧ Fix ω w w2) := LK.out w2 hg
        clear KN LK hg
        have a2 := K2.out.1.cells.1
        obtain ⟨pa2, pc2, wa2, wc2, hr2, hp2, -, hpo2, -⟩ := K2.out.2.1.look LY.out.1 LY.out.2.1
        have PL : Aside (AtS w2 pa2 (Tm.partsOf y) ∧ ∀ q ∈ Tm.partsOf y, q.length ≤ 2000) := ⟨hp2, fun q hq => part_len hq⟩
        obtain ⟨m, hm⟩ : ∃ m, m = (Tm.partsOf y).length := ⟨_, rfl⟩
        have HM : Hid (m = (Tm.partsOf y).length) := hm
        have hm9 : Aside (m ≤ 2000) := by
          have := Tm.parts_few y
          show m ≤ 2000
          omega
        rw [← hm] at hr2
        clear hp2 hpo2 hm
        unfold str at hr2
        generalize Tm.partsOf y = ps at *
        generalize (wholes E y).length = wl2 at *
        generalize ((Tm.kindOf y).toNat : Int) = kk2 at *
        generalize hxy : (⟨y.toArray⟩ : ByteArray) = xy at *
        have HXY : Hid (str y = .string xy) := by show _ = _; unfold str; rw [hxy]
        clear hxy
        go_wp2_with fail
        go_loopw [34] (fun i wr => ∃ i' : Nat, i' ≤ m ∧ i = .int .i64 i' ∧ (∀ p ∈ ps.take i', p ∈ τ.1) ∧ w2.grownBy wr none) (fun i _ => m - (intOf i).toNat)
        case atStart => exact ⟨0, Nat.zero_le _, rfl, fun p hp => by simp at hp, ⟨rfl, rfl, rfl, Nat.le_refl _, fun _ _ _ => rfl⟩⟩
        case round =>
          obtain ⟨i, hi, rfl, hall, hg⟩ := hrel
          have S2 : Aside ((∀ p ∈ ps.take i, p ∈ τ.1) ∧ w2.grownBy wr none) := ⟨hall, hg⟩
          clear hall hg
          by_cases hil : i < m
          · have hip : i < ps.length := by rw [← HM.out]; exact hil
            have hpl := PL.out.2 ps[i] (List.getElem_mem hip)
            obtain ⟨pb, po, rfl, hcs⟩ : ∃ b off, pa2 = some ⟨b, off, none⟩ ∧ ∀ q z, ps[q]? = some z → w2.cell? ⟨b, off + q, none⟩ = some (str z) := by
              rcases PL.out.1 with e | h
              · rw [e] at hip; simp at hip
              · exact h
            have d0 : wr.cell? ⟨pb, po + i, none⟩ = some (str ps[i]) := S2.out.2.cell (hcs i ps[i] (List.getElem?_eq_getElem hip)) (by simp)
            have k3 : Kn ω1 wr pm bv bk τ := K2.out.1.grown S2.out.2 (fun _ h => by cases h)
            have KN3 : Aside (Calls Try.prog 33 #[.pointer (some ⟨pm, 0, none⟩), str ps[i]] wr (fun e w' => e = .returned (.bool (decide (ps[i] ∈ τ.1))) ∧ wr.grownBy w' none)) := knows_any ω1 pm bv bk _ ps[i] wr k3 hpl
            have u1 : (i : Int) < (m : Int) := by omega
            have u0 : (0 : Int) ≤ (i : Int) := by omega
            have T1 : Aside (ps[i] ∈ τ.1 → ∀ p ∈ ps.take (i + 1), p ∈ τ.1) := by
              intro hin p hp
              rw [List.take_succ_eq_append_getElem hip] at hp
              rcases List.mem_append.1 hp with hp | hp
              · exact S2.out.1 p hp
              · simp at hp; subst hp; exact hin
            have T2 : Aside (ps[i] ∉ τ.1 → τ' = τ) := fun hno => HS0.out (fun hall => hno (hall _ (List.getElem_mem hip)))
            clear hcs k3 hpl hr2 a2
            generalize ps[i] = q at *
            unfold str at d0 KN3
            generalize (⟨q.toArray⟩ : ByteArray) = xq at *
            by_cases hq : q ∈ τ.1
            · rw [decide_eq_true hq] at KN3
              have T3 : Aside (_) := T1.out hq
              clear T1 T2 hq HS0 HS1
              go_wp2_with fail
              refine KN3.out.mono ?_
              rintro e w4 ⟨rfl, hg4⟩
              have G4 : Aside (w2.grownBy w4 none) := Lib.grownBy_trans S2.out.2 hg4
              clear KN3 hg4 S2
              have hL9 := HL.out
              try have hm8 := hm9.out
              go_wp2
              go_roundw
              case rel => exact ⟨i + 1, by omega, by go_num, T3.out, G4.out⟩
              case measure => simp [intOf]; omega
            · rw [decide_eq_false hq] at KN3
              have T3 : Aside (τ' = τ) := T2.out hq
              clear T1 T2 hq HS0 HS1
              go_wp2_with fail
              refine KN3.out.mono ?_
              rintro e w4 ⟨rfl, hg4⟩
              have G4 : Aside (Later ω pm bv bk w τ' w4) := by
                rw [T3.out]
                have g4 : w2.grownBy w4 none := Lib.grownBy_trans S2.out.2 hg4
                exact later_grown ⟨ω1, K2.out.1, LY.out.2.2.1, K2.out.2.2⟩ g4
              clear KN3 hg4 S2 T3
              have hL9 := HL.out
              try have hm8 := hm9.out
              go_wp2
              go_roundw
              case rel => exact ⟨j + 1, by omega, by go_num, by rw [HT.out]; exact G4.out⟩
              case measure => simp [intOf]; omega
          · obtain rfl : i = m := by omega
            have hall : ∀ p ∈ ps, p ∈ τ.1 := by
              have := S2.out.1
              rw [List.take_of_length_le (by rw [HM.out]; exact Nat.le_refl _)] at this
              exact this
            have k3 : Kn ω1 wr pm bv bk τ := K2.out.1.grown S2.out.2 (fun _ h => by cases h)
            have L3 : Aside (Calls Try.prog 40 #[.pointer (some ⟨pm, 0, none⟩), .string xy] wr (fun e w' => e = .returned (.tuple #[]) ∧ Later ω pm bv bk w τ' w')) := by
              have ly := LY.out
              rw [← HXY.out]
              refine (learn_any ω1 pm bv bk τ y wr k3 ly.2.1 (by omega) (by omega)).mono ?_
              intro e w' hq
              rw [HS1.out hall]
              exact later_post ly.2.2.1 (K2.out.2.2.trans ly.2.2.1 (Fix.grown S2.out.2 (fun _ h => by cases h))) hq
            clear hall k3 S2 HS0 HS1 K2 LY hr2 a2
            go_wp2_with fail
            refine L3.out.mono ?_
            rintro e w4 ⟨rfl, hl⟩
            have G4 : Aside (Later ω pm bv bk w τ' w4) := hl
            clear L3 hl
            have hL9 := HL.out
            try have hm8 := hm9.out
            go_wp2
            go_roundw
            case rel => exact ⟨j + 1, by omega, by go_num, by rw [HT.out]; exact G4.out⟩
            case measure => simp [intOf]; omega
    · obtain rfl : j = n := by omega
      have Q2 := Q1.out wr (by
        have := S.out
        rw [List.take_of_length_le (by rw [HN.out]; exact Nat.le_refl _)] at this
        exact this)
      clear S Q1
      go_wp2
      exact ⟨rfl, .tuple #[], results_none rfl _ _ _, Q2⟩

end Go.Proofs.Ytdpnffnogckfjaa
