/- What takeApart gives. -/
import Derived.Test.YtdpnffnogckfjaaMdD
namespace Go.Proofs.Ytdpnffnogckfjaa
open Go.RowKit Go.Maps

set_option maxHeartbeats 4000000 in
theorem takeApart_any (ω : Tag) (pm bv bk : Nat) (σ : St) (V : List (List UInt8)) (E : List (List UInt8 × List UInt8)) (t : List UInt8) (w : World) (h : Kn ω w pm bv bk σ) (hv : View ω w bv V E) (ht : t ∈ V) (hc : Tm.chk t = 0) (hk : σ.1.length ≤ 8000000) (hf : σ.2.length ≤ 8000000) :
    Calls Try.prog 41 #[.pointer (some ⟨pm, 0, none⟩), str t] w (LearnPost ω pm bv bk w (tkA σ t)) := by
  have htl := (Tm.chk_zero hc).1
  obtain ⟨pa, pc, wa, wc, hr, hp, -, hpo, -⟩ := hv.look ht htl
  have a0 := h.cells.1
  obtain ⟨s0, hs0⟩ : ∃ s0 : Obj, s0 = .cells #[.int .u8 ((Tm.kindOf t).toNat : Int), .slice pa (Tm.partsOf t).length pc, .slice wa (wholes E t).length wc] 79 := ⟨_, rfl⟩
  -- the box of what was looked up is nobody's that writes
  obtain ⟨ω1, hω1⟩ : ∃ ω1 : Tag, ω1 = fun j => if j < w.heap.size then ω j else none := ⟨_, rfl⟩
  have e1 : Ext w ω ω1 := fun j hj => by rw [hω1]; exact if_pos hj
  have f1 : Fix ω w (w.alloc s0) := Fix.alloc ω w s0
  have h1 : Kn ω1 (w.alloc s0) pm bv bk σ := h.kept (fun j hj _ => Below.heap_alloc _ _ _ hj) e1
  have n1 : ω1 w.heap.size ≠ some none := by rw [hω1]; simp
  have b1 : (w.alloc s0).cell? ⟨w.heap.size, 1, none⟩ = some (.slice pa (Tm.partsOf t).length pc) := by
    have hh : (w.alloc s0).heap[w.heap.size]? = some s0 := heap_alloc_new w s0
    rw [hs0] at hh ⊢
    rw [cell_of_row _ w.heap.size 1 _ _ _ hh]; rfl
  have hkeep : Aside (∀ ω' w', Ext (w.alloc s0) ω1 ω' → Fix ω1 (w.alloc s0) w' → w'.cell? ⟨w.heap.size, 1, none⟩ = some (.slice pa (Tm.partsOf t).length pc) ∧ AtS w' pa (Tm.partsOf t)) := by
    intro ω' w' _ hfx
    refine ⟨?_, ?_⟩
    · rw [World.cell?_of_block (w := w.alloc s0) (hfx.block w.heap.size (by simp) n1)]; exact b1
    · refine atS_fix (ω := ω1) (n := (Tm.partsOf t).length) (c := pc) ?_ hfx ?_
      · exact atS_later ((Below.refl _ w).alloc (Nat.le_refl _) s0) hp
      · intro j hj
        obtain ⟨q1, q2⟩ := hpo j hj
        refine ⟨by rw [e1 j q2, q1]; simp, by simp; omega⟩
  by_cases hP : Tm.kindOf t = 112
  · have h2 := two_parts hc (.inl hP)
    have l0 : (p0 t).length ≤ 2000 := part_len (t := t) (by rw [h2]; simp)
    have l1 : (p1 t).length ≤ 2000 := part_len (t := t) (by rw [h2]; simp)
    have L1 := learn_any ω1 pm bv bk σ (p0 t) (w.alloc s0) h1 l0 (by omega) (by omega)
    have L2 : Aside (∀ ω2 w2, Kn ω2 w2 pm bv bk (lrn σ (p0 t)) → Calls Try.prog 40 #[.pointer (some ⟨pm, 0, none⟩), str (p1 t)] w2 (LearnPost ω2 pm bv bk w2 (lrn (lrn σ (p0 t)) (p1 t)))) := by
      intro ω2 w2 hk2
      obtain ⟨q1, q2⟩ := lrn_len σ (p0 t)
      exact learn_any ω2 pm bv bk _ _ w2 hk2 l1 (by omega) (by omega)
    have Q1 : Aside (∀ ω2 w2 w3, Ext (w.alloc s0) ω1 ω2 → Fix ω1 (w.alloc s0) w2 → LearnPost ω2 pm bv bk w2 (lrn (lrn σ (p0 t)) (p1 t)) (.returned (.tuple #[])) w3 → LearnPost ω pm bv bk w (tkA σ t) (.returned (.tuple #[])) w3) := by
      intro ω2 w2 w3 he hfx hq
      unfold tkA; rw [if_pos hP]
      exact learn_then f1 e1 (learn_then hfx he hq)
    generalize LearnPost ω pm bv bk w (tkA σ t) = Q at Q1 ⊢
    have t1 : ((Tm.kindOf t).toNat : Int) = 112 := by rw [hP]; rfl
    rw [t1] at hr hs0
    rw [h2] at hr b1 hp hs0 hkeep
    simp only [List.length_cons, List.length_nil] at hr b1 hs0 hkeep
    have hkeep' : Aside (∀ ω' w', Ext (w.alloc s0) ω1 ω' → Fix ω1 (w.alloc s0) w' → w'.cell? ⟨w.heap.size, 1, none⟩ = some (.slice pa 2 pc) ∧ AtS w' pa [p0 t, p1 t]) := hkeep
    obtain ⟨pb, po, rfl, hcs⟩ : ∃ b off, pa = some ⟨b, off, none⟩ ∧ ∀ j x, [p0 t, p1 t][j]? = some x → (w.alloc s0).cell? ⟨b, off + j, none⟩ = some (str x) := by
      rcases atS_later ((Below.refl _ w).alloc (Nat.le_refl _) s0) hp with h | h
      · cases h
      · exact h
    have d0 := hcs 0 (p0 t) rfl
    rw [Nat.add_zero] at d0
    have L1' : Aside (Calls Try.prog 40 #[.pointer (some ⟨pm, 0, none⟩), str (p0 t)] (w.alloc s0) (LearnPost ω1 pm bv bk (w.alloc s0) (lrn σ (p0 t)))) := L1
    subst hs0
    clear h hv h1 hk hf hP hpo hp f1 e1 hω1 n1 hkeep b1 hcs h2 l0 l1 t1 L1 hc ht htl
    generalize (wholes E t).length = wl at *
    unfold str at hr d0 L1' L2 ⊢
    generalize hx1 : (⟨(p1 t).toArray⟩ : ByteArray) = x1 at *
    have HX1 : Hid (str (p1 t) = .string x1) := by show _ = _; unfold str; rw [hx1]
    generalize (⟨t.toArray⟩ : ByteArray) = x at *
    generalize (⟨(p0 t).toArray⟩ : ByteArray) = x0 at *
    clear hx1
    go_enter Try.func41, Try.ntmps41
    go_wp2_with fail
    refine L1'.out.mono ?_
    rintro e w2 ⟨rfl, ω2, k2, e2, f2⟩
    obtain ⟨c2, s2⟩ := hkeep'.out ω2 w2 e2 f2
    have d1 : w2.cell? ⟨pb, po + 1, none⟩ = some (.string x1) := by
      rcases s2 with h | ⟨b', o', he, hcs⟩
      · cases h
      · cases he
        rw [hcs 1 (p1 t) rfl, HX1.out]
    have L3 : Aside (Calls _ _ _ _ _) := L2.out ω2 w2 k2
    have Q2 : Aside (∀ w3, _ → Q (.returned (.tuple #[])) w3) := fun w3 hq => Q1.out ω2 w2 w3 e2 f2 hq
    clear L2 L1' k2 e2 f2 hkeep' s2 Q1
    go_wp2_with fail
    refine L3.out.mono ?_
    rintro e w3 hq
    have he := hq.1
    subst he
    have Q3 := Q2.out w3 hq
    clear L3 Q2 hq
    go_wp2
    exact ⟨rfl, .tuple #[], results_none rfl _ _ _, Q3⟩
  · by_cases hS : Tm.kindOf t = 115
    · have h2 := two_parts hc (.inr hS)
      have l0 : (p0 t).length ≤ 2000 := part_len (t := t) (by rw [h2]; simp)
      have l1 : (p1 t).length ≤ 2000 := part_len (t := t) (by rw [h2]; simp)
      have KN := knows_any ω1 pm bv bk σ (p0 t) (w.alloc s0) h1 l0
      have L2 : Aside (∀ w2, (w.alloc s0).grownBy w2 none → Calls Try.prog 40 #[.pointer (some ⟨pm, 0, none⟩), str (p1 t)] w2 (LearnPost ω1 pm bv bk w2 (lrn σ (p1 t)))) := by
        intro w2 hg
        exact learn_any ω1 pm bv bk _ _ w2 (h1.grown hg (fun _ h => by cases h)) l1 (by omega) (by omega)
      have Q1 : Aside (∀ w2 w3, p0 t ∈ σ.1 → (w.alloc s0).grownBy w2 none → LearnPost ω1 pm bv bk w2 (lrn σ (p1 t)) (.returned (.tuple #[])) w3 → LearnPost ω pm bv bk w (tkA σ t) (.returned (.tuple #[])) w3) := by
        intro w2 w3 hin hg hq
        unfold tkA; rw [if_neg hP, if_pos hS, if_pos hin]
        exact learn_then f1 e1 (learn_then (Fix.grown hg (fun _ h => by cases h)) (Ext.refl _ _) hq)
      have Q0 : Aside (∀ w2, p0 t ∉ σ.1 → (w.alloc s0).grownBy w2 none → LearnPost ω pm bv bk w (tkA σ t) (.returned (.tuple #[])) w2) := by
        intro w2 hin hg
        unfold tkA; rw [if_neg hP, if_pos hS, if_neg hin]
        exact learn_then (ω' := ω1) f1 e1 ⟨rfl, ω1, h1.grown hg (fun _ h => by cases h), Ext.refl _ _, Fix.grown hg (fun _ h => by cases h)⟩
      generalize LearnPost ω pm bv bk w (tkA σ t) = Q at Q1 Q0 ⊢
      have t1 : ((Tm.kindOf t).toNat : Int) = 115 := by rw [hS]; rfl
      rw [t1] at hr hs0
      rw [h2] at hr b1 hp hs0 hkeep
      simp only [List.length_cons, List.length_nil] at hr b1 hs0 hkeep
      have hkeep' : Aside (∀ w2, (w.alloc s0).grownBy w2 none → w2.cell? ⟨w.heap.size, 1, none⟩ = some (.slice pa 2 pc) ∧ AtS w2 pa [p0 t, p1 t]) := fun w2 hg => hkeep.out ω1 w2 (Ext.refl _ _) (Fix.grown hg (fun _ h => by cases h))
      obtain ⟨pb, po, rfl, hcs⟩ : ∃ b off, pa = some ⟨b, off, none⟩ ∧ ∀ j x, [p0 t, p1 t][j]? = some x → (w.alloc s0).cell? ⟨b, off + j, none⟩ = some (str x) := by
        rcases atS_later ((Below.refl _ w).alloc (Nat.le_refl _) s0) hp with h | h
        · cases h
        · exact h
      have d0 := hcs 0 (p0 t) rfl
      rw [Nat.add_zero] at d0
      have L1' : Aside (Calls Try.prog 33 #[.pointer (some ⟨pm, 0, none⟩), str (p0 t)] (w.alloc s0) (fun e w' => e = .returned (.bool (decide (p0 t ∈ σ.1))) ∧ (w.alloc s0).grownBy w' none)) := KN
      subst hs0
      clear h hv h1 hk hf hP hS hpo hp f1 e1 hω1 n1 hkeep b1 hcs h2 l0 l1 t1 KN hc ht htl
      generalize (wholes E t).length = wl at *
      unfold str at hr d0 L1' L2 ⊢
      generalize hx1 : (⟨(p1 t).toArray⟩ : ByteArray) = x1 at *
      have HX1 : Hid (str (p1 t) = .string x1) := by show _ = _; unfold str; rw [hx1]
      generalize (⟨t.toArray⟩ : ByteArray) = x at *
      generalize (⟨(p0 t).toArray⟩ : ByteArray) = x0 at *
      clear hx1
      by_cases hin : p0 t ∈ σ.1
      · rw [decide_eq_true hin] at L1'
        have Q1' : Aside (∀ w2 w3, _ → _ → Q _ w3) := fun w2 w3 => Q1.out w2 w3 hin
        clear Q0 Q1 hin
        go_enter Try.func41, Try.ntmps41
        go_wp2_with fail
        refine L1'.out.mono ?_
        rintro e w2 ⟨rfl, hg⟩
        obtain ⟨c2, s2⟩ := hkeep'.out w2 hg
        have d1 : w2.cell? ⟨pb, po + 1, none⟩ = some (.string x1) := by
          rcases s2 with h | ⟨b', o', he, hcs⟩
          · cases h
          · cases he
            rw [hcs 1 (p1 t) rfl, HX1.out]
        have L3 : Aside (Calls _ _ _ _ _) := L2.out w2 hg
        have Q2 : Aside (∀ w3, _ → Q (.returned (.tuple #[])) w3) := fun w3 hq => Q1'.out w2 w3 hg hq
        clear L2 L1' hg hkeep' s2 Q1'
        go_wp2_with fail
        refine L3.out.mono ?_
        rintro e w3 hq
        have he := hq.1
        subst he
        have Q3 := Q2.out w3 hq
        clear L3 Q2 hq
        go_wp2
        exact ⟨rfl, .tuple #[], results_none rfl _ _ _, Q3⟩
      · rw [decide_eq_false hin] at L1'
        have Q0' : Aside (∀ w2, _ → Q _ w2) := fun w2 => Q0.out w2 hin
        clear Q0 Q1 hin
        go_enter Try.func41, Try.ntmps41
        go_wp2_with fail
        refine L1'.out.mono ?_
        rintro e w2 ⟨rfl, hg⟩
        have Q2 := Q0'.out w2 hg
        clear L2 L1' hg hkeep' Q0'
        go_wp2
        exact ⟨rfl, .tuple #[], results_none rfl _ _ _, Q2⟩
    · have Q1 : Aside (∀ w', w' = w.alloc s0 → LearnPost ω pm bv bk w (tkA σ t) (.returned (.tuple #[])) w') := by
        rintro w' rfl
        refine ⟨rfl, ω1, ?_, e1, f1⟩
        unfold tkA; rw [if_neg hP, if_neg hS]; exact h1
      generalize LearnPost ω pm bv bk w (tkA σ t) = Q at Q1 ⊢
      have t1 : (((Tm.kindOf t).toNat : Int) == 112) = false := by
        have : ¬ ((Tm.kindOf t).toNat : Int) = 112 := fun e => hP (UInt8.toNat_inj.1 (by simpa using (by omega : (Tm.kindOf t).toNat = 112)))
        simpa using this
      have t2 : (((Tm.kindOf t).toNat : Int) == 115) = false := by
        have : ¬ ((Tm.kindOf t).toNat : Int) = 115 := fun e => hS (UInt8.toNat_inj.1 (by simpa using (by omega : (Tm.kindOf t).toNat = 115)))
        simpa using this
      rw [hs0] at Q1
      clear h hv h1 hk hf hP hS hpo hp hs0 f1 e1 hω1 n1
      generalize ((Tm.kindOf t).toNat : Int) = kk at *
      generalize (Tm.partsOf t).length = pl at *
      generalize (wholes E t).length = wl at *
      unfold str at hr ⊢
      generalize (⟨t.toArray⟩ : ByteArray) = x at *
      go_enter Try.func41, Try.ntmps41
      go_wp2
      exact ⟨rfl, .tuple #[], results_none rfl _ _ _, Q1.out _ rfl⟩

end Go.Proofs.Ytdpnffnogckfjaa
