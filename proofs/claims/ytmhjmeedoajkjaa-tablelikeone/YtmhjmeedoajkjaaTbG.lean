/- Open broadcasts cloned; one of them taken out of a row of one's own. -/
import Derived.Test.YtmhjmeedoajkjaaTbF
import Derived.Deep.RegionLaw
set_option linter.unusedVariables false
namespace Go.Proofs.Ytmhjmeedoajkjaa
open Go.RowKit Go.Shelf

theorem info50 : (Try.prog.info? 50).map (fun i => (i.zero, i.size, i.bytes)) = some (some (.agg #[.int .u8 0, .int .i64 0, .bool false, .bool false, .bool false, .slice none 0 0, .slice none 0 0]), 7, 72) := by kernel_rfl
set_option maxHeartbeats 2000000 in
set_option maxRecDepth 100000 in
theorem clone7_any (a : Option Addr) (cap : Nat) (l : List En) (w : World) (h : AtR w a l) (hn : l.length ≤ 1000) :
    Calls Try.prog 36 #[.slice a l.length cap] w fun e w' => ∃ v', e = .returned v' ∧ w'.ownsRow w.heap.size 50 7 v' l.length (rowC l) ∧ Below w.heap.size w w' := by
  obtain ⟨i0, hi, hz0, hz1, hz2⟩ := info_parts info50
  have I : Aside (Try.prog.info? 50 = some i0 ∧ i0.zero = some (.agg #[.int .u8 0, .int .i64 0, .bool false, .bool false, .bool false, .slice none 0 0, .slice none 0 0]) ∧ i0.size = 7 ∧ i0.bytes = 72) := ⟨hi, hz0, hz1, hz2⟩
  clear hi hz0 hz1 hz2
  have q28 : ∀ (w : World) (a : Option Addr) (n c n' c' : Nat), (binOp .eql 28 (.slice a n c) (.slice none n' c')).run Try.prog w = .ok (.bool a.isNone) w := fun w a n c n' c' => Lib.run_eql_slice_nil w _ _ a n c n' c' Try.underlying28
  have u28 : ∀ w, Sem.run Try.prog (underlying 28) w = .ok (TypeDesc.slice 50) w := run_underlying Try.underlying28
  cases a with
  | none =>
    obtain rfl : l = [] := by
      rcases h with h | ⟨b, off, h, _⟩
      · exact h
      · cases h
    go_enter Try.func36, Try.ntmps36
    go_wp2
    go_ret
    exact ⟨_, rfl, World.ownsRow_nil _ _ _ _, Below.refl _ _⟩
  | some ad =>
    have A : Aside (∀ j u, (rowC l)[j]? = some u → w.cell? (ad.add j) = some u) := by
      rcases h with rfl | ⟨b, off, h, hc⟩
      · intro j u hu; simp [rowC] at hu
      · obtain rfl := Option.some.inj h
        intro j u hu
        rw [Addr.add_lit]
        exact hc j u hu
    clear h
    go_enter Try.func36, Try.ntmps36
    go_wp2_with (at_builtin; refine wpList_append_own _ rfl _ _ 28 rfl w.heap.size 50 i0 (.agg #[.int .u8 0, .int .i64 0, .bool false, .bool false, .bool false, .slice none 0 0, .slice none 0 0]) 7 72 Try.underlying28 I.out.1 I.out.2.1 I.out.2.2.1 I.out.2.2.2 rfl (by decide) _ _ _ rfl (World.ownsRow_made w #[] 0 (Nat.le_refl _) (Nat.zero_le _) (by simp)) ad l.length cap (rowC l) rfl ?qc1 ?qc2 ?qc3 ?qc4 ?qc5 ?qc6 ?_)
    case qc1 => exact rowC_len l
    case qc2 =>
      intro j u hj
      exact Lib.cell?_alloc_some _ (A.out j u hj)
    case qc3 => exact rowC_one l
    case qc4 => rw [Nat.zero_add]; unfold maxLen; omega
    case qc5 => rw [Nat.zero_add]; omega
    case qc6 => simp
    intro v' w1 hown hgrow hnil
    go_wp2
    go_ret
    refine ⟨v', rfl, by simpa using hown, ?_⟩
    exact ((Below.refl _ w).alloc (Nat.le_refl _) _).grown hgrow (by simp) (by intro k hk; simp [Value.ownBlock] at hk; omega)

/-- A row of one's own, and one element less. -/
theorem list_del (C R : List Value) (i n : Nat) (hl : R.length = n * 7) (hi : i < n) (hC : C.take (n * 7) = R) (hz : zero7.length = 7) :
    (splice (splice C (i * 7) (R.drop ((i + 1) * 7))) ((n - 1) * 7) zero7).take ((n - 1) * 7) = R.take (i * 7) ++ R.drop ((i + 1) * 7) := by
  have hCl : n * 7 ≤ C.length := by
    have := congrArg List.length hC
    rw [List.length_take, hl] at this; omega
  have e1 : (splice C (i * 7) (R.drop ((i + 1) * 7))).length = C.length := length_splice _ _ _ (by rw [List.length_drop, hl]; omega)
  have e2 : ∀ X : List Value, (n - 1) * 7 ≤ X.length → (splice X ((n - 1) * 7) zero7).take ((n - 1) * 7) = X.take ((n - 1) * 7) := fun X hX => by
    unfold splice
    rw [List.take_append_of_le_length (by rw [List.length_take]; omega), List.take_take, Nat.min_self]
  rw [e2 _ (by rw [e1]; omega)]
  unfold splice
  rw [← List.append_assoc, List.take_append_of_le_length (by rw [List.length_append, List.length_take, List.length_drop, hl]; omega), List.take_of_length_le (by rw [List.length_append, List.length_take, List.length_drop, hl]; omega)]
  congr 1
  rw [← hC, List.take_take, Nat.min_eq_left (by omega)]
set_option maxHeartbeats 4000000 in
set_option maxRecDepth 100000 in
theorem delete_any (B g n cap i : Nat) (l : List En) (w : World) (h : w.ownsRow B 50 7 (.slice (some ⟨g, 0, none⟩) n cap) l.length (rowC l)) (hn : l.length = n) (hn2 : n ≤ 1000) (hi : i < n) :
    Calls Try.prog 41 #[.slice (some ⟨g, 0, none⟩) n cap, .int .i64 (i : Nat), .int .i64 ((i + 1 : Nat) : Int)] w fun e w' => e = .returned (.slice (some ⟨g, 0, none⟩) (n - 1) cap) ∧ w'.ownsRow B 50 7 (.slice (some ⟨g, 0, none⟩) (n - 1) cap) (n - 1) (rowC (l.take i ++ l.drop (i + 1))) ∧ w.grownBy w' (some g) := by
  obtain ⟨i0, hi0, hz0, hz1, hz2⟩ := info_parts info50
  obtain ⟨h1, h2⟩ := h
  rcases h2 with ⟨h2, _⟩ | ⟨g', cap', cur, h2, hBg, hg, hnc, hcm, hsz, htk⟩
  · cases h2
  have e1 := Value.slice.inj h2
  obtain ⟨eg', rfl, rfl⟩ : g = g' ∧ n = l.length ∧ cap = cap' := by
    obtain ⟨a1, a2, a3⟩ := e1
    exact ⟨congrArg Addr.block (Option.some.inj a1), a2, a3⟩
  subst eg'
  clear h2
  obtain ⟨R, hR⟩ : ∃ R, R = rowC l := ⟨_, rfl⟩
  have hRl : R.length = l.length * 7 := by rw [hR]; exact rowC_len l
  rw [← hR] at htk
  have hcell : ∀ j u, R[j]? = some u → w.cell? ⟨g, j, none⟩ = some u := fun j u hu => by
    have hj := (List.getElem?_eq_some_iff.1 hu).1
    rw [cell_of_row w g _ _ 50 _ hg]
    rw [← htk, List.getElem?_take] at hu
    split at hu
    · simpa using hu
    · cases hu
  have hsome : ∀ j, j < l.length * 7 → (w.cell? ⟨g, j, none⟩).isSome = true := fun j hj => by
    rw [hcell j _ (List.getElem?_eq_getElem (by omega))]; rfl
  have hfz : ∀ j, w.frozen? ⟨g, j, none⟩ = false := fun j => frozen_of_row w g j _ 50 hg
  obtain ⟨news, hnews⟩ : ∃ news, news = R.drop ((i + 1) * 7) := ⟨_, rfl⟩
  have hnl : news.length = (l.length - (i + 1)) * 7 := by rw [hnews, List.length_drop, hRl]; omega
  obtain ⟨A, hA, hsrc⟩ : ∃ A : Addr, (if cap = i + 1 then some (⟨g, 0, none⟩ : Addr) else some ⟨g, (i + 1) * 7, none⟩) = some A ∧ Hid (∀ t u, news[t]? = some u → w.drew.cell? (A.add t) = some u) := by
    by_cases hc : cap = i + 1
    · refine ⟨⟨g, 0, none⟩, by simp [hc], fun t u hu => ?_⟩
      have : news.length = 0 := by rw [hnl]; omega
      rw [List.length_eq_zero_iff.1 this] at hu; simp at hu
    · refine ⟨⟨g, (i + 1) * 7, none⟩, by simp [hc], fun t u hu => ?_⟩
      rw [Addr.add_lit]
      rw [hnews, List.getElem?_drop] at hu
      exact hcell _ _ hu
  have s1 : Hid (news.length = (l.length - (i + 1)) * 7) := hnl
  have s2 : Hid (∀ u ∈ news, u.oneCell' = true) := fun u hu => by rw [hnews] at hu; exact rowC_one l u (by rw [← hR]; exact List.mem_of_mem_drop hu)
  have s3 : Hid (∀ t, t < news.length → (w.drew.cell? ⟨g, 0 + i * 7 + t, none⟩).isSome = true ∧ w.drew.frozen? ⟨g, 0 + i * 7 + t, none⟩ = false) := fun t ht => by
    rw [hnl] at ht
    rw [Nat.zero_add]
    exact ⟨hsome _ (by omega), hfz _⟩
  obtain ⟨W1, hW1⟩ : ∃ W1, W1 = w.drew.setCells g (0 + i * 7) news := ⟨_, rfl⟩
  obtain ⟨cur1, hg1, hc1⟩ : ∃ cur1, W1.heap[g]? = some (.cells cur1 50 (0, 0)) ∧ cur1.toList = splice cur.toList (0 + i * 7) news := by
    rw [hW1]; exact row_cells news (0 + i * 7) w.drew cur hg (by rw [hnl, hsz]; omega)
  have hc1s : cur1.size = cap * 7 := by
    have := congrArg List.length hc1
    rw [length_splice _ _ _ (by rw [hnl]; simp; omega)] at this
    simpa [hsz] using this
  have hfz1 : ∀ j, W1.frozen? ⟨g, j, none⟩ = false := fun j => frozen_of_row W1 g j _ 50 hg1
  have hsome1 : ∀ j, j < cap * 7 → (W1.cell? ⟨g, j, none⟩).isSome = true := fun j hj => by
    rw [cell_of_row W1 g _ _ 50 _ hg1, Array.getElem?_eq_getElem (by omega)]; rfl
  have hcl : ∀ ty c, (Builtin.clear_ #[28] ty #[.slice (some ⟨g, (l.length - 1) * 7, none⟩) 1 c]).run Try.prog W1 = .ok (.tuple #[]) (W1.setCells g ((l.length - 1) * 7) zero7) := fun ty c => run_clear_one W1 ty g _ c (fun j hj => hsome1 _ (by omega)) (fun j hj => hfz1 _)
  obtain ⟨cur2, hg2, hc2⟩ := row_cells zero7 ((l.length - 1) * 7) W1 cur1 hg1 (by rw [hc1s]; show _ + 7 ≤ _; omega)
  have hc2s : cur2.size = cap * 7 := by
    have := congrArg List.length hc2
    rw [length_splice _ _ _ (by show _ + 7 ≤ _; simp; omega)] at this
    simpa [hc1s] using this
  have FIN : Aside ((W1.setCells g ((l.length - 1) * 7) zero7).ownsRow B 50 7 (.slice (some ⟨g, 0, none⟩) (l.length - 1) cap) (l.length - 1) (rowC (l.take i ++ l.drop (i + 1))) ∧ w.grownBy (W1.setCells g ((l.length - 1) * 7) zero7) (some g)) := by
    refine ⟨⟨?_, .inr ⟨g, cap, cur2, rfl, hBg, hg2, by omega, hcm, hc2s, ?_⟩⟩, ?_⟩
    · rw [rowC_len, List.length_append, List.length_take, List.length_drop]; omega
    · rw [hc2, hc1, Nat.zero_add, rowC_append, rowC_take, rowC_drop, ← hR, hnews]
      exact list_del cur.toList R i l.length hRl hi htk rfl
    · rw [hW1]
      exact grown_trans (grown_trans (⟨rfl, rfl, rfl, Nat.le_refl _, fun _ _ _ => rfl⟩ : w.grownBy w.drew (some g)) (grown_cells _ _ _)) (grown_cells _ _ _)
  have hW : Hid (W1 = w.drew.setCells g (0 + i * 7) news) := hW1
  obtain ⟨n, en⟩ : ∃ n, n = l.length := ⟨_, rfl⟩
  obtain ⟨j, ej⟩ : ∃ j, j = i + 1 := ⟨_, rfl⟩
  have e10 : n - (i + (n - j)) = 1 := by omega
  have e11 : l.length - 1 = i + (n - j) := by omega
  rw [e11] at hcl FIN ⊢
  rw [← ej, ← en] at s1 ⊢
  rw [← ej] at hA FIN
  have hcl' : ∀ ty c, (Builtin.clear_ #[28] ty #[.slice (some ⟨g, (i + (n - j)) * 7, none⟩) (n - (i + (n - j))) c]).run Try.prog W1 = .ok (.tuple #[]) (W1.setCells g ((i + (n - j)) * 7) zero7) := fun ty c => by rw [e10]; exact hcl ty c
  have hlt : i < j := by omega
  have hij : i ≤ j := by omega
  have hjn : j ≤ n := by omega
  have hic : i ≤ cap := by omega
  have hjc : j ≤ cap := by omega
  have hne : ¬ (i = j) := by omega
  have hnc2 : n ≤ cap := by omega
  have hc63 : cap ≤ 9223372036854775807 := by unfold maxLen at hcm; omega
  have hr5 : i + (n - j) ≤ cap := by omega
  clear hcl e10 e11 ej hW1 hg1 hc1 hc1s hfz1 hsome1 hg2 hc2 hc2s hcell hsome hfz hnews hnl htk hg hsz hcm hRl hR h1 hz0 hz2 hi hnc hn2
  clear en
  generalize W1.setCells g ((i + (n - j)) * 7) zero7 = W2 at FIN hcl'
  go_enter Try.func41, Try.ntmps41
  go_wp2_with fail
  go_region_law (refine step_append_room rfl (.tmp 22) (.tmp 25) 28 rfl 50 i0 7 Try.underlying28 hi0 hz1 g 0 i cap (by simp [Act.eval, Act.put]) A (n - j) (cap - j) news (by simp [Act.eval, Act.put]) s1.out hsrc.out s2.out (by omega) s3.out ?_; rw [← hW.out])
  go_wp2
  go_ret
  exact ⟨rfl, FIN.out⟩
end Go.Proofs.Ytmhjmeedoajkjaa
