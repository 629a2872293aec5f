/- One cast more, put into a row of one's own. -/
import Derived.Test.YtfjdopmjcddnlaaBtG
import Derived.Shelf.Spec.SlicesInsertGrow
import Derived.Maps.AppendAt
set_option linter.unusedVariables false
namespace Go.Proofs.Ytfjdopmjcddnlaa
open Go.RowKit Go.Shelf Cn Rl Bt

/-- What Insert answers: a row with one more. -/
def InsPost (B : Nat) (v : Value) (n i : Nat) (R V : List Value) (w : World) (e : Ending) (w' : World) : Prop :=
  ∃ a' c', e = .returned (.slice a' (n + 1) c') ∧ w'.ownsRow B 44 3 (.slice a' (n + 1) c') (n + 1) (R.take (i * 3) ++ (V ++ R.drop (i * 3))) ∧ w.grownBy w' v.ownBlock ∧ ((Value.slice a' (n + 1) c').ownBlock = v.ownBlock ∨ (Value.slice a' (n + 1) c').ownBlock = some w.heap.size)
theorem sz44 : (Try.prog.info? 44).map (·.size) = some 3 := by kernel_rfl

set_option maxHeartbeats 4000000 in
set_option maxRecDepth 100000 in
theorem insert_end (B : Nat) (a : Option Addr) (n cap vb vc : Nat) (R V : List Value) (w : World) (hB : B ≤ w.heap.size) (h : w.ownsRow B 44 3 (.slice a n cap) n R) (hV : V.length = 3) (h1v : ∀ u ∈ V, u.oneCell' = true) (hvc : ∀ j u, V[j]? = some u → w.cell? ⟨vb, j, none⟩ = some u) (hn : n ≤ 1000) (hnc : n ≤ cap) (hc63 : cap ≤ 9223372036854775807) :
    Calls Try.prog 29 #[.slice a n cap, .int .i64 (n : Nat), .slice (some ⟨vb, 0, none⟩) 1 vc] w (InsPost B (.slice a n cap) n n R V w) := by
  obtain ⟨i0, hi, hz0, hz1, hz2⟩ := info_parts info44
  have I : Aside (Try.prog.info? 44 = some i0 ∧ i0.zero = some (.agg #[.int .u8 0, .bool false, .int .u8 0]) ∧ i0.size = 3 ∧ i0.bytes = 3) := ⟨hi, hz0, hz1, hz2⟩
  clear hi hz0 hz1 hz2
  have O : Aside (w.ownsRow B 44 3 (.slice a n cap) n R) := h
  have HV : Aside (V.length = 3 ∧ (∀ u ∈ V, u.oneCell' = true) ∧ ∀ j u, V[j]? = some u → w.cell? ⟨vb, j, none⟩ = some u) := ⟨hV, h1v, hvc⟩
  have R1 : Aside (∀ a' c' w', w'.ownsRow B 44 3 (.slice a' (n + 1) c') (n + 1) (R ++ V) → w.grownBy w' (Value.slice a n cap).ownBlock → ((Value.slice a' (n + 1) c').ownBlock = (Value.slice a n cap).ownBlock ∨ (Value.slice a' (n + 1) c').ownBlock = some w.heap.size) → InsPost B (.slice a n cap) n n R V w (.returned (.slice a' (n + 1) c')) w') := fun a' c' w' x y z => by
    refine ⟨a', c', rfl, ?_, y, z⟩
    have hl := h.1
    rw [List.take_of_length_le (by omega), List.drop_of_length_le (by omega), List.append_nil]; exact x
  generalize InsPost B (.slice a n cap) n n R V w = Q at R1 ⊢
  clear h hV h1v hvc
  by_cases hcn : cap = n
  · have hcn' := hcn.symm
    subst hcn'
    clear hcn
    go_enter Try.func29, Try.ntmps29
    go_wp2_with (at_builtin; refine wpList_append_own_at _ rfl _ _ 35 rfl B 44 i0 (.agg #[.int .u8 0, .bool false, .int .u8 0]) 3 3 Try.underlying35 I.out.1 I.out.2.1 I.out.2.2.1 I.out.2.2.2 rfl (by decide) _ n R rfl O.out ⟨vb, 0, none⟩ 1 vc V rfl ?qc1 ?qc2 ?qc3 ?qc4 ?qc5 ?qc6 ?_)
    case qc1 => rw [HV.out.1]
    case qc2 => intro j u hj; rw [Addr.add_lit, Nat.zero_add]; exact HV.out.2.2 j u hj
    case qc3 => exact HV.out.2.1
    case qc4 => unfold maxLen; omega
    case qc5 => omega
    case qc6 => exact hB
    intro v' w1 hown hgrow hnil hat
    obtain ⟨a', c', rfl⟩ : ∃ a' c', v' = .slice a' (n + 1) c' := by
      rcases hown.2 with ⟨_, e2⟩ | ⟨g, c2, _, e2, _⟩
      · omega
      · exact ⟨_, _, e2⟩
    have Q1 : Aside _ := R1.out a' c' w1 hown hgrow hat
    clear hown hgrow hnil hat R1 O HV I
    go_wp2
    exact Q1.out
  · have hcn2 : ¬ (n = cap) := fun e => hcn e.symm
    go_enter Try.func29, Try.ntmps29
    go_wp2_with (at_builtin; refine wpList_append_own_at _ rfl _ _ 35 rfl B 44 i0 (.agg #[.int .u8 0, .bool false, .int .u8 0]) 3 3 Try.underlying35 I.out.1 I.out.2.1 I.out.2.2.1 I.out.2.2.2 rfl (by decide) _ n R rfl O.out ⟨vb, 0, none⟩ 1 vc V rfl ?qc1 ?qc2 ?qc3 ?qc4 ?qc5 ?qc6 ?_)
    case qc1 => rw [HV.out.1]
    case qc2 => intro j u hj; rw [Addr.add_lit, Nat.zero_add]; exact HV.out.2.2 j u hj
    case qc3 => exact HV.out.2.1
    case qc4 => unfold maxLen; omega
    case qc5 => omega
    case qc6 => exact hB
    intro v' w1 hown hgrow hnil hat
    obtain ⟨a', c', rfl⟩ : ∃ a' c', v' = .slice a' (n + 1) c' := by
      rcases hown.2 with ⟨_, e2⟩ | ⟨g, c2, _, e2, _⟩
      · omega
      · exact ⟨_, _, e2⟩
    have Q1 : Aside _ := R1.out a' c' w1 hown hgrow hat
    clear hown hgrow hnil hat R1 O HV I
    go_wp2
    exact Q1.out

theorem list_ins (C R V : List Value) (i n : Nat) (hl : R.length = n * 3) (hi : i < n) (hC : C.take (n * 3) = R) (hc : (n + 1) * 3 ≤ C.length) (hV : V.length = 3) :
    (splice (splice C ((i + 1) * 3) (R.drop (i * 3))) (i * 3) V).take ((n + 1) * 3) = R.take (i * 3) ++ (V ++ R.drop (i * 3)) := by
  have hx : R.take (i * 3) = C.take (i * 3) := by rw [← hC, List.take_take, Nat.min_eq_left (by omega)]
  rw [hx]
  have hd : (R.drop (i * 3)).length = (n - i) * 3 := by rw [List.length_drop, hl]; omega
  generalize R.drop (i * 3) = D at hd
  unfold splice
  have e1 : (List.take ((i + 1) * 3) C ++ (D ++ List.drop ((i + 1) * 3 + D.length) C)).take (i * 3) = C.take (i * 3) := by
    rw [List.take_append_of_le_length (by rw [List.length_take]; omega), List.take_take, Nat.min_eq_left (by omega)]
  have e2 : (List.take ((i + 1) * 3) C ++ (D ++ List.drop ((i + 1) * 3 + D.length) C)).drop (i * 3 + V.length) = D ++ List.drop ((i + 1) * 3 + D.length) C := by
    have hk : i * 3 + V.length = (List.take ((i + 1) * 3) C).length := by rw [List.length_take, hV]; omega
    rw [hk, List.drop_left]
  rw [e1, e2]
  rw [← List.append_assoc, ← List.append_assoc, List.take_append_of_le_length (by rw [List.length_append, List.length_append, List.length_take, hV, hd]; omega), List.take_of_length_le (by rw [List.length_append, List.length_append, List.length_take, hV, hd]; omega), List.append_assoc]

set_option maxHeartbeats 4000000 in
set_option maxRecDepth 100000 in
theorem insert_room (B g n cap vb vc i m : Nat) (R V : List Value) (w : World) (hm : m = 1) (h : w.ownsRow B 44 3 (.slice (some ⟨g, 0, none⟩) n cap) n R) (hR1 : ∀ u ∈ R, u.oneCell' = true) (hV : V.length = 3) (h1v : ∀ u ∈ V, u.oneCell' = true) (hvb : w.heap[vb]? = some (.cells V.toArray 44 (0, 0))) (hne : vb ≠ g) (hn : n ≤ 1000) (hi : i < n) (hroom : n + 1 ≤ cap) :
    Calls Try.prog 29 #[.slice (some ⟨g, 0, none⟩) n cap, .int .i64 (i : Nat), .slice (some ⟨vb, 0, none⟩) m vc] w (InsPost B (.slice (some ⟨g, 0, none⟩) n cap) n i R V w) := by
  obtain ⟨hRl, h2⟩ := h
  rcases h2 with ⟨h2, _⟩ | ⟨g', cap', cur, h2, hBg, hg, hnc, hcm, hsz, htk⟩
  · cases h2
  obtain ⟨eg', rfl⟩ : g = g' ∧ cap = cap' := by
    obtain ⟨a1, a2, a3⟩ := Value.slice.inj h2
    exact ⟨congrArg Addr.block (Option.some.inj a1), a3⟩
  subst eg'
  clear h2
  have hcell : ∀ j u, R[j]? = some u → w.cell? ⟨g, j, none⟩ = some u := fun j u hu => by
    have hj := (List.getElem?_eq_some_iff.1 hu).1
    rw [cell_of_row w g _ _ 44 _ hg]
    rw [← htk, List.getElem?_take] at hu
    split at hu
    · simpa using hu
    · cases hu
  have hsome : ∀ j, j < cap * 3 → (w.cell? ⟨g, j, none⟩).isSome = true := fun j hj => by
    rw [cell_of_row w g _ _ 44 _ hg, Array.getElem?_eq_getElem (by omega)]; rfl
  have hfz : ∀ j, w.frozen? ⟨g, j, none⟩ = false := fun j => frozen_of_row w g j _ 44 hg
  have hvc : ∀ j u, V[j]? = some u → w.cell? ⟨vb, j, none⟩ = some u := fun j u hu => by rw [cell_of_row w vb _ _ 44 _ hvb]; simpa using hu
  have hd : (R.drop (i * 3)).length = (n - i) * 3 := by rw [List.length_drop, hRl]; omega
  obtain ⟨D, hD⟩ : ∃ D, D = R.drop (i * 3) := ⟨_, rfl⟩
  rw [← hD] at hd
  have hD1 : ∀ u ∈ D, u.oneCell' = true := fun u hu => by rw [hD] at hu; exact hR1 u (List.mem_of_mem_drop hu)
  have hov : ∀ lb cb, (callFunc 44 #[.slice (some ⟨vb, 0, none⟩) m vc, .slice (some ⟨g, (i + m) * 3, none⟩) lb cb]).run Try.prog w = .ok (.value (.bool false)) w := fun lb cb => by
    rw [run_callFunc_extern Try.func44 (by kernel_rfl) (by kernel_rfl) (by kernel_rfl) (e := Extern.SlicesOverlaps.overlaps #[35, 35] #[4]) (by kernel_rfl),
      Lib.run_overlaps_apart w 35 4 44 Try.underlying35 3 Try.sizeOf44 ⟨vb, 0, none⟩ ⟨g, (i + m) * 3, none⟩ m vc lb cb hne 44 44 3 (cap * 3) (by simp [World.shape?, hvb, hV]) (by simp [World.shape?, hg, hsz]) (by omega) (frozen_of_row w vb _ _ 44 hvb) (frozen_of_row w vb _ _ 44 hvb)]
    rfl
  obtain ⟨W1, hW1⟩ : ∃ W1, W1 = w.drew.setCells g ((i + m) * 3) D := ⟨_, rfl⟩
  have hcp1 : ∀ ty dc sc, (Builtin.copy_ #[35, 35] ty #[.slice (some ⟨g, (i + m) * 3, none⟩) (n + m - (i + m)) dc, .slice (some ⟨g, i * 3, none⟩) (n + m - i) sc]).run Try.prog w.drew = .ok (goInt (Nat.min (n + m - i) (n + m - (i + m)))) W1 := fun ty dc sc => by
    rw [hW1]
    refine run_copy_k w.drew _ _ ty 44 3 g _ _ dc ⟨g, i * 3, none⟩ _ sc D Try.underlying35 sz44 (by rw [hd]; simp only [Nat.min_def]; split <;> omega) (fun j v hj => ?_) (fun j hj => hsome _ (by omega)) (fun j hj => hfz _) hD1
    rw [Addr.add_lit]
    rw [hD, List.getElem?_drop] at hj
    exact hcell _ _ hj
  obtain ⟨cur1, hg1, hc1⟩ : ∃ cur1, W1.heap[g]? = some (.cells cur1 44 (0, 0)) ∧ cur1.toList = splice cur.toList ((i + m) * 3) D := by
    rw [hW1]; exact row_cells D ((i + m) * 3) w.drew cur hg (by rw [hd, hsz]; omega)
  have hc1s : cur1.size = cap * 3 := by
    have := congrArg List.length hc1
    rw [length_splice _ _ _ (by rw [hd]; simp; omega)] at this
    simpa [hsz] using this
  have hvb1 : W1.heap[vb]? = some (.cells V.toArray 44 (0, 0)) := by rw [hW1, heap_cells_far _ _ _ hne]; exact hvb
  have hcp2 : ∀ ty dc, (Builtin.copy_ #[35, 35] ty #[.slice (some ⟨g, i * 3, none⟩) (n + m - i) dc, .slice (some ⟨vb, 0, none⟩) m vc]).run Try.prog W1 = .ok (goInt (Nat.min m (n + m - i))) (W1.setCells g (i * 3) V) := fun ty dc =>
    run_copy_k W1 _ _ ty 44 3 g _ _ dc ⟨vb, 0, none⟩ _ vc V Try.underlying35 sz44 (by rw [hV]; simp only [Nat.min_def]; split <;> omega) (fun j v hj => by rw [Addr.add_lit, Nat.zero_add, cell_of_row W1 vb _ _ 44 _ hvb1]; simpa using hj)
      (fun j hj => by rw [cell_of_row W1 g _ _ 44 _ hg1, Array.getElem?_eq_getElem (by omega)]; rfl) (fun j hj => frozen_of_row W1 g _ _ 44 hg1) h1v
  obtain ⟨cur2, hg2, hc2⟩ := row_cells V (i * 3) W1 cur1 hg1 (by rw [hc1s, hV]; omega)
  have hc2s : cur2.size = cap * 3 := by
    have := congrArg List.length hc2
    rw [length_splice _ _ _ (by rw [hV]; simp; omega)] at this
    simpa [hc1s] using this
  have FIN : Aside (InsPost B (.slice (some ⟨g, 0, none⟩) n cap) n i R V w (.returned (.slice (some ⟨g, 0, none⟩) (n + m) cap)) (W1.setCells g (i * 3) V)) := by
    refine ⟨some ⟨g, 0, none⟩, cap, by rw [hm], ⟨?_, .inr ⟨g, cap, cur2, rfl, hBg, hg2, hroom, hcm, hc2s, ?_⟩⟩, ?_, .inl rfl⟩
    · rw [List.length_append, List.length_append, List.length_take, hV, ← hD, hd, hRl]; omega
    · rw [hc2, hc1, hm, ← hD]
      have := list_ins cur.toList R V i n hRl hi htk (by simp; omega) hV
      rw [← hD] at this
      exact this
    · rw [hW1]
      exact grown_trans (grown_trans (⟨rfl, rfl, rfl, Nat.le_refl _, fun _ _ _ => rfl⟩ : w.grownBy w.drew (some g)) (grown_cells _ _ _)) (grown_cells _ _ _)
  generalize InsPost B (.slice (some ⟨g, 0, none⟩) n cap) n i R V w = Q at FIN ⊢
  have hz1 : ¬ ((m : Int) = 0) := by omega
  have hz2 : ¬ ((i : Int) = (n : Int)) := by omega
  have hw1 : IntKind.i64.wrap ((i : Int) + (m : Int)) = (i : Int) + (m : Int) := by rw [IntKind.wrap_i64]; omega
  have hb1 : (0 : Int) ≤ (i : Int) + (m : Int) := by omega
  have hin : i ≤ n := by omega
  have htn : ((i : Int) + (m : Int)).toNat = i + m := by omega
  have hb2 : ¬ (cap = i + m) := by omega
  have hb3 : (i : Int) ≤ (n : Int) + (m : Int) := by omega
  have hb4 : ¬ (cap = i) := by omega
  have hc63 : cap ≤ 9223372036854775807 := by unfold maxLen at hcm; omega
  have hroom2 : n + m ≤ cap := by omega
  have hm0 : 0 < m := by omega
  generalize W1.setCells g (i * 3) V = W2 at FIN hcp2
  clear hg1 hc1 hc1s hvb1 hg2 hc2 hc2s hD hd hD1 hvc hfz hsome hcell hvb htk hg hcm hsz hBg hRl hR1 hV h1v hroom hW1
  clear hm
  go_enter Try.func29, Try.ntmps29
  go_wp2_with (simp only [hov])
  go_region_law (refine step_copy_runI rfl _ _ 35 35 rfl _ _ (by simp [Act.eval, Act.put]) (by simp [Act.eval, Act.put]) (hcp1 _ _ _) ?_)
  go_wp2_with (at_builtin; refine wpList_copy_runI _ rfl _ _ 35 35 rfl _ _ rfl rfl (hcp2 _ _) ?_)
  exact FIN.out

theorem list_grow (R V Z Z2 : List Value) (i n : Nat) (hl : R.length = n * 3) (hi : i < n) (hV : V.length = 3) (hZ : Z.length = (n + 1 - i) * 3) :
    (splice (splice (R.take (i * 3) ++ Z ++ Z2) (i * 3) V) ((i + 1) * 3) (R.drop (i * 3))).take ((n + 1) * 3) = R.take (i * 3) ++ (V ++ R.drop (i * 3)) := by
  have hA : (R.take (i * 3)).length = i * 3 := by rw [List.length_take, hl]; omega
  have hD : (R.drop (i * 3)).length = (n - i) * 3 := by rw [List.length_drop, hl]; omega
  generalize R.take (i * 3) = A at hA
  generalize R.drop (i * 3) = D at hD
  have e1 : splice (A ++ Z ++ Z2) (i * 3) V = A ++ (V ++ (Z ++ Z2).drop 3) := by
    unfold splice
    rw [List.append_assoc, ← hA, List.take_left, hV, List.drop_length_add_append]
  rw [e1]
  have e2 : splice (A ++ (V ++ (Z ++ Z2).drop 3)) ((i + 1) * 3) D = A ++ (V ++ (D ++ ((Z ++ Z2).drop 3).drop D.length)) := by
    unfold splice
    have hk : (i + 1) * 3 = (A ++ V).length := by rw [List.length_append, hA, hV]; omega
    rw [← List.append_assoc A V, hk, List.take_left, List.drop_length_add_append]
    simp only [List.append_assoc]
  rw [e2, ← List.append_assoc, ← List.append_assoc, List.take_append_of_le_length (by simp only [List.length_append, hA, hV, hD]; omega), List.take_of_length_le (by simp only [List.length_append, hA, hV, hD]; omega), List.append_assoc]

set_option maxHeartbeats 4000000 in
set_option maxRecDepth 100000 in
theorem insert_grow (B g n cap vb vc i m : Nat) (R V : List Value) (w : World) (hm : m = 1) (hB : B ≤ w.heap.size) (h : w.ownsRow B 44 3 (.slice (some ⟨g, 0, none⟩) n cap) n R) (hR1 : ∀ u ∈ R, u.oneCell' = true) (hV : V.length = 3) (h1v : ∀ u ∈ V, u.oneCell' = true) (hvb : w.heap[vb]? = some (.cells V.toArray 44 (0, 0))) (hn : n ≤ 1000) (hi : i < n) (hroom : cap < n + 1) :
    Calls Try.prog 29 #[.slice (some ⟨g, 0, none⟩) n cap, .int .i64 (i : Nat), .slice (some ⟨vb, 0, none⟩) m vc] w (InsPost B (.slice (some ⟨g, 0, none⟩) n cap) n i R V w) := by
  obtain ⟨i0, hi0, hz0, hzs, hzb⟩ := info_parts info44
  obtain ⟨hRl, h2⟩ := h
  rcases h2 with ⟨h2, _⟩ | ⟨g', cap', cur, h2, hBg, hg, hnc, hcm, hsz, htk⟩
  · cases h2
  obtain ⟨eg', rfl⟩ : g = g' ∧ cap = cap' := by
    obtain ⟨a1, a2, a3⟩ := Value.slice.inj h2
    exact ⟨congrArg Addr.block (Option.some.inj a1), a3⟩
  subst eg'
  clear h2
  have hcell : ∀ j u, R[j]? = some u → w.cell? ⟨g, j, none⟩ = some u := fun j u hu => by
    have hj := (List.getElem?_eq_some_iff.1 hu).1
    rw [cell_of_row w g _ _ 44 _ hg]
    rw [← htk, List.getElem?_take] at hu
    split at hu
    · simpa using hu
    · cases hu
  have hgw : g < w.heap.size := (Array.getElem?_eq_some_iff.1 hg).1
  have hvw : vb < w.heap.size := (Array.getElem?_eq_some_iff.1 hvb).1
  obtain ⟨D, hD⟩ : ∃ D, D = R.drop (i * 3) := ⟨_, rfl⟩
  have hd : D.length = (n - i) * 3 := by rw [hD, List.length_drop, hRl]; omega
  have hD1 : ∀ u ∈ D, u.oneCell' = true := fun u hu => by rw [hD] at hu; exact hR1 u (List.mem_of_mem_drop hu)
  have hkk : (n : Int) + (m : Int) - (i : Int) = ((n + m - i : Nat) : Int) := by omega
  have hik : i + (n + m - i) = n + m := by omega
  have hold : (Builtin.firstCells i0.size i (.slice (some ⟨g, 0, none⟩) i cap)).run Try.prog w.drew = .ok (R.take (i * 3)).toArray w.drew := by
    rw [hzs]
    exact run_firstCells_some w.drew 3 i ⟨g, 0, none⟩ i cap (R.take (i * 3)) (by rw [List.length_take, hRl]; omega) (fun j v hj => by
      rw [Addr.add_lit, Nat.zero_add]
      rw [List.getElem?_take] at hj
      split at hj
      · exact hcell j v hj
      · cases hj)
  obtain ⟨G, hG⟩ : ∃ G, G = grownCap w (n + m) cap 44 := ⟨_, rfl⟩
  obtain ⟨ROW, hROW⟩ : ∃ ROW : Array Value, ROW = (R.take (i * 3)).toArray ++ Builtin.zeroCells (Value.agg #[.int .u8 0, .bool false, .int .u8 0]).cells (n + m - i) ++ Builtin.zeroCells (Value.agg #[.int .u8 0, .bool false, .int .u8 0]).cells (G - (n + m)) := ⟨_, rfl⟩
  have hrz : ∀ ty, (Builtin.append_ #[35, 3] ty #[.slice (some ⟨g, 0, none⟩) i cap, .int .i64 ((n : Int) + (m : Int) - (i : Int))]).run Try.prog w =
      .ok (.slice (some ⟨w.heap.size, 0, none⟩) (n + m) G) (w.drew.alloc (.cells ROW 44)) := fun ty => by
    have h := Lib.run_append_grow_zeros w 35 3 ty 44 i0 _ .i64 .i64 Try.underlying35 Try.underlying3 hi0 hz0 (some ⟨g, 0, none⟩) i cap (R.take (i * 3)) hold (n + m - i) (by omega) (by omega) (by omega) (by omega) (by rw [hzb]; omega) (by rw [hzb, hik]; exact growslice_fits (by omega) (by omega))
    rw [hik, ← hG, ← hROW] at h
    rw [hkk]
    exact h
  have hGn : n + m ≤ G := by rw [hG]; exact grownCap_ge w _ _ _
  have hGm : G ≤ maxLen := by rw [hG]; exact grownCap_le_maxLen w (n + m) cap 44 (by unfold maxLen; omega)
  have hzl : ∀ k, (Builtin.zeroCells (Value.agg #[.int .u8 0, .bool false, .int .u8 0]).cells k).size = k * 3 := fun k => by simp [Builtin.zeroCells, Value.cells]
  have hRs : ROW.size = G * 3 := by
    rw [hROW, Array.size_append, Array.size_append, hzl, hzl, List.size_toArray, List.length_take, hRl]; omega
  obtain ⟨W1, hW1⟩ : ∃ W1, W1 = w.drew.alloc (.cells ROW 44) := ⟨_, rfl⟩
  rw [← hW1] at hrz
  have hg1 : W1.heap[w.heap.size]? = some (.cells ROW 44 (0, 0)) := by rw [hW1]; exact heap_alloc_new w.drew _
  have hB1 : Below w.heap.size w W1 := by rw [hW1]; exact (Below.refl _ w).drew.alloc (Nat.le_refl _) _
  have hvb1 : W1.heap[vb]? = some (.cells V.toArray 44 (0, 0)) := (hB1.block vb hvw).trans hvb
  have hcpA : ∀ ty dc, (Builtin.copy_ #[35, 35] ty #[.slice (some ⟨w.heap.size, i * 3, none⟩) (n + m - i) dc, .slice (some ⟨vb, 0, none⟩) m vc]).run Try.prog W1 = .ok (goInt (Nat.min m (n + m - i))) (W1.setCells w.heap.size (i * 3) V) := fun ty dc =>
    run_copy_k W1 _ _ ty 44 3 _ _ _ dc ⟨vb, 0, none⟩ _ vc V Try.underlying35 sz44 (by rw [hV]; simp only [Nat.min_def]; split <;> omega) (fun j v hj => by rw [Addr.add_lit, Nat.zero_add, cell_of_row W1 vb _ _ 44 _ hvb1]; simpa using hj)
      (fun j hj => by rw [cell_of_row W1 _ _ _ 44 _ hg1, Array.getElem?_eq_getElem (by omega)]; rfl) (fun j hj => frozen_of_row W1 _ _ _ 44 hg1) h1v
  obtain ⟨W2, hW2⟩ : ∃ W2, W2 = W1.setCells w.heap.size (i * 3) V := ⟨_, rfl⟩
  obtain ⟨cur2, hg2, hc2⟩ := row_cells V (i * 3) W1 ROW hg1 (by rw [hRs, hV]; omega)
  rw [← hW2] at hcpA hg2
  have hc2s : cur2.size = G * 3 := by
    have := congrArg List.length hc2
    rw [length_splice _ _ _ (by rw [hV]; simp; omega)] at this
    simpa [hRs] using this
  have hgg : W2.heap[g]? = w.heap[g]? := by rw [hW2, heap_cells_far _ _ _ (by omega)]; exact hB1.block g hgw
  have hcpB : ∀ W : World, W.heap = W2.heap → ∀ ty dc sc, (Builtin.copy_ #[35, 35] ty #[.slice (some ⟨w.heap.size, (i + m) * 3, none⟩) (n + m - (i + m)) dc, .slice (some ⟨g, i * 3, none⟩) (n - i) sc]).run Try.prog W = .ok (goInt (Nat.min (n - i) (n + m - (i + m)))) (W.setCells w.heap.size ((i + m) * 3) D) := fun W hWh ty dc sc =>
    run_copy_k W _ _ ty 44 3 _ _ _ dc ⟨g, i * 3, none⟩ _ sc D Try.underlying35 sz44 (by rw [hd]; simp only [Nat.min_def]; split <;> omega)
      (fun j v hj => by
        rw [Addr.add_lit, cell_of_row W g _ _ 44 _ (by rw [hWh, hgg]; exact hg), ← cell_of_row w g _ _ 44 _ hg]
        rw [hD, List.getElem?_drop] at hj
        exact hcell _ _ hj)
      (fun j hj => by rw [cell_of_row W _ _ _ 44 _ (by rw [hWh]; exact hg2), Array.getElem?_eq_getElem (by omega)]; rfl) (fun j hj => frozen_of_row W _ _ _ 44 (by rw [hWh]; exact hg2)) hD1
  have FIN : Aside (∀ W : World, W.heap = W2.heap → W.os = W2.os → W.tape = W2.tape → W.output = W2.output → InsPost B (.slice (some ⟨g, 0, none⟩) n cap) n i R V w (.returned (.slice (some ⟨w.heap.size, 0, none⟩) (n + m) G)) (W.setCells w.heap.size ((i + m) * 3) D)) := fun W e1 e2 e3 e4 => by
    obtain ⟨cur3, hg3, hc3⟩ := row_cells D ((i + m) * 3) W cur2 (by rw [e1]; exact hg2) (by rw [hc2s, hd]; omega)
    have hc3s : cur3.size = G * 3 := by
      have := congrArg List.length hc3
      rw [length_splice _ _ _ (by rw [hd]; simp; omega)] at this
      simpa [hc2s] using this
    refine ⟨some ⟨w.heap.size, 0, none⟩, G, by rw [hm], ⟨?_, .inr ⟨w.heap.size, G, cur3, rfl, hB, hg3, by omega, hGm, hc3s, ?_⟩⟩, ?_, .inr rfl⟩
    · rw [List.length_append, List.length_append, List.length_take, hV, ← hD, hd, hRl]; omega
    · rw [hc3, hc2, hm, hROW]
      have := list_grow R V (Builtin.zeroCells (Value.agg #[.int .u8 0, .bool false, .int .u8 0]).cells (n + m - i)).toList (Builtin.zeroCells (Value.agg #[.int .u8 0, .bool false, .int .u8 0]).cells (G - (n + m))).toList i n hRl hi hV (by rw [Array.length_toList, hzl, hm])
      rw [← hD] at this
      rw [Array.toList_append, Array.toList_append, ← hD]
      exact this
    · have hb2 : Below w.heap.size w W2 := by rw [hW2]; exact hB1.trans ⟨(grown_cells V _ W1).os, (grown_cells V _ W1).tape, (grown_cells V _ W1).output, (grown_cells V _ W1).size, fun k hk => heap_cells_far _ _ _ (by omega)⟩
      have hb3 : Below w.heap.size w W := ⟨e2.trans hb2.os, e3.trans hb2.tape, e4.trans hb2.output, by rw [e1]; exact hb2.size, fun k hk => by rw [e1]; exact hb2.block k hk⟩
      have hb4 : Below w.heap.size w (W.setCells w.heap.size ((i + m) * 3) D) := hb3.trans ⟨(grown_cells D _ W).os, (grown_cells D _ W).tape, (grown_cells D _ W).output, (grown_cells D _ W).size, fun k hk => heap_cells_far _ _ _ (by omega)⟩
      exact grown_of_below hb4 _
  generalize InsPost B (.slice (some ⟨g, 0, none⟩) n cap) n i R V w = Q at FIN ⊢
  have hz1 : ¬ ((m : Int) = 0) := by omega
  have hz2 : ¬ ((i : Int) = (n : Int)) := by omega
  have hz3 : (cap : Int) < (n : Int) + (m : Int) := by omega
  have hG63 : G ≤ 9223372036854775807 := by unfold maxLen at hGm; omega
  have hGi : ¬ (G = i) := by omega
  have hGim : ¬ (G = i + m) := by omega
  have hci : ¬ (cap = i) := by omega
  have hw1 : IntKind.i64.wrap ((i : Int) + (m : Int)) = (i : Int) + (m : Int) := by rw [IntKind.wrap_i64]; omega
  have hb1 : (0 : Int) ≤ (i : Int) + (m : Int) := by omega
  have hin : i ≤ n := by omega
  have htn : ((i : Int) + (m : Int)).toNat = i + m := by omega
  have hb3 : (i : Int) ≤ (n : Int) := by omega
  have hm0 : 0 < m := by omega
  have hm9 : m ≤ 1 := by omega
  have hXX : Aside (W2 = W1.setCells w.heap.size (i * 3) V) := hW2
  clear hkk hik hold hROW hG hRs hg1 hB1 hvb1 hg2 hc2 hc2s hgg hD hd hD1 hcell hvb htk hg hcm hsz hBg hRl hR1 hV h1v hzl hGm hW1 hW2 hi0 hz0 hzs hzb hgw hvw
  clear hm
  go_enter Try.func29, Try.ntmps29
  go_wp2_with (first
    | (at_builtin; refine Lib.wpList_append_run _ rfl _ _ _ _ rfl _ _ rfl rfl _ _ (hrz _) ?_)
    | (at_builtin; refine wpList_copy_runI _ rfl _ _ 35 35 rfl _ _ rfl rfl (hcpA _ _) ?_))
  go_region_law (refine step_copy_runI rfl _ _ 35 35 rfl (.slice (some ⟨w.heap.size, (i + m) * 3, none⟩) (n + m - (i + m)) (G - (i + m))) (.slice (some ⟨g, i * 3, none⟩) (n - i) (cap - i)) (by simp [Act.eval, Act.put]) (by simp [Act.eval, Act.put]) (hcpB W2.drew rfl 3 (G - (i + m)) (cap - i)) ?_)
  go_wp2
  exact FIN.out W2.drew rfl rfl rfl rfl
end Go.Proofs.Ytfjdopmjcddnlaa
