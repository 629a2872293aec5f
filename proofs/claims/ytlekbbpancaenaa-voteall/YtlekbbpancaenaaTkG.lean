/- Of a talk: a vote is taken out of those under way. -/
import Derived.Test.YtlekbbpancaenaaTkC
namespace Go.Proofs.Ytlekbbpancaenaa
open Go.RowKit Go.Shelf

set_option maxRecDepth 100000 in
theorem cut_way {g o L cap i m : Nat} (hi : i < L) (hL : L ≤ cap) (hm : m = L - (i + 1)) (_hb : L ≤ 100000) : ∃ ad c,
    (∀ W, (Instr.slice 65 (.slice (some ⟨g, o, none⟩) L cap) none (some (.int .i64 (i : Int))) (some (.int .i64 (i : Int)))).run Try.prog W = .ok (.slice (some ⟨g, o, none⟩) i i) W) ∧
    (∀ W, (Instr.sliceAt 65 (.slice (some ⟨g, o, none⟩) L cap) none (some (.int .i64 (i : Int))) (some (.int .i64 (i : Int)))).run Try.prog W = .ok (.slice (some ⟨g, o, none⟩) i i) W) ∧
    (∀ W, (Instr.slice 65 (.slice (some ⟨g, o, none⟩) L cap) (some (.int .i64 ((i : Int) + 1))) none none).run Try.prog W = .ok (.slice (some ad) m c) W) ∧
    (∀ W, (Instr.sliceAt 65 (.slice (some ⟨g, o, none⟩) L cap) (some (.int .i64 ((i : Int) + 1))) none none).run Try.prog W = .ok (.slice (some ad) m c) W) ∧ (0 < m → ad = ⟨g, o + (i + 1) * 4, none⟩) := by
  have hs : ∀ W, (sizeOf 69).run Try.prog W = .ok 4 W := fun W => by kernel_rfl
  have e1 : ∀ W, (Instr.slice 65 (.slice (some ⟨g, o, none⟩) L cap) none (some (.int .i64 (i : Int))) (some (.int .i64 (i : Int)))).run Try.prog W = .ok (.slice (some ⟨g, o, none⟩) i i) W := fun W => by
    rw [run_slice_hm (P := Try.prog) (w := W) 65 (some ⟨g, o, none⟩) L cap Try.underlying65 .i64 .i64 (i : Int) (i : Int) (by omega) (Int.le_refl _) (by omega)]
    show ((sizeOf 69).run Try.prog W).andThen _ = _
    rw [hs]
    show Result.ok (sliced (some ⟨g, o, none⟩) 0 (i : Int).toNat (i : Int).toNat 4) W = _
    rw [Int.toNat_natCast]
    unfold sliced
    by_cases h0 : i = 0
    · rw [if_pos h0]; simp
    · rw [if_neg h0]; simp [Addr.add]
  obtain ⟨ad, had, had2⟩ : ∃ ad, (if cap = i + 1 then (some ⟨g, o, none⟩ : Option Addr) else (some ⟨g, o, none⟩ : Option Addr).map (·.add ((i + 1) * 4))) = some ad ∧ (0 < m → ad = ⟨g, o + (i + 1) * 4, none⟩) := by
    by_cases hc : cap = i + 1
    · exact ⟨_, if_pos hc, fun h => by omega⟩
    · exact ⟨_, if_neg hc, fun _ => by show (⟨g, o, none⟩ : Addr).add ((i + 1) * 4) = _; rw [add_cell]⟩
  have e2 : ∀ W, (Instr.slice 65 (.slice (some ⟨g, o, none⟩) L cap) (some (.int .i64 ((i : Int) + 1))) none none).run Try.prog W = .ok (.slice (some ad) m (cap - (i + 1))) W := fun W => by
    rw [run_slice_l (P := Try.prog) (w := W) 65 (some ⟨g, o, none⟩) L cap Try.underlying65 .i64 ((i : Int) + 1) (by omega) (by omega)]
    show ((sizeOf 69).run Try.prog W).andThen _ = _
    rw [hs]
    show Result.ok (sliced (some ⟨g, o, none⟩) ((i : Int) + 1).toNat L cap 4) W = _
    have et : ((i : Int) + 1).toNat = i + 1 := by omega
    rw [et]
    unfold sliced
    rw [had, hm]
  refine ⟨ad, cap - (i + 1), e1, fun W => ?_, e2, fun W => ?_, had2⟩
  · rw [run_sliceAt_slice (P := Try.prog) (w := W) 65 _ _ _ _ Try.underlying65]; exact e1 W
  · rw [run_sliceAt_slice (P := Try.prog) (w := W) 65 _ _ _ _ Try.underlying65]; exact e2 W
theorem wayC_take (l : List Vt.Und) (i : Nat) : (wayC l).take (i * 4) = wayC (l.take i) := by
  induction l generalizing i with
  | nil => simp [wayC]
  | cons a l ih =>
    cases i with
    | zero => simp [wayC]
    | succ i =>
      show (undC a ++ wayC l).take ((i + 1) * 4) = undC a ++ wayC (l.take i)
      rw [List.take_append]
      have e : (undC a).take ((i + 1) * 4) = undC a := List.take_of_length_le (by show 4 ≤ _; omega)
      have e2 : (i + 1) * 4 - (undC a).length = i * 4 := by show (i + 1) * 4 - 4 = _; omega
      rw [e, e2, ih]
theorem wayC_drop (l : List Vt.Und) (i : Nat) : (wayC l).drop (i * 4) = wayC (l.drop i) := by
  induction l generalizing i with
  | nil => simp [wayC]
  | cons a l ih =>
    cases i with
    | zero => simp [wayC]
    | succ i =>
      show (undC a ++ wayC l).drop ((i + 1) * 4) = wayC (l.drop i)
      rw [List.drop_append]
      have e : (undC a).drop ((i + 1) * 4) = [] := List.drop_of_length_le (by show 4 ≤ _; omega)
      have e2 : (i + 1) * 4 - (undC a).length = i * 4 := by show (i + 1) * 4 - 4 = _; omega
      rw [e, e2, ih]; rfl
/-- A vote taken out of the row. -/
theorem cut_append {w : World} {B g o L cap i m c N : Nat} {ad : Addr} {l : List Vt.Und} (i0 : TypeInfo) (hi0 : Try.prog.info? 69 = some i0 ∧ i0.zero = some (.agg #[.int .u8 0, .int .u8 0, .int .i64 0, .string ⟨#[]⟩]) ∧ i0.size = 4 ∧ i0.bytes = 32)
    (h : WRow w B (.slice (some ⟨g, o, none⟩) L cap) L (wayC l)) (hl : l.length = L) (hi : i < L) (hm : m = L - (i + 1)) (had : 0 < m → ad = ⟨g, o + (i + 1) * 4, none⟩) (hb : L ≤ 90000) (hN : N = L - 1) (hB : B ≤ w.heap.size) :
    ∃ g' o' cap' w1, (Builtin.append_ #[65, 65] 65 #[.slice (some ⟨g, o, none⟩) i i, .slice (some ad) m c]).run Try.prog w = .ok (.slice (some ⟨g', o', none⟩) N cap') w1 ∧ WRow w1 B (.slice (some ⟨g', o', none⟩) N cap') N (wayC (l.eraseIdx i)) ∧ w.grownBy w1 (some g) ∧ (g' = g ∨ g' = w.heap.size) := by
  have hE : l.eraseIdx i = l.take i ++ l.drop (i + 1) := List.eraseIdx_eq_take_drop_succ l i
  rcases h.2 with ⟨e, _⟩ | ⟨g2, o2, cap2, cur, e, hbg, hg, hnc, hcm, hcs, htake⟩
  · cases e
  obtain ⟨e1, -, e3⟩ := Value.slice.inj e
  obtain ⟨rfl, rfl, _⟩ := Addr.mk.inj (Option.some.inj e1)
  subst e3
  have htk : (cur.toList.drop o).take (i * 4) = wayC (l.take i) := by
    rw [← wayC_take, ← htake, List.take_take, Nat.min_eq_left (by omega)]
  have D : WRow w B (.slice (some ⟨g, o, none⟩) i i) i (wayC (l.take i)) := ⟨by rw [wayC_len, List.length_take]; omega, .inr ⟨g, o, i, cur, rfl, hbg, hg, Nat.le_refl _, by omega, by omega, htk⟩⟩
  have hcell' : ∀ j u, (wayC l)[j]? = some u → w.cell? ⟨g, o + j, none⟩ = some u := by
    obtain ⟨g3, o3, c3, e4, _, hc3⟩ := h.form (by omega)
    obtain ⟨rfl, rfl, _⟩ := Addr.mk.inj (Option.some.inj (Value.slice.inj e4).1)
    exact hc3
  have hnews : ∀ j u, (wayC (l.drop (i + 1)))[j]? = some u → w.cell? ⟨g, o + (i + 1) * 4 + j, none⟩ = some u := fun j u hu => by
    rw [← wayC_drop, List.getElem?_drop] at hu
    rw [Nat.add_assoc]
    exact hcell' _ _ hu
  by_cases h0 : 0 < m
  · have := had h0
    subst this
    obtain ⟨g', o', cap', w1, hr, h2, h3, h4⟩ := run_append_ws (c := c) 65 i0 hi0 D (m := m) (news := wayC (l.drop (i + 1))) (by rw [wayC_len, List.length_drop]; omega) hnews (wayC_one _) h0 (by omega) hB N (by omega) w.heap.size rfl
    refine ⟨g', o', cap', w1, hr, by rw [hE, wayC_app]; exact h2, h3, ?_⟩
    rcases h4 with q | q
    · exact .inl (Option.some.inj q).symm
    · exact .inr q
  · have hm0 : m = 0 := by omega
    have hd : l.drop (i + 1) = [] := List.drop_of_length_le (by omega)
    rw [hm0]
    have hN' : N = i := by omega
    have hr : (Builtin.append_ #[65, 65] 65 #[.slice (some ⟨g, o, none⟩) i i, .slice (some ad) 0 c]).run Try.prog w = .ok (.slice (some ⟨g, o, none⟩) i i) w := by
      have hf := run_firstCells_some (P := Try.prog) w 4 0 ad 0 c [] (by simp) (fun j u hu => nomatch hu)
      simp [Builtin.append_, run_underlying Try.underlying65, sizeOf, typeInfo, hi0.1, hi0.2.2.1, Builtin.lenOf, hf, storeCells]
    refine ⟨g, o, i, w, by rw [hN']; exact hr, ?_, ⟨rfl, rfl, rfl, Nat.le_refl _, fun _ _ _ => rfl⟩, .inl rfl⟩
    rw [hE, hd, List.append_nil, hN']
    exact D
/-- At a step of a region that draws: the operation's run is known. -/
theorem step_append_run {w w' : World} {ops : Array Oper} {o : Oper} {a : Act} {K : Act → World → Prop} {Q : Exit → Act → World → Prop} {E : Prop} {v y v' : Value} (hgd : o.guard = none) (s x : Operand)
    (hop : o.op = .call { callee := .builtin .append, args := #[s, x], argTypes := #[65, 65] }) (hty : o.type = 65) (hs : a.eval s = v) (hx : a.eval x = y) (hr : (Builtin.append_ #[65, 65] 65 #[v, y]).run Try.prog w = .ok v' w') (hK : K (a.put o.dst v') w') :
    if Region.wanted o (yielded ops a.tmps) = true then Oper.wp Try.prog o a w K Q else E := by
  have hw : Region.wanted o (yielded ops a.tmps) = true := by simp [Region.wanted, hgd]
  rw [if_pos hw]
  unfold Oper.wp execOp
  simp only [hop, resolve, invoke, builtin, Sem.run_bind, Sem.run_pure, Result.andThen_ok, List.map_toArray, List.map_cons, List.map_nil, hs, hx, hty, hr]
  exact hK
end Go.Proofs.Ytlekbbpancaenaa
