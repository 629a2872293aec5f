/- What pieces gives: the constants of a text's pieces. -/
import Derived.Test.YtimeggbjmcnnoaaLnC
namespace Go.Proofs.Ytimeggbjmcnnoaa
open Go.RowKit Go.Shelf
attribute [local go_sem] Oper.semAt_some

/-- A piece of a text. -/
def pieceOf (bs : List UInt8) (x : Nat × Nat) : List UInt8 := (bs.drop x.1).take x.2
theorem cut_count {bs : List UInt8} (h : 0 < bs.length) : bs.length ≤ 40 * (Tm.cut bs).length ∧ 40 * (Tm.cut bs).length < bs.length + 40 := by
  rw [Tm.cut_len]
  omega
theorem chunks_cut (bs : List UInt8) : (chunks bs.length (Tm.cut bs).length).map (pieceOf bs) = Tm.cut bs := by
  apply List.ext_getElem?
  intro i
  by_cases h : i < (Tm.cut bs).length
  · rw [Tm.cut_at bs i h]
    simp only [chunks, List.map_map, List.getElem?_map, List.getElem?_range h, Option.map_some, Function.comp, pieceOf]
    congr 1
    by_cases g : 40 ≤ bs.length - 40 * i
    · rw [Nat.min_eq_left g]
    · rw [Nat.min_eq_right (by omega), List.take_of_length_le (by rw [List.length_drop]; omega), List.take_of_length_le (by rw [List.length_drop]; omega)]
  · rw [List.getElem?_eq_none (by simp [chunks]; omega), List.getElem?_eq_none (by omega)]
theorem piece_at {w : World} {b : Nat} {bs : List UInt8} (h : AtB w (some ⟨b, 0, none⟩) bs) (x : Pc bs.length) : AtB w (some ⟨b, x.1.1, none⟩) (pieceOf bs x.1) ∧ (pieceOf bs x.1).length = x.1.2 := by
  have hl : (pieceOf bs x.1).length = x.1.2 := by
    have := x.2
    unfold pieceOf
    rw [List.length_take, List.length_drop]
    omega
  refine ⟨?_, hl⟩
  rcases h with e | ⟨b', off, e, hc⟩
  · left
    apply List.eq_nil_of_length_eq_zero
    have := x.2
    have h0 : bs.length = 0 := by rw [e]; rfl
    rw [hl]
    omega
  · cases e
    refine .inr ⟨b, x.1.1, rfl, fun j hj => ?_⟩
    rw [hl] at hj
    have := x.2
    have h2 := hc (x.1.1 + j) (by omega)
    rw [Nat.zero_add] at h2
    rw [h2]
    simp [pieceOf]

theorem keeps_below {W W2 : World} (h : Below W.heap.size W W2) : KeepsOthers W W2 := ⟨h.size, fun k _ hk _ => (h.block k (Array.getElem?_eq_some_iff.1 hk).1).trans hk⟩
theorem boxed_later {W W2 : World} {B : Nat} {t : TypeId} {v : Value} (hv : Boxed W B t v) (h : Below W.heap.size W W2) : Boxed W2 B t v :=
  (h.block B (Array.getElem?_eq_some_iff.1 hv).1).trans hv

/-- What the loop of pieces has made. -/
def PInv (w : World) (bs : List UInt8) (pre : List (Pc bs.length)) (W : World) : Prop :=
  (∃ v, Boxed W w.heap.size 72 v ∧ W.ownsRow (w.heap.size + 3) 22 1 v pre.length (strs (pre.map fun x => Tm.const (pieceOf bs x.1))) ∧ True) ∧ Below w.heap.size w W ∧ w.heap.size + 3 ≤ W.heap.size

theorem pInv_own (w : World) (bs : List UInt8) : OwnFrom (w.heap.size + 3) (PInv w bs) :=
  OwnFrom.and (Own.from (holdsRow_own (w.heap.size + 3) w.heap.size 72 22 1 (fun pre : List (Pc bs.length) => pre.length) (fun pre : List (Pc bs.length) => strs (pre.map fun x : Pc bs.length => Tm.const (pieceOf bs x.1))) (fun _ _ => True)) _) (OwnFrom.and (ownFrom_below (Nat.le_refl _) (by omega)) (fun _ _ _ _ h hg _ => Nat.le_trans h hg.size))

/-- What a round of pieces owes, whatever the order of its operations. -/
theorem pInv_step {w W W2 w1 : World} {bs : List UInt8} {pre : List (Pc bs.length)} {x : Pc bs.length} {v v' : Value} {n : Nat} (hs : w.heap.size + 3 ≤ W.heap.size) (hv : Boxed W w.heap.size 72 v)
    (hr : W.ownsRow (w.heap.size + 3) 22 1 v pre.length (strs (pre.map fun x => Tm.const (pieceOf bs x.1)))) (hB : Below w.heap.size w W) (h2 : Below W.heap.size W W2) (hn : n = pre.length + 1)
    (ho : w1.ownsRow (w.heap.size + 3) 22 1 v' n (strs (pre.map fun x => Tm.const (pieceOf bs x.1)) ++ [str (Tm.const (pieceOf bs x.1))])) (hg : (W2.alloc (.cells #[str (Tm.const (pieceOf bs x.1))] 22)).grownBy w1 v.ownBlock) :
    (w1.cell? ⟨w.heap.size, 0, none⟩ = some v ∧ w1.frozen? ⟨w.heap.size, 0, none⟩ = false) ∧ KeepsFrom (w.heap.size + 3) W (w1.setCell ⟨w.heap.size, 0, none⟩ v') ∧ Two (w.heap.size + 1) (w.heap.size + 2) W (w1.setCell ⟨w.heap.size, 0, none⟩ v') ∧ PInv w bs (pre ++ [x]) (w1.setCell ⟨w.heap.size, 0, none⟩ v') := by
  have hv2 := boxed_later hv h2
  have hr2 := owns_later h2 hr
  have s2 := h2.size
  obtain ⟨b1, b2, b3, b4, _⟩ := Boxed.appended (n₀ := w.heap.size) hv2 (by decide) (owns_mono hr2 (by omega)) (by omega) (Nat.le_refl _) (owns_mono ho (by omega)) hg
  have b3' := Boxed.appended (n₀ := w.heap.size) hv2 (by decide) (owns_mono hr2 (by omega)) (by omega) (Nat.le_refl _) (owns_mono ho (by omega)) hg
  have hrow : (w1.setCell ⟨w.heap.size, 0, none⟩ v').ownsRow (w.heap.size + 3) 22 1 v' n (strs (pre.map fun x => Tm.const (pieceOf bs x.1)) ++ [str (Tm.const (pieceOf bs x.1))]) :=
    ho.kept (grownBy_setCell' w1 w.heap.size v') (.inr (b1.not_row (by decide) ho).symm)
  have far : ∀ j, w.heap.size < j → j < w.heap.size + 3 → (w1.setCell ⟨w.heap.size, 0, none⟩ v').heap[j]? = W.heap[j]? := by
    intro j h1 h3
    rw [Below.heap_setCell _ _ _ j (by simp; omega)]
    rw [hg.block j (by simp; omega) (fun e => by have := (hr2.lt j e.symm).1; omega)]
    rw [Below.heap_alloc _ _ _ (by omega), h2.block j (by omega)]
  refine ⟨⟨b1.cell, b1.frozen⟩, ((keeps_below h2).trans b4).from _, ⟨far _ (by omega) (by omega), far _ (by omega) (by omega)⟩, ⟨v', b2, ?_, trivial⟩, hB.trans ((h2.mono hB.size).trans b3'.2.2.2.2), Nat.le_trans hs (Nat.le_trans h2.size b4.size)⟩
  rw [List.map_append, strs_append]
  rw [List.length_append]
  rw [hn] at hrow
  exact hrow

set_option maxRecDepth 100000 in
set_option maxHeartbeats 8000000 in
theorem pieces_any (b n cap : Nat) (bs : List UInt8) (w : World) (h1 : 0 < n) (h2 : n ≤ 1100) (hB : Byt w (some ⟨b, 0, none⟩) n cap bs) :
    Calls Try.prog 32 #[.slice (some ⟨b, 0, none⟩) n cap] w fun e w' => ∃ v, e = .returned v ∧ w'.ownsRow w.heap.size 22 1 v (Tm.cut bs).length (strs ((Tm.cut bs).map Tm.const)) ∧ Below w.heap.size w w' := by
  refine (callsIn_wide (n := 3)).1 ?_
  obtain ⟨i0, hi, hz0, hz1, hz2⟩ := info_parts info22
  have I : Aside (Try.prog.info? 22 = some i0 ∧ i0.zero = some (.string ⟨#[]⟩) ∧ i0.size = 1 ∧ i0.bytes = 16) := ⟨hi, hz0, hz1, hz2⟩
  obtain ⟨hl, hcap, hat, -⟩ := hB
  subst hl
  have CC := cut_count h1
  have HC : Aside (bs.length ≤ 40 * (Tm.cut bs).length ∧ 40 * (Tm.cut bs).length < bs.length + 40) := CC
  have QQ : Aside (∀ (ys : List (Pc bs.length)) (W' : World) (D : Nat), ys.map (·.1) = chunks bs.length (Tm.cut bs).length → w.heap.size + 3 ≤ D → W'.heap[D]? = some (.deferred (some [])) → PInv w bs ys W' → ∃ v, W'.cell? ⟨w.heap.size, 0, none⟩ = some v ∧ (W'.putObj D (.deferred none)).ownsRow w.heap.size 22 1 v (Tm.cut bs).length (strs ((Tm.cut bs).map Tm.const)) ∧ Below w.heap.size w (W'.putObj D (.deferred none))) := by
    rintro ys W' D hy hD hK ⟨⟨v, hv, hr, _⟩, hb, _⟩
    refine ⟨v, hv.cell, ?_, hb.trans (belowK_b (w := w) (Nat.le_refl _) W' D _ _ (by omega) hK rfl rfl)⟩
    have e1 : ys.length = (Tm.cut bs).length := by have := congrArg List.length hy; rw [List.length_map, chunks_len] at this; exact this
    have e2 : ys.map (fun x => Tm.const (pieceOf bs x.1)) = (Tm.cut bs).map Tm.const := by
      rw [← chunks_cut bs, ← hy, List.map_map, List.map_map]
      rfl
    rw [e1, e2] at hr
    exact owns_mono (ownsRow_putObj hr _ hK rfl) (by omega)
  have AT : Aside (AtB w (some ⟨b, 0, none⟩) bs) := hat
  clear hi hz0 hz1 hz2 CC hat
  generalize (Tm.cut bs).length = M at *
  refine callsIn_of_wp_marks Try.func32 rfl trivial ?_ rfl
  simp only [Try.ntmps32, List.size_toArray, List.length_cons, List.length_nil, Nat.reduceAdd, Nat.reduceSub, Array.replicate_succ, Array.replicate_zero, List.push_toArray, List.append_toArray, List.nil_append, List.cons_append]
  gi_wp2_with fail
  refine ⟨trivial, (chunk_in 2 _ _ _ _).mono ?_⟩
  rintro e w3 ⟨rfl, hw3⟩
  have sz3 : w3.heap.size = w.heap.size + 3 := by rw [hw3]; simp
  have IB : Aside (PInv w bs [] w3) := by
    rw [hw3]
    exact ⟨⟨_, ((Boxed.new w 72 (.slice none 0 0)).alloc _).alloc _, World.ownsRow_nil _ _ _ _, trivial⟩, (((Below.refl _ w).alloc (Nat.le_refl _) _).alloc (by simp) _).alloc (by simp; omega) _, by simp⟩
  have cS : w3.cell? ⟨w.heap.size + 1, 0, none⟩ = some (.slice (some ⟨b, 0, none⟩) bs.length cap) := by
    rw [hw3]
    have := ((Boxed.new (w.alloc (.cells #[.slice none 0 0] 72)) 24 (.slice (some ⟨b, 0, none⟩) bs.length cap)).alloc (.cells #[.int .i64 40] 3)).cell
    simpa using this
  have cN : w3.cell? ⟨w.heap.size + 2, 0, none⟩ = some (.int .i64 40) := by
    rw [hw3]
    have := (Boxed.new ((w.alloc (.cells #[.slice none 0 0] 72)).alloc (.cells #[.slice (some ⟨b, 0, none⟩) bs.length cap] 24)) 3 (.int .i64 40)).cell
    simpa using this
  simp only [World.size_alloc, Nat.add_assoc, Nat.reduceAdd]
  clear hw3
  gi_wp2_with fail
  refine wpIn_rangeFunc_ownG (w0 := w3) rfl (by omega) (gf := 51) (lb := #[.pointer (some ⟨w.heap.size + 1, 0, none⟩), .pointer (some ⟨w.heap.size + 2, 0, none⟩)]) rfl trivial (enters_of Try.func51 (by kernel_rfl) rfl)
    (chunk_stops 2 (by omega) (w.heap.size + 1) (w.heap.size + 2) b bs.length cap M (by omega) hcap HC.out w3 (by omega) (by omega) cS cN)
    (fun h k => ⟨k.1.trans h.1, k.2.trans h.2⟩) (fun W l o o' hl _ _ _ => ⟨World.putObj_heap_other (by omega), World.putObj_heap_other (by omega)⟩) (Below.refl _ _) (fun _ => rfl)
    (PInv w bs) (fun _ _ _ => False) (by rw [sz3]; exact pInv_own w bs) (fun _ _ _ _ _ hs _ _ => hs) IB.out
    (fun y => { tmps := #[.slice (some ⟨b, 0, none⟩) bs.length cap, undef, .slice none 0 0, .pointer (some ⟨w.heap.size, 0, none⟩), .slice (some ⟨b, y.1.1, none⟩) y.1.2 y.1.2, .slice (some ⟨b, 0, none⟩) bs.length cap,
      .func (.func 51) #[] #[.pointer (some ⟨w.heap.size + 1, 0, none⟩), .pointer (some ⟨w.heap.size + 2, 0, none⟩)], .slice (some ⟨b, y.1.1, none⟩) y.1.2 y.1.2, undef, undef, undef, undef, undef, undef], defers := [] }) ?assign ?body ?done ?stop
  case assign =>
    intro l y W K hK
    unfold encC
    gi_wp2
    exact hK
  case body =>
    rintro l pre y W ⟨⟨v, hv, hr, -⟩, hb, hs⟩ hlt
    have c0 := hv.cell
    have hlt0 : w.heap.size < W.heap.size := by omega
    have hpl : pre.length < 100 := by have := HC.out; omega
    have AW := piece_at (atB_later hb AT.out) y
    have PC : Aside (∀ W0, W0 = W.drew → Calls Try.prog 27 #[.slice (some ⟨b, y.1.1, none⟩) y.1.2 y.1.2] W0 fun e w' => e = .returned (str (Tm.const (pieceOf bs y.1))) ∧ Below W.heap.size W w') := by
      rintro W0 rfl
      refine (constant_any _ _ _ (pieceOf bs y.1) _ AW.2 (atB_later (below_drew (Below.refl _ _) 1) AW.1)).mono ?_
      rintro e w' ⟨he, h⟩
      exact ⟨he, h.os, h.tape, h.output, h.size, h.block⟩
    have stp := fun (w1 W2 : World) (v1 : Value) h2 ho hg => pInv_step (w1 := w1) (W2 := W2) (v' := v1) (x := y) hs hv hr hb h2 rfl ho hg
    have RW : Aside (W.ownsRow _ _ _ _ _ _) := hr
    unfold str at PC stp
    clear AW hr hv
    generalize (⟨(Tm.const (pieceOf bs y.1)).toArray⟩ : ByteArray) = z at *
    clear cS cN IB QQ AT
    gi_wp2_with fail
    refine wpIn_region_any (by kernel_rfl) ?_
    change wpAnyIn _ _ _ _ _ _ _ _ _ (World.drew _)
    refine wpAnyIn_ready (rs := [0, 1]) (by kernel_rfl) (by simp) ?_
    refine AllReadyIn.cons rfl (fun K hK => ?_) (AllReadyIn.cons rfl (fun K hK => ?_) (AllReadyIn.nil))
    · skip
      go_simp
      refine hK _ _ ?_
      clear hK K
      refine wpAnyIn_ready (rs := [1]) (by kernel_rfl) (by simp) ?_
      refine AllReadyIn.cons rfl (fun K hK => ?_) (AllReadyIn.nil)
      go_simp
      refine hK _ _ ?_
      clear hK K
      refine wpAnyIn_ready (rs := [2]) (by kernel_rfl) (by simp) ?_
      refine AllReadyIn.cons rfl (fun K hK => ?_) (AllReadyIn.nil)
      go_simp
      refine ⟨trivial, (CallsIn.inRound l (callsIn_wide.2 (PC.out _ rfl))).mono ?_⟩
      rintro e W2 ⟨rfl, hb2⟩
      have c2 : W2.cell? ⟨w.heap.size, 0, none⟩ = some v := (hb2.cell (p := ⟨w.heap.size, 0, none⟩) hlt0).trans c0
      have c3 : ∀ o, (W2.alloc o).cell? ⟨w.heap.size, 0, none⟩ = some v := fun o => (hb2.alloc hb2.size o |>.cell (p := ⟨w.heap.size, 0, none⟩) hlt0).trans c0
      have HB : Aside (Below W.heap.size W W2) := hb2
      clear hb2
      refine hK _ _ ?_
      clear hK K
      refine wpAnyIn_ready (rs := [3]) (by kernel_rfl) (by simp) ?_
      refine AllReadyIn.cons rfl (fun K hK => ?_) (AllReadyIn.nil)
      go_simp
      refine hK _ _ ?_
      clear hK K
      refine wpAnyIn_ready (rs := [4]) (by kernel_rfl) (by simp) ?_
      refine AllReadyIn.cons rfl (fun K hK => ?_) (AllReadyIn.nil)
      refine stepIn_append _ rfl _ _ 72 rfl (w.heap.size + 3) 22 i0 (.string ⟨#[]⟩) 1 16 Try.underlying72 I.out.1 I.out.2.1 I.out.2.2.1 I.out.2.2.2 rfl (by decide) v pre.length _ rfl (owns_later (HB.out.alloc HB.out.size _) RW.out) ⟨W2.heap.size, 0, none⟩ 1 1 [.string z] rfl rfl (cell_new1 _ _ _) (by simp [Value.oneCell']) (by unfold maxLen; omega) (by omega) (by have := HB.out.size; simp; omega) ?_
      intro v1 w1 ho hg
      have ST := stp w1 W2 v1 HB.out ho hg
      obtain ⟨g1, cap1, rfl⟩ := ownsRow_succ ho
      clear ho hg
      refine hK _ _ ?_
      clear hK K
      refine wpAnyIn_ready (rs := [5]) (by kernel_rfl) (by simp) ?_
      refine AllReadyIn.cons rfl (fun K hK => ?_) (AllReadyIn.nil)
      have cc := ST.1.1
      have cf := ST.1.2
      go_simp
      refine hK _ _ ?_
      clear hK K
      refine wpAnyIn_done (by kernel_rfl) ?_ _
      have ST2 := ST.2
      rw [← sz3] at ST2
      exact ST2
    · skip
      go_simp
      refine hK _ _ ?_
      clear hK K
      refine wpAnyIn_ready (rs := [0, 2]) (by kernel_rfl) (by simp) ?_
      refine AllReadyIn.cons rfl (fun K hK => ?_) (AllReadyIn.cons rfl (fun K hK => ?_) (AllReadyIn.nil))
      · skip
        go_simp
        refine hK _ _ ?_
        clear hK K
        refine wpAnyIn_ready (rs := [2]) (by kernel_rfl) (by simp) ?_
        refine AllReadyIn.cons rfl (fun K hK => ?_) (AllReadyIn.nil)
        go_simp
        refine ⟨trivial, (CallsIn.inRound l (callsIn_wide.2 (PC.out _ rfl))).mono ?_⟩
        rintro e W2 ⟨rfl, hb2⟩
        have c2 : W2.cell? ⟨w.heap.size, 0, none⟩ = some v := (hb2.cell (p := ⟨w.heap.size, 0, none⟩) hlt0).trans c0
        have c3 : ∀ o, (W2.alloc o).cell? ⟨w.heap.size, 0, none⟩ = some v := fun o => (hb2.alloc hb2.size o |>.cell (p := ⟨w.heap.size, 0, none⟩) hlt0).trans c0
        have HB : Aside (Below W.heap.size W W2) := hb2
        clear hb2
        refine hK _ _ ?_
        clear hK K
        refine wpAnyIn_ready (rs := [3]) (by kernel_rfl) (by simp) ?_
        refine AllReadyIn.cons rfl (fun K hK => ?_) (AllReadyIn.nil)
        go_simp
        refine hK _ _ ?_
        clear hK K
        refine wpAnyIn_ready (rs := [4]) (by kernel_rfl) (by simp) ?_
        refine AllReadyIn.cons rfl (fun K hK => ?_) (AllReadyIn.nil)
        refine stepIn_append _ rfl _ _ 72 rfl (w.heap.size + 3) 22 i0 (.string ⟨#[]⟩) 1 16 Try.underlying72 I.out.1 I.out.2.1 I.out.2.2.1 I.out.2.2.2 rfl (by decide) v pre.length _ rfl (owns_later (HB.out.alloc HB.out.size _) RW.out) ⟨W2.heap.size, 0, none⟩ 1 1 [.string z] rfl rfl (cell_new1 _ _ _) (by simp [Value.oneCell']) (by unfold maxLen; omega) (by omega) (by have := HB.out.size; simp; omega) ?_
        intro v1 w1 ho hg
        have ST := stp w1 W2 v1 HB.out ho hg
        obtain ⟨g1, cap1, rfl⟩ := ownsRow_succ ho
        clear ho hg
        refine hK _ _ ?_
        clear hK K
        refine wpAnyIn_ready (rs := [5]) (by kernel_rfl) (by simp) ?_
        refine AllReadyIn.cons rfl (fun K hK => ?_) (AllReadyIn.nil)
        have cc := ST.1.1
        have cf := ST.1.2
        go_simp
        refine hK _ _ ?_
        clear hK K
        refine wpAnyIn_done (by kernel_rfl) ?_ _
        have ST2 := ST.2
        rw [← sz3] at ST2
        exact ST2
      · skip
        go_simp
        refine ⟨trivial, (CallsIn.inRound l (callsIn_wide.2 (PC.out _ rfl))).mono ?_⟩
        rintro e W2 ⟨rfl, hb2⟩
        have c2 : W2.cell? ⟨w.heap.size, 0, none⟩ = some v := (hb2.cell (p := ⟨w.heap.size, 0, none⟩) hlt0).trans c0
        have c3 : ∀ o, (W2.alloc o).cell? ⟨w.heap.size, 0, none⟩ = some v := fun o => (hb2.alloc hb2.size o |>.cell (p := ⟨w.heap.size, 0, none⟩) hlt0).trans c0
        have HB : Aside (Below W.heap.size W W2) := hb2
        clear hb2
        refine hK _ _ ?_
        clear hK K
        refine wpAnyIn_ready (rs := [0, 3]) (by kernel_rfl) (by simp) ?_
        refine AllReadyIn.cons rfl (fun K hK => ?_) (AllReadyIn.cons rfl (fun K hK => ?_) (AllReadyIn.nil))
        · skip
          go_simp
          refine hK _ _ ?_
          clear hK K
          refine wpAnyIn_ready (rs := [3]) (by kernel_rfl) (by simp) ?_
          refine AllReadyIn.cons rfl (fun K hK => ?_) (AllReadyIn.nil)
          go_simp
          refine hK _ _ ?_
          clear hK K
          refine wpAnyIn_ready (rs := [4]) (by kernel_rfl) (by simp) ?_
          refine AllReadyIn.cons rfl (fun K hK => ?_) (AllReadyIn.nil)
          refine stepIn_append _ rfl _ _ 72 rfl (w.heap.size + 3) 22 i0 (.string ⟨#[]⟩) 1 16 Try.underlying72 I.out.1 I.out.2.1 I.out.2.2.1 I.out.2.2.2 rfl (by decide) v pre.length _ rfl (owns_later (HB.out.alloc HB.out.size _) RW.out) ⟨W2.heap.size, 0, none⟩ 1 1 [.string z] rfl rfl (cell_new1 _ _ _) (by simp [Value.oneCell']) (by unfold maxLen; omega) (by omega) (by have := HB.out.size; simp; omega) ?_
          intro v1 w1 ho hg
          have ST := stp w1 W2 v1 HB.out ho hg
          obtain ⟨g1, cap1, rfl⟩ := ownsRow_succ ho
          clear ho hg
          refine hK _ _ ?_
          clear hK K
          refine wpAnyIn_ready (rs := [5]) (by kernel_rfl) (by simp) ?_
          refine AllReadyIn.cons rfl (fun K hK => ?_) (AllReadyIn.nil)
          have cc := ST.1.1
          have cf := ST.1.2
          go_simp
          refine hK _ _ ?_
          clear hK K
          refine wpAnyIn_done (by kernel_rfl) ?_ _
          have ST2 := ST.2
          rw [← sz3] at ST2
          exact ST2
        · skip
          go_simp
          refine hK _ _ ?_
          clear hK K
          refine wpAnyIn_ready (rs := [0]) (by kernel_rfl) (by simp) ?_
          refine AllReadyIn.cons rfl (fun K hK => ?_) (AllReadyIn.nil)
          go_simp
          refine hK _ _ ?_
          clear hK K
          refine wpAnyIn_ready (rs := [4]) (by kernel_rfl) (by simp) ?_
          refine AllReadyIn.cons rfl (fun K hK => ?_) (AllReadyIn.nil)
          refine stepIn_append _ rfl _ _ 72 rfl (w.heap.size + 3) 22 i0 (.string ⟨#[]⟩) 1 16 Try.underlying72 I.out.1 I.out.2.1 I.out.2.2.1 I.out.2.2.2 rfl (by decide) v pre.length _ rfl (owns_later (HB.out.alloc HB.out.size _) RW.out) ⟨W2.heap.size, 0, none⟩ 1 1 [.string z] rfl rfl (cell_new1 _ _ _) (by simp [Value.oneCell']) (by unfold maxLen; omega) (by omega) (by have := HB.out.size; simp; omega) ?_
          intro v1 w1 ho hg
          have ST := stp w1 W2 v1 HB.out ho hg
          obtain ⟨g1, cap1, rfl⟩ := ownsRow_succ ho
          clear ho hg
          refine hK _ _ ?_
          clear hK K
          refine wpAnyIn_ready (rs := [5]) (by kernel_rfl) (by simp) ?_
          refine AllReadyIn.cons rfl (fun K hK => ?_) (AllReadyIn.nil)
          have cc := ST.1.1
          have cf := ST.1.2
          go_simp
          refine hK _ _ ?_
          clear hK K
          refine wpAnyIn_done (by kernel_rfl) ?_ _
          have ST2 := ST.2
          rw [← sz3] at ST2
          exact ST2
  case done =>
    rintro D ys W hD hys hI hK
    obtain ⟨v, hc, hr, hbb⟩ := QQ.out ys W D hys (by omega) hK hI
    have QD : Aside ((W.putObj D (.deferred none)).ownsRow w.heap.size 22 1 v M (strs ((Tm.cut bs).map Tm.const)) ∧ Below w.heap.size w (W.putObj D (.deferred none))) := ⟨hr, hbb⟩
    clear hI hys QQ IB cS cN hr hbb
    gi_wp2
    refine ⟨by simp, .inl ⟨_, _, rfl, run_takeDeferred hK, ?_⟩⟩
    exact ⟨_, results_tmp rfl _ _ _, v, rfl, QD.out.1, QD.out.2⟩
  case stop =>
    rintro D c pre W _ _ h _
    exact h.elim

end Go.Proofs.Ytimeggbjmcnnoaa
