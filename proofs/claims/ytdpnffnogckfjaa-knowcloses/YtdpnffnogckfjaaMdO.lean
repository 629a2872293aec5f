/- What see gives of a good term. -/
import Derived.Test.YtdpnffnogckfjaaMdN
namespace Go.Proofs.Ytdpnffnogckfjaa
open Go.RowKit Go.Maps Go.Shelf
attribute [local go_sem] Oper.semAt_some

theorem seeInv_begin {ω : Tag} {pm bv bk : Nat} {w w2 : World} {M : Mst} {o o3 : Obj} {v : Value} {n : Nat} {L : List (List UInt8)} (h : MindAt ω w pm bv bk M) (hb : Below (w.alloc o).heap.size (w.alloc o) w2) (ho : w2.ownsRow (w.alloc o).heap.size 23 1 v n (strs L)) {b : Nat} (hvb : v.ownBlock = some b) :
    SeeInv ω pm bv bk w (w2.alloc o3) M w.heap.size w2.heap.size b [] (w2.alloc o3) := by
  have hbl : ∀ j, j < w.heap.size → (w2.alloc o3).heap[j]? = w.heap[j]? := fun j hj => by
    have hs := hb.size
    simp at hs
    rw [Below.heap_alloc _ _ _ (by omega), hb.block j (by simp; omega), Below.heap_alloc _ _ _ hj]
  have hs := hb.size
  simp at hs
  refine ⟨fun j => if j < w.heap.size then ω j else none, h.kept hbl (fun j hj => if_pos hj), fun j hj => if_pos hj, ?_, Nat.le_refl _, ⟨if_neg (by omega), rfl⟩, ⟨if_neg (by omega), rfl⟩, ⟨if_neg ?_, rfl⟩⟩
  · exact ⟨hb.os, hb.tape, hb.output, by simp; omega, fun j hj _ => hbl j hj⟩
  · have := (ho.lt b hvb).1
    simp at this
    omega

set_option maxRecDepth 100000 in
set_option maxHeartbeats 8000000 in
theorem see_good (ω : Tag) (pm bv bk : Nat) (M : Mst) (t : List UInt8) (w : World) (h : MindAt ω w pm bv bk M) (h0 : Tm.chk t = 0) (hsm : Small M.m 6900000) (hk1 : M.σ.1.length ≤ 7900000) (hk2 : M.σ.2.length ≤ 7900000) :
    Calls Try.prog 32 #[.pointer (some ⟨pm, 0, none⟩), str t] w (SeePost ω pm bv bk w M t) := by
  refine (callsIn_wide (n := 3)).1 ?_
  have SB : Aside (∀ w1, Calls Try.prog 49 #[str t] w1 (SubsPost t w1)) := fun w1 => subs_any ⟨t.toArray⟩ w1
  have hbk : bv < w.heap.size ∧ bk < w.heap.size := by
    obtain ⟨⟨fs, _, _, _, h4, _, _⟩, g, v1, _⟩ := h
    exact ⟨v1.lt, h4.lt⟩
  have BK : Aside (bv < w.heap.size ∧ bk < w.heap.size) := hbk
  have SM : Aside (Small M.m 6900000 ∧ M.σ.1.length ≤ 7900000 ∧ M.σ.2.length ≤ 7900000) := ⟨hsm, hk1, hk2⟩
  have BG : Aside (MindAt ω w pm bv bk M) := h
  have QQ : Aside (∀ (W3 : World) (Bm Bs b : Nat) (ys : List Item) (W' : World) (D : Nat), ys.map (·.1.2) = (Tm.subsOf t).reverse → w.heap.size ≤ W3.heap.size → W3.heap.size ≤ D → W'.heap[D]? = some (.deferred (some [])) → SeeInv ω pm bv bk w W3 M Bm Bs b ys W' → SeePost ω pm bv bk w M t (.returned (.int .i64 0)) (W'.putObj D (.deferred none))) := by
    rintro W3 Bm Bs b ys W' D hy hs hD hK ⟨ω', m1, e1, f1, s1, -, -, -⟩
    have hM : ys.foldl (fun M x => plc M x.1.2) M = seeM M t := by
      unfold seeM
      rw [← hy, List.foldl_map]
    rw [hM] at m1
    have hg := grownBy_putObj' W' D (.deferred none)
    refine ⟨by rw [h0]; rfl, ω', m1.own (B := w.heap.size) hg (fun r e => by cases e; exact ⟨by omega, _, hK, rfl⟩) hbk.1 hbk.2, e1, ?_⟩
    exact ⟨hg.os.trans f1.os, hg.tape.trans f1.tape, hg.output.trans f1.output, Nat.le_trans f1.size hg.size, fun j hj hw => (hg.block j (by have := f1.size; omega) (fun e => by
      simp only [Option.some.injEq] at e
      omega)).trans (f1.block j hj hw)⟩
  generalize SeePost ω pm bv bk w M t = Q at QQ ⊢
  have SL : Aside ((Tm.subsOf t).length ≤ 2000 ∧ (∀ s ∈ Tm.subsOf t, Tm.chk s = 0) ∧ Tm.subsOf t ≠ []) := ⟨Tm.subsOf_len t, fun s hs => (Tm.sub_ok hs).1, fun e => by have := Tm.self_sub h0; rw [e] at this; cases this⟩
  have H0 : Hid (Tm.chk t = 0) := h0
  clear h h0 hsm hk1 hk2 hbk
  unfold str at SB ⊢
  generalize (⟨t.toArray⟩ : ByteArray) = x at *
  refine callsIn_of_wp_marks Try.func32 rfl trivial ?_ rfl
  simp only [Try.ntmps32, List.size_toArray, List.length_cons, List.length_nil, Nat.reduceAdd, Nat.reduceSub, Array.replicate_succ, Array.replicate_zero, List.push_toArray, List.append_toArray, List.nil_append, List.cons_append]
  gi_wp2_with fail
  refine ⟨trivial, (callsIn_wide.2 (SB.out _)).mono ?_⟩
  rintro e w2 ⟨v, rfl, ho, hb⟩
  rw [H0.out]
  generalize Tm.subsOf t = L at *
  obtain ⟨n, hn⟩ : ∃ n, n = L.length := ⟨_, rfl⟩
  have HN : Hid (n = L.length) := hn
  rw [← hn] at ho
  obtain ⟨b, cap, rfl⟩ : ∃ b cap, v = .slice (some ⟨b, 0, none⟩) n cap := by
    rcases ho.2 with ⟨_, e⟩ | ⟨g, cap, cur, e, _⟩
    · exact absurd (List.eq_nil_of_length_eq_zero (by omega)) SL.out.2.2
    · exact ⟨g, cap, e⟩
  have W2 : Aside (w2.ownsRow _ 23 1 (.slice (some ⟨b, 0, none⟩) n cap) n (strs L) ∧ Below _ _ w2) := ⟨ho, hb⟩
  clear ho hb SB hn
  gi_wp2_with fail
  refine ⟨trivial, (back_in Fence.wide 2 trivial rfl _ _ _ _).mono ?_⟩
  rintro e w3 ⟨rfl, hw3⟩
  have IB : Aside (SeeInv ω pm bv bk w w3 M w.heap.size w2.heap.size b [] w3) := by
    rw [hw3]
    exact seeInv_begin BG.out W2.out.2 W2.out.1 (b := b) rfl
  have sz3 : w3.heap.size = w2.heap.size + 1 := by rw [hw3]; simp
  have sz2 : w.heap.size + 1 ≤ w2.heap.size := by have := W2.out.2.size; simpa using this
  have bl : w.heap.size + 1 ≤ b ∧ b < w2.heap.size := by have := W2.out.1.lt b rfl; simpa using this
  have cS : w3.cell? ⟨w2.heap.size, 0, none⟩ = some (.slice (some ⟨b, 0, none⟩) n cap) := by rw [hw3]; simp [go_sem]
  have cL : ∀ j x, L[j]? = some x → w3.cell? ⟨b, j, none⟩ = some (str x) := by
    obtain ⟨a, c, e, _, _, hat⟩ := owns_strs W2.out.1
    simp only [Value.slice.injEq] at e
    obtain ⟨rfl, _, _⟩ := e
    intro j x hx
    rcases hat with e | ⟨b', off, e, hc⟩
    · exact absurd e SL.out.2.2
    · simp only [Option.some.injEq, Addr.mk.injEq, and_true] at e
      obtain ⟨rfl, rfl⟩ := e
      have := hc j x hx
      rw [Nat.zero_add] at this
      rw [hw3]
      exact cell_later ((Below.refl _ w2).alloc (Nat.le_refl _) _) this
  have cM : w3.heap[w.heap.size]? = some (.cells #[.pointer (some ⟨pm, 0, none⟩)] 50 (0, 0)) := by
    rw [hw3, Below.heap_alloc _ _ _ (by omega), W2.out.2.block _ (by simp)]
    exact heap_alloc_new w _
  clear hw3
  gi_wp2_with fail
  refine wpIn_rangeFunc_ownG (w0 := w3) rfl (by omega) (gf := 60) (lb := #[.pointer (some ⟨w2.heap.size, 0, none⟩)]) rfl trivial (enters_of Try.func60 (by kernel_rfl) rfl)
    (back_stops Fence.wide 2 trivial rfl (by omega) w2.heap.size b cap L SL.out.1 SL.out.2.1 w3 (by omega) (by omega) (by rw [← HN.out]; exact cS) cL)
    (fun h k => ⟨k.1.trans h.1, k.2.trans h.2⟩) (fun W l o o' hl _ _ _ => ⟨World.putObj_heap_other (by omega), World.putObj_heap_other (by omega)⟩) (Below.refl _ _) (fun _ => rfl)
    (SeeInv ω pm bv bk w w3 M w.heap.size w2.heap.size b) (fun _ _ _ => False) (seeInv_own BK.out (by omega) (by omega) (by omega) (by omega)) (fun _ _ _ _ _ hs _ _ => hs) IB.out
    (fun y => { tmps := #[.pointer (some ⟨pm, 0, none⟩), .string x, .pointer (some ⟨w.heap.size, 0, none⟩), undef, .int .i64 0, .slice (some ⟨b, 0, none⟩) n cap, .int .i64 0, undef, str y.1.2,
      .tuple #[.slice (some ⟨b, 0, none⟩) n cap, .int .i64 0], .string x, .tuple #[.slice (some ⟨b, 0, none⟩) n cap, .int .i64 0], .slice (some ⟨b, 0, none⟩) n cap, .int .i64 0, .int .i64 0, .bool false, undef, .slice (some ⟨b, 0, none⟩) n cap,
      .func (.func 60) #[] #[.pointer (some ⟨w2.heap.size, 0, none⟩)], .int .i64 y.1.1, str y.1.2, undef, undef, undef], defers := [] }) ?assign ?body ?done ?stop
  case assign =>
    intro l y W K hK
    unfold encI
    gi_wp2
    exact hK
  case body =>
    rintro l pre y W hI hlt
    obtain ⟨ω1, m1, hst⟩ := seeInv_step (x := y) BK.out (by omega) (by omega) (by omega) (by omega) hI
    have hcm : W.cell? ⟨w.heap.size, 0, none⟩ = some (.pointer (some ⟨pm, 0, none⟩)) := by
      obtain ⟨_, _, _, _, _, ⟨_, a2⟩, _, _⟩ := hI
      rw [cell_of_row W w.heap.size 0 _ _ _ (a2.trans cM)]; rfl
    have PC : Aside (Calls Try.prog 51 #[.pointer (some ⟨pm, 0, none⟩), str y.1.2] W (fun e W' => e = .returned (.tuple #[]) ∧ KeepsFrom w3.heap.size W W' ∧ Two w2.heap.size b W W' ∧ SeeInv ω pm bv bk w w3 M w.heap.size w2.heap.size b (pre ++ [y]) W')) := by
      obtain ⟨s1, s2, s3⟩ := fold_sizes pre SM.out.1
      have hp : pre.length < 2000 := by have := SL.out.1; omega
      have := SM.out.2
      refine (place_any ω1 pm bv bk _ y.1.2 W m1 y.2 (s1.mono (by omega)) (by omega) (by omega)).mono ?_
      intro e W' hq
      exact hst W' e hq
    clear hI m1 hst IB cS cL cM BG W2 QQ SM SL BK
    unfold str at PC ⊢
    generalize (⟨y.1.2.toArray⟩ : ByteArray) = z at *
    gi_wp2_with fail
    refine ⟨trivial, (CallsIn.inRound l (callsIn_wide.2 PC.out)).mono ?_⟩
    rintro e W' ⟨rfl, k1, k2, k3⟩
    have K3 : Aside (KeepsFrom w3.heap.size W W' ∧ Two w2.heap.size b W W' ∧ SeeInv ω pm bv bk w w3 M w.heap.size w2.heap.size b (pre ++ [y]) W') := ⟨k1, k2, k3⟩
    clear PC k1 k2 k3 hcm
    gi_wp2
    exact K3.out
  case done =>
    rintro D ys W hD hys hI hK
    have QD := QQ.out w3 w.heap.size w2.heap.size b ys W D hys (by omega) hD hK hI
    clear hI hys QQ IB cS cL cM BG W2 SM SL BK
    gi_wp2
    refine ⟨by simp, .inl ⟨_, _, rfl, run_takeDeferred hK, ?_⟩⟩
    refine ⟨.int .i64 0, ?_, QD⟩
    simp [results, Try.results32, go_sem]
  case stop =>
    rintro D c pre W _ _ h _
    exact h.elim

end Go.Proofs.Ytdpnffnogckfjaa
