/- What paired gives: one term of some, built from the back (the iterator of slices.Backward). -/
import Derived.Test.YtimeggbjmcnnoaaLnD
namespace Go.Proofs.Ytimeggbjmcnnoaa
open Go.RowKit Go.Shelf
attribute [local go_sem] Oper.semAt_some

/-- The k last of some texts, from the back, with their places. -/
def backs (L : List (List UInt8)) (k : Nat) : List (Int × List UInt8) := (List.range k).map fun j : Nat => ((L.length : Int) - 1 - (j : Int), L.getD (L.length - 1 - j) [])
theorem backs_succ (L : List (List UInt8)) (k : Nat) : backs L (k + 1) = backs L k ++ [((L.length : Int) - 1 - (k : Int), L.getD (L.length - 1 - k) [])] := by simp [backs, List.range_succ]
theorem backs_len (L : List (List UInt8)) (k : Nat) : (backs L k).length = k := by simp [backs]
def encI (x : Int × List UInt8) : Array Value := #[.int .i64 x.1, str x.2]

set_option maxRecDepth 100000 in
set_option maxHeartbeats 4000000 in
theorem back1_in (n : Nat) (hn : 1 ≤ n) (l Bs b len cap : Nat) (L : List (List UInt8)) (hL : L.length = len) (hlen : len ≤ 2000) (J Jx : List (Int × List UInt8) → World → Prop)
    (hY : ∀ pre x W, J pre W → pre.length < len → YieldAt Fence.wide (n - 1) Try.prog l (encI x) W fun e W' =>
      (e = .returned (.bool true) ∧ J (pre ++ [x]) W' ∧ Two Bs b W W') ∨ (e = .returned (.bool false) ∧ Jx (pre ++ [x]) W'))
    (W : World) (hBs : W.cell? ⟨Bs, 0, none⟩ = some (.slice (some ⟨b, 0, none⟩) len cap)) (hc : ∀ j x, L[j]? = some x → W.cell? ⟨b, j, none⟩ = some (str x)) (h0 : J [] W) :
    CallsIn Fence.wide n Try.prog 50 #[.func (.yield l) #[] #[], .pointer (some ⟨Bs, 0, none⟩)] W fun e W' => (∃ v, e = .returned v) ∧
      ((∃ ys : List (Int × List UInt8), ys = backs L len ∧ J ys W') ∨ (∃ pre, True ∧ Jx pre W')) := by
  refine callsIn_of_wp Try.func50 rfl trivial ?_ rfl
  simp only [Try.ntmps50, List.size_toArray, List.length_cons, List.length_nil, Nat.reduceAdd, Nat.reduceSub, Array.replicate_succ, Array.replicate_zero, List.push_toArray, List.append_toArray, List.nil_append, List.cons_append]
  have HL : Hid (L.length = len) := hL
  have HC : Aside (∀ j x, L[j]? = some x → W.cell? ⟨b, j, none⟩ = some (str x)) := hc
  have HY : Aside (∀ pre x W, J pre W → pre.length < len → _) := hY
  have H0 : Aside (J [] W) := h0
  clear hL hc hY h0
  gi_wp2
  gi_loopw [3] (fun i wr => ∃ (k : Nat) (pre : List (Int × List UInt8)), k ≤ len ∧ i = .int .i64 ((len : Int) - 1 - k) ∧ pre = backs L k ∧ J pre wr ∧ Two Bs b W wr)
    (fun i _ => (intOf i + 1).toNat)
  case atStart => exact ⟨0, [], Nat.zero_le _, by go_num, rfl, H0.out, rfl, rfl⟩
  case round =>
    obtain ⟨k, pre, hk, rfl, hpm, hJ, ht⟩ := hrel
    have S : Aside (pre = backs L k ∧ J pre wr ∧ Two Bs b W wr) := ⟨hpm, hJ, ht⟩
    clear hpm hJ ht H0
    have cB : wr.cell? ⟨Bs, 0, none⟩ = some (.slice (some ⟨b, 0, none⟩) len cap) := (World.cell?_of_block (w := W) S.out.2.2.1).trans hBs
    by_cases hlt : k < len
    · obtain ⟨q, hq⟩ : ∃ q : Nat, q + 1 + k = len := ⟨len - 1 - k, by omega⟩
      have hqi : (len : Int) - 1 - k = (q : Int) := by omega
      rw [hqi]
      have hql : q < L.length := by rw [HL.out]; omega
      have hx := List.getElem?_eq_getElem hql
      have ct : wr.cell? ⟨b, q, none⟩ = some (str L[q]) := (World.cell?_of_block (w := W) S.out.2.2.2).trans (HC.out q L[q] hx)
      have hyy := HY.out pre ((q : Int), L[q]) wr S.out.2.1 (by rw [S.out.1, backs_len]; exact hlt)
      obtain ⟨fn, tmps, assign, body, hy, hR⟩ := hyy
      unfold encI str at hy
      dsimp only at hy
      have RR : Aside (RoundIn _ _ _ _ _ _ _ _ _ _) := hR
      have NX : Aside (pre ++ [((q : Int), L[q])] = backs L (k + 1)) := by
        show _ = _
        rw [backs_succ, S.out.1, HL.out, hqi]
        have e : len - 1 - k = q := by omega
        rw [e, List.getD_eq_getElem?_getD, hx]
        rfl
      unfold str at ct
      clear hR hx
      have q0 : (0 : Int) ≤ (q : Int) := by omega
      have q1 : (q : Int) < (len : Int) := by omega
      generalize (⟨L[q].toArray⟩ : ByteArray) = x at *
      gi_wp2
      refine RR.out.mono ?_
      rintro e W3 (⟨rfl, hJ3, hk3⟩ | ⟨rfl, hJx3⟩)
      · have T3 : Aside (J (pre ++ [((q : Int), L[q])]) W3 ∧ Two Bs b W W3) := ⟨hJ3, hk3.1.trans S.out.2.2.1, hk3.2.trans S.out.2.2.2⟩
        clear RR hJ3 hk3 cB ct hy
        gi_wp2
        go_roundw
        case rel => exact ⟨k + 1, pre ++ [((q : Int), L[q])], by omega, by first | go_num | (congr 1; omega), NX.out, T3.out.1, T3.out.2⟩
        case measure => simp [intOf]
      · have T3 : Aside (Jx (pre ++ [((q : Int), L[q])]) W3) := hJx3
        clear RR hJx3 cB ct hy
        gi_wp2
        refine bodyPost_ret (results_none rfl _ _ _) rfl ?_
        exact ⟨⟨_, rfl⟩, .inr ⟨_, trivial, T3.out⟩⟩
    · obtain rfl : k = len := by omega
      have e : (k : Int) - 1 - k = -1 := by omega
      rw [e]
      gi_wp2
      go_end0
      have S2 := S.out.2.1
      rw [S.out.1] at S2
      first
        | exact ⟨⟨_, rfl⟩, .inl S2⟩
        | exact ⟨⟨_, rfl⟩, .inl ⟨_, rfl, S2⟩⟩

set_option maxHeartbeats 1000000 in
/-- slices.Backward: the slice is boxed, the function value captures the box. -/
theorem back_in (n : Nat) (a : Option Addr) (len cap : Nat) (w : World) :
    CallsIn Fence.wide n Try.prog 46 #[.slice a len cap] w fun e w' => e = .returned (.func (.func 50) #[] #[.pointer (some ⟨w.heap.size, 0, none⟩)]) ∧ w' = w.alloc (.cells #[.slice a len cap] 72) := by
  refine callsIn_of_wp Try.func46 rfl trivial ?_ rfl
  simp only [Try.ntmps46, List.size_toArray, List.length_cons, List.length_nil, Nat.reduceAdd, Nat.reduceSub, Array.replicate_succ, Array.replicate_zero, List.push_toArray, List.append_toArray, List.nil_append, List.cons_append]
  gi_wp2
  go_ret
  exact ⟨rfl, rfl⟩

theorem back_stops (n : Nat) (hn : 1 ≤ n) (Bs b cap : Nat) (L : List (List UInt8)) (hlen : L.length ≤ 2000) (w : World) (hBs : Bs < w.heap.size) (hb : b < w.heap.size)
    (hc : w.cell? ⟨Bs, 0, none⟩ = some (.slice (some ⟨b, 0, none⟩) L.length cap)) (hcs : ∀ j x, L[j]? = some x → w.cell? ⟨b, j, none⟩ = some (str x)) :
    SeqStopsK Fence.wide n Try.prog 50 #[.pointer (some ⟨Bs, 0, none⟩)] encI (Two Bs b) (fun ys : List (Int × List UInt8) => ys = backs L L.length) (fun _ => True) L.length w := fun l J Jx W hW _ _ hY h0 =>
  back1_in n hn l Bs b L.length cap L rfl hlen J Jx hY W ((hW.cell (p := ⟨Bs, 0, none⟩) hBs).trans hc) (fun j x hx => (hW.cell (p := ⟨b, j, none⟩) hb).trans (hcs j x hx)) h0

/-- Some texts, paired from the back. -/
def bldM : List (List UInt8) → List UInt8
  | [] => []
  | [c] => c
  | c :: d :: l => Tm.make 112 [c, bldM (d :: l)]
theorem bldM_step {L : List (List UInt8)} {k : Nat} (h : k < L.length) (h1 : 0 < k) : bldM (L.drop (L.length - (k + 1))) = Tm.make 112 [L.getD (L.length - 1 - k) [], bldM (L.drop (L.length - k))] := by
  have hi : L.length - (k + 1) < L.length := by omega
  have e0 : L.length - 1 - k = L.length - (k + 1) := by omega
  rw [List.drop_eq_getElem_cons hi, e0, List.getD_eq_getElem?_getD, List.getElem?_eq_getElem hi, Option.getD_some]
  have e1 : L.length - (k + 1) + 1 = L.length - k := by omega
  rw [e1]
  obtain ⟨d, l, e2⟩ : ∃ d l, L.drop (L.length - k) = d :: l := by
    cases h3 : L.drop (L.length - k) with
    | nil => have := congrArg List.length h3; rw [List.length_drop] at this; simp at this; omega
    | cons d l => exact ⟨d, l, rfl⟩
  rw [e2]
  rfl
theorem bldM_last {L : List (List UInt8)} (h : 0 < L.length) : bldM (L.drop (L.length - 1)) = L.getD (L.length - 1) [] := by
  have hi : L.length - 1 < L.length := by omega
  rw [List.drop_eq_getElem_cons hi, List.drop_of_length_le (by omega), List.getD_eq_getElem?_getD, List.getElem?_eq_getElem hi]
  rfl
theorem bldM_bld : ∀ l : List (List UInt8), l ≠ [] → (∀ c ∈ l, c.length ≤ 40) → l.length ≤ 30 → bldM (l.map Tm.const) = Tm.bld l
  | [], h, _, _ => absurd rfl h
  | [c], _, _, _ => rfl
  | c :: d :: l, _, hc, hl => by
    have hl2 : l.length + 2 ≤ 30 := hl
    have ih := bldM_bld (d :: l) (by simp) (fun x hx => hc x (List.mem_cons_of_mem _ hx)) (by simp; omega)
    have hc1 := hc c (by simp)
    show Tm.make 112 [Tm.const c, bldM ((d :: l).map Tm.const)] = 112 :: (Tm.const c ++ Tm.bld (d :: l))
    rw [ih]
    obtain ⟨w2, t2⟩ := Tm.bld_tree (d :: l) (by simp) (fun x hx => hc x (List.mem_cons_of_mem _ hx))
    have d2 := Tm.bld_depth (d :: l) (by simp)
    have n2 := Tm.bld_len (d :: l) (by simp) (fun x hx => hc x (List.mem_cons_of_mem _ hx))
    have hfl : ∀ k : List (List UInt8), (∀ x ∈ k, x.length ≤ 40) → k.flatten.length ≤ 40 * k.length := by
      intro k
      induction k with
      | nil => intro _; simp
      | cons y k ih =>
        intro h
        have := ih (fun x hx => h x (List.mem_cons_of_mem _ hx))
        have := h y (by simp)
        rw [List.flatten_cons, List.length_append, List.length_cons]
        omega
    have f2 := hfl (d :: l) (fun x hx => hc x (List.mem_cons_of_mem _ hx))
    have len2 : (d :: l).length = l.length + 1 := rfl
    have n1 := Tm.const_len hc1
    have E := Tm.made_err (k := 112) (a := Tm.const c) (b := Tm.bld (d :: l)) (by decide) (by
      rw [← t2, Tm.chk_of w2, t2, d2, if_neg (by omega), if_neg (by omega)])
    have C1 : Tm.chk (Tm.const c) = 0 := by
      rw [← Tm.cst_text hc1, Tm.chk_of (Tm.cst_wf hc1), Tm.cst_text hc1, Tm.cst_depth, if_neg (by omega), if_neg (by omega)]
    have C2 := Tm.made_chk3 (k := 112) (by decide) (Tm.cst_wf hc1) w2
    rw [Tm.cst_text hc1, t2, Tm.cst_depth, d2, if_neg (by omega), if_neg (by omega)] at C2
    rw [if_pos C1, C2] at E
    unfold Tm.make
    rw [if_pos E]
    simp

/-- What the loop of paired has made. -/
def RInv (w : World) (L : List (List UInt8)) (b cap : Nat) (pre : List (Int × List UInt8)) (W : World) : Prop :=
  ((∃ z, Boxed W (w.heap.size + 1) 22 (str z) ∧ (pre = backs L pre.length → z = bldM (L.drop (L.length - pre.length)))) ∧ Boxed W w.heap.size 72 (.slice (some ⟨b, 0, none⟩) L.length cap)) ∧ Below w.heap.size w W ∧ w.heap.size + 3 ≤ W.heap.size
theorem boxed_own {X Y : World} {B : Nat} {t : TypeId} {v : Value} {row : Option Nat} (hv : Boxed X B t v) (hg : X.grownBy Y row) (hrow : ∀ r, row = some r → ∃ o : Obj, X.heap[r]? = some o ∧ o.isCells = false) : Boxed Y B t v :=
  hv.kept hg (fun e' => by
    obtain ⟨o, ho, hc⟩ := hrow B e'.symm
    rw [show X.heap[B]? = _ from hv] at ho; cases ho; cases hc)
theorem rInv_own (w : World) (L : List (List UInt8)) (b cap : Nat) : OwnFrom (w.heap.size + 3) (RInv w L b cap) :=
  OwnFrom.and (Own.from (fun _ _ _ _ h hg hr => by
    obtain ⟨⟨z, h1, h2⟩, h3⟩ := h
    exact ⟨⟨z, boxed_own h1 hg hr, h2⟩, boxed_own h3 hg hr⟩) _) (OwnFrom.and (ownFrom_below (Nat.le_refl _) (by omega)) (fun _ _ _ _ h hg _ => Nat.le_trans h hg.size))
theorem backs_last {L : List (List UInt8)} {pre : List (Int × List UInt8)} {x : Int × List UInt8} (h : pre ++ [x] = backs L (pre ++ [x]).length) : pre = backs L pre.length ∧ x = ((L.length : Int) - 1 - (pre.length : Int), L.getD (L.length - 1 - pre.length) []) := by
  rw [List.length_append, List.length_singleton, backs_succ] at h
  obtain ⟨h1, h2⟩ := List.append_inj' h rfl
  exact ⟨h1, by simpa using h2⟩
theorem rInv_first {w W : World} {L : List (List UInt8)} {b cap : Nat} {pre : List (Int × List UInt8)} {x : Int × List UInt8} (h : RInv w L b cap pre W) (hl : pre.length < L.length) (hx : x.1 = (L.length : Int) - 1) :
    KeepsFrom (w.heap.size + 3) W (W.setCell ⟨w.heap.size + 1, 0, none⟩ (str x.2)) ∧ RInv w L b cap (pre ++ [x]) (W.setCell ⟨w.heap.size + 1, 0, none⟩ (str x.2)) := by
  obtain ⟨⟨⟨z, h1, h2⟩, h3⟩, h4, h5⟩ := h
  refine ⟨(KeepsOthers.setCell _ _ _).from _, ⟨⟨x.2, h1.set _, fun e => ?_⟩, ?_⟩, h4.setCell (p := ⟨w.heap.size + 1, 0, none⟩) (by simp) _, Nat.le_trans h5 (KeepsOthers.setCell _ _ _).size⟩
  · obtain ⟨e1, e2⟩ := backs_last e
    have : pre.length = 0 := by rw [e2] at hx; simp at hx; omega
    rw [List.length_append, this, Nat.zero_add, List.length_singleton, bldM_last (by omega), e2, this]
    rfl
  · exact h3.kept (grownBy_setCell' _ _ _) (by simp)
theorem rInv_next {w W W2 : World} {L : List (List UInt8)} {b cap : Nat} {pre : List (Int × List UInt8)} {x : Int × List UInt8} {z : List UInt8} (hl : pre.length < L.length) (hx : ¬ x.1 = (L.length : Int) - 1)
    (h1 : Boxed W (w.heap.size + 1) 22 (str z)) (h2 : pre = backs L pre.length → z = bldM (L.drop (L.length - pre.length))) (h3 : Boxed W w.heap.size 72 (.slice (some ⟨b, 0, none⟩) L.length cap)) (h4 : Below w.heap.size w W) (h5 : w.heap.size + 3 ≤ W.heap.size) (hb : Below W.heap.size W W2) :
    (W2.cell? ⟨w.heap.size + 1, 0, none⟩ = some (str z) ∧ W2.frozen? ⟨w.heap.size + 1, 0, none⟩ = false) ∧ KeepsFrom (w.heap.size + 3) W (W2.setCell ⟨w.heap.size + 1, 0, none⟩ (str (Tm.make 112 [x.2, z]))) ∧ RInv w L b cap (pre ++ [x]) (W2.setCell ⟨w.heap.size + 1, 0, none⟩ (str (Tm.make 112 [x.2, z]))) := by
  have g1 := boxed_later h1 hb
  have g3 := boxed_later h3 hb
  refine ⟨⟨g1.cell, g1.frozen⟩, ((keeps_below hb).trans (KeepsOthers.setCell _ _ _)).from _, ⟨⟨_, g1.set _, fun e => ?_⟩, ?_⟩, (h4.trans (hb.mono h4.size)).setCell (p := ⟨w.heap.size + 1, 0, none⟩) (by simp) _, Nat.le_trans h5 (Nat.le_trans hb.size (KeepsOthers.setCell _ _ _).size)⟩
  · obtain ⟨e1, e2⟩ := backs_last e
    have h0 : 0 < pre.length := by
      rw [e2] at hx
      simp at hx
      omega
    rw [List.length_append, List.length_singleton, bldM_step hl h0, h2 e1, e2]
  · exact g3.kept (grownBy_setCell' _ _ _) (by simp)
theorem two_set {W W2 : World} {a b c : Nat} {v : Value} (ha : a ≠ c) (hb : b ≠ c) (h1 : a < W.heap.size) (h2 : b < W.heap.size) (h : Below W.heap.size W W2) : Two a b W (W2.setCell ⟨c, 0, none⟩ v) :=
  ⟨(Below.heap_setCell _ _ _ a (by simpa using ha)).trans (h.block a h1), (Below.heap_setCell _ _ _ b (by simpa using hb)).trans (h.block b h2)⟩

set_option maxRecDepth 100000 in
set_option maxHeartbeats 8000000 in
theorem paired_any (b n cap : Nat) (L : List (List UInt8)) (w : World) (h0 : L.length = n) (h1 : 0 < n) (h2 : n ≤ 100) (hA : AtS w (some ⟨b, 0, none⟩) L) (hb : b < w.heap.size) :
    Calls Try.prog 31 #[.slice (some ⟨b, 0, none⟩) n cap] w fun e w' => e = .returned (str (bldM L)) ∧ Below w.heap.size w w' := by
  refine (callsIn_wide (n := 3)).1 ?_
  subst h0
  have QQ : Aside (∀ (ys : List (Int × List UInt8)) (W' : World) (D : Nat), ys = backs L L.length → w.heap.size + 3 ≤ D → W'.heap[D]? = some (.deferred (some [])) → RInv w L b cap ys W' → W'.cell? ⟨w.heap.size + 1, 0, none⟩ = some (str (bldM L)) ∧ Below w.heap.size w (W'.putObj D (.deferred none))) := by
    rintro ys W' D hy hD hK ⟨⟨⟨z, hv, hz⟩, _⟩, hb, _⟩
    have e1 : ys.length = L.length := by rw [hy, backs_len]
    rw [e1] at hz
    have e2 := hz hy
    rw [Nat.sub_self, List.drop_zero] at e2
    refine ⟨by rw [hv.cell, e2], hb.trans (belowK_b (w := w) (Nat.le_refl _) W' D _ _ (by omega) hK rfl rfl)⟩
  have AC : Aside (∀ j x, L[j]? = some x → w.cell? ⟨b, j, none⟩ = some (str x)) := by
    intro j x hx
    rcases hA with e | ⟨b', off, e, hc⟩
    · rw [e] at h1; simp at h1
    · cases e
      have := hc j x hx
      rwa [Nat.zero_add] at this
  clear hA
  unfold str at QQ ⊢
  generalize (⟨(bldM L).toArray⟩ : ByteArray) = z0 at *
  refine callsIn_of_wp_marks Try.func31 rfl trivial ?_ rfl
  simp only [Try.ntmps31, List.size_toArray, List.length_cons, List.length_nil, Nat.reduceAdd, Nat.reduceSub, Array.replicate_succ, Array.replicate_zero, List.push_toArray, List.append_toArray, List.nil_append, List.cons_append]
  gi_wp2_with fail
  refine ⟨trivial, (back_in 2 _ _ _ _).mono ?_⟩
  rintro e w3 ⟨rfl, hw3⟩
  have sz3 : w3.heap.size = w.heap.size + 3 := by rw [hw3]; simp
  have B3 : Below w.heap.size w w3 := by
    rw [hw3]
    exact (((Below.refl _ w).alloc (Nat.le_refl _) _).alloc (by simp) _).alloc (by simp; omega) _
  have IB : Aside (RInv w L b cap [] w3) := by
    refine ⟨⟨⟨[], ?_, fun _ => by simp [bldM]⟩, ?_⟩, B3, by omega⟩
    · rw [hw3]
      have := (Boxed.new (w.alloc (.cells #[.slice (some ⟨b, 0, none⟩) L.length cap] 72)) 22 (.string ⟨#[]⟩)).alloc (.cells #[.slice (some ⟨b, 0, none⟩) L.length cap] 72)
      rw [World.size_alloc] at this
      exact this
    · rw [hw3]
      exact ((Boxed.new w 72 _).alloc _).alloc _
  have cS : w3.cell? ⟨w.heap.size + 2, 0, none⟩ = some (.slice (some ⟨b, 0, none⟩) L.length cap) := by
    rw [hw3]
    have := (Boxed.new ((w.alloc (.cells #[.slice (some ⟨b, 0, none⟩) L.length cap] 72)).alloc (.cells #[.string ⟨#[]⟩] 22)) 72 (.slice (some ⟨b, 0, none⟩) L.length cap)).cell
    simpa using this
  have cL : ∀ j x, L[j]? = some x → w3.cell? ⟨b, j, none⟩ = some (str x) := fun j x hx => (B3.cell (p := ⟨b, j, none⟩) hb).trans (AC.out j x hx)
  simp only [World.size_alloc, Nat.add_assoc, Nat.reduceAdd]
  clear hw3 B3
  gi_wp2_with fail
  refine wpIn_rangeFunc_ownG (w0 := w3) rfl (by omega) (gf := 50) (lb := #[.pointer (some ⟨w.heap.size + 2, 0, none⟩)]) rfl trivial (enters_of Try.func50 (by kernel_rfl) rfl)
    (back_stops 2 (by omega) (w.heap.size + 2) b cap L (by omega) w3 (by omega) (by omega) cS cL)
    (fun h k => ⟨k.1.trans h.1, k.2.trans h.2⟩) (fun W l o o' hl _ _ _ => ⟨World.putObj_heap_other (by omega), World.putObj_heap_other (by omega)⟩) (Below.refl _ _) (fun _ => rfl)
    (RInv w L b cap) (fun _ _ _ => False) (by rw [sz3]; exact rInv_own w L b cap) (fun _ _ _ _ _ hs _ _ => hs) IB.out
    (fun y => { tmps := #[.slice (some ⟨b, 0, none⟩) L.length cap, .pointer (some ⟨w.heap.size, 0, none⟩), .string ⟨#[]⟩, .pointer (some ⟨w.heap.size + 1, 0, none⟩), .int .i64 y.1, str y.2, .slice (some ⟨b, 0, none⟩) L.length cap,
      .func (.func 50) #[] #[.pointer (some ⟨w.heap.size + 2, 0, none⟩)], .int .i64 y.1, str y.2, undef, undef, undef, undef, undef, undef, undef, undef, undef, undef, undef, undef, undef, undef], defers := [] }) ?assign ?body ?done ?stop
  case assign =>
    intro l y W K hK
    unfold encI
    gi_wp2
    exact hK
  case body =>
    rintro l pre y W hI hlt
    have hI0 := hI
    obtain ⟨⟨⟨z, g1, g2⟩, g3⟩, g4, g5⟩ := hI0
    have c1 := g1.cell
    have f1 := g1.frozen
    have c3 := g3.cell
    by_cases hx : y.1 = (L.length : Int) - 1
    · have st := rInv_first hI hlt hx
      have tw : Two (w.heap.size + 2) b W (W.setCell ⟨w.heap.size + 1, 0, none⟩ (str y.2)) := two_set (by omega) (by omega) (by omega) (by omega) (Below.refl _ _)
      have ST : Aside (_ ∧ _ ∧ _) := ⟨st.1, tw, st.2⟩
      have t1 : (y.1 == (L.length : Int) - 1) = true := by simpa using hx
      clear hI g1 g2 g3 g4 g5 st tw hx IB cS cL QQ AC
      rw [← sz3] at ST
      unfold str at ST c1 ⊢
      generalize (⟨y.2.toArray⟩ : ByteArray) = t at *
      generalize (⟨z.toArray⟩ : ByteArray) = z1 at *
      generalize y.1 = i at *
      gi_wp2
      exact ST.out
    · have st := fun W2 hb2 => rInv_next (W2 := W2) hlt hx g1 g2 g3 g4 g5 hb2
      have ST : Aside (∀ W2, Below W.heap.size W W2 → (_ ∧ _) ∧ KeepsFrom (w.heap.size + 3) W _ ∧ Two (w.heap.size + 2) b W (W2.setCell ⟨w.heap.size + 1, 0, none⟩ (str (Tm.make 112 [y.2, z]))) ∧ _) := fun W2 hb2 => ⟨(st W2 hb2).1, (st W2 hb2).2.1, two_set (by omega) (by omega) (by omega) (by omega) hb2, (st W2 hb2).2.2⟩
      have MK : Aside (Calls _ _ _ _ _) := make2 112 y.2 z W W (Below.refl _ _)
      rw [show ((112 : UInt8).toNat : Int) = 112 from rfl] at MK
      have t1 : (y.1 == (L.length : Int) - 1) = false := by simpa using hx
      clear hI g1 g2 g3 g4 g5 st hx IB cS cL QQ AC
      unfold str at ST c1 MK ⊢
      generalize (⟨y.2.toArray⟩ : ByteArray) = t at *
      generalize (⟨z.toArray⟩ : ByteArray) = z1 at *
      generalize (⟨(Tm.make 112 [y.2, z]).toArray⟩ : ByteArray) = z2 at *
      generalize Tm.makeE 112 [y.2, z] = ec at *
      generalize y.1 = i at *
      gi_wp2_with fail
      refine ⟨trivial, (CallsIn.inRound l (callsIn_wide.2 MK.out)).mono ?_⟩
      rintro e W2 ⟨rfl, hb2⟩
      obtain ⟨⟨d1, d2⟩, s2⟩ := ST.out W2 hb2
      have S2 : Aside (_ ∧ _ ∧ _) := s2
      clear ST MK s2 hb2 c1 f1 c3
      rw [← sz3] at S2
      gi_wp2
      exact S2.out
  case done =>
    rintro D ys W hD hys hI hK
    obtain ⟨hc, hbb⟩ := QQ.out ys W D hys (by omega) hK hI
    have QD : Aside (Below w.heap.size w (W.putObj D (.deferred none))) := hbb
    clear hI hys QQ IB cS cL hbb
    gi_wp2
    refine ⟨by simp, .inl ⟨_, _, rfl, run_takeDeferred hK, ?_⟩⟩
    exact ⟨_, results_tmp rfl _ _ _, rfl, QD.out⟩
  case stop =>
    rintro D c pre W _ _ h _
    exact h.elim

end Go.Proofs.Ytimeggbjmcnnoaa
