/- What the document's Put answers. -/
import Derived.Test.YtfjdopmjcddnlaaBtS
set_option linter.unusedVariables false
namespace Go.Proofs.Ytfjdopmjcddnlaa
open Go.RowKit Cn Rl Bt

namespace Bt
/-- What the document's loop has gathered. -/
def accL (l : List Ct) (c : Ct) (k : Nat) : List Ct := if pos l c.1 < k then l.take (pos l c.1) ++ c :: (l.take k).drop (pos l c.1) else l.take k
theorem acc_zero (l : List Ct) (c : Ct) : accL l c 0 = [] := by unfold accL; rw [if_neg (Nat.not_lt_zero _)]; rfl
theorem acc_mid {l : List Ct} {c e : Ct} {k : Nat} (he : l[k]? = some e) (hp : pos l c.1 = k) : accL l c (k + 1) = (accL l c k ++ [c]) ++ [e] := by
  unfold accL
  rw [hp, if_pos (Nat.lt_succ_self k), if_neg (Nat.lt_irrefl k), List.take_add_one, he]
  have hk := (List.getElem?_eq_some_iff.1 he).1
  rw [List.drop_append_of_le_length (by rw [List.length_take]; omega), List.drop_of_length_le (by rw [List.length_take]; omega)]
  simp
theorem acc_late {l : List Ct} {c e : Ct} {k : Nat} (he : l[k]? = some e) (hp : pos l c.1 < k) : accL l c (k + 1) = accL l c k ++ [e] := by
  unfold accL
  rw [if_pos hp, if_pos (by omega), List.take_add_one, he]
  have hk := (List.getElem?_eq_some_iff.1 he).1
  rw [List.drop_append_of_le_length (by rw [List.length_take]; omega)]
  simp
theorem acc_soon {l : List Ct} {c e : Ct} {k : Nat} (he : l[k]? = some e) (hp : k < pos l c.1) : accL l c (k + 1) = accL l c k ++ [e] := by
  unfold accL
  rw [if_neg (by omega), if_neg (by omega), List.take_add_one, he]; rfl
theorem acc_done {l : List Ct} {c : Ct} (hp : pos l c.1 < l.length) : accL l c l.length = insL l c := by
  unfold accL insL
  rw [if_pos hp, List.take_length]
theorem acc_last {l : List Ct} {c : Ct} (hp : ¬ pos l c.1 < l.length) : accL l c l.length ++ [c] = insL l c := by
  have : pos l c.1 = l.length := by have : pos l c.1 ≤ l.length := List.countP_le_length; omega
  unfold accL insL
  rw [if_neg hp, this, List.take_length, List.drop_length]
theorem acc_len {l : List Ct} {c : Ct} {k : Nat} (hk : k ≤ l.length) : (accL l c k).length ≤ k + 1 := by
  unfold accL
  split
  · rw [List.length_append, List.length_cons, List.length_drop, List.length_take, List.length_take]; omega
  · rw [List.length_take]; omega
/-- Where a name that nobody has stands. -/
theorem pos_lt {l : List Ct} {c e : Ct} {k : Nat} (h : Srt l) (he : l[k]? = some e) (hne : e.1 ≠ c.1) : (c.1 < e.1 ↔ pos l c.1 ≤ k) := by
  obtain ⟨p1, p2⟩ := pos_split h c.1
  obtain ⟨hk, rfl⟩ := List.getElem?_eq_some_iff.1 he
  constructor
  · intro h1
    refine Nat.le_of_not_lt fun h2 => ?_
    have := p1 l[k] (List.mem_of_getElem? (i := k) (by rw [List.getElem?_take, if_pos h2]; exact he))
    omega
  · intro h1
    have := p2 l[k] (List.mem_of_getElem? (i := k - pos l c.1) (by rw [List.getElem?_drop, show pos l c.1 + (k - pos l c.1) = k by omega]; exact he))
    omega
end Bt
/-- The three boxes of the document's Put. -/
def RS (w W : World) (v : Int) (s : Nat) (sl : Value) (c : Ct) : Prop :=
  X3 W w.heap.size 28 (.int .i64 v) (.int .u16 (s : Int)) sl ∧ X3 W (w.heap.size + 1) 32 (.int .u8 (c.1 : Int)) (.bool c.2.1) (.int .u8 (c.2.2 : Int)) ∧ X3 W (w.heap.size + 1 + 1) 28 (.int .i64 0) (.int .u16 0) (.slice none 0 0) ∧ Below w.heap.size w W ∧ w.heap.size + 1 + 1 + 1 ≤ W.heap.size
theorem RS.later {w W W' : World} {v : Int} {s : Nat} {sl : Value} {c : Ct} (h : RS w W v s sl c) (hb : Below W.heap.size W W') : RS w W' v s sl c := ⟨h.1.later hb, h.2.1.later hb, h.2.2.1.later hb, below_step h.2.2.2.1 hb, Nat.le_trans h.2.2.2.2 hb.size⟩
theorem RS.grown {w W W' : World} {v : Int} {s : Nat} {sl : Value} {c : Ct} {row : Option Nat} (h : RS w W v s sl c) (hg : W.grownBy W' row) (hr : ∀ g, row = some g → w.heap.size + 1 + 1 + 1 ≤ g) : RS w W' v s sl c := by
  have h1 : ∀ b, b < w.heap.size + 1 + 1 + 1 → row ≠ some b := fun b hb e => by have := hr b e; omega
  exact ⟨h.1.grown hg (h1 _ (by omega)), h.2.1.grown hg (h1 _ (by omega)), h.2.2.1.grown hg (h1 _ (by omega)), h.2.2.2.1.grown hg h.2.2.2.1.size (fun j hj => by have := hr j hj; omega), Nat.le_trans h.2.2.2.2 hg.size⟩
theorem RS.slot {w W : World} {v : Int} {s : Nat} {sl : Value} {c : Ct} (h : RS w W v s sl c) (sl' : Value) : RS w (W.setCell ⟨w.heap.size, 2, none⟩ sl') v s sl' c :=
  ⟨h.1.set2 sl', h.2.1.far (by omega) _, h.2.2.1.far (by omega) _, below_set1 h.2.2.2.1 (Nat.le_refl _) _, by simpa using h.2.2.2.2⟩
/-- What the document's Put answers. -/
def PutR (w : World) (v : Int) (s : Nat) (a0 : Option Addr) (l0 l : List Ct) (err : Nat) (e : Ending) (w' : World) : Prop :=
  ∃ a c, e = .returned (.tuple #[.agg #[.int .i64 v, .int .u16 (s : Int), .slice a l.length c], .int .i64 (err : Int)]) ∧ AtC w' a l ∧ Below w.heap.size w w' ∧ ((a = a0 ∧ l = l0) ∨ Fr w.heap.size a)
/-- A call's row is left alone by what lies below. -/
theorem at_old {w W : World} {a : Option Addr} {l : List Ct} (h : AtC w a l) (hb : Below w.heap.size w W) (j : Nat) (u : Value) {b : Nat} (hn : w.heap.size ≤ b) : AtC (W.setCell ⟨b, j, none⟩ u) a l := h.later (below_set1 hb hn u)

set_option maxHeartbeats 8000000 in
set_option maxRecDepth 100000 in
/-- What the document's Put gives. -/
theorem rput_any (v : Int) (s : Nat) (a : Option Addr) (c : Nat) (l : List Ct) (z : Ct) (w : World) (hl : AtC w a l) (hs : s < 65536) (hn : l.length ≤ 100) (h8 : ∀ z ∈ l, z.1 < 256 ∧ z.2.2 < 256) (hz8 : z.1 < 256 ∧ z.2.2 < 256) :
    Calls Try.prog 12 #[boxV v s (.slice a l.length c), castV z] w (PutR w v s a l (putL v s l z) (putE v s l z)) := by
  obtain ⟨i0, hi, hz0, hz1, hz2⟩ := info_parts info32
  have I : Aside (Try.prog.info? 32 = some i0 ∧ i0.zero = some (.agg #[.int .u8 0, .bool false, .int .u8 0]) ∧ i0.size = 3 ∧ i0.bytes = 3) := ⟨hi, hz0, hz1, hz2⟩
  clear hi hz0 hz1 hz2
  obtain ⟨n, en⟩ : ∃ n, n = l.length := ⟨_, rfl⟩
  have C30 : Aside (∀ W, Below w.heap.size w W → Calls Try.prog 30 #[.agg #[.int .i64 v, .int .u16 (s : Int), .slice a n c]] W fun e w' => e = .returned (.bool (rightY v s l)) ∧ Below W.heap.size W w') := fun W hb => by rw [en]; exact rbright_any v s a c l W (hl.later hb) hs (by omega) h8
  have C23 : Aside (∀ W : World, Calls Try.prog 23 #[.int .u16 (s : Int), .int .u8 (z.1 : Int)] W fun e w' => e = .returned (.bool (hasS s z.1)) ∧ w' = W) := fun W => rhas_any s z.1 W hs hz8.1
  have C31 : Aside (∀ W, Calls Try.prog 31 #[.agg #[.int .i64 v, .int .u16 (s : Int)], .agg #[.bool z.2.1, .int .u8 (z.2.2 : Int)]] W fun e w' => e = .returned (.tuple #[.agg #[.int .i64 (appV v s z.2.1 z.2.2), .int .u16 (appS v s z.2.1 z.2.2 : Nat)], .int .i64 (appE v s z.2.1 z.2.2 : Nat)]) ∧ Below W.heap.size W w') := fun W => rapply_any v s z.2.1 z.2.2 W hs hz8.2
  -- with an error the box is answered as it is
  have RE : Aside (∀ (m : Nat) (W : World) (u0 u1 u2 : Value), putE v s l z = m → m ≠ 0 → RS w W v s (.slice a n c) z → PutR w v s a l (putL v s l z) (putE v s l z) (.returned (.tuple #[.agg #[.int .i64 v, .int .u16 (s : Int), .slice a n c], .int .i64 (m : Int)])) (((W.setCell ⟨w.heap.size + 1 + 1, 0, none⟩ u0).setCell ⟨w.heap.size + 1 + 1, 1, none⟩ u1).setCell ⟨w.heap.size + 1 + 1, 2, none⟩ u2)) := fun m W u0 u1 u2 he hm h => by
    have e2 : putL v s l z = l := by unfold putL; rw [if_neg (by rw [he]; exact hm)]
    rw [e2, he, en]
    exact ⟨a, c, rfl, hl.later (below_set3 h.2.2.2.1 (by omega) _ _ _), below_set3 h.2.2.2.1 (by omega) _ _ _, .inl ⟨rfl, rfl⟩⟩
  have RO : Aside (∀ (g : Option Addr) (q m : Nat) (W : World) (u0 u1 u2 : Value), putE v s l z = 0 → W.ownsRow (w.heap.size + 1 + 1 + 1) 32 3 (.slice g m q) m (rowC (insL l z)) → Below w.heap.size w W → PutR w v s a l (putL v s l z) (putE v s l z) (.returned (.tuple #[.agg #[.int .i64 v, .int .u16 (s : Int), .slice g m q], .int .i64 0])) (((W.setCell ⟨w.heap.size + 1 + 1, 0, none⟩ u0).setCell ⟨w.heap.size + 1 + 1, 1, none⟩ u1).setCell ⟨w.heap.size + 1 + 1, 2, none⟩ u2)) := fun g q m W u0 u1 u2 he ho hb => by
    have e2 : putL v s l z = insL l z := by unfold putL; rw [if_pos he]
    have hl2 : (insL l z).length = m := by have := ho.1; rw [rowC_len] at this; omega
    rw [e2, he]
    have h2 := own_off (j := 2) (own_off (j := 1) (own_off (j := 0) ho (Nat.lt_succ_self _) u0) (Nat.lt_succ_self _) u1) (Nat.lt_succ_self _) u2
    obtain ⟨a', c', e, hat, hc, hl⟩ := own_slice h2
    cases e
    subst hl2
    refine ⟨g, q, rfl, hat, below_set3 hb (by omega) _ _ _, .inr fun ad e => ?_⟩
    subst e
    have := (ho.lt ad.block rfl).1
    omega
  generalize hQ : PutR w v s a l (putL v s l z) (putE v s l z) = Q at RE RO ⊢
  clear hQ
  rw [← en] at hn ⊢
  have HA : Aside (AtC w a l ∧ n = l.length) := ⟨hl, en⟩
  clear hl en h8 hz8
  obtain ⟨V, hV⟩ : ∃ V, V = ((w.alloc (.cells #[.int .i64 v, .int .u16 (s : Int), .slice a n c] 28)).alloc (.cells #[.int .u8 (z.1 : Int), .bool z.2.1, .int .u8 (z.2.2 : Int)] 32)).alloc (.cells #[.int .i64 0, .int .u16 0, .slice none 0 0] 28) := ⟨_, rfl⟩
  have X : Aside (RS w V v s (.slice a n c) z) := by
    rw [hV]
    exact ⟨((X3.new w _ _ _ _).alloc _).alloc _, (X3.new1 w _ _ _ _ _).alloc _, X3.new2 w _ _ _ _ _ _, ((below_one w _).alloc (by simp) _).alloc (by simp; omega) _, by simp⟩
  unfold boxV castV
  by_cases hr : RightX v s l
  · rw [rightY_true hr] at C30
    cases hh : hasS s z.1 with
    | true =>
      rw [hh] at C23
      have HR : Aside (RightX v s l ∧ hasS s z.1 = true) := ⟨hr, hh⟩
      clear hr hh
      go_enter Try.func12, Try.ntmps12
      go_wp2_with fail
      rw [← hV]
      clear hV
      obtain ⟨x0, x1, x2⟩ := X.out.1.cells; obtain ⟨c0, c1, c2⟩ := X.out.2.1.cells; obtain ⟨r0, r1, r2⟩ := X.out.2.2.1.cells; have f0 := X.out.2.2.1.frozen 0; have f1 := X.out.2.2.1.frozen 1; have f2 := X.out.2.2.1.frozen 2; have g2 := X.out.1.frozen 2
      go_wp2_with (first | (go_at_call 30; refine (C30.out _ X.out.2.2.2.1).mono ?_; rintro e w1 ⟨rfl, hb⟩; have Y : Aside (RS w w1 v s (.slice a n c) z) := X.out.later hb; clear hb; clear x0 x1 x2 c0 c1 c2 r0 r1 r2 f0 f1 f2 g2; obtain ⟨x0, x1, x2⟩ := Y.out.1.cells; obtain ⟨c0, c1, c2⟩ := Y.out.2.1.cells; obtain ⟨r0, r1, r2⟩ := Y.out.2.2.1.cells; have f0 := Y.out.2.2.1.frozen 0; have f1 := Y.out.2.2.1.frozen 1; have f2 := Y.out.2.2.1.frozen 2; have g2 := Y.out.1.frozen 2) | (go_at_call 23; refine (C23.out _).mono ?_; rintro e w' ⟨rfl, hw⟩; replace hw := hw.symm; subst hw) | fail)
      clear x0 x1 x2 c0 c1 c2 r0 r1 r2 f0 f1 f2 g2
      go_loopw [6, 7, 8] (fun s6 s7 i wr => ∃ (k m : Nat) (g : Option Addr) (q : Nat), k ≤ n ∧ i = .int .i64 (k : Nat) ∧ s6 = .slice g m q ∧ s7 = .bool (decide (pos l z.1 < k)) ∧ m ≤ 2 * k ∧ Aside (wr.ownsRow (w.heap.size + 1 + 1 + 1) 32 3 (.slice g m q) m (rowC (accL l z k)) ∧ RS w wr v s (.slice a n c) z) ∧ Aside (∀ c ∈ l.take k, c.1 ≠ z.1)) (fun _ _ i _ => n - (intOf i).toNat)
      case atStart => exact ⟨0, 0, none, 0, Nat.zero_le _, rfl, rfl, by rw [decide_eq_false (Nat.not_lt_zero _)], by omega, ⟨by rw [acc_zero]; exact World.ownsRow_nil _ _ _ _, Y.out⟩, (fun c hc => by simp at hc)⟩
      case round =>
        obtain ⟨k, m, g, q, hk, rfl, rfl, rfl, hm, HS, NE⟩ := hrel
        have SR : Aside (Srt l) := HR.out.1.2.2
        by_cases hlt : k < n
        · have t1 : (k : Int) < (n : Int) := by omega
          have t0 : (0 : Int) ≤ (k : Int) := by omega
          obtain ⟨e, hke⟩ : ∃ e, l[k]? = some e := ⟨_, List.getElem?_eq_getElem (by have := HA.out.2; omega)⟩
          obtain ⟨b, off, rfl, y0, y1, y2⟩ := AtC.get (HA.out.1.later HS.out.2.2.2.2.1) hke
          have KE : Aside (l[k]? = some e) := hke
          clear hke
          obtain ⟨x0, x1, x2⟩ := HS.out.2.1.cells
          obtain ⟨c0, c1, c2⟩ := HS.out.2.2.1.cells
          have p0 : ∀ p : Bw wr, p.w'.cell? ⟨w.heap.size, 2, none⟩ = some (.slice (some ⟨b, off, none⟩) n c) := fun p => cell_later p.h x2
          have p1 : ∀ p : Bw wr, p.w'.cell? ⟨w.heap.size + 1, 0, none⟩ = some (.int .u8 (z.1 : Int)) := fun p => cell_later p.h c0
          have p2 : ∀ p : Bw wr, p.w'.cell? ⟨b, off + k * 3, none⟩ = some (.int .u8 (e.1 : Int)) := fun p => cell_later p.h y0
          by_cases hq : e.1 = z.1
          · have q1 : ((e.1 : Int) == (z.1 : Int)) = true := by rw [hq]; simp
            have q2 : (e.1 : Int) = (z.1 : Int) := by rw [hq]
            have RX : Aside (∀ (W : World) (u0 u1 u2 : Value), RS w W v s (.slice (some ⟨b, off, none⟩) n c) z → _) := fun W u0 u1 u2 h => RE.out 9 W u0 u1 u2 (by unfold putE; rw [if_pos HR.out.1, if_pos HR.out.2, if_pos (show fnd l z.1 = true from List.any_eq_true.2 ⟨e, List.mem_of_getElem? KE.out, decide_eq_true hq⟩)]) (by decide) h
            have YP : Aside (∀ p : Bw wr, RS w p.w' v s (.slice (some ⟨b, off, none⟩) n c) z) := fun p => HS.out.2.later p.h
            clear RE RO hq C31
            go_wp2_with fail
            clear x0 x1 x2 c0 c1 c2 y0 y1 y2
            have hne := Bw.some wr
            refine wp_region_wq (by kernel_rfl) (by kernel_rfl) ?_
            repeat (refine wq_step (fun K hK => ?_); go_simp; first | (refine hK _ ?_; clear hK K) | (apply Exists.intro; refine ⟨fun _ => ?_, hK _ ?_⟩; (first | fail); clear hK K))
            refine wq_nil ?_
            intro _ hw'
            obtain ⟨pq, hw''⟩ := hw'
            subst hw''
            have Y := YP.out pq
            have Y' : Aside _ := Y
            obtain ⟨x0, x1, x2⟩ := Y.1.cells
            obtain ⟨r0, r1, r2⟩ := Y.2.2.1.cells
            have f0 := Y.2.2.1.frozen 0; have f1 := Y.2.2.1.frozen 1; have f2 := Y.2.2.1.frozen 2
            clear Y
            go_wp2_with fail
            exact bodyPost_ret (results_cell2 rfl rfl (Try.isAgg28 _) (Try.sizeOf28 _) (load_three (Y'.out.2.2.1.set _ _ _))) rfl (RX.out _ _ _ _ Y'.out)
          · have q1 : ((e.1 : Int) == (z.1 : Int)) = false := by rw [beq_eq_false_iff_ne]; omega
            have q2 : ¬ ((e.1 : Int) = (z.1 : Int)) := by omega
            have PL : Aside (z.1 < e.1 ↔ pos l z.1 ≤ k) := pos_lt SR.out KE.out hq
            have NN : Aside (∀ c ∈ l.take (k + 1), c.1 ≠ z.1) := fun c hc => by
              rw [List.take_add_one, KE.out] at hc
              rcases List.mem_append.1 hc with hc | hc
              · exact NE.out c hc
              · have : c = e := by simpa using hc
                rw [this]; exact hq
            have YP : Aside (∀ p : Bw wr, p.w'.ownsRow (w.heap.size + 1 + 1 + 1) 32 3 (.slice g m q) m (rowC (accL l z k)) ∧ RS w p.w' v s (.slice (some ⟨b, off, none⟩) n c) z) := fun p => ⟨own_later HS.out.1 p.h, HS.out.2.later p.h⟩
            clear RE RO NE C31
            go_wp2_with fail
            clear x0 x1 x2 c0 c1 c2 y0 y1 y2
            have hne := Bw.some wr
            refine wp_region_wq (by kernel_rfl) (by kernel_rfl) ?_
            repeat (refine wq_step (fun K hK => ?_); go_simp; first | (refine hK _ ?_; clear hK K) | (apply Exists.intro; refine ⟨fun _ => ?_, hK _ ?_⟩; (first | fail); clear hK K))
            refine wq_nil ?_
            intro _ hw'
            obtain ⟨pq, hw''⟩ := hw'
            subst hw''
            have YW := YP.out pq
            clear p0 p1 p2 YP hne
            generalize pq.w' = W1 at YW ⊢
            have Y : Aside _ := YW
            obtain ⟨b', off', eq', y0, y1, y2⟩ := AtC.get (HA.out.1.later YW.2.2.2.2.1) KE.out
            have eb : b = b' := congrArg Addr.block (Option.some.inj eq')
            have eo : off = off' := congrArg Addr.off (Option.some.inj eq')
            subst eb eo
            clear eq'
            obtain ⟨x0, x1, x2⟩ := YW.2.1.cells
            obtain ⟨c0, c1, c2⟩ := YW.2.2.1.cells
            have p0 : ∀ p : Bw W1, p.w'.cell? ⟨w.heap.size, 2, none⟩ = some (.slice (some ⟨b, off, none⟩) n c) := fun p => cell_later p.h x2
            have p1 : ∀ p : Bw W1, p.w'.cell? ⟨w.heap.size + 1, 0, none⟩ = some (.int .u8 (z.1 : Int)) := fun p => cell_later p.h c0
            have p2 : ∀ p : Bw W1, p.w'.cell? ⟨b, off + k * 3, none⟩ = some (.int .u8 (e.1 : Int)) := fun p => cell_later p.h y0
            have YP : Aside (∀ p : Bw W1, p.w'.ownsRow (w.heap.size + 1 + 1 + 1) 32 3 (.slice g m q) m (rowC (accL l z k)) ∧ RS w p.w' v s (.slice (some ⟨b, off, none⟩) n c) z) := fun p => ⟨own_later Y.out.1 p.h, Y.out.2.later p.h⟩
            clear x0 x1 x2 c0 c1 c2 y0 y1 y2 YW
            rcases Nat.lt_trichotomy (pos l z.1) k with hp | hp | hp
            · have d1 : decide (pos l z.1 < k) = true := decide_eq_true hp
              have d2 : decide (pos l z.1 < k + 1) = true := decide_eq_true (by omega)
              have AC : Aside (accL l z (k + 1) = accL l z k ++ [e]) := acc_late KE.out hp
              rw [d1]
              clear hp PL d1
              go_wp2_with fail
              have hne := Bw.some W1
              refine wp_region_wq (by kernel_rfl) (by kernel_rfl) ?_
              repeat (refine wq_step (fun K hK => ?_); go_simp; first | (refine hK _ ?_; clear hK K) | (apply Exists.intro; refine ⟨fun _ => ?_, hK _ ?_⟩; (first | fail); clear hK K))
              refine wq_nil ?_
              intro _ hw'
              obtain ⟨pq, hw''⟩ := hw'
              subst hw''
              have UW := YP.out pq
              clear p0 p1 p2 YP hne
              generalize pq.w' = W2 at UW ⊢
              have U : Aside _ := UW
              obtain ⟨b', off', eq', y0, y1, y2⟩ := AtC.get (HA.out.1.later UW.2.2.2.2.1) KE.out
              have eb : b = b' := congrArg Addr.block (Option.some.inj eq')
              have eo : off = off' := congrArg Addr.off (Option.some.inj eq')
              subst eb eo
              clear eq'
              obtain ⟨x0, x1, x2⟩ := UW.2.1.cells
              obtain ⟨c0, c1, c2⟩ := UW.2.2.1.cells
              clear UW
              go_wp2_with (at_builtin; refine wpList_append_own _ rfl _ _ 26 rfl (w.heap.size + 1 + 1 + 1) 32 i0 (.agg #[.int .u8 0, .bool false, .int .u8 0]) 3 3 Try.underlying26 I.out.1 I.out.2.1 I.out.2.2.1 I.out.2.2.2 rfl (by decide) _ _ _ rfl (U.out.1.alloc _) ⟨W2.heap.size, 0, none⟩ 1 1 [.int .u8 (e.1 : Int), .bool e.2.1, .int .u8 (e.2.2 : Int)] rfl rfl ?c1 ?c2 ?c3 ?c4 ?c5 ?_)
              case c1 => exact cell_three W2 (.int .u8 (e.1 : Int)) (.bool e.2.1) (.int .u8 (e.2.2 : Int)) 32
              case c2 => intro u hu; simp at hu; rcases hu with rfl | rfl | rfl <;> rfl
              case c3 => unfold maxLen; omega
              case c4 => omega
              case c5 => have := U.out.2.2.2.2.2; simp; omega
              intro v' wn hown hgrow _
              obtain ⟨g2, q2, rfl, -, -, -⟩ := own_slice (l := accL l z (k + 1)) (by rw [AC.out, rowC_append]; simpa [rowC, encC] using hown)
              have NX : Aside (wn.ownsRow (w.heap.size + 1 + 1 + 1) 32 3 (.slice g2 (m + 1) q2) (m + 1) (rowC (accL l z (k + 1))) ∧ RS w wn v s (.slice (some ⟨b, off, none⟩) n c) z) := ⟨by rw [AC.out, rowC_append]; simpa [rowC, encC] using hown, (U.out.2.later (below_one _ _)).grown hgrow (fun j hj => (U.out.1.lt j hj).1)⟩
              clear hown hgrow x0 x1 x2 c0 c1 c2 y0 y1 y2
              go_wp2_with fail
              go_roundw
              case rel => exact ⟨k + 1, m + 1, g2, q2, by omega, by go_num, rfl, by rw [d2], by omega, NX.out, NN.out⟩
              case measure => simp [intOf]; omega
            · have d1 : decide (pos l z.1 < k) = false := decide_eq_false (by omega)
              have d2 : decide (pos l z.1 < k + 1) = true := decide_eq_true (by omega)
              have AC : Aside (accL l z (k + 1) = (accL l z k ++ [z]) ++ [e]) := acc_mid KE.out hp
              have lt : (z.1 : Int) < (e.1 : Int) := by have := PL.out.2 (by omega); omega
              have lt2 : z.1 < e.1 := by omega
              rw [d1]
              clear hp PL d1
              go_wp2_with fail
              have hne := Bw.some W1
              refine wp_region_wq (by kernel_rfl) (by kernel_rfl) ?_
              repeat (refine wq_step (fun K hK => ?_); go_simp; first | (refine hK _ ?_; clear hK K) | (apply Exists.intro; refine ⟨fun _ => ?_, hK _ ?_⟩; (first | fail); clear hK K))
              refine wq_nil ?_
              intro _ hw'
              obtain ⟨pq, hw''⟩ := hw'
              subst hw''
              have UW := YP.out pq
              clear p0 p1 p2 YP hne
              generalize pq.w' = W2 at UW ⊢
              have U : Aside _ := UW
              obtain ⟨b', off', eq', y0, y1, y2⟩ := AtC.get (HA.out.1.later UW.2.2.2.2.1) KE.out
              have eb : b = b' := congrArg Addr.block (Option.some.inj eq')
              have eo : off = off' := congrArg Addr.off (Option.some.inj eq')
              subst eb eo
              clear eq'
              obtain ⟨x0, x1, x2⟩ := UW.2.1.cells
              obtain ⟨c0, c1, c2⟩ := UW.2.2.1.cells
              clear UW
              go_wp2_with (at_builtin; refine wpList_append_own _ rfl _ _ 26 rfl (w.heap.size + 1 + 1 + 1) 32 i0 (.agg #[.int .u8 0, .bool false, .int .u8 0]) 3 3 Try.underlying26 I.out.1 I.out.2.1 I.out.2.2.1 I.out.2.2.2 rfl (by decide) _ _ _ rfl (U.out.1.alloc _) ⟨W2.heap.size, 0, none⟩ 1 1 [.int .u8 (z.1 : Int), .bool z.2.1, .int .u8 (z.2.2 : Int)] rfl rfl ?c1 ?c2 ?c3 ?c4 ?c5 ?_)
              case c1 => exact cell_three W2 (.int .u8 (z.1 : Int)) (.bool z.2.1) (.int .u8 (z.2.2 : Int)) 32
              case c2 => intro u hu; simp at hu; rcases hu with rfl | rfl | rfl <;> rfl
              case c3 => unfold maxLen; omega
              case c4 => omega
              case c5 => have := U.out.2.2.2.2.2; simp; omega
              intro v' wn hown hgrow _
              obtain ⟨g2, q2, rfl, -, -, -⟩ := own_slice (l := accL l z k ++ [z]) (by rw [rowC_append]; simpa [rowC, encC] using hown)
              have U3 : Aside (wn.ownsRow (w.heap.size + 1 + 1 + 1) 32 3 (.slice g2 (m + 1) q2) (m + 1) (rowC (accL l z k ++ [z])) ∧ RS w wn v s (.slice (some ⟨b, off, none⟩) n c) z) := ⟨by rw [rowC_append]; simpa [rowC, encC] using hown, (U.out.2.later (below_one _ _)).grown hgrow (fun j hj => (U.out.1.lt j hj).1)⟩
              clear hown hgrow x0 x1 x2 c0 c1 c2 y0 y1 y2
              clear U
              have U : Aside _ := U3.out
              clear U3
              obtain ⟨b', off', eq', y0, y1, y2⟩ := AtC.get (HA.out.1.later U.out.2.2.2.2.1) KE.out
              have eb : b = b' := congrArg Addr.block (Option.some.inj eq')
              have eo : off = off' := congrArg Addr.off (Option.some.inj eq')
              subst eb eo
              clear eq'
              obtain ⟨x0, x1, x2⟩ := U.out.2.1.cells
              obtain ⟨c0, c1, c2⟩ := U.out.2.2.1.cells
              go_wp2_with (at_builtin; refine wpList_append_own _ rfl _ _ 26 rfl (w.heap.size + 1 + 1 + 1) 32 i0 (.agg #[.int .u8 0, .bool false, .int .u8 0]) 3 3 Try.underlying26 I.out.1 I.out.2.1 I.out.2.2.1 I.out.2.2.2 rfl (by decide) _ _ _ rfl (U.out.1.alloc _) ⟨wn.heap.size, 0, none⟩ 1 1 [.int .u8 (e.1 : Int), .bool e.2.1, .int .u8 (e.2.2 : Int)] rfl rfl ?c1 ?c2 ?c3 ?c4 ?c5 ?_)
              case c1 => exact cell_three wn (.int .u8 (e.1 : Int)) (.bool e.2.1) (.int .u8 (e.2.2 : Int)) 32
              case c2 => intro u hu; simp at hu; rcases hu with rfl | rfl | rfl <;> rfl
              case c3 => unfold maxLen; omega
              case c4 => omega
              case c5 => have := U.out.2.2.2.2.2; simp; omega
              intro v'' wm hown hgrow _
              obtain ⟨g3, q3, rfl, -, -, -⟩ := own_slice (l := accL l z (k + 1)) (by rw [AC.out, rowC_append]; simpa [rowC, encC] using hown)
              have NX : Aside (wm.ownsRow (w.heap.size + 1 + 1 + 1) 32 3 (.slice g3 (m + 1 + 1) q3) (m + 1 + 1) (rowC (accL l z (k + 1))) ∧ RS w wm v s (.slice (some ⟨b, off, none⟩) n c) z) := ⟨by rw [AC.out, rowC_append]; simpa [rowC, encC] using hown, (U.out.2.later (below_one _ _)).grown hgrow (fun j hj => (U.out.1.lt j hj).1)⟩
              clear hown hgrow x0 x1 x2 c0 c1 c2 y0 y1 y2
              go_wp2_with fail
              go_roundw
              case rel => exact ⟨k + 1, m + 1 + 1, g3, q3, by omega, by go_num, rfl, by rw [d2], by omega, NX.out, NN.out⟩
              case measure => simp [intOf]; omega
            · have d1 : decide (pos l z.1 < k) = false := decide_eq_false (by omega)
              have d2 : decide (pos l z.1 < k + 1) = false := decide_eq_false (by omega)
              have AC : Aside (accL l z (k + 1) = accL l z k ++ [e]) := acc_soon KE.out hp
              have lt : ¬ (z.1 : Int) < (e.1 : Int) := by have := PL.out; omega
              have lt2 : ¬ z.1 < e.1 := by omega
              rw [d1]
              clear hp PL d1
              go_wp2_with fail
              have hne := Bw.some W1
              refine wp_region_wq (by kernel_rfl) (by kernel_rfl) ?_
              repeat (refine wq_step (fun K hK => ?_); go_simp; first | (refine hK _ ?_; clear hK K) | (apply Exists.intro; refine ⟨fun _ => ?_, hK _ ?_⟩; (first | fail); clear hK K))
              refine wq_nil ?_
              intro _ hw'
              obtain ⟨pq, hw''⟩ := hw'
              subst hw''
              have UW := YP.out pq
              clear p0 p1 p2 YP hne
              generalize pq.w' = W2 at UW ⊢
              have U : Aside _ := UW
              obtain ⟨b', off', eq', y0, y1, y2⟩ := AtC.get (HA.out.1.later UW.2.2.2.2.1) KE.out
              have eb : b = b' := congrArg Addr.block (Option.some.inj eq')
              have eo : off = off' := congrArg Addr.off (Option.some.inj eq')
              subst eb eo
              clear eq'
              obtain ⟨x0, x1, x2⟩ := UW.2.1.cells
              obtain ⟨c0, c1, c2⟩ := UW.2.2.1.cells
              clear UW
              go_wp2_with (at_builtin; refine wpList_append_own _ rfl _ _ 26 rfl (w.heap.size + 1 + 1 + 1) 32 i0 (.agg #[.int .u8 0, .bool false, .int .u8 0]) 3 3 Try.underlying26 I.out.1 I.out.2.1 I.out.2.2.1 I.out.2.2.2 rfl (by decide) _ _ _ rfl (U.out.1.alloc _) ⟨W2.heap.size, 0, none⟩ 1 1 [.int .u8 (e.1 : Int), .bool e.2.1, .int .u8 (e.2.2 : Int)] rfl rfl ?c1 ?c2 ?c3 ?c4 ?c5 ?_)
              case c1 => exact cell_three W2 (.int .u8 (e.1 : Int)) (.bool e.2.1) (.int .u8 (e.2.2 : Int)) 32
              case c2 => intro u hu; simp at hu; rcases hu with rfl | rfl | rfl <;> rfl
              case c3 => unfold maxLen; omega
              case c4 => omega
              case c5 => have := U.out.2.2.2.2.2; simp; omega
              intro v' wn hown hgrow _
              obtain ⟨g2, q2, rfl, -, -, -⟩ := own_slice (l := accL l z (k + 1)) (by rw [AC.out, rowC_append]; simpa [rowC, encC] using hown)
              have NX : Aside (wn.ownsRow (w.heap.size + 1 + 1 + 1) 32 3 (.slice g2 (m + 1) q2) (m + 1) (rowC (accL l z (k + 1))) ∧ RS w wn v s (.slice (some ⟨b, off, none⟩) n c) z) := ⟨by rw [AC.out, rowC_append]; simpa [rowC, encC] using hown, (U.out.2.later (below_one _ _)).grown hgrow (fun j hj => (U.out.1.lt j hj).1)⟩
              clear hown hgrow x0 x1 x2 c0 c1 c2 y0 y1 y2
              go_wp2_with fail
              go_roundw
              case rel => exact ⟨k + 1, m + 1, g2, q2, by omega, by go_num, rfl, by rw [d2], by omega, NX.out, NN.out⟩
              case measure => simp [intOf]; omega
        · obtain rfl : k = n := by omega
          have NF : Aside (fnd l z.1 = false) := by
            show _ = _
            cases hf : fnd l z.1 with
            | false => rfl
            | true =>
              obtain ⟨c, hc, he⟩ := find_true hf
              exact absurd he (NE.out c (by rw [List.take_of_length_le (Nat.le_of_eq HA.out.2.symm)]; exact hc))
          have PE : Aside (putE v s l z = appE v s z.2.1 z.2.2) := by
            show _ = _
            unfold putE; rw [if_pos HR.out.1, if_pos HR.out.2, if_neg (by rw [NF.out]; decide)]
          obtain ⟨x0, x1, x2⟩ := HS.out.2.1.cells
          obtain ⟨c0, c1, c2⟩ := HS.out.2.2.1.cells
          by_cases hp : pos l z.1 < k
          · have d1 : decide (pos l z.1 < k) = true := decide_eq_true hp
            have AD : Aside (accL l z k = insL l z) := by show _ = _; have := acc_done (l := l) (c := z) (by have := HA.out.2; omega); rw [← HA.out.2] at this; exact this
            rw [d1]
            clear hp d1 SR NE NF
            have U : Aside (wr.ownsRow (w.heap.size + 1 + 1 + 1) 32 3 (.slice g m q) m (rowC (insL l z)) ∧ RS w wr v s (.slice a k c) z) := ⟨by rw [← AD.out]; exact HS.out.1, HS.out.2⟩
            clear HS AD
            by_cases h0 : appE v s z.2.1 z.2.2 = 0
            · rw [h0] at C31
              have E0 : Aside (putE v s l z = 0) := PE.out.trans h0
              clear h0 RE PE
              generalize appV v s z.2.1 z.2.2 = av at C31
              generalize appS v s z.2.1 z.2.2 = sv at C31
              go_wp2_with (first | (go_at_call 31; refine (C31.out _).mono ?_; rintro e w4 ⟨rfl, hb⟩; have Y4 : Aside ((w4.alloc (.cells #[.int .i64 av, .int .u16 (sv : Int)] 25)).ownsRow (w.heap.size + 1 + 1 + 1) 32 3 (.slice g m q) m (rowC (insL l z)) ∧ RS w (w4.alloc (.cells #[.int .i64 av, .int .u16 (sv : Int)] 25)) v s (.slice a k c) z) := ⟨(own_later U.out.1 hb).alloc _, (U.out.2.later hb).later (below_one _ _)⟩; clear hb x0 x1 x2 c0 c1 c2; obtain ⟨x0, x1, x2⟩ := Y4.out.2.1.cells; obtain ⟨r0, r1, r2⟩ := Y4.out.2.2.2.1.cells; have f0 := Y4.out.2.2.2.1.frozen 0; have f1 := Y4.out.2.2.2.1.frozen 1; have f2 := Y4.out.2.2.2.1.frozen 2; have g9 := Y4.out.2.1.frozen 2) | fail)
              have Y5 : Aside _ := Y4.out.2.slot (.slice g m q)
              exact bodyPost_ret (results_cell2 rfl rfl (Try.isAgg28 _) (Try.sizeOf28 _) (load_three (Y5.out.2.2.1.set _ _ _))) rfl (RO.out _ _ _ _ _ _ _ E0.out (own_off Y4.out.1 (by omega) _) Y5.out.2.2.2.1)
            · have e1 : ((appE v s z.2.1 z.2.2 : Int) != 0) = true := by rw [bne_iff_ne]; omega
              have e2 : ¬ ((appE v s z.2.1 z.2.2 : Int) = 0) := by omega
              have RX : Aside (∀ (W : World) (u0 u1 u2 : Value), RS w W v s (.slice a k c) z → _) := fun W u0 u1 u2 h => RE.out (appE v s z.2.1 z.2.2) W u0 u1 u2 PE.out h0 h
              clear h0 RE RO PE
              generalize appE v s z.2.1 z.2.2 = ae at C31 e1 e2 RX
              generalize appV v s z.2.1 z.2.2 = av at C31
              generalize appS v s z.2.1 z.2.2 = sv at C31
              go_wp2_with (first | (go_at_call 31; refine (C31.out _).mono ?_; rintro e w4 ⟨rfl, hb⟩; have Y4 : Aside ((w4.alloc (.cells #[.int .i64 av, .int .u16 (sv : Int)] 25)).ownsRow (w.heap.size + 1 + 1 + 1) 32 3 (.slice g m q) m (rowC (insL l z)) ∧ RS w (w4.alloc (.cells #[.int .i64 av, .int .u16 (sv : Int)] 25)) v s (.slice a k c) z) := ⟨(own_later U.out.1 hb).alloc _, (U.out.2.later hb).later (below_one _ _)⟩; clear hb x0 x1 x2 c0 c1 c2; obtain ⟨x0, x1, x2⟩ := Y4.out.2.1.cells; obtain ⟨r0, r1, r2⟩ := Y4.out.2.2.2.1.cells; have f0 := Y4.out.2.2.2.1.frozen 0; have f1 := Y4.out.2.2.2.1.frozen 1; have f2 := Y4.out.2.2.2.1.frozen 2; have g9 := Y4.out.2.1.frozen 2) | fail)
              exact bodyPost_ret (results_cell2 rfl rfl (Try.isAgg28 _) (Try.sizeOf28 _) (load_three (Y4.out.2.2.2.1.set _ _ _))) rfl (RX.out _ _ _ _ Y4.out.2)
          · have d1 : decide (pos l z.1 < k) = false := decide_eq_false hp
            have AD : Aside (accL l z k ++ [z] = insL l z) := by show _ = _; have := acc_last (l := l) (c := z) (by have := HA.out.2; omega); rw [← HA.out.2] at this; exact this
            rw [d1]
            clear hp d1 SR NE NF
            have U : Aside (wr.ownsRow (w.heap.size + 1 + 1 + 1) 32 3 (.slice g m q) m (rowC (accL l z k)) ∧ RS w wr v s (.slice a k c) z) := HS.out
            clear HS
            go_wp2_with (at_builtin; refine wpList_append_own _ rfl _ _ 26 rfl (w.heap.size + 1 + 1 + 1) 32 i0 (.agg #[.int .u8 0, .bool false, .int .u8 0]) 3 3 Try.underlying26 I.out.1 I.out.2.1 I.out.2.2.1 I.out.2.2.2 rfl (by decide) _ _ _ rfl (U.out.1.alloc _) ⟨wr.heap.size, 0, none⟩ 1 1 [.int .u8 (z.1 : Int), .bool z.2.1, .int .u8 (z.2.2 : Int)] rfl rfl ?c1 ?c2 ?c3 ?c4 ?c5 ?_)
            case c1 => exact cell_three wr (.int .u8 (z.1 : Int)) (.bool z.2.1) (.int .u8 (z.2.2 : Int)) 32
            case c2 => intro u hu; simp at hu; rcases hu with rfl | rfl | rfl <;> rfl
            case c3 => unfold maxLen; omega
            case c4 => omega
            case c5 => have := U.out.2.2.2.2.2; simp; omega
            intro v' wn hown hgrow _
            obtain ⟨g2, q2, rfl, -, -, -⟩ := own_slice (l := accL l z k ++ [z]) (by rw [rowC_append]; simpa [rowC, encC] using hown)
            have U3 : Aside (wn.ownsRow (w.heap.size + 1 + 1 + 1) 32 3 (.slice g2 (m + 1) q2) (m + 1) (rowC (insL l z)) ∧ RS w wn v s (.slice a k c) z) := ⟨by rw [← AD.out, rowC_append]; simpa [rowC, encC] using hown, (U.out.2.later (below_one _ _)).grown hgrow (fun j hj => (U.out.1.lt j hj).1)⟩
            clear hown hgrow x0 x1 x2 c0 c1 c2 U
            have U : Aside _ := U3.out
            clear U3
            obtain ⟨x0, x1, x2⟩ := U.out.2.1.cells
            obtain ⟨c0, c1, c2⟩ := U.out.2.2.1.cells
            by_cases h0 : appE v s z.2.1 z.2.2 = 0
            · rw [h0] at C31
              have E0 : Aside (putE v s l z = 0) := PE.out.trans h0
              clear h0 RE PE
              generalize appV v s z.2.1 z.2.2 = av at C31
              generalize appS v s z.2.1 z.2.2 = sv at C31
              go_wp2_with (first | (go_at_call 31; refine (C31.out _).mono ?_; rintro e w4 ⟨rfl, hb⟩; have Y4 : Aside ((w4.alloc (.cells #[.int .i64 av, .int .u16 (sv : Int)] 25)).ownsRow (w.heap.size + 1 + 1 + 1) 32 3 (.slice g2 (m + 1) q2) (m + 1) (rowC (insL l z)) ∧ RS w (w4.alloc (.cells #[.int .i64 av, .int .u16 (sv : Int)] 25)) v s (.slice a k c) z) := ⟨(own_later U.out.1 hb).alloc _, (U.out.2.later hb).later (below_one _ _)⟩; clear hb x0 x1 x2 c0 c1 c2; obtain ⟨x0, x1, x2⟩ := Y4.out.2.1.cells; obtain ⟨r0, r1, r2⟩ := Y4.out.2.2.2.1.cells; have f0 := Y4.out.2.2.2.1.frozen 0; have f1 := Y4.out.2.2.2.1.frozen 1; have f2 := Y4.out.2.2.2.1.frozen 2; have g9 := Y4.out.2.1.frozen 2) | fail)
              have Y5 : Aside _ := Y4.out.2.slot (.slice g2 (m + 1) q2)
              exact bodyPost_ret (results_cell2 rfl rfl (Try.isAgg28 _) (Try.sizeOf28 _) (load_three (Y5.out.2.2.1.set _ _ _))) rfl (RO.out _ _ _ _ _ _ _ E0.out (own_off Y4.out.1 (by omega) _) Y5.out.2.2.2.1)
            · have e1 : ((appE v s z.2.1 z.2.2 : Int) != 0) = true := by rw [bne_iff_ne]; omega
              have e2 : ¬ ((appE v s z.2.1 z.2.2 : Int) = 0) := by omega
              have RX : Aside (∀ (W : World) (u0 u1 u2 : Value), RS w W v s (.slice a k c) z → _) := fun W u0 u1 u2 h => RE.out (appE v s z.2.1 z.2.2) W u0 u1 u2 PE.out h0 h
              clear h0 RE RO PE
              generalize appE v s z.2.1 z.2.2 = ae at C31 e1 e2 RX
              generalize appV v s z.2.1 z.2.2 = av at C31
              generalize appS v s z.2.1 z.2.2 = sv at C31
              go_wp2_with (first | (go_at_call 31; refine (C31.out _).mono ?_; rintro e w4 ⟨rfl, hb⟩; have Y4 : Aside ((w4.alloc (.cells #[.int .i64 av, .int .u16 (sv : Int)] 25)).ownsRow (w.heap.size + 1 + 1 + 1) 32 3 (.slice g2 (m + 1) q2) (m + 1) (rowC (insL l z)) ∧ RS w (w4.alloc (.cells #[.int .i64 av, .int .u16 (sv : Int)] 25)) v s (.slice a k c) z) := ⟨(own_later U.out.1 hb).alloc _, (U.out.2.later hb).later (below_one _ _)⟩; clear hb x0 x1 x2 c0 c1 c2; obtain ⟨x0, x1, x2⟩ := Y4.out.2.1.cells; obtain ⟨r0, r1, r2⟩ := Y4.out.2.2.2.1.cells; have f0 := Y4.out.2.2.2.1.frozen 0; have f1 := Y4.out.2.2.2.1.frozen 1; have f2 := Y4.out.2.2.2.1.frozen 2; have g9 := Y4.out.2.1.frozen 2) | fail)
              exact bodyPost_ret (results_cell2 rfl rfl (Try.isAgg28 _) (Try.sizeOf28 _) (load_three (Y4.out.2.2.2.1.set _ _ _))) rfl (RX.out _ _ _ _ Y4.out.2)
    | false =>
      rw [hh] at C23
      have RX : Aside (∀ (W : World) (u0 u1 u2 : Value), RS w W v s (.slice a n c) z → _) := fun W u0 u1 u2 h => RE.out 10 W u0 u1 u2 (by unfold putE; rw [if_pos hr, if_neg (by rw [hh]; decide)]) (by decide) h
      clear RE RO hr hh C31
      go_enter Try.func12, Try.ntmps12
      go_wp2_with fail
      rw [← hV]
      clear hV
      obtain ⟨x0, x1, x2⟩ := X.out.1.cells; obtain ⟨c0, c1, c2⟩ := X.out.2.1.cells; obtain ⟨r0, r1, r2⟩ := X.out.2.2.1.cells; have f0 := X.out.2.2.1.frozen 0; have f1 := X.out.2.2.1.frozen 1; have f2 := X.out.2.2.1.frozen 2; have g2 := X.out.1.frozen 2
      go_wp2_with (first | (go_at_call 30; refine (C30.out _ X.out.2.2.2.1).mono ?_; rintro e w1 ⟨rfl, hb⟩; have Y : Aside (RS w w1 v s (.slice a n c) z) := X.out.later hb; clear hb; clear x0 x1 x2 c0 c1 c2 r0 r1 r2 f0 f1 f2 g2; obtain ⟨x0, x1, x2⟩ := Y.out.1.cells; obtain ⟨c0, c1, c2⟩ := Y.out.2.1.cells; obtain ⟨r0, r1, r2⟩ := Y.out.2.2.1.cells; have f0 := Y.out.2.2.1.frozen 0; have f1 := Y.out.2.2.1.frozen 1; have f2 := Y.out.2.2.1.frozen 2; have g2 := Y.out.1.frozen 2) | (go_at_call 23; refine (C23.out _).mono ?_; rintro e w' ⟨rfl, hw⟩; replace hw := hw.symm; subst hw) | fail)
      exact bodyPost_ret (results_cell2 rfl rfl (Try.isAgg28 _) (Try.sizeOf28 _) (load_three (Y.out.2.2.1.set _ _ _))) rfl (RX.out _ _ _ _ Y.out)
  · rw [rightY_false hr] at C30
    have RX : Aside (∀ (W : World) (u0 u1 u2 : Value), RS w W v s (.slice a n c) z → _) := fun W u0 u1 u2 h => RE.out 2 W u0 u1 u2 (by unfold putE; rw [if_neg hr]) (by decide) h
    clear RE RO hr C31 C23
    go_enter Try.func12, Try.ntmps12
    go_wp2_with fail
    rw [← hV]
    clear hV
    obtain ⟨x0, x1, x2⟩ := X.out.1.cells; obtain ⟨c0, c1, c2⟩ := X.out.2.1.cells; obtain ⟨r0, r1, r2⟩ := X.out.2.2.1.cells; have f0 := X.out.2.2.1.frozen 0; have f1 := X.out.2.2.1.frozen 1; have f2 := X.out.2.2.1.frozen 2; have g2 := X.out.1.frozen 2
    go_wp2_with (first | (go_at_call 30; refine (C30.out _ X.out.2.2.2.1).mono ?_; rintro e w1 ⟨rfl, hb⟩; have Y : Aside (RS w w1 v s (.slice a n c) z) := X.out.later hb; clear hb; clear x0 x1 x2 c0 c1 c2 r0 r1 r2 f0 f1 f2 g2; obtain ⟨x0, x1, x2⟩ := Y.out.1.cells; obtain ⟨c0, c1, c2⟩ := Y.out.2.1.cells; obtain ⟨r0, r1, r2⟩ := Y.out.2.2.1.cells; have f0 := Y.out.2.2.1.frozen 0; have f1 := Y.out.2.2.1.frozen 1; have f2 := Y.out.2.2.1.frozen 2; have g2 := Y.out.1.frozen 2) | fail)
    exact bodyPost_ret (results_cell2 rfl rfl (Try.isAgg28 _) (Try.sizeOf28 _) (load_three (Y.out.2.2.1.set _ _ _))) rfl (RX.out _ _ _ _ Y.out)
end Go.Proofs.Ytfjdopmjcddnlaa
