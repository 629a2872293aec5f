/- What Put answers. -/
import Derived.Test.YtfjdopmjcddnlaaBtD
import Derived.Test.YtfjdopmjcddnlaaBtE
import Derived.Test.YtfjdopmjcddnlaaBtH
set_option linter.unusedVariables false
namespace Go.Proofs.Ytfjdopmjcddnlaa
open Go.RowKit Go.Shelf Cn Rl Bt

theorem own_slice {w : World} {B n : Nat} {t : TypeId} {v : Value} {l : List Ct} (h : w.ownsRow B t 3 v n (rowC l)) : ∃ a c, v = .slice a n c ∧ AtC w a l ∧ n ≤ c ∧ l.length = n := by
  have hl : l.length = n := by have := h.1; rw [rowC_len] at this; omega
  subst hl
  obtain ⟨a, c, h1, h2, h3⟩ := own_any h
  exact ⟨a, c, h1, h2, h3, rfl⟩
theorem own_off {w : World} {B n b j k : Nat} {t : TypeId} {v : Value} {xs : List Value} (h : w.ownsRow B t k v n xs) (hb : b < B) (u : Value) : (w.setCell ⟨b, j, none⟩ u).ownsRow B t k v n xs := by
  refine ⟨h.1, ?_⟩
  rcases h.2 with h2 | ⟨g, cap, cur, hv, hg, hh, r⟩
  · exact .inl h2
  · exact .inr ⟨g, cap, cur, hv, hg, (row_far (by omega) u).trans hh, r⟩
theorem X3.grown {w w' : World} {b : Nat} {t : TypeId} {v0 v1 v2 : Value} {row : Option Nat} (h : X3 w b t v0 v1 v2) (hg : w.grownBy w' row) (hne : row ≠ some b) : X3 w' b t v0 v1 v2 := (hg.block b h.lt (fun e => hne e.symm)).trans h
/-- A row lies from a block on. -/
def Fr (B : Nat) (a : Option Addr) : Prop := ∀ ad, a = some ad → B ≤ ad.block
theorem Fr.mono {B B' : Nat} {a : Option Addr} (h : Fr B a) (hb : B' ≤ B) : Fr B' a := fun ad e => Nat.le_trans hb (h ad e)
theorem Fr.nil (B : Nat) : Fr B none := fun ad e => nomatch e
theorem AtC.set {W : World} {a : Option Addr} {l : List Ct} {B b j : Nat} (h : AtC W a l) (hf : Fr B a) (hb : b < B) (u : Value) : AtC (W.setCell ⟨b, j, none⟩ u) a l := by
  rcases h with rfl | ⟨g, off, rfl, hc⟩
  · exact .inl rfl
  · refine .inr ⟨g, off, rfl, fun i x hx => ?_⟩
    have hg : B ≤ g := hf _ rfl
    have := hc i x hx
    rw [← this]
    exact World.cell?_of_block (Below.heap_setCell _ _ _ _ (by show g ≠ b; omega))
theorem AtC.set3 {W : World} {a : Option Addr} {l : List Ct} {B b : Nat} (h : AtC W a l) (hf : Fr B a) (hb : b < B) (u0 u1 u2 : Value) : AtC (((W.setCell ⟨b, 0, none⟩ u0).setCell ⟨b, 1, none⟩ u1).setCell ⟨b, 2, none⟩ u2) a l := ((h.set hf hb _).set hf hb _).set hf hb _
/-- Put's three boxes. -/
def PS (w W : World) (v : Int) (s : Nat) (sl : Value) (c : Ct) : Prop :=
  X3 W w.heap.size 37 (.int .i64 v) (.int .u16 (s : Int)) sl ∧ X3 W (w.heap.size + 1) 44 (.int .u8 (c.1 : Int)) (.bool c.2.1) (.int .u8 (c.2.2 : Int)) ∧ X3 W (w.heap.size + 1 + 1) 37 (.int .i64 0) (.int .u16 0) (.slice none 0 0) ∧ Below w.heap.size w W
theorem PS.later {w W W' : World} {v : Int} {s : Nat} {sl : Value} {c : Ct} (h : PS w W v s sl c) (hb : Below W.heap.size W W') : PS w W' v s sl c := ⟨h.1.later hb, h.2.1.later hb, h.2.2.1.later hb, below_step h.2.2.2 hb⟩
theorem PS.slot {w W : World} {v : Int} {s : Nat} {sl : Value} {c : Ct} (h : PS w W v s sl c) (sl' : Value) : PS w (W.setCell ⟨w.heap.size, 2, none⟩ sl') v s sl' c :=
  ⟨h.1.set2 sl', h.2.1.far (by omega) _, h.2.2.1.far (by omega) _, below_set1 h.2.2.2 (Nat.le_refl _) _⟩
theorem PS.grown {w W W' : World} {v : Int} {s : Nat} {sl : Value} {c : Ct} {row : Option Nat} (h : PS w W v s sl c) (hg : W.grownBy W' row) (hr : ∀ g, row = some g → w.heap.size + 1 + 1 + 1 ≤ g) : PS w W' v s sl c := by
  have h1 : ∀ b, b < w.heap.size + 1 + 1 + 1 → row ≠ some b := fun b hb e => by have := hr b e; omega
  refine ⟨h.1.grown hg (h1 _ (by omega)), h.2.1.grown hg (h1 _ (by omega)), h.2.2.1.grown hg (h1 _ (by omega)), ?_⟩
  exact h.2.2.2.grown hg h.2.2.2.size (fun j hj => by have := hr j hj; omega)
/-- What Put answers. -/
def PutP (w : World) (v : Int) (s : Nat) (l : List Ct) (err : Nat) (e : Ending) (w' : World) : Prop :=
  ∃ a c, e = .returned (.tuple #[.agg #[.int .i64 v, .int .u16 (s : Int), .slice a l.length c], .int .i64 (err : Int)]) ∧ AtC w' a l ∧ Below w.heap.size w w' ∧ l.length ≤ c ∧ Fr w.heap.size a
theorem put_fin {w W : World} {v : Int} {s n err : Nat} {a : Option Addr} {c0 : Nat} {c : Ct} {l : List Ct} (h : PS w W v s (.slice a n c0) c) (ho : W.ownsRow (w.heap.size + 1 + 1 + 1) 44 3 (.slice a n c0) n (rowC l)) (u0 u1 u2 : Value) :
    PutP w v s l err (.returned (.tuple #[.agg #[.int .i64 v, .int .u16 (s : Int), .slice a n c0], .int .i64 (err : Int)])) (((W.setCell ⟨w.heap.size + 1 + 1, 0, none⟩ u0).setCell ⟨w.heap.size + 1 + 1, 1, none⟩ u1).setCell ⟨w.heap.size + 1 + 1, 2, none⟩ u2) := by
  have h2 := own_off (j := 2) (own_off (j := 1) (own_off (j := 0) ho (Nat.lt_succ_self _) u0) (Nat.lt_succ_self _) u1) (Nat.lt_succ_self _) u2
  obtain ⟨a', c', e, hat, hc, hl⟩ := own_slice h2
  cases e
  subst hl
  refine ⟨a, c0, rfl, hat, below_set3 h.2.2.2 (by omega) _ _ _, hc, fun ad e => ?_⟩
  subst e
  have := (ho.lt ad.block rfl).1
  omega

theorem rowC_ins (l : List Ct) (c : Ct) : (rowC l).take (pos l c.1 * 3) ++ (encC c ++ (rowC l).drop (pos l c.1 * 3)) = rowC (insL l c) := by
  unfold insL
  rw [rowC_append, rowC_take]
  show _ = _ ++ (encC c ++ rowC (l.drop (pos l c.1)))
  rw [rowC_drop]
/-- What Insert makes of a row of casts. -/
theorem insert_own (B n cap i vb vc : Nat) (c : Ct) (p : Option Addr) (l : List Ct) (w : World) (hB : B ≤ w.heap.size) (h : w.ownsRow B 44 3 (.slice p n cap) n (rowC l)) (hn1 : n ≤ 1000) (hi : i = pos l c.1)
    (hvb : w.heap[vb]? = some (.cells (encC c).toArray 44 (0, 0))) (hne : ∀ a, p = some a → a.block ≠ vb) :
    Calls Try.prog 29 #[.slice p n cap, .int .i64 (i : Nat), .slice (some ⟨vb, 0, none⟩) 1 vc] w fun e w' => ∃ a' c', e = .returned (.slice a' (n + 1) c') ∧ w'.ownsRow B 44 3 (.slice a' (n + 1) c') (n + 1) (rowC (insL l c)) ∧ w.grownBy w' (Value.slice p n cap).ownBlock := by
  subst hi
  have hl : l.length = n := by have := h.1; rw [rowC_len] at this; omega
  have hi : pos l c.1 ≤ n := by have : pos l c.1 ≤ l.length := List.countP_le_length; omega
  have fin : ∀ e w', InsPost B (.slice p n cap) n (pos l c.1) (rowC l) (encC c) w e w' → ∃ a' c', e = .returned (.slice a' (n + 1) c') ∧ w'.ownsRow B 44 3 (.slice a' (n + 1) c') (n + 1) (rowC (insL l c)) ∧ w.grownBy w' (Value.slice p n cap).ownBlock := fun e w' ⟨a', c', e1, e2, e3, _⟩ => ⟨a', c', e1, by rw [rowC_ins] at e2; exact e2, e3⟩
  by_cases hin : pos l c.1 = n
  · rw [hin] at fin ⊢
    have hnc : n ≤ cap ∧ cap ≤ 9223372036854775807 := by
      rcases h.2 with ⟨e, h0⟩ | ⟨g, c, cur, e, _, _, hc, hm, _⟩
      · cases e; omega
      · cases e; unfold maxLen at hm; omega
    refine (insert_end B p n cap vb vc (rowC l) (encC c) w hB h rfl (encC_one c) (fun j u hj => ?_) hn1 hnc.1 hnc.2).mono fin
    rw [cell_of_row w vb _ _ 44 _ hvb]
    simpa using hj
  · have hlt : pos l c.1 < n := by omega
    rcases h.2 with ⟨e, h0⟩ | ⟨g, c', cur, e, _, _, hc, hm, _⟩
    · omega
    · cases e
      by_cases hroom : n + 1 ≤ cap
      · exact (insert_room B g n cap vb vc (pos l c.1) 1 (rowC l) (encC c) w rfl h (rowC_one l) rfl (encC_one c) hvb (fun e => hne _ rfl e.symm) hn1 hlt hroom).mono fin
      · exact (insert_grow B g n cap vb vc (pos l c.1) 1 (rowC l) (encC c) w rfl hB h (rowC_one l) rfl (encC_one c) hvb hn1 hlt (by omega)).mono fin

set_option maxHeartbeats 8000000 in
set_option maxRecDepth 100000 in
/-- What Put gives. -/
theorem put_any (v : Int) (s : Nat) (a : Option Addr) (c : Nat) (l : List Ct) (z : Ct) (w : World) (hl : AtC w a l) (hs : s < 65536) (hn : l.length ≤ 900) :
    Calls Try.prog 9 #[boxV v s (.slice a l.length c), castV z] w (PutP w v s (putL v s l z) (putE v s l z)) := by
  obtain ⟨n, en⟩ : ∃ n, n = l.length := ⟨_, rfl⟩
  rw [← en] at hn ⊢
  have HL : Aside (n = l.length) := en
  obtain ⟨V, hV⟩ : ∃ V, V = ((w.alloc (.cells #[.int .i64 v, .int .u16 (s : Int), .slice a n c] 37)).alloc (.cells #[.int .u8 (z.1 : Int), .bool z.2.1, .int .u8 (z.2.2 : Int)] 44)).alloc (.cells #[.int .i64 0, .int .u16 0, .slice none 0 0] 37) := ⟨_, rfl⟩
  have VS : V.heap.size = w.heap.size + 1 + 1 + 1 := by rw [hV]; simp
  have P0 : Aside (PS w V v s (.slice a n c) z) := by
    rw [hV]
    exact ⟨((X3.new w _ _ _ _).alloc _).alloc _, (X3.new1 w _ _ _ _ _).alloc _, X3.new2 w _ _ _ _ _ _, ((below_one w _).alloc (by simp) _).alloc (by simp; omega) _⟩
  have C24 : Aside (Calls Try.prog 24 #[.slice a n c] V fun e w' => ∃ a' c', e = .returned (.slice a' n c') ∧ w'.ownsRow (w.heap.size + 1 + 1 + 1) 44 3 (.slice a' n c') n (rowC l) ∧ Below V.heap.size V w') := by
    rw [en]
    refine (clone3_any a c l V (hl.later P0.out.2.2.2) (by omega)).mono fun e w' ⟨v', e1, e2, e3⟩ => ?_
    obtain ⟨a', c', rfl, _, _, _⟩ := own_slice e2
    rw [VS] at e2
    exact ⟨a', c', e1, e2, e3⟩
  have C25 : Aside (∀ (a' : Option Addr) (c' : Nat) (W : World), W.ownsRow (w.heap.size + 1 + 1 + 1) 44 3 (.slice a' n c') n (rowC l) → Calls Try.prog 25 #[.agg #[.int .i64 v, .int .u16 (s : Int), .slice a' n c']] W fun e w' => e = .returned (.bool (rightY v s l)) ∧ Below W.heap.size W w') := fun a' c' W ho => by
    obtain ⟨a2, c2, e, hat, _, hl2⟩ := own_slice ho
    cases e
    have := bright_any v s a' c' l W hat hs (by omega)
    rw [hl2] at this; exact this
  have C26 : Aside (∀ W : World, Calls Try.prog 26 #[.int .u16 (s : Int), .int .u8 (z.1 : Int)] W fun e w' => e = .returned (.bool (hasS s z.1)) ∧ w' = W) := fun W => has_any s z.1 W hs
  have C27 : Aside (Srt l → ∀ (a' : Option Addr) (c' : Nat) (W : World), W.ownsRow (w.heap.size + 1 + 1 + 1) 44 3 (.slice a' n c') n (rowC l) → Calls Try.prog 27 #[.slice a' n c', .agg #[.int .u8 (z.1 : Int), .bool z.2.1, .int .u8 (z.2.2 : Int)], .func (.func 28) #[] #[]] W fun e w' => e = .returned (.tuple #[.int .i64 (pos l z.1 : Nat), .bool (fnd l z.1)]) ∧ Below W.heap.size W w') := fun hsr a' c' W ho => by
    obtain ⟨a2, c2, e, hat, _, hl2⟩ := own_slice ho
    cases e
    have := search_any a' c' l z W hat hsr (by omega)
    rw [hl2] at this; exact this
  have C20 : Aside (∀ W, Calls Try.prog 20 #[.agg #[.int .i64 v, .int .u16 (s : Int)], .agg #[.bool z.2.1, .int .u8 (z.2.2 : Int)]] W fun e w' => e = .returned (.tuple #[.agg #[.int .i64 (appV v s z.2.1 z.2.2), .int .u16 (appS v s z.2.1 z.2.2 : Nat)], .int .i64 (appE v s z.2.1 z.2.2 : Nat)]) ∧ Below W.heap.size W w') := fun W => apply_any v s z.2.1 z.2.2 W hs
  have C29 : Aside (∀ (a' : Option Addr) (c' : Nat) (W : World), W.ownsRow (w.heap.size + 1 + 1 + 1) 44 3 (.slice a' n c') n (rowC l) → w.heap.size + 1 + 1 + 1 ≤ W.heap.size → Calls Try.prog 29 #[.slice a' n c', .int .i64 (pos l z.1 : Nat), .slice (some ⟨W.heap.size, 0, none⟩) 1 1] (W.alloc (.cells #[.int .u8 (z.1 : Int), .bool z.2.1, .int .u8 (z.2.2 : Int)] 44)) fun e w' => ∃ a2 c2, e = .returned (.slice a2 (n + 1) c2) ∧ w'.ownsRow (w.heap.size + 1 + 1 + 1) 44 3 (.slice a2 (n + 1) c2) (n + 1) (rowC (insL l z)) ∧ (W.alloc (.cells #[.int .u8 (z.1 : Int), .bool z.2.1, .int .u8 (z.2.2 : Int)] 44)).grownBy w' (Value.slice a' n c').ownBlock) := fun a' c' W ho hsz => by
    refine insert_own _ n c' (pos l z.1) W.heap.size 1 z a' l _ (by simp; omega) (ho.alloc _) (by omega) rfl (heap_alloc_new W _) (fun ad e => ?_)
    subst e
    have := (ho.lt ad.block rfl).2
    omega
  clear hl
  unfold boxV castV
  have VSA : Aside (w.heap.size + 1 + 1 + 1 ≤ V.heap.size) := Nat.le_of_eq VS.symm
  clear VS en
  by_cases hr : RightX v s l
  · have SR : Aside (Srt l) := hr.2.2
    rw [rightY_true hr] at C25
    cases hh : hasS s z.1 with
    | true =>
      rw [hh] at C26
      cases hf : fnd l z.1 with
      | true =>
        have E : putE v s l z = 9 := by unfold putE; rw [if_pos hr, if_pos hh, if_pos hf]
        have E2 : putL v s l z = l := by unfold putL; rw [E]; rfl
        rw [E, E2]
        rw [hf] at C27
        clear E E2 hf hh hr C20 C29
        generalize pos l z.1 = ip at C27
        go_enter Try.func9, Try.ntmps9
        go_wp2_with fail
        rw [← hV]
        clear hV
        have x2 := P0.out.1.cells.2.2
        go_wp2_with (go_at_call 24; refine C24.out.mono ?_; rintro e w1 ⟨a1, c1, rfl, ho, hb⟩; have Y0 : Aside (PS w w1 v s (.slice a n c) z ∧ w1.ownsRow (w.heap.size + 1 + 1 + 1) 44 3 (.slice a1 n c1) n (rowC l) ∧ w.heap.size + 1 + 1 + 1 ≤ w1.heap.size) := ⟨P0.out.later hb, ho, Nat.le_trans VSA.out hb.size⟩; clear hb ho x2; obtain ⟨x0, x1, x2⟩ := Y0.out.1.1.cells; have g2 := Y0.out.1.1.frozen 2)
        clear x0 x1 x2 g2
        obtain ⟨W1, hW1⟩ : ∃ W1, W1 = w1.setCell ⟨w.heap.size, 2, none⟩ (.slice a1 n c1) := ⟨_, rfl⟩
        rw [← hW1]
        have Y : Aside (PS w W1 v s (.slice a1 n c1) z ∧ W1.ownsRow (w.heap.size + 1 + 1 + 1) 44 3 (.slice a1 n c1) n (rowC l) ∧ w.heap.size + 1 + 1 + 1 ≤ W1.heap.size) := by
          rw [hW1]; exact ⟨Y0.out.1.slot _, own_off Y0.out.2.1 (by omega) _, by simpa using Y0.out.2.2⟩
        clear hW1 Y0
        obtain ⟨x0, x1, x2⟩ := Y.out.1.1.cells; obtain ⟨y0, y1, y2⟩ := Y.out.1.2.1.cells; obtain ⟨z0, z1, z2⟩ := Y.out.1.2.2.1.cells; have f0 := Y.out.1.2.2.1.frozen 0; have f1 := Y.out.1.2.2.1.frozen 1; have f2 := Y.out.1.2.2.1.frozen 2; have g2 := Y.out.1.1.frozen 2
        go_wp2_with (first
          | (go_at_call 25; refine (C25.out a1 c1 _ Y.out.2.1).mono ?_; rintro e w2 ⟨rfl, hb⟩; replace Y : Aside (PS w (w2) v s (.slice a1 n c1) z ∧ (w2).ownsRow (w.heap.size + 1 + 1 + 1) 44 3 (.slice a1 n c1) n (rowC l) ∧ w.heap.size + 1 + 1 + 1 ≤ (w2).heap.size) := ⟨(Y.out.1.later hb), own_later Y.out.2.1 hb, Nat.le_trans Y.out.2.2 hb.size⟩; clear hb; clear x0 x1 x2 y0 y1 y2 z0 z1 z2 f0 f1 f2 g2; obtain ⟨x0, x1, x2⟩ := Y.out.1.1.cells; obtain ⟨y0, y1, y2⟩ := Y.out.1.2.1.cells; obtain ⟨z0, z1, z2⟩ := Y.out.1.2.2.1.cells; have f0 := Y.out.1.2.2.1.frozen 0; have f1 := Y.out.1.2.2.1.frozen 1; have f2 := Y.out.1.2.2.1.frozen 2; have g2 := Y.out.1.1.frozen 2)
          | (go_at_call 26; refine (C26.out _).mono ?_; rintro e w' ⟨rfl, rfl⟩)
          | (go_at_call 27; refine (C27.out SR.out a1 c1 _ Y.out.2.1).mono ?_; rintro e w3 ⟨rfl, hb⟩; replace Y : Aside (PS w (w3) v s (.slice a1 n c1) z ∧ (w3).ownsRow (w.heap.size + 1 + 1 + 1) 44 3 (.slice a1 n c1) n (rowC l) ∧ w.heap.size + 1 + 1 + 1 ≤ (w3).heap.size) := ⟨(Y.out.1.later hb), own_later Y.out.2.1 hb, Nat.le_trans Y.out.2.2 hb.size⟩; clear hb; clear x0 x1 x2 y0 y1 y2 z0 z1 z2 f0 f1 f2 g2; obtain ⟨x0, x1, x2⟩ := Y.out.1.1.cells; obtain ⟨y0, y1, y2⟩ := Y.out.1.2.1.cells; obtain ⟨z0, z1, z2⟩ := Y.out.1.2.2.1.cells; have f0 := Y.out.1.2.2.1.frozen 0; have f1 := Y.out.1.2.2.1.frozen 1; have f2 := Y.out.1.2.2.1.frozen 2; have g2 := Y.out.1.1.frozen 2)
          | fail)
        exact bodyPost_ret (results_cell2 rfl rfl (Try.isAgg37 _) (Try.sizeOf37 _) (load_three (Y.out.1.2.2.1.set _ _ _))) rfl (put_fin Y.out.1 Y.out.2.1 _ _ _)
      | false =>
        have hf2 : ¬ (fnd l z.1 = true) := by rw [hf]; decide
        by_cases h0 : appE v s z.2.1 z.2.2 = 0
        · have E : putE v s l z = 0 := by unfold putE; rw [if_pos hr, if_pos hh, if_neg hf2, h0]
          have E2 : putL v s l z = insL l z := by unfold putL; rw [if_pos E]
          rw [E, E2]
          rw [hf] at C27
          rw [h0] at C20
          have ipn : (pos l z.1 : Int) ≤ (n : Int) := by have : pos l z.1 ≤ l.length := List.countP_le_length; have := HL.out; omega
          clear E E2 hf hf2 hh hr h0
          generalize appV v s z.2.1 z.2.2 = av at C20
          generalize appS v s z.2.1 z.2.2 = sv at C20
          go_enter Try.func9, Try.ntmps9
          go_wp2_with fail
          rw [← hV]
          clear hV
          have x2 := P0.out.1.cells.2.2
          go_wp2_with (go_at_call 24; refine C24.out.mono ?_; rintro e w1 ⟨a1, c1, rfl, ho, hb⟩; have Y0 : Aside (PS w w1 v s (.slice a n c) z ∧ w1.ownsRow (w.heap.size + 1 + 1 + 1) 44 3 (.slice a1 n c1) n (rowC l) ∧ w.heap.size + 1 + 1 + 1 ≤ w1.heap.size) := ⟨P0.out.later hb, ho, Nat.le_trans VSA.out hb.size⟩; clear hb ho x2; obtain ⟨x0, x1, x2⟩ := Y0.out.1.1.cells; have g2 := Y0.out.1.1.frozen 2)
          clear x0 x1 x2 g2
          obtain ⟨W1, hW1⟩ : ∃ W1, W1 = w1.setCell ⟨w.heap.size, 2, none⟩ (.slice a1 n c1) := ⟨_, rfl⟩
          rw [← hW1]
          have Y : Aside (PS w W1 v s (.slice a1 n c1) z ∧ W1.ownsRow (w.heap.size + 1 + 1 + 1) 44 3 (.slice a1 n c1) n (rowC l) ∧ w.heap.size + 1 + 1 + 1 ≤ W1.heap.size) := by
            rw [hW1]; exact ⟨Y0.out.1.slot _, own_off Y0.out.2.1 (by omega) _, by simpa using Y0.out.2.2⟩
          clear hW1 Y0
          obtain ⟨x0, x1, x2⟩ := Y.out.1.1.cells; obtain ⟨y0, y1, y2⟩ := Y.out.1.2.1.cells; obtain ⟨z0, z1, z2⟩ := Y.out.1.2.2.1.cells; have f0 := Y.out.1.2.2.1.frozen 0; have f1 := Y.out.1.2.2.1.frozen 1; have f2 := Y.out.1.2.2.1.frozen 2; have g2 := Y.out.1.1.frozen 2
          go_wp2_with (first
            | (go_at_call 25; refine (C25.out a1 c1 _ Y.out.2.1).mono ?_; rintro e w2 ⟨rfl, hb⟩; replace Y : Aside (PS w (w2) v s (.slice a1 n c1) z ∧ (w2).ownsRow (w.heap.size + 1 + 1 + 1) 44 3 (.slice a1 n c1) n (rowC l) ∧ w.heap.size + 1 + 1 + 1 ≤ (w2).heap.size) := ⟨(Y.out.1.later hb), own_later Y.out.2.1 hb, Nat.le_trans Y.out.2.2 hb.size⟩; clear hb; clear x0 x1 x2 y0 y1 y2 z0 z1 z2 f0 f1 f2 g2; obtain ⟨x0, x1, x2⟩ := Y.out.1.1.cells; obtain ⟨y0, y1, y2⟩ := Y.out.1.2.1.cells; obtain ⟨z0, z1, z2⟩ := Y.out.1.2.2.1.cells; have f0 := Y.out.1.2.2.1.frozen 0; have f1 := Y.out.1.2.2.1.frozen 1; have f2 := Y.out.1.2.2.1.frozen 2; have g2 := Y.out.1.1.frozen 2)
            | (go_at_call 26; refine (C26.out _).mono ?_; rintro e w' ⟨rfl, rfl⟩)
            | (go_at_call 27; refine (C27.out SR.out a1 c1 _ Y.out.2.1).mono ?_; rintro e w3 ⟨rfl, hb⟩; replace Y : Aside (PS w (w3) v s (.slice a1 n c1) z ∧ (w3).ownsRow (w.heap.size + 1 + 1 + 1) 44 3 (.slice a1 n c1) n (rowC l) ∧ w.heap.size + 1 + 1 + 1 ≤ (w3).heap.size) := ⟨(Y.out.1.later hb), own_later Y.out.2.1 hb, Nat.le_trans Y.out.2.2 hb.size⟩; clear hb; clear x0 x1 x2 y0 y1 y2 z0 z1 z2 f0 f1 f2 g2; obtain ⟨x0, x1, x2⟩ := Y.out.1.1.cells; obtain ⟨y0, y1, y2⟩ := Y.out.1.2.1.cells; obtain ⟨z0, z1, z2⟩ := Y.out.1.2.2.1.cells; have f0 := Y.out.1.2.2.1.frozen 0; have f1 := Y.out.1.2.2.1.frozen 1; have f2 := Y.out.1.2.2.1.frozen 2; have g2 := Y.out.1.1.frozen 2)
            | (go_at_call 20; refine (C20.out _).mono ?_; rintro e w4 ⟨rfl, hb⟩; replace Y : Aside (PS w (w4.alloc (.cells #[.int .i64 av, .int .u16 (sv : Int)] 34)) v s (.slice a1 n c1) z ∧ (w4.alloc (.cells #[.int .i64 av, .int .u16 (sv : Int)] 34)).ownsRow (w.heap.size + 1 + 1 + 1) 44 3 (.slice a1 n c1) n (rowC l) ∧ w.heap.size + 1 + 1 + 1 ≤ (w4.alloc (.cells #[.int .i64 av, .int .u16 (sv : Int)] 34)).heap.size) := ⟨(Y.out.1.later hb).later (below_one _ _), (own_later Y.out.2.1 hb).alloc _, by have := Y.out.2.2; have := hb.size; simp; omega⟩; clear hb; clear x0 x1 x2 y0 y1 y2 z0 z1 z2 f0 f1 f2 g2; obtain ⟨x0, x1, x2⟩ := Y.out.1.1.cells; obtain ⟨y0, y1, y2⟩ := Y.out.1.2.1.cells; obtain ⟨z0, z1, z2⟩ := Y.out.1.2.2.1.cells; have f0 := Y.out.1.2.2.1.frozen 0; have f1 := Y.out.1.2.2.1.frozen 1; have f2 := Y.out.1.2.2.1.frozen 2; have g2 := Y.out.1.1.frozen 2)
            | (go_at_call 29; have D29 := C29.out a1 c1 _ Y.out.2.1 Y.out.2.2; rw [World.size_alloc] at D29; refine D29.mono ?_; clear D29; rintro e w6 ⟨a2, c2, rfl, ho, hg⟩; have Z : Aside (PS w w6 v s (.slice a1 n c1) z ∧ w6.ownsRow (w.heap.size + 1 + 1 + 1) 44 3 (.slice a2 (n + 1) c2) (n + 1) (rowC (insL l z))) := ⟨(Y.out.1.later (below_one _ _)).grown hg (fun g e => (Y.out.2.1.lt g e).1), ho⟩; clear ho hg; clear x0 x1 x2 y0 y1 y2 z0 z1 z2 f0 f1 f2 g2; obtain ⟨x0, x1, x2⟩ := Z.out.1.1.cells; obtain ⟨z0, z1, z2⟩ := Z.out.1.2.2.1.cells; have f0 := Z.out.1.2.2.1.frozen 0; have f1 := Z.out.1.2.2.1.frozen 1; have f2 := Z.out.1.2.2.1.frozen 2; have g2 := Z.out.1.1.frozen 2)
            | fail)
          have Z2 : Aside (PS w (w6.setCell ⟨w.heap.size, 2, none⟩ (.slice a2 (n + 1) c2)) v s (.slice a2 (n + 1) c2) z ∧ (w6.setCell ⟨w.heap.size, 2, none⟩ (.slice a2 (n + 1) c2)).ownsRow (w.heap.size + 1 + 1 + 1) 44 3 (.slice a2 (n + 1) c2) (n + 1) (rowC (insL l z))) := ⟨Z.out.1.slot _, own_off Z.out.2 (by omega) _⟩
          exact bodyPost_ret (results_cell2 rfl rfl (Try.isAgg37 _) (Try.sizeOf37 _) (load_three (Z2.out.1.2.2.1.set _ _ _))) rfl (put_fin Z2.out.1 Z2.out.2 _ _ _)
        · have E : putE v s l z = appE v s z.2.1 z.2.2 := by unfold putE; rw [if_pos hr, if_pos hh, if_neg hf2]
          have E2 : putL v s l z = l := by unfold putL; rw [if_neg (by rw [E]; exact h0)]
          rw [E, E2]
          rw [hf] at C27
          generalize appV v s z.2.1 z.2.2 = av at C20
          generalize appS v s z.2.1 z.2.2 = sv at C20
          generalize appE v s z.2.1 z.2.2 = ae at C20 h0 ⊢
          have e1 : ((ae : Int) != 0) = true := by rw [bne_iff_ne]; omega
          have e2 : ¬ ((ae : Int) = 0) := by omega
          clear E E2 hf hf2 hh hr h0 C29
          generalize pos l z.1 = ip at C27
          go_enter Try.func9, Try.ntmps9
          go_wp2_with fail
          rw [← hV]
          clear hV
          have x2 := P0.out.1.cells.2.2
          go_wp2_with (go_at_call 24; refine C24.out.mono ?_; rintro e w1 ⟨a1, c1, rfl, ho, hb⟩; have Y0 : Aside (PS w w1 v s (.slice a n c) z ∧ w1.ownsRow (w.heap.size + 1 + 1 + 1) 44 3 (.slice a1 n c1) n (rowC l) ∧ w.heap.size + 1 + 1 + 1 ≤ w1.heap.size) := ⟨P0.out.later hb, ho, Nat.le_trans VSA.out hb.size⟩; clear hb ho x2; obtain ⟨x0, x1, x2⟩ := Y0.out.1.1.cells; have g2 := Y0.out.1.1.frozen 2)
          clear x0 x1 x2 g2
          obtain ⟨W1, hW1⟩ : ∃ W1, W1 = w1.setCell ⟨w.heap.size, 2, none⟩ (.slice a1 n c1) := ⟨_, rfl⟩
          rw [← hW1]
          have Y : Aside (PS w W1 v s (.slice a1 n c1) z ∧ W1.ownsRow (w.heap.size + 1 + 1 + 1) 44 3 (.slice a1 n c1) n (rowC l) ∧ w.heap.size + 1 + 1 + 1 ≤ W1.heap.size) := by
            rw [hW1]; exact ⟨Y0.out.1.slot _, own_off Y0.out.2.1 (by omega) _, by simpa using Y0.out.2.2⟩
          clear hW1 Y0
          obtain ⟨x0, x1, x2⟩ := Y.out.1.1.cells; obtain ⟨y0, y1, y2⟩ := Y.out.1.2.1.cells; obtain ⟨z0, z1, z2⟩ := Y.out.1.2.2.1.cells; have f0 := Y.out.1.2.2.1.frozen 0; have f1 := Y.out.1.2.2.1.frozen 1; have f2 := Y.out.1.2.2.1.frozen 2; have g2 := Y.out.1.1.frozen 2
          go_wp2_with (first
            | (go_at_call 25; refine (C25.out a1 c1 _ Y.out.2.1).mono ?_; rintro e w2 ⟨rfl, hb⟩; replace Y : Aside (PS w (w2) v s (.slice a1 n c1) z ∧ (w2).ownsRow (w.heap.size + 1 + 1 + 1) 44 3 (.slice a1 n c1) n (rowC l) ∧ w.heap.size + 1 + 1 + 1 ≤ (w2).heap.size) := ⟨(Y.out.1.later hb), own_later Y.out.2.1 hb, Nat.le_trans Y.out.2.2 hb.size⟩; clear hb; clear x0 x1 x2 y0 y1 y2 z0 z1 z2 f0 f1 f2 g2; obtain ⟨x0, x1, x2⟩ := Y.out.1.1.cells; obtain ⟨y0, y1, y2⟩ := Y.out.1.2.1.cells; obtain ⟨z0, z1, z2⟩ := Y.out.1.2.2.1.cells; have f0 := Y.out.1.2.2.1.frozen 0; have f1 := Y.out.1.2.2.1.frozen 1; have f2 := Y.out.1.2.2.1.frozen 2; have g2 := Y.out.1.1.frozen 2)
            | (go_at_call 26; refine (C26.out _).mono ?_; rintro e w' ⟨rfl, rfl⟩)
            | (go_at_call 27; refine (C27.out SR.out a1 c1 _ Y.out.2.1).mono ?_; rintro e w3 ⟨rfl, hb⟩; replace Y : Aside (PS w (w3) v s (.slice a1 n c1) z ∧ (w3).ownsRow (w.heap.size + 1 + 1 + 1) 44 3 (.slice a1 n c1) n (rowC l) ∧ w.heap.size + 1 + 1 + 1 ≤ (w3).heap.size) := ⟨(Y.out.1.later hb), own_later Y.out.2.1 hb, Nat.le_trans Y.out.2.2 hb.size⟩; clear hb; clear x0 x1 x2 y0 y1 y2 z0 z1 z2 f0 f1 f2 g2; obtain ⟨x0, x1, x2⟩ := Y.out.1.1.cells; obtain ⟨y0, y1, y2⟩ := Y.out.1.2.1.cells; obtain ⟨z0, z1, z2⟩ := Y.out.1.2.2.1.cells; have f0 := Y.out.1.2.2.1.frozen 0; have f1 := Y.out.1.2.2.1.frozen 1; have f2 := Y.out.1.2.2.1.frozen 2; have g2 := Y.out.1.1.frozen 2)
            | (go_at_call 20; refine (C20.out _).mono ?_; rintro e w4 ⟨rfl, hb⟩; replace Y : Aside (PS w (w4.alloc (.cells #[.int .i64 av, .int .u16 (sv : Int)] 34)) v s (.slice a1 n c1) z ∧ (w4.alloc (.cells #[.int .i64 av, .int .u16 (sv : Int)] 34)).ownsRow (w.heap.size + 1 + 1 + 1) 44 3 (.slice a1 n c1) n (rowC l) ∧ w.heap.size + 1 + 1 + 1 ≤ (w4.alloc (.cells #[.int .i64 av, .int .u16 (sv : Int)] 34)).heap.size) := ⟨(Y.out.1.later hb).later (below_one _ _), (own_later Y.out.2.1 hb).alloc _, by have := Y.out.2.2; have := hb.size; simp; omega⟩; clear hb; clear x0 x1 x2 y0 y1 y2 z0 z1 z2 f0 f1 f2 g2; obtain ⟨x0, x1, x2⟩ := Y.out.1.1.cells; obtain ⟨y0, y1, y2⟩ := Y.out.1.2.1.cells; obtain ⟨z0, z1, z2⟩ := Y.out.1.2.2.1.cells; have f0 := Y.out.1.2.2.1.frozen 0; have f1 := Y.out.1.2.2.1.frozen 1; have f2 := Y.out.1.2.2.1.frozen 2; have g2 := Y.out.1.1.frozen 2)
            | fail)
          exact bodyPost_ret (results_cell2 rfl rfl (Try.isAgg37 _) (Try.sizeOf37 _) (load_three (Y.out.1.2.2.1.set _ _ _))) rfl (put_fin Y.out.1 Y.out.2.1 _ _ _)
    | false =>
      have E : putE v s l z = 10 := by unfold putE; rw [if_pos hr, if_neg (by rw [hh]; decide)]
      have E2 : putL v s l z = l := by unfold putL; rw [E]; rfl
      rw [E, E2]
      rw [hh] at C26
      clear E E2 hh hr C20 C29 C27
      go_enter Try.func9, Try.ntmps9
      go_wp2_with fail
      rw [← hV]
      clear hV
      have x2 := P0.out.1.cells.2.2
      go_wp2_with (go_at_call 24; refine C24.out.mono ?_; rintro e w1 ⟨a1, c1, rfl, ho, hb⟩; have Y0 : Aside (PS w w1 v s (.slice a n c) z ∧ w1.ownsRow (w.heap.size + 1 + 1 + 1) 44 3 (.slice a1 n c1) n (rowC l) ∧ w.heap.size + 1 + 1 + 1 ≤ w1.heap.size) := ⟨P0.out.later hb, ho, Nat.le_trans VSA.out hb.size⟩; clear hb ho x2; obtain ⟨x0, x1, x2⟩ := Y0.out.1.1.cells; have g2 := Y0.out.1.1.frozen 2)
      clear x0 x1 x2 g2
      obtain ⟨W1, hW1⟩ : ∃ W1, W1 = w1.setCell ⟨w.heap.size, 2, none⟩ (.slice a1 n c1) := ⟨_, rfl⟩
      rw [← hW1]
      have Y : Aside (PS w W1 v s (.slice a1 n c1) z ∧ W1.ownsRow (w.heap.size + 1 + 1 + 1) 44 3 (.slice a1 n c1) n (rowC l) ∧ w.heap.size + 1 + 1 + 1 ≤ W1.heap.size) := by
        rw [hW1]; exact ⟨Y0.out.1.slot _, own_off Y0.out.2.1 (by omega) _, by simpa using Y0.out.2.2⟩
      clear hW1 Y0
      obtain ⟨x0, x1, x2⟩ := Y.out.1.1.cells; obtain ⟨y0, y1, y2⟩ := Y.out.1.2.1.cells; obtain ⟨z0, z1, z2⟩ := Y.out.1.2.2.1.cells; have f0 := Y.out.1.2.2.1.frozen 0; have f1 := Y.out.1.2.2.1.frozen 1; have f2 := Y.out.1.2.2.1.frozen 2; have g2 := Y.out.1.1.frozen 2
      go_wp2_with (first
        | (go_at_call 25; refine (C25.out a1 c1 _ Y.out.2.1).mono ?_; rintro e w2 ⟨rfl, hb⟩; replace Y : Aside (PS w (w2) v s (.slice a1 n c1) z ∧ (w2).ownsRow (w.heap.size + 1 + 1 + 1) 44 3 (.slice a1 n c1) n (rowC l) ∧ w.heap.size + 1 + 1 + 1 ≤ (w2).heap.size) := ⟨(Y.out.1.later hb), own_later Y.out.2.1 hb, Nat.le_trans Y.out.2.2 hb.size⟩; clear hb; clear x0 x1 x2 y0 y1 y2 z0 z1 z2 f0 f1 f2 g2; obtain ⟨x0, x1, x2⟩ := Y.out.1.1.cells; obtain ⟨y0, y1, y2⟩ := Y.out.1.2.1.cells; obtain ⟨z0, z1, z2⟩ := Y.out.1.2.2.1.cells; have f0 := Y.out.1.2.2.1.frozen 0; have f1 := Y.out.1.2.2.1.frozen 1; have f2 := Y.out.1.2.2.1.frozen 2; have g2 := Y.out.1.1.frozen 2)
        | (go_at_call 26; refine (C26.out _).mono ?_; rintro e w' ⟨rfl, rfl⟩)
        | fail)
      exact bodyPost_ret (results_cell2 rfl rfl (Try.isAgg37 _) (Try.sizeOf37 _) (load_three (Y.out.1.2.2.1.set _ _ _))) rfl (put_fin Y.out.1 Y.out.2.1 _ _ _)
  · have E : putE v s l z = 2 := by unfold putE; rw [if_neg hr]
    have E2 : putL v s l z = l := by unfold putL; rw [E]; rfl
    rw [E, E2]
    rw [rightY_false hr] at C25
    clear E E2 hr C20 C29 C27 C26
    go_enter Try.func9, Try.ntmps9
    go_wp2_with fail
    rw [← hV]
    clear hV
    have x2 := P0.out.1.cells.2.2
    go_wp2_with (go_at_call 24; refine C24.out.mono ?_; rintro e w1 ⟨a1, c1, rfl, ho, hb⟩; have Y0 : Aside (PS w w1 v s (.slice a n c) z ∧ w1.ownsRow (w.heap.size + 1 + 1 + 1) 44 3 (.slice a1 n c1) n (rowC l) ∧ w.heap.size + 1 + 1 + 1 ≤ w1.heap.size) := ⟨P0.out.later hb, ho, Nat.le_trans VSA.out hb.size⟩; clear hb ho x2; obtain ⟨x0, x1, x2⟩ := Y0.out.1.1.cells; have g2 := Y0.out.1.1.frozen 2)
    clear x0 x1 x2 g2
    obtain ⟨W1, hW1⟩ : ∃ W1, W1 = w1.setCell ⟨w.heap.size, 2, none⟩ (.slice a1 n c1) := ⟨_, rfl⟩
    rw [← hW1]
    have Y : Aside (PS w W1 v s (.slice a1 n c1) z ∧ W1.ownsRow (w.heap.size + 1 + 1 + 1) 44 3 (.slice a1 n c1) n (rowC l) ∧ w.heap.size + 1 + 1 + 1 ≤ W1.heap.size) := by
      rw [hW1]; exact ⟨Y0.out.1.slot _, own_off Y0.out.2.1 (by omega) _, by simpa using Y0.out.2.2⟩
    clear hW1 Y0
    obtain ⟨x0, x1, x2⟩ := Y.out.1.1.cells; obtain ⟨y0, y1, y2⟩ := Y.out.1.2.1.cells; obtain ⟨z0, z1, z2⟩ := Y.out.1.2.2.1.cells; have f0 := Y.out.1.2.2.1.frozen 0; have f1 := Y.out.1.2.2.1.frozen 1; have f2 := Y.out.1.2.2.1.frozen 2; have g2 := Y.out.1.1.frozen 2
    go_wp2_with (first
      | (go_at_call 25; refine (C25.out a1 c1 _ Y.out.2.1).mono ?_; rintro e w2 ⟨rfl, hb⟩; replace Y : Aside (PS w (w2) v s (.slice a1 n c1) z ∧ (w2).ownsRow (w.heap.size + 1 + 1 + 1) 44 3 (.slice a1 n c1) n (rowC l) ∧ w.heap.size + 1 + 1 + 1 ≤ (w2).heap.size) := ⟨(Y.out.1.later hb), own_later Y.out.2.1 hb, Nat.le_trans Y.out.2.2 hb.size⟩; clear hb; clear x0 x1 x2 y0 y1 y2 z0 z1 z2 f0 f1 f2 g2; obtain ⟨x0, x1, x2⟩ := Y.out.1.1.cells; obtain ⟨y0, y1, y2⟩ := Y.out.1.2.1.cells; obtain ⟨z0, z1, z2⟩ := Y.out.1.2.2.1.cells; have f0 := Y.out.1.2.2.1.frozen 0; have f1 := Y.out.1.2.2.1.frozen 1; have f2 := Y.out.1.2.2.1.frozen 2; have g2 := Y.out.1.1.frozen 2)
      | fail)
    exact bodyPost_ret (results_cell2 rfl rfl (Try.isAgg37 _) (Try.sizeOf37 _) (load_three (Y.out.1.2.2.1.set _ _ _))) rfl (put_fin Y.out.1 Y.out.2.1 _ _ _)
end Go.Proofs.Ytfjdopmjcddnlaa
