/- The walk of BallotOne. -/
import Derived.Test.YtfjdopmjcddnlaaBtO
import Derived.BigQuiet
set_option linter.unusedVariables false
namespace Go.Proofs.Ytfjdopmjcddnlaa
open Go.RowKit Cn Rl Bt

def OS (w W : World) (v : Int) (s : Nat) (bb b7 : Nat) (o : Option (Bool × Nat)) (a : Option Addr) (c : Nat) (l : List Ct) : Prop :=
  P2 W w.heap.size 25 (.int .i64 v) (.int .u16 (s : Int)) ∧ P2 W b7 42 (.bool (chA o)) (.int .u8 (chI o : Int)) ∧ X3 W bb 37 (.int .i64 v) (.int .u16 (s : Int)) (.slice a l.length c) ∧ AtC W a l ∧ Fr (b7 + 1) a ∧ Below w.heap.size w W ∧ w.heap.size < bb ∧ bb < b7
theorem OS.later {w W W' : World} {v : Int} {s bb b7 : Nat} {o : Option (Bool × Nat)} {a : Option Addr} {c : Nat} {l : List Ct} (h : OS w W v s bb b7 o a c l) (hb : Below W.heap.size W W') : OS w W' v s bb b7 o a c l :=
  ⟨h.1.later hb, h.2.1.later hb, h.2.2.1.later hb, h.2.2.2.1.later hb, h.2.2.2.2.1, below_step h.2.2.2.2.2.1 hb, h.2.2.2.2.2.2⟩
theorem Rl.P2.far3 {w : World} {b b' : Nat} {t : TypeId} {x y : Value} (h : P2 w b t x y) (hne : b ≠ b') (u0 u1 u2 : Value) : P2 (((w.setCell ⟨b', 0, none⟩ u0).setCell ⟨b', 1, none⟩ u1).setCell ⟨b', 2, none⟩ u2) b t x y := ((h.far hne _).far hne _).far hne _
theorem OS.put {w W : World} {v : Int} {s bb b7 : Nat} {o : Option (Bool × Nat)} {a a' : Option Addr} {c c' n' : Nat} {l l' : List Ct} (h : OS w W v s bb b7 o a c l) (hat : AtC W a' l') (hf : Fr (b7 + 1) a') (hn : n' = l'.length) :
    OS w (((W.setCell ⟨bb, 0, none⟩ (.int .i64 v)).setCell ⟨bb, 1, none⟩ (.int .u16 (s : Int))).setCell ⟨bb, 2, none⟩ (.slice a' n' c')) v s bb b7 o a' c' l' := by
  subst hn
  obtain ⟨h1, h2, h4, h5, h6, h7, h8, h9⟩ := h
  exact ⟨h1.far3 (by omega) _ _ _, h2.far3 (by omega) _ _ _, h4.set _ _ _, hat.set3 hf (by omega) _ _ _, hf, below_set3 h7 (by omega) _ _ _, h8, h9⟩
theorem OS.keep {w W : World} {v : Int} {s bb b7 : Nat} {o o' : Option (Bool × Nat)} {a : Option Addr} {c : Nat} {l : List Ct} (h : OS w W v s bb b7 o a c l) :
    OS w ((W.setCell ⟨b7, 0, none⟩ (.bool (chA o'))).setCell ⟨b7, 1, none⟩ (.int .u8 (chI o' : Int))) v s bb b7 o' a c l := by
  obtain ⟨h1, h2, h4, h5, h6, h7, h8, h9⟩ := h
  exact ⟨(h1.far (by omega) _).far (by omega) _, h2.put _ _, (h4.far (by omega) _).far (by omega) _, (h5.set h6 (Nat.lt_succ_self _) _).set h6 (Nat.lt_succ_self _) _, h6, below_put h7 (by omega) _ _, h8, h9⟩

set_option maxHeartbeats 8000000 in
set_option maxRecDepth 100000 in
theorem one_walk (v : Int) (s : Nat) (a : Option Addr) (c : Nat) (L : List Ct) (w : World) (hl : AtC w a L) (hs : s < 65536) (h8 : ∀ e ∈ L, e.1 < 256) :
    Calls Try.prog 5 #[.agg #[.int .i64 v, .int .u16 (s : Int)], .slice a L.length c] w fun e w' => e = .returned (.bool true) ∧ Below w.heap.size w w' := by
  have C8 : Aside (∀ W, _) := alive_any
  have C11 : Aside (∀ (z : Ct) (W : World), _) := theirs_box
  obtain ⟨n, en⟩ : ∃ n, n = L.length := ⟨_, rfl⟩
  rw [← en]
  have HL : Aside (AtC w a L ∧ n = L.length ∧ s < 65536) := ⟨hl, en, hs⟩
  clear hl en h8
  have C19 : Aside (∀ (t : Nat), t < 65536 → ∀ W, Calls Try.prog 19 #[.int .u16 (t : Int)] W fun e w' => e = .returned (.int .i64 (sizeS t : Nat)) ∧ Below W.heap.size W w') := fun t ht W => rsize_any t W ht
  obtain ⟨V, hV⟩ : ∃ V, V = w.alloc (.cells #[.int .i64 v, .int .u16 (s : Int)] 25) := ⟨_, rfl⟩
  have X : Aside (P2 V w.heap.size 25 (.int .i64 v) (.int .u16 (s : Int)) ∧ Below w.heap.size w V) := by
    rw [hV]; exact ⟨P2.new w _ _ _, below_one w _⟩
  go_enter Try.func5, Try.ntmps5
  go_wp2_with fail
  rw [← hV]
  clear hV
  go_wp2_with (first
    | (go_at_call 8; refine (C8.out _).mono ?_; rintro e w1 ⟨rfl, hb⟩; have Y : Aside (P2 (w1.alloc (.cells #[.int .i64 v, .int .u16 (s : Int), .slice none 0 0] 37)) w.heap.size 25 (.int .i64 v) (.int .u16 (s : Int)) ∧ X3 (w1.alloc (.cells #[.int .i64 v, .int .u16 (s : Int), .slice none 0 0] 37)) w1.heap.size 37 (.int .i64 v) (.int .u16 (s : Int)) (.slice none 0 0) ∧ Below w.heap.size w (w1.alloc (.cells #[.int .i64 v, .int .u16 (s : Int), .slice none 0 0] 37)) ∧ w.heap.size < w1.heap.size) := ⟨(X.out.1.later hb).alloc _, X3.new _ _ _ _ _, (below_step X.out.2 hb).alloc (below_step X.out.2 hb).size _, (X.out.1.later hb).lt⟩; have y0 := (X.out.1.later hb).cells.1; have y1 := (X.out.1.later hb).cells.2; clear hb X C8; obtain ⟨x0, x1⟩ := Y.out.1.cells)
    | (go_at_call 19; refine (C19.out s hs _).mono ?_; rintro e w2 ⟨rfl, hb⟩; have Z : Aside (OS w (w2.alloc (.cells #[.bool false, .int .u8 0] 42)) v s w1.heap.size w2.heap.size none none 0 []) := ⟨(Y.out.1.later hb).alloc _, P2.new _ _ _ _, (Y.out.2.1.later hb).alloc _, .inl rfl, Fr.nil _, (below_step Y.out.2.2.1 hb).alloc (below_step Y.out.2.2.1 hb).size _, Y.out.2.2.2, (Y.out.2.1.later hb).lt⟩; clear hb x0 x1 y0 y1 Y)
    | fail)
  generalize w2.alloc (.cells #[.bool false, .int .u8 0] 42) = V0 at Z ⊢
  generalize w1.heap.size = bb at Z ⊢
  generalize w2.heap.size = b7 at Z ⊢
  obtain ⟨sz, hsz⟩ : ∃ sz, sz = sizeS s := ⟨_, rfl⟩
  rw [← hsz]
  have SZ : Aside (sz = sizeS s) := hsz
  clear hsz
  have O0 : Aside (none = chosen v s ([] : List Ct)) := (chosen_none (v := v) (s := s) (l := []) (k := 0) (Nat.le_refl _) (fun c hc => by simp at hc)).symm
  go_loopg [8, 9] 60 (fun g s8 s9 wr => ∃ (k : Nat) (a1 : Option Addr) (c1 : Nat) (o : Option (Bool × Nat)), s9 = .int .i64 (k : Nat) ∧ s8 = .bool (chB o) ∧ k ≤ n ∧ k ≤ 60 ∧ 60 - k ≤ g ∧ Aside (o = chosen v s (putsL v s [] (L.take k))) ∧ Aside (OS w wr v s bb b7 o a1 c1 (putsL v s [] (L.take k))))
  case atStart => exact ⟨0, none, 0, none, rfl, rfl, Nat.zero_le _, by decide, by omega, O0.out, Z.out⟩
  case round =>
    obtain ⟨k, a1, c1, o, rfl, rfl, hk, hk6, hg, HO, HS⟩ := hrel
    by_cases hlt : k < n ∧ k < 60
    · obtain ⟨hlt1, hlt2⟩ := hlt
      have t1 : (k : Int) < (n : Int) := by omega
      have t2 : (k : Int) < 60 := by omega
      have t0 : (0 : Int) ≤ (k : Int) := by omega
      obtain ⟨e, hke⟩ : ∃ e, L[k]? = some e := ⟨_, List.getElem?_eq_getElem (by have := HL.out.2.1; omega)⟩
      have KE : Aside (L[k]? = some e) := hke
      clear hke
      obtain ⟨l, hl⟩ : ∃ l, l = putsL v s [] (L.take k) := ⟨_, rfl⟩
      have PN : Aside (putsL v s [] (L.take (k + 1)) = putL v s l e ∧ l.length ≤ 16 ∧ (putL v s l e).length ≤ 16) := ⟨by rw [hl]; exact puts_take [] KE.out, by rw [hl]; exact puts_small v s _, by rw [hl, ← puts_take [] KE.out]; exact puts_small v s _⟩
      rw [← hl] at HS HO
      clear hl
      obtain ⟨b, off, rfl, y0, y1, y2⟩ := AtC.get (HL.out.1.later HS.out.2.2.2.2.2.1) KE.out
      obtain ⟨x0, x1, x2⟩ := HS.out.2.2.1.cells
      obtain ⟨n0, hn0⟩ : ∃ n0, n0 = l.length := ⟨_, rfl⟩
      obtain ⟨n1, hn1⟩ : ∃ n1, n1 = (putL v s l e).length := ⟨_, rfl⟩
      have NN : Aside (n0 = l.length ∧ n1 = (putL v s l e).length) := ⟨hn0, hn1⟩
      rw [← hn0] at x2
      have P9 : Aside (∀ (W : World) (a' : Option Addr) (c' : Nat), AtC W a' l → Calls Try.prog 9 #[.agg #[.int .i64 v, .int .u16 (s : Int), .slice a' n0 c'], .agg #[.int .u8 (e.1 : Int), .bool e.2.1, .int .u8 (e.2.2 : Int)]] W fun z w' => ∃ a2 c2, z = .returned (.tuple #[.agg #[.int .i64 v, .int .u16 (s : Int), .slice a2 n1 c2], .int .i64 (putE v s l e : Nat)]) ∧ AtC w' a2 (putL v s l e) ∧ Below W.heap.size W w' ∧ n1 ≤ c2 ∧ Fr W.heap.size a2) := fun W a' c' h => by rw [hn0, hn1]; exact put_box v s a' c' l e W h HL.out.2.2 PN.out.2.1
      have HSX : Aside (X3 wr bb 37 (.int .i64 v) (.int .u16 (s : Int)) (.slice a1 n0 c1)) := by rw [hn0]; exact HS.out.2.2.1
      clear hn0 hn1
      go_upto_region 10 with fail
      go_cut [10, 11] (fun sb se wx => ∃ (nb : Nat) (a2 : Option Addr) (c2 : Nat), sb = .pointer (some ⟨nb, 0, none⟩) ∧ se = .int .i64 (putE v s l e : Int) ∧ Aside ((OS w wx v s bb b7 o a1 c1 l) ∧ X3 wx nb 37 (.int .i64 v) (.int .u16 (s : Int)) (.slice a2 n1 c2) ∧ AtC wx a2 (putL v s l e) ∧ Fr wr.heap.size a2 ∧ wr.heap.size ≤ nb))
      case first =>
        have BOX : Aside (X3 wr bb 37 (.int .i64 v) (.int .u16 (s : Int)) (.slice a1 n0 c1)) := HSX.out
        have ATL : Aside (AtC wr a1 l) := HS.out.2.2.2.1
        have R0 : Aside (wr.cell? ⟨b, off + k * 3, none⟩ = some (.int .u8 (e.1 : Int))) := y0
        have R1 : Aside (wr.cell? ⟨b, off + k * 3 + 1, none⟩ = some (.bool e.2.1)) := y1
        have R2 : Aside (wr.cell? ⟨b, off + k * 3 + 2, none⟩ = some (.int .u8 (e.2.2 : Int))) := y2
        have BD : Aside (Below wr.heap.size wr wr.drew) := (Below.refl _ wr).drew
        have BA : Aside (Below wr.heap.size wr (wr.alloc (.cells #[.int .i64 0, .int .u16 0, .slice none 0 0] 37)).drew) := ((Below.refl _ wr).alloc (Nat.le_refl _) _).drew
        have kb : bb ≠ wr.heap.size := Nat.ne_of_lt BOX.out.lt
        have kr : b ≠ wr.heap.size := Nat.ne_of_lt (World.block_lt_of_cell? _ _ y0)
        have kb2 : wr.heap.size ≠ bb := fun h => kb h.symm
        have kr2 : wr.heap.size ≠ b := fun h => kr h.symm
        go_region_held3 (fun w' => w'.cell? ⟨bb, 0, none⟩ = some (.int .i64 v) ∧ w'.cell? ⟨bb, 1, none⟩ = some (.int .u16 (s : Int)) ∧ w'.cell? ⟨bb, 2, none⟩ = some (.slice a1 n0 c1) ∧ w'.cell? ⟨b, off + k * 3, none⟩ = some (.int .u8 (e.1 : Int)) ∧ w'.cell? ⟨b, off + k * 3 + 1, none⟩ = some (.bool e.2.1) ∧ w'.cell? ⟨b, off + k * 3 + 2, none⟩ = some (.int .u8 (e.2.2 : Int)))
          (first | go_keep)
          (first
            | (go_at_call 11; (with_reducible refine (C11.out e wr.drew).mono ?_); rintro e' w1 ⟨rfl, hb⟩; have YA : Aside (Below wr.heap.size wr w1) := below_step BD.out hb; clear hb; clear x0 x1 x2 y0 y1 y2; obtain ⟨x0, x1, x2⟩ := (BOX.out.later YA.out).cells; have y0 := cell_later YA.out R0.out; have y1 := cell_later YA.out R1.out; have y2 := cell_later YA.out R2.out; have kc : bb ≠ w1.heap.size := Nat.ne_of_lt (BOX.out.later YA.out).lt; have kd : b ≠ w1.heap.size := Nat.ne_of_lt (World.block_lt_of_cell? _ _ y0); have kc2 : w1.heap.size ≠ bb := fun h => kc h.symm; have kd2 : w1.heap.size ≠ b := fun h => kd h.symm)
            | (go_at_call 11; (with_reducible refine (C11.out e (wr.alloc (.cells #[.int .i64 0, .int .u16 0, .slice none 0 0] 37)).drew).mono ?_); rintro e' w1 ⟨rfl, hb⟩; have YB : Aside (Below wr.heap.size wr w1) := below_step BA.out hb; have NB : Aside (X3 w1 wr.heap.size 37 (.int .i64 0) (.int .u16 0) (.slice none 0 0)) := ((X3.new wr 37 (.int .i64 0) (.int .u16 0) (.slice none 0 0)).later (Below.refl _ _).drew).later hb; clear hb; clear x0 x1 x2 y0 y1 y2; obtain ⟨x0, x1, x2⟩ := (BOX.out.later YB.out).cells; have y0 := cell_later YB.out R0.out; have y1 := cell_later YB.out R1.out; have y2 := cell_later YB.out R2.out; obtain ⟨z0, z1, z2⟩ := NB.out.cells; have f0 := NB.out.frozen 0; have f1 := NB.out.frozen 1; have f2 := NB.out.frozen 2)
            | (go_at_call 9; (with_reducible refine (P9.out w1 a1 c1 (ATL.out.later YA.out)).mono ?_); rintro e' w2 ⟨a2, c2, rfl, hat, hb, hc, hf⟩; have ZA : Aside (Below wr.heap.size wr w2) := below_step YA.out hb; have TA : Aside (AtC w2 a2 (putL v s l e) ∧ Fr wr.heap.size a2) := ⟨hat, hf.mono YA.out.size⟩; clear hat hb hc hf; clear x0 x1 x2 y0 y1 y2; obtain ⟨x0, x1, x2⟩ := (BOX.out.later ZA.out).cells; have y0 := cell_later ZA.out R0.out; have y1 := cell_later ZA.out R1.out; have y2 := cell_later ZA.out R2.out)
            | (go_at_call 9; (with_reducible refine (P9.out w1 a1 c1 (ATL.out.later YB.out)).mono ?_); rintro e' w2 ⟨a2, c2, rfl, hat, hb, hc, hf⟩; have ZB : Aside (Below wr.heap.size wr w2) := below_step YB.out hb; have TB : Aside (AtC w2 a2 (putL v s l e) ∧ Fr (wr.heap.size + 1) a2) := ⟨hat, hf.mono (Nat.succ_le_of_lt NB.out.lt)⟩; have NB2 : Aside (X3 w2 wr.heap.size 37 (.int .i64 0) (.int .u16 0) (.slice none 0 0)) := NB.out.later hb; clear hat hb hc hf z0 z1 z2 f0 f1 f2; clear x0 x1 x2 y0 y1 y2; obtain ⟨x0, x1, x2⟩ := (BOX.out.later ZB.out).cells; have y0 := cell_later ZB.out R0.out; have y1 := cell_later ZB.out R1.out; have y2 := cell_later ZB.out R2.out; obtain ⟨z0, z1, z2⟩ := NB2.out.cells; have f0 := NB2.out.frozen 0; have f1 := NB2.out.frozen 1; have f2 := NB2.out.frozen 2)
            | (go_at_call 9; (with_reducible refine (P9.out (w1.alloc (.cells #[.int .i64 0, .int .u16 0, .slice none 0 0] 37)) a1 c1 (ATL.out.later (YA.out.alloc YA.out.size _))).mono ?_); rintro e' w2 ⟨a2, c2, rfl, hat, hb, hc, hf⟩; have ZC : Aside (Below wr.heap.size wr w2) := below_step (YA.out.alloc YA.out.size _) hb; have TC : Aside (AtC w2 a2 (putL v s l e) ∧ Fr (w1.heap.size + 1) a2) := ⟨hat, by rw [World.size_alloc] at hf; exact hf⟩; have NC2 : Aside (X3 w2 w1.heap.size 37 (.int .i64 0) (.int .u16 0) (.slice none 0 0)) := (X3.new w1 37 (.int .i64 0) (.int .u16 0) (.slice none 0 0)).later hb; clear hat hb hc hf; clear x0 x1 x2 y0 y1 y2; obtain ⟨x0, x1, x2⟩ := (BOX.out.later ZC.out).cells; have y0 := cell_later ZC.out R0.out; have y1 := cell_later ZC.out R1.out; have y2 := cell_later ZC.out R2.out; obtain ⟨z0, z1, z2⟩ := NC2.out.cells; have f0 := NC2.out.frozen 0; have f1 := NC2.out.frozen 1; have f2 := NC2.out.frozen 2)
            | fail)
        all_goals
          go_wp2_with fail
          go_meet
        all_goals first
          | exact ⟨w2.heap.size, a2, c2, rfl, rfl, (HS.out.later (ZA.out.alloc ZA.out.size _)), X3.new _ _ _ _ _, TA.out.1.later (below_one _ _), TA.out.2, ZA.out.size⟩
          | exact ⟨wr.heap.size, a2, c2, rfl, rfl, (HS.out.later (below_set3 ZB.out (Nat.le_refl _) _ _ _)), NB2.out.set _ _ _, TB.out.1.set3 TB.out.2 (Nat.lt_succ_self _) _ _ _, TB.out.2.mono (Nat.le_succ _), Nat.le_refl _⟩
          | exact ⟨w1.heap.size, a2, c2, rfl, rfl, (HS.out.later (below_set3 ZC.out YA.out.size _ _ _)), NC2.out.set _ _ _, TC.out.1.set3 TC.out.2 (Nat.lt_succ_self _) _ _ _, TC.out.2.mono (Nat.le_trans YA.out.size (Nat.le_succ _)), YA.out.size⟩
      case rest =>
      obtain ⟨nb, a2, c2, rfl, rfl, HD⟩ := hcut
      have FA : Aside (Fr (b7 + 1) a2) := HD.out.2.2.2.1.mono (Nat.succ_le_of_lt HS.out.2.1.lt)
      clear y0 y1 y2 x0 x1 x2 P9
      obtain ⟨l1, hl1⟩ : ∃ l1, l1 = putL v s l e := ⟨_, rfl⟩
      have EL : Aside (¬ putE v s l e = 0 → l1 = l ∧ n1 = n0) := fun h => by
        have e1 : putL v s l e = l := by unfold putL; rw [if_neg h]
        exact ⟨hl1.trans e1, by rw [NN.out.2, NN.out.1, e1]⟩
      have CS : Aside (∀ x, o = some x → chosen v s l1 = some x) := fun x h => by rw [hl1]; exact chosen_stays e HL.out.2.2 (by rw [← h]; exact HO.out.symm)
      have PM : Aside (putsL v s [] (L.take (k + 1)) = l1 ∧ n1 = l1.length ∧ l1.length ≤ 16) := ⟨PN.out.1.trans hl1.symm, by rw [hl1]; exact NN.out.2, by rw [hl1]; exact PN.out.2.2⟩
      rw [← hl1] at HD
      clear hl1
      obtain ⟨x0, x1, x2⟩ := HD.out.2.1.cells
      obtain ⟨z0, z1, z2⟩ := HD.out.1.2.2.1.cells
      rw [← NN.out.1] at z2
      go_upto_region 11 with fail
      go_cut [11, 52] (fun _ sx wx => sx = .bool false ∧ Aside (OS w wx v s bb b7 o a1 c1 l ∧ X3 wx nb 37 (.int .i64 v) (.int .u16 (s : Int)) (.slice a2 n1 c2) ∧ AtC wx a2 l1))
      case first =>
        by_cases h0 : putE v s l e = 0
        · rw [h0]
          clear h0
          have hne := Bw.some wc
          refine wp_region_wq (by kernel_rfl) (by kernel_rfl) ?_
          repeat (refine wq_step (fun K hK => ?_); go_simp; first | (refine hK _ ?_; clear hK K) | (apply Exists.intro; refine ⟨fun _ => ?_, hK _ ?_⟩; (first | fail); clear hK K))
          refine wq_nil ?_
          intro _ hw'
          obtain ⟨pq, hw''⟩ := hw'
          subst hw''
          go_wp2_with fail
          go_meet
          exact ⟨rfl, HD.out.1.later pq.h, HD.out.2.1.later pq.h, HD.out.2.2.1.later pq.h⟩
        · have e1 : ((putE v s l e : Int) != 0) = true := by rw [bne_iff_ne]; omega
          have e2 : ¬ ((putE v s l e : Int) = 0) := by omega
          obtain ⟨f1, f2⟩ := EL.out h0
          generalize putE v s l e = pe at e1 e2 ⊢
          have BQ : Aside (Below wc.heap.size wc wc.drew) := (Below.refl _ wc).drew
          have S16 : Aside (∀ W, Below wc.heap.size wc W → Calls Try.prog 16 #[.agg #[.int .i64 v, .int .u16 (s : Int), .slice a2 n1 c2]] W fun z w' => ∃ a c, z = .returned (.agg #[.int .i64 v, .int .u16 (s : Int), .slice a n1 c]) ∧ AtC w' a l1 ∧ Below W.heap.size W w') := fun W hb => by
            have := ours_any v s a2 c2 l1 W (HD.out.2.2.1.later hb) (by have := PM.out.2.2; omega)
            rw [← PM.out.2.1] at this
            exact this.mono fun z w' ⟨p, q, r1, r2, r3⟩ => ⟨p, q, by rw [PM.out.2.1]; exact r1, r2, r3⟩
          have T16 : Aside (∀ W, Below wc.heap.size wc W → Calls Try.prog 16 #[.agg #[.int .i64 v, .int .u16 (s : Int), .slice a1 n0 c1]] W fun z w' => ∃ a c, z = .returned (.agg #[.int .i64 v, .int .u16 (s : Int), .slice a n0 c]) ∧ AtC w' a l ∧ Below W.heap.size W w') := fun W hb => by
            have := ours_any v s a1 c1 l W (HD.out.1.2.2.2.1.later hb) (by have := PN.out.2.1; omega)
            rw [← NN.out.1] at this
            exact this.mono fun z w' ⟨p, q, r1, r2, r3⟩ => ⟨p, q, by rw [NN.out.1]; exact r1, r2, r3⟩
          have S15 : Aside (∀ W p q p' q', AtC W p l1 → AtC W p' l → Calls Try.prog 15 #[.agg #[.int .i64 v, .int .u16 (s : Int), .slice p n1 q], .agg #[.int .i64 v, .int .u16 (s : Int), .slice p' n0 q']] W fun z w' => z = .returned (.bool true) ∧ Below W.heap.size W w') := fun W p q p' q' h1 h2 => by
            rw [f1] at h1
            rw [f2, NN.out.1]
            exact same_eq v s p p' q q' l W h1 h2 (by have := PN.out.2.1; omega)
          clear f1 f2 h0
          go_region_held3 (fun w' => w'.cell? ⟨nb, 0, none⟩ = some (.int .i64 v) ∧ w'.cell? ⟨nb, 1, none⟩ = some (.int .u16 (s : Int)) ∧ w'.cell? ⟨nb, 2, none⟩ = some (.slice a2 n1 c2) ∧ w'.cell? ⟨bb, 0, none⟩ = some (.int .i64 v) ∧ w'.cell? ⟨bb, 1, none⟩ = some (.int .u16 (s : Int)) ∧ w'.cell? ⟨bb, 2, none⟩ = some (.slice a1 n0 c1))
            (first | go_keep)
            (first
              | (go_at_call 16; (with_reducible refine (S16.out wc.drew BQ.out).mono ?_); rintro z w3 ⟨g1, j1, rfl, hat, hb⟩; have K3 : Aside (AtC w3 g1 l1 ∧ Below wc.heap.size wc w3) := ⟨hat, below_step BQ.out hb⟩; clear hat hb x0 x1 x2 z0 z1 z2; obtain ⟨x0, x1, x2⟩ := (HD.out.2.1.later K3.out.2).cells; obtain ⟨z0, z1, z2⟩ := (HD.out.1.2.2.1.later K3.out.2).cells; rw [← NN.out.1] at z2)
              | (go_at_call 16; (with_reducible refine (T16.out w3 K3.out.2).mono ?_); rintro z w4 ⟨g2, j2, rfl, hat, hb⟩; have K4 : Aside (AtC w4 g1 l1 ∧ AtC w4 g2 l ∧ Below wc.heap.size wc w4) := ⟨K3.out.1.later hb, hat, below_step K3.out.2 hb⟩; clear hat hb x0 x1 x2 z0 z1 z2; obtain ⟨x0, x1, x2⟩ := (HD.out.2.1.later K4.out.2.2).cells; obtain ⟨z0, z1, z2⟩ := (HD.out.1.2.2.1.later K4.out.2.2).cells; rw [← NN.out.1] at z2)
              | (go_at_call 15; (with_reducible refine (S15.out w4 g1 j1 g2 j2 K4.out.1 K4.out.2.1).mono ?_); rintro z w5 ⟨rfl, hb⟩; have K5 : Aside (Below wc.heap.size wc w5) := below_step K4.out.2.2 hb; clear hb x0 x1 x2 z0 z1 z2; obtain ⟨x0, x1, x2⟩ := (HD.out.2.1.later K5.out).cells; obtain ⟨z0, z1, z2⟩ := (HD.out.1.2.2.1.later K5.out).cells; rw [← NN.out.1] at z2)
              | fail)
          all_goals
            go_wp2_with fail
            go_meet
            exact ⟨rfl, HD.out.1.later K5.out, HD.out.2.1.later K5.out, HD.out.2.2.1.later K5.out⟩
      case rest =>
      obtain ⟨rfl, HE⟩ := hcut
      clear x0 x1 x2 z0 z1 z2 HD
      obtain ⟨x0, x1, x2⟩ := HE.out.2.1.cells
      obtain ⟨z0, z1, z2⟩ := HE.out.1.2.2.1.cells
      have f0 := HE.out.1.2.2.1.frozen 0; have f1 := HE.out.1.2.2.1.frozen 1; have f2 := HE.out.1.2.2.1.frozen 2
      have N1 : Aside (n1 = l1.length) := PM.out.2.1
      go_wp2_with fail
      obtain ⟨W1, hW1⟩ : ∃ W1, W1 = ((wc.setCell ⟨bb, 0, none⟩ (.int .i64 v)).setCell ⟨bb, 1, none⟩ (.int .u16 (s : Int))).setCell ⟨bb, 2, none⟩ (.slice a2 n1 c2) := ⟨_, rfl⟩
      rw [← hW1]
      have HW : Aside (OS w W1 v s bb b7 o a2 c2 l1) := by rw [hW1]; exact HE.out.1.put HE.out.2.2 FA.out N1.out
      clear hW1 x0 x1 x2 z0 z1 z2 f0 f1 f2 HE EL
      obtain ⟨p0, p1, p2⟩ := HW.out.2.2.1.cells
      rw [← N1.out] at p2
      have OL : Aside (∀ o', chosen v s l1 = o' → o' = chosen v s (putsL v s [] (L.take (k + 1)))) := fun o' h => by rw [PM.out.1]; exact h.symm
      have C13 : Aside (∀ W, AtC W a2 l1 → Calls Try.prog 13 #[.agg #[.int .i64 v, .int .u16 (s : Int), .slice a2 n1 c2]] W fun e w' => e = .returned (.tuple #[.agg #[.bool (chA (chosen v s l1)), .int .u8 (chI (chosen v s l1) : Int)], .bool (chB (chosen v s l1))]) ∧ Below W.heap.size W w') := fun W h => by rw [N1.out]; exact chosen_box v s a2 c2 l1 W h HL.out.2.2 PM.out.2.2
      cases hch : chosen v s l1 with
      | none =>
        rw [hch] at C13
        have ON : Aside (o = none) := by
          show _ = _
          cases o with
          | none => rfl
          | some x => have := CS.out x rfl; rw [hch] at this; cases this
        have OO : Aside (none = chosen v s (putsL v s [] (L.take (k + 1)))) := OL.out _ hch
        clear hch OL CS
        obtain rfl := ON.out
        unfold chA chI chB at C13
        unfold chB
        dsimp only at C13 ⊢
        go_wp2_with (first
          | (go_at_call 13; refine (C13.out W1 HW.out.2.2.2.1).mono ?_; rintro e' w3 ⟨rfl, hb⟩; have H3 : Aside (OS w (w3.alloc (.cells #[.bool false, .int .u8 0] 42)) v s bb b7 none a2 c2 l1 ∧ P2 (w3.alloc (.cells #[.bool false, .int .u8 0] 42)) w3.heap.size 42 (.bool false) (.int .u8 0)) := ⟨(HW.out.later hb).later (below_one _ _), P2.new _ _ _ _⟩; clear hb p0 p1 p2; obtain ⟨p0, p1, p2⟩ := H3.out.1.2.2.1.cells; rw [← N1.out] at p2; obtain ⟨r0, r1⟩ := H3.out.1.1.cells; obtain ⟨q0, q1⟩ := H3.out.1.2.1.cells; simp only [chA, chI] at q0 q1; obtain ⟨d0, d1⟩ := H3.out.2.cells; have f0 := H3.out.1.2.1.frozen 0; have f1 := H3.out.1.2.1.frozen 1)
          | fail)
        have EN : Aside _ := H3.out.1.keep (o' := none)
        go_roundg (60 - (k + 1))
        case measure => omega
        case rel => exact ⟨k + 1, a2, c2, none, by go_num, rfl, by omega, by omega, Nat.le_refl _, OO.out, by rw [PM.out.1]; exact EN.out⟩
      | some x =>
        rw [hch] at C13
        obtain ⟨ca, ce⟩ := chosen_can HL.out.2.2 hch
        have OX : Aside (o = none ∨ o = some x) := by
          show _ ∨ _
          cases o with
          | none => exact .inl rfl
          | some y => exact .inr (by have := CS.out y rfl; rw [hch] at this; exact this.symm)
        have OO : Aside (some x = chosen v s (putsL v s [] (L.take (k + 1)))) := OL.out _ hch
        have C20 : Aside (∀ W, Calls Try.prog 20 #[.agg #[.int .i64 v, .int .u16 (s : Int)], .agg #[.bool x.1, .int .u8 (x.2 : Int)]] W fun e w' => e = .returned (.tuple #[.agg #[.int .i64 (appV v s x.1 x.2), .int .u16 (appS v s x.1 x.2 : Nat)], .int .i64 0]) ∧ Below W.heap.size W w') := fun W => by
          have := apply_any v s x.1 x.2 W HL.out.2.2
          rw [ca] at this; exact this
        have C17 : Aside (∀ W, AtC W a2 l1 → Calls Try.prog 17 #[.agg #[.int .i64 v, .int .u16 (s : Int), .slice a2 n1 c2], .agg #[.bool x.1, .int .u8 (x.2 : Int)]] W fun z w' => z = .returned (.int .u16 (forS v s l1 x : Nat)) ∧ Below W.heap.size W w') := fun W h => by rw [N1.out]; exact for_box v s a2 c2 l1 x.1 x.2 W h HL.out.2.2 PM.out.2.2
        have F19 : Aside (∀ W, Calls Try.prog 19 #[.int .u16 (forS v s l1 x : Nat)] W fun e w' => e = .returned (.int .i64 (sizeS (forS v s l1 x) : Nat)) ∧ Below W.heap.size W w') := fun W => C19.out _ (for_small v s l1 x) W
        have C21 : Aside (∀ W, Calls Try.prog 21 #[.int .i64 (sz : Nat)] W fun e w' => e = .returned (.int .i64 (echoes (sz : Nat) : Nat)) ∧ w' = W) := fun W => rechoes_any sz W
        rw [← SZ.out] at ce
        generalize echoes (sz : Nat) = ec at C21 ce
        generalize sizeS (forS v s l1 x) = zf at F19 ce
        generalize forS v s l1 x = fs at F19 C17
        have ge : ¬ ((zf : Int) < (ec : Int)) := by omega
        clear hch OL CS ca ce
        obtain ⟨xa, xi⟩ := x
        dsimp only at C17 C20
        generalize appV v s xa xi = av at C20
        generalize appS v s xa xi = sv at C20
        have k1 := fun W => neq42 xa xa xi xi W
        rw [decide_eq_true ⟨rfl, rfl⟩] at k1
        have k2 := fun x y xs ys W => neq42_guard x y xs ys W
        have OX2 := OX.out
        clear OX HO
        rcases OX2 with rfl | rfl
        · unfold chA chI chB at C13
          unfold chB
          dsimp only at C13 ⊢
          go_wp2_with (first
            | (go_at_call 13; refine (C13.out W1 HW.out.2.2.2.1).mono ?_; rintro e' w3 ⟨rfl, hb⟩; have H3 : Aside (OS w (w3.alloc (.cells #[.bool xa, .int .u8 (xi : Int)] 42)) v s bb b7 none a2 c2 l1 ∧ P2 (w3.alloc (.cells #[.bool xa, .int .u8 (xi : Int)] 42)) w3.heap.size 42 (.bool xa) (.int .u8 (xi : Int))) := ⟨(HW.out.later hb).later (below_one _ _), P2.new _ _ _ _⟩; clear hb p0 p1 p2; obtain ⟨p0, p1, p2⟩ := H3.out.1.2.2.1.cells; rw [← N1.out] at p2; obtain ⟨r0, r1⟩ := H3.out.1.1.cells; obtain ⟨q0, q1⟩ := H3.out.1.2.1.cells; simp only [chA, chI] at q0 q1; obtain ⟨d0, d1⟩ := H3.out.2.cells; have f0 := H3.out.1.2.1.frozen 0; have f1 := H3.out.1.2.1.frozen 1)
            | (go_at_call 20; refine (C20.out _).mono ?_; rintro e' w4 ⟨rfl, hb⟩; have H4 : Aside (OS w (w4.alloc (.cells #[.int .i64 av, .int .u16 (sv : Int)] 34)) v s bb b7 none a2 c2 l1 ∧ P2 (w4.alloc (.cells #[.int .i64 av, .int .u16 (sv : Int)] 34)) w3.heap.size 42 (.bool xa) (.int .u8 (xi : Int))) := ⟨(H3.out.1.later hb).later (below_one _ _), (H3.out.2.later hb).alloc _⟩; clear hb p0 p1 p2 r0 r1 q0 q1 d0 d1 f0 f1; obtain ⟨p0, p1, p2⟩ := H4.out.1.2.2.1.cells; obtain ⟨q0, q1⟩ := H4.out.1.2.1.cells; simp only [chA, chI] at q0 q1; obtain ⟨d0, d1⟩ := H4.out.2.cells; have f0 := H4.out.1.2.1.frozen 0; have f1 := H4.out.1.2.1.frozen 1; rw [← N1.out] at p2)
            | (go_at_call 17; refine (C17.out _ H4.out.1.2.2.2.1).mono ?_; rintro e' w5 ⟨rfl, hb⟩; have H5 : Aside (OS w w5 v s bb b7 none a2 c2 l1 ∧ P2 w5 w3.heap.size 42 (.bool xa) (.int .u8 (xi : Int))) := ⟨H4.out.1.later hb, H4.out.2.later hb⟩; clear hb p0 p1 p2 q0 q1 d0 d1 f0 f1)
            | (go_at_call 19; refine (F19.out _).mono ?_; rintro e' w6 ⟨rfl, hb⟩; have H6 : Aside (OS w w6 v s bb b7 none a2 c2 l1 ∧ P2 w6 w3.heap.size 42 (.bool xa) (.int .u8 (xi : Int))) := ⟨H5.out.1.later hb, H5.out.2.later hb⟩; clear hb; obtain ⟨q0, q1⟩ := H6.out.1.2.1.cells; simp only [chA, chI] at q0 q1; obtain ⟨d0, d1⟩ := H6.out.2.cells; have f0 := H6.out.1.2.1.frozen 0; have f1 := H6.out.1.2.1.frozen 1)
            | (go_at_call 21; refine (C21.out _).mono ?_; rintro e' w7 ⟨rfl, hw⟩; replace hw := hw.symm; subst hw)
            | fail)
          have EN : Aside _ := H6.out.1.keep (o' := (some (xa, xi)))
          go_roundg (60 - (k + 1))
          case measure => omega
          case rel => exact ⟨k + 1, a2, c2, (some (xa, xi)), by go_num, rfl, by omega, by omega, Nat.le_refl _, OO.out, by rw [PM.out.1]; exact EN.out⟩
        · unfold chA chI chB at C13
          unfold chB
          dsimp only at C13 ⊢
          go_wp2_with (first
            | (go_at_call 13; refine (C13.out W1 HW.out.2.2.2.1).mono ?_; rintro e' w3 ⟨rfl, hb⟩; have H3 : Aside (OS w (w3.alloc (.cells #[.bool xa, .int .u8 (xi : Int)] 42)) v s bb b7 (some (xa, xi)) a2 c2 l1 ∧ P2 (w3.alloc (.cells #[.bool xa, .int .u8 (xi : Int)] 42)) w3.heap.size 42 (.bool xa) (.int .u8 (xi : Int))) := ⟨(HW.out.later hb).later (below_one _ _), P2.new _ _ _ _⟩; clear hb p0 p1 p2; obtain ⟨p0, p1, p2⟩ := H3.out.1.2.2.1.cells; rw [← N1.out] at p2; obtain ⟨r0, r1⟩ := H3.out.1.1.cells; obtain ⟨q0, q1⟩ := H3.out.1.2.1.cells; simp only [chA, chI] at q0 q1; obtain ⟨d0, d1⟩ := H3.out.2.cells; have f0 := H3.out.1.2.1.frozen 0; have f1 := H3.out.1.2.1.frozen 1)
            | (go_at_call 20; refine (C20.out _).mono ?_; rintro e' w4 ⟨rfl, hb⟩; have H4 : Aside (OS w (w4.alloc (.cells #[.int .i64 av, .int .u16 (sv : Int)] 34)) v s bb b7 (some (xa, xi)) a2 c2 l1 ∧ P2 (w4.alloc (.cells #[.int .i64 av, .int .u16 (sv : Int)] 34)) w3.heap.size 42 (.bool xa) (.int .u8 (xi : Int))) := ⟨(H3.out.1.later hb).later (below_one _ _), (H3.out.2.later hb).alloc _⟩; clear hb p0 p1 p2 r0 r1 q0 q1 d0 d1 f0 f1; obtain ⟨p0, p1, p2⟩ := H4.out.1.2.2.1.cells; obtain ⟨q0, q1⟩ := H4.out.1.2.1.cells; simp only [chA, chI] at q0 q1; obtain ⟨d0, d1⟩ := H4.out.2.cells; have f0 := H4.out.1.2.1.frozen 0; have f1 := H4.out.1.2.1.frozen 1; rw [← N1.out] at p2)
            | (go_at_call 17; refine (C17.out _ H4.out.1.2.2.2.1).mono ?_; rintro e' w5 ⟨rfl, hb⟩; have H5 : Aside (OS w w5 v s bb b7 (some (xa, xi)) a2 c2 l1 ∧ P2 w5 w3.heap.size 42 (.bool xa) (.int .u8 (xi : Int))) := ⟨H4.out.1.later hb, H4.out.2.later hb⟩; clear hb p0 p1 p2 q0 q1 d0 d1 f0 f1)
            | (go_at_call 19; refine (F19.out _).mono ?_; rintro e' w6 ⟨rfl, hb⟩; have H6 : Aside (OS w w6 v s bb b7 (some (xa, xi)) a2 c2 l1 ∧ P2 w6 w3.heap.size 42 (.bool xa) (.int .u8 (xi : Int))) := ⟨H5.out.1.later hb, H5.out.2.later hb⟩; clear hb; obtain ⟨q0, q1⟩ := H6.out.1.2.1.cells; simp only [chA, chI] at q0 q1; obtain ⟨d0, d1⟩ := H6.out.2.cells; have f0 := H6.out.1.2.1.frozen 0; have f1 := H6.out.1.2.1.frozen 1)
            | (go_at_call 21; refine (C21.out _).mono ?_; rintro e' w7 ⟨rfl, hw⟩; replace hw := hw.symm; subst hw)
            | fail)
          have EN : Aside _ := H6.out.1.keep (o' := (some (xa, xi)))
          go_roundg (60 - (k + 1))
          case measure => omega
          case rel => exact ⟨k + 1, a2, c2, (some (xa, xi)), by go_num, rfl, by omega, by omega, Nat.le_refl _, OO.out, by rw [PM.out.1]; exact EN.out⟩
    · have hx : ¬ (k : Int) < (n : Int) ∨ ((k : Int) < (n : Int) ∧ ¬ (k : Int) < 60) := by omega
      have FB : Aside (Below w.heap.size w wr) := HS.out.2.2.2.2.2.1
      clear HS HO
      rcases hx with hx | ⟨hx1, hx⟩
      all_goals
        go_wp2_with fail
        go_ret
        exact ⟨rfl, FB.out⟩
end Go.Proofs.Ytfjdopmjcddnlaa
