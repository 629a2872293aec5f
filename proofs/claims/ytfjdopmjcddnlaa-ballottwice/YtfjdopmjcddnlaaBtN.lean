/- The walk of BallotTwice. -/
import Derived.Test.YtfjdopmjcddnlaaBtM
import Derived.BigQuiet
set_option linter.unusedVariables false
namespace Go.Proofs.Ytfjdopmjcddnlaa
open Go.RowKit Cn Rl Bt

def TS (w W : World) (v : Int) (s : Nat) (x y : Bool × Nat) (b7 b8 bb : Nat) (a : Option Addr) (c : Nat) (l : List Ct) : Prop :=
  P2 W w.heap.size 25 (.int .i64 v) (.int .u16 (s : Int)) ∧ P2 W b7 30 (.bool x.1) (.int .u8 (x.2 : Int)) ∧ P2 W b8 30 (.bool y.1) (.int .u8 (y.2 : Int)) ∧ X3 W bb 37 (.int .i64 v) (.int .u16 (s : Int)) (.slice a l.length c) ∧ AtC W a l ∧ Fr (bb + 1) a ∧ Below w.heap.size w W ∧ w.heap.size < bb ∧ b7 < bb ∧ b8 < bb
theorem TS.later {w W W' : World} {v : Int} {s : Nat} {x y : Bool × Nat} {b7 b8 bb : Nat} {a : Option Addr} {c : Nat} {l : List Ct} (h : TS w W v s x y b7 b8 bb a c l) (hb : Below W.heap.size W W') : TS w W' v s x y b7 b8 bb a c l :=
  ⟨h.1.later hb, h.2.1.later hb, h.2.2.1.later hb, h.2.2.2.1.later hb, h.2.2.2.2.1.later hb, h.2.2.2.2.2.1, below_step h.2.2.2.2.2.2.1 hb, h.2.2.2.2.2.2.2⟩
theorem Rl.P2.far3 {w : World} {b b' : Nat} {t : TypeId} {x y : Value} (h : P2 w b t x y) (hne : b ≠ b') (u0 u1 u2 : Value) : P2 (((w.setCell ⟨b', 0, none⟩ u0).setCell ⟨b', 1, none⟩ u1).setCell ⟨b', 2, none⟩ u2) b t x y := ((h.far hne _).far hne _).far hne _
theorem TS.put {w W : World} {v : Int} {s : Nat} {x y : Bool × Nat} {b7 b8 bb : Nat} {a a' : Option Addr} {c c' : Nat} {l l' : List Ct} (h : TS w W v s x y b7 b8 bb a c l) (hat : AtC W a' l') (hf : Fr (bb + 1) a') :
    TS w (((W.setCell ⟨bb, 0, none⟩ (.int .i64 v)).setCell ⟨bb, 1, none⟩ (.int .u16 (s : Int))).setCell ⟨bb, 2, none⟩ (.slice a' l'.length c')) v s x y b7 b8 bb a' c' l' := by
  obtain ⟨h1, h2, h3, h4, h5, h6, h7, h8, h9, h10⟩ := h
  exact ⟨h1.far3 (by omega) _ _ _, h2.far3 (by omega) _ _ _, h3.far3 (by omega) _ _ _, h4.set _ _ _, hat.set3 hf (Nat.lt_succ_self _) _ _ _, hf, below_set3 h7 (by omega) _ _ _, h8, h9, h10⟩

set_option maxHeartbeats 8000000 in
set_option maxRecDepth 100000 in
theorem twice_walk (v : Int) (s : Nat) (a : Option Addr) (c : Nat) (L : List Ct) (x y : Bool × Nat) (w : World) (hl : AtC w a L) (hs : s < 65536) (h8 : ∀ e ∈ L, e.1 < 256) :
    Calls Try.prog 7 #[.agg #[.int .i64 v, .int .u16 (s : Int)], .slice a L.length c, .agg #[.bool x.1, .int .u8 (x.2 : Int), .bool y.1, .int .u8 (y.2 : Int)]] w fun e w' => e = .returned (.bool true) ∧ Below w.heap.size w w' := by
  have C8 : Aside (∀ W, _) := alive_any
  have C11 : Aside (∀ (z : Ct) (W : World), _) := theirs_box
  obtain ⟨n, en⟩ : ∃ n, n = L.length := ⟨_, rfl⟩
  rw [← en]
  have HL : Aside (AtC w a L ∧ n = L.length ∧ s < 65536 ∧ ∀ e ∈ L, e.1 < 256) := ⟨hl, en, hs, h8⟩
  clear hl en hs h8
  obtain ⟨V, hV⟩ : ∃ V, V = (w.alloc (.cells #[.int .i64 v, .int .u16 (s : Int)] 25)).alloc (.cells #[.bool x.1, .int .u8 (x.2 : Int), .bool y.1, .int .u8 (y.2 : Int)] 63) := ⟨_, rfl⟩
  have X : Aside (P2 V w.heap.size 25 (.int .i64 v) (.int .u16 (s : Int)) ∧ V.heap[w.heap.size + 1]? = some (.cells #[.bool x.1, .int .u8 (x.2 : Int), .bool y.1, .int .u8 (y.2 : Int)] 63 (0, 0)) ∧ Below w.heap.size w V) := by
    rw [hV]
    refine ⟨(P2.new w _ _ _).alloc _, ?_, (below_one w _).alloc (by simp) _⟩
    have := heap_alloc_new (w.alloc (.cells #[.int .i64 v, .int .u16 (s : Int)] 25)) (.cells #[.bool x.1, .int .u8 (x.2 : Int), .bool y.1, .int .u8 (y.2 : Int)] 63)
    rwa [World.size_alloc] at this
  go_enter Try.func7, Try.ntmps7
  go_wp2_with fail
  rw [← hV]
  clear hV
  go_wp2_with (go_at_call 8; refine (C8.out _).mono ?_; rintro e w1 ⟨rfl, hb⟩; have Y : Aside (P2 w1 w.heap.size 25 (.int .i64 v) (.int .u16 (s : Int)) ∧ w1.heap[w.heap.size + 1]? = some (.cells #[.bool x.1, .int .u8 (x.2 : Int), .bool y.1, .int .u8 (y.2 : Int)] 63 (0, 0)) ∧ Below w.heap.size w w1 ∧ w.heap.size + 1 < w1.heap.size) := ⟨X.out.1.later hb, (hb.block _ (Array.getElem?_eq_some_iff.1 X.out.2.1).1).trans X.out.2.1, below_step X.out.2.2 hb, Nat.lt_of_lt_of_le (Array.getElem?_eq_some_iff.1 X.out.2.1).1 hb.size⟩; clear hb X C8)
  have i0 : w1.cell? ⟨w.heap.size + 1, 0, none⟩ = some (.bool x.1) := cell_of_row w1 (w.heap.size + 1) 0 _ 63 _ Y.out.2.1
  have i1 : w1.cell? ⟨w.heap.size + 1, 1, none⟩ = some (.int .u8 (x.2 : Int)) := cell_of_row w1 (w.heap.size + 1) 1 _ 63 _ Y.out.2.1
  have i2 : w1.cell? ⟨w.heap.size + 1, 2, none⟩ = some (.bool y.1) := cell_of_row w1 (w.heap.size + 1) 2 _ 63 _ Y.out.2.1
  have i3 : w1.cell? ⟨w.heap.size + 1, 3, none⟩ = some (.int .u8 (y.2 : Int)) := cell_of_row w1 (w.heap.size + 1) 3 _ 63 _ Y.out.2.1
  have j0 := fun o => cell_later (below_one w1 o) i0; have j1 := fun o => cell_later (below_one w1 o) i1; have j2 := fun o => cell_later (below_one w1 o) i2; have j3 := fun o => cell_later (below_one w1 o) i3
  have l0 := fun o o' => cell_later (below_one (w1.alloc o) o') (j0 o); have l1 := fun o o' => cell_later (below_one (w1.alloc o) o') (j1 o); have l2 := fun o o' => cell_later (below_one (w1.alloc o) o') (j2 o); have l3 := fun o o' => cell_later (below_one (w1.alloc o) o') (j3 o)
  have kw : w.heap.size ≠ w1.heap.size := Nat.ne_of_lt (Nat.lt_of_succ_lt Y.out.2.2.2)
  have kv : w.heap.size + 1 ≠ w1.heap.size := Nat.ne_of_lt Y.out.2.2.2
  have kx : w.heap.size + 1 ≠ w1.heap.size + 1 := fun h => kw (Nat.succ.inj h)
  go_upto_region 3 with fail
  go_cut [7, 8] (fun s7 s8 wx => ∃ b7 b8 : Nat, s7 = .pointer (some ⟨b7, 0, none⟩) ∧ s8 = .pointer (some ⟨b8, 0, none⟩) ∧ Aside (P2 wx b7 30 (.bool x.1) (.int .u8 (x.2 : Int)) ∧ P2 wx b8 30 (.bool y.1) (.int .u8 (y.2 : Int)) ∧ Below w1.heap.size w1 wx))
  case first =>
    go_region
    all_goals
      go_wp2_with fail
      go_meet
      first
        | exact ⟨w1.heap.size, w1.heap.size + 1, rfl, rfl, ((P2.new w1 _ _ _).alloc _).later (Below.refl _ _).drew, (P2.new1 w1 _ _ _ _).later (Below.refl _ _).drew, ((below_one w1 _).alloc (by simp) _).drew⟩
        | exact ⟨w1.heap.size + 1, w1.heap.size, rfl, rfl, (P2.new1 w1 _ _ _ _).later (Below.refl _ _).drew, ((P2.new w1 _ _ _).alloc _).later (Below.refl _ _).drew, ((below_one w1 _).alloc (by simp) _).drew⟩
  case rest =>
  obtain ⟨b7, b8, rfl, rfl, HB⟩ := hcut
  clear i0 i1 i2 i3 j0 j1 j2 j3 l0 l1 l2 l3 kw kv kx
  have HC : Aside (P2 wc w.heap.size 25 (.int .i64 v) (.int .u16 (s : Int)) ∧ P2 wc b7 30 (.bool x.1) (.int .u8 (x.2 : Int)) ∧ P2 wc b8 30 (.bool y.1) (.int .u8 (y.2 : Int)) ∧ Below w.heap.size w wc) := ⟨Y.out.1.later HB.out.2.2, HB.out.1, HB.out.2.1, below_step Y.out.2.2.1 HB.out.2.2⟩
  clear Y HB
  obtain ⟨c0, c1⟩ := HC.out.1.cells
  obtain ⟨bb, hbb⟩ : ∃ bb, bb = wc.heap.size := ⟨_, rfl⟩
  have T0 : Aside (TS w (wc.alloc (.cells #[.int .i64 v, .int .u16 (s : Int), .slice none 0 0] 37)) v s x y b7 b8 bb none 0 []) := by
    rw [hbb]
    exact ⟨HC.out.1.alloc _, HC.out.2.1.alloc _, HC.out.2.2.1.alloc _, X3.new wc _ _ _ _, .inl rfl, Fr.nil _, HC.out.2.2.2.alloc HC.out.2.2.2.size _, HC.out.1.lt, HC.out.2.1.lt, HC.out.2.2.1.lt⟩
  go_wp2_with fail
  rw [← hbb]
  generalize wc.alloc (.cells #[.int .i64 v, .int .u16 (s : Int), .slice none 0 0] 37) = V0 at T0
  clear c0 c1 HC hbb
  go_loopg [10] 60 (fun g s10 wr => ∃ (k : Nat) (a1 : Option Addr) (c1 : Nat), s10 = .int .i64 (k : Nat) ∧ k ≤ n ∧ k ≤ 60 ∧ 60 - k ≤ g ∧ Aside (TS w wr v s x y b7 b8 bb a1 c1 (putsL v s [] (L.take k))))
  case atStart => exact ⟨0, none, 0, rfl, Nat.zero_le _, by decide, by omega, T0.out⟩
  case round =>
    obtain ⟨k, a1, c1, rfl, hk, hk6, hg, HS⟩ := hrel
    by_cases hlt : k < n ∧ k < 60
    · obtain ⟨hlt1, hlt2⟩ := hlt
      have t1 : (k : Int) < (n : Int) := by omega
      have t2 : (k : Int) < 60 := by omega
      have t0 : (0 : Int) ≤ (k : Int) := by omega
      obtain ⟨e, hke⟩ : ∃ e, L[k]? = some e := ⟨_, List.getElem?_eq_getElem (by have := HL.out.2.1; omega)⟩
      have KE : Aside (L[k]? = some e) := hke
      clear hke
      obtain ⟨l, hl⟩ : ∃ l, l = putsL v s [] (L.take k) := ⟨_, rfl⟩
      have PN : Aside (putsL v s [] (L.take (k + 1)) = putL v s l e ∧ l.length ≤ 16) := ⟨by rw [hl]; exact puts_take [] KE.out, by rw [hl]; exact puts_small v s _⟩
      rw [← hl] at HS
      clear hl
      obtain ⟨b, off, rfl, y0, y1, y2⟩ := AtC.get (HL.out.1.later HS.out.2.2.2.2.2.2.1) KE.out
      obtain ⟨x0, x1, x2⟩ := HS.out.2.2.2.1.cells
      obtain ⟨n0, hn0⟩ : ∃ n0, n0 = l.length := ⟨_, rfl⟩
      obtain ⟨n1, hn1⟩ : ∃ n1, n1 = (putL v s l e).length := ⟨_, rfl⟩
      have NN : Aside (n0 = l.length ∧ n1 = (putL v s l e).length) := ⟨hn0, hn1⟩
      rw [← hn0] at x2
      have P9 : Aside (∀ (W : World) (a' : Option Addr) (c' : Nat), AtC W a' l → Calls Try.prog 9 #[.agg #[.int .i64 v, .int .u16 (s : Int), .slice a' n0 c'], .agg #[.int .u8 (e.1 : Int), .bool e.2.1, .int .u8 (e.2.2 : Int)]] W fun z w' => ∃ a2 c2, z = .returned (.tuple #[.agg #[.int .i64 v, .int .u16 (s : Int), .slice a2 n1 c2], .int .i64 (putE v s l e : Nat)]) ∧ AtC w' a2 (putL v s l e) ∧ Below W.heap.size W w' ∧ n1 ≤ c2 ∧ Fr W.heap.size a2) := fun W a' c' h => by rw [hn0, hn1]; exact put_box v s a' c' l e W h HL.out.2.2.1 PN.out.2
      have HSX : Aside (X3 wr bb 37 (.int .i64 v) (.int .u16 (s : Int)) (.slice a1 n0 c1)) := by rw [hn0]; exact HS.out.2.2.2.1
      clear hn0 hn1
      go_upto_region 8 with fail
      go_cut [11, 12] (fun sb se wx => ∃ (nb : Nat) (a2 : Option Addr) (c2 : Nat), sb = .pointer (some ⟨nb, 0, none⟩) ∧ se = .int .i64 (putE v s l e : Int) ∧ Aside ((TS w wx v s x y b7 b8 bb a1 c1 l) ∧ X3 wx nb 37 (.int .i64 v) (.int .u16 (s : Int)) (.slice a2 n1 c2) ∧ AtC wx a2 (putL v s l e) ∧ Fr wr.heap.size a2 ∧ wr.heap.size ≤ nb))
      case first =>
        have BOX : Aside (X3 wr bb 37 (.int .i64 v) (.int .u16 (s : Int)) (.slice a1 n0 c1)) := HSX.out
        have ATL : Aside (AtC wr a1 l) := HS.out.2.2.2.2.1
        have R0 : Aside (wr.cell? ⟨b, off + k * 3, none⟩ = some (.int .u8 (e.1 : Int))) := y0
        have R1 : Aside (wr.cell? ⟨b, off + k * 3 + 1, none⟩ = some (.bool e.2.1)) := y1
        have R2 : Aside (wr.cell? ⟨b, off + k * 3 + 2, none⟩ = some (.int .u8 (e.2.2 : Int))) := y2
        have BD : Aside (Below wr.heap.size wr wr.drew) := (Below.refl _ wr).drew
        have BA : Aside (Below wr.heap.size wr (wr.alloc (.cells #[.int .i64 0, .int .u16 0, .slice none 0 0] 37)).drew) := ((Below.refl _ wr).alloc (Nat.le_refl _) _).drew
        have kb : bb ≠ wr.heap.size := Nat.ne_of_lt BOX.out.lt
        have kr : b ≠ wr.heap.size := Nat.ne_of_lt (World.block_lt_of_cell? _ _ y0)
        have kb2 : wr.heap.size ≠ bb := fun h => kb h.symm
        have kr2 : wr.heap.size ≠ b := fun h => kr h.symm
        go_region_held3 (fun w' => w'.cell? ⟨bb, 0, none⟩ = some (.int .i64 v) ∧ w'.cell? ⟨bb, 1, none⟩ = some (.int .u16 (s : Int)) ∧ w'.cell? ⟨bb, 2, none⟩ = some (.slice a1 n0 c1) ∧ w'.cell? ⟨b, off + k * 3, none⟩ = some (.int .u8 (e.1 : Int)) ∧ w'.cell? ⟨b, off + k * 3 + 1, none⟩ = some (.bool e.2.1) ∧ w'.cell? ⟨b, off + k * 3 + 2, none⟩ = some (.int .u8 (e.2.2 : Int)))
          (first | go_keep)
          (first
            | (go_at_call 11; (with_reducible refine (C11.out e wr.drew).mono ?_); rintro e' w1 ⟨rfl, hb⟩; have YA : Aside (Below wr.heap.size wr w1) := below_step BD.out hb; clear hb; clear x0 x1 x2 y0 y1 y2; obtain ⟨x0, x1, x2⟩ := (BOX.out.later YA.out).cells; have y0 := cell_later YA.out R0.out; have y1 := cell_later YA.out R1.out; have y2 := cell_later YA.out R2.out; have kc : bb ≠ w1.heap.size := Nat.ne_of_lt (BOX.out.later YA.out).lt; have kd : b ≠ w1.heap.size := Nat.ne_of_lt (World.block_lt_of_cell? _ _ y0); have kc2 : w1.heap.size ≠ bb := fun h => kc h.symm; have kd2 : w1.heap.size ≠ b := fun h => kd h.symm)
            | (go_at_call 11; (with_reducible refine (C11.out e (wr.alloc (.cells #[.int .i64 0, .int .u16 0, .slice none 0 0] 37)).drew).mono ?_); rintro e' w1 ⟨rfl, hb⟩; have YB : Aside (Below wr.heap.size wr w1) := below_step BA.out hb; have NB : Aside (X3 w1 wr.heap.size 37 (.int .i64 0) (.int .u16 0) (.slice none 0 0)) := ((X3.new wr 37 (.int .i64 0) (.int .u16 0) (.slice none 0 0)).later (Below.refl _ _).drew).later hb; clear hb; clear x0 x1 x2 y0 y1 y2; obtain ⟨x0, x1, x2⟩ := (BOX.out.later YB.out).cells; have y0 := cell_later YB.out R0.out; have y1 := cell_later YB.out R1.out; have y2 := cell_later YB.out R2.out; obtain ⟨z0, z1, z2⟩ := NB.out.cells; have f0 := NB.out.frozen 0; have f1 := NB.out.frozen 1; have f2 := NB.out.frozen 2)
            | (go_at_call 9; (with_reducible refine (P9.out w1 a1 c1 (ATL.out.later YA.out)).mono ?_); rintro e' w2 ⟨a2, c2, rfl, hat, hb, hc, hf⟩; have ZA : Aside (Below wr.heap.size wr w2) := below_step YA.out hb; have TA : Aside (AtC w2 a2 (putL v s l e) ∧ Fr wr.heap.size a2) := ⟨hat, hf.mono YA.out.size⟩; clear hat hb hc hf; clear x0 x1 x2 y0 y1 y2; obtain ⟨x0, x1, x2⟩ := (BOX.out.later ZA.out).cells; have y0 := cell_later ZA.out R0.out; have y1 := cell_later ZA.out R1.out; have y2 := cell_later ZA.out R2.out)
            | (go_at_call 9; (with_reducible refine (P9.out w1 a1 c1 (ATL.out.later YB.out)).mono ?_); rintro e' w2 ⟨a2, c2, rfl, hat, hb, hc, hf⟩; have ZB : Aside (Below wr.heap.size wr w2) := below_step YB.out hb; have TB : Aside (AtC w2 a2 (putL v s l e) ∧ Fr (wr.heap.size + 1) a2) := ⟨hat, hf.mono (Nat.succ_le_of_lt NB.out.lt)⟩; have NB2 : Aside (X3 w2 wr.heap.size 37 (.int .i64 0) (.int .u16 0) (.slice none 0 0)) := NB.out.later hb; clear hat hb hc hf z0 z1 z2 f0 f1 f2; clear x0 x1 x2 y0 y1 y2; obtain ⟨x0, x1, x2⟩ := (BOX.out.later ZB.out).cells; have y0 := cell_later ZB.out R0.out; have y1 := cell_later ZB.out R1.out; have y2 := cell_later ZB.out R2.out; obtain ⟨z0, z1, z2⟩ := NB2.out.cells; have f0 := NB2.out.frozen 0; have f1 := NB2.out.frozen 1; have f2 := NB2.out.frozen 2)
            | (go_at_call 9; (with_reducible refine (P9.out (w1.alloc (.cells #[.int .i64 0, .int .u16 0, .slice none 0 0] 37)) a1 c1 (ATL.out.later (YA.out.alloc YA.out.size _))).mono ?_); rintro e' w2 ⟨a2, c2, rfl, hat, hb, hc, hf⟩; have ZC : Aside (Below wr.heap.size wr w2) := below_step (YA.out.alloc YA.out.size _) hb; have TC : Aside (AtC w2 a2 (putL v s l e) ∧ Fr (w1.heap.size + 1) a2) := ⟨hat, by rw [World.size_alloc] at hf; exact hf⟩; have NC2 : Aside (X3 w2 w1.heap.size 37 (.int .i64 0) (.int .u16 0) (.slice none 0 0)) := (X3.new w1 37 (.int .i64 0) (.int .u16 0) (.slice none 0 0)).later hb; clear hat hb hc hf; clear x0 x1 x2 y0 y1 y2; obtain ⟨x0, x1, x2⟩ := (BOX.out.later ZC.out).cells; have y0 := cell_later ZC.out R0.out; have y1 := cell_later ZC.out R1.out; have y2 := cell_later ZC.out R2.out; obtain ⟨z0, z1, z2⟩ := NC2.out.cells; have f0 := NC2.out.frozen 0; have f1 := NC2.out.frozen 1; have f2 := NC2.out.frozen 2)
            | fail)
        all_goals
          go_wp2_with fail
          go_meet
        all_goals first
          | exact ⟨w2.heap.size, a2, c2, rfl, rfl, (HS.out.later (ZA.out.alloc ZA.out.size _)), X3.new _ _ _ _ _, TA.out.1.later (below_one _ _), TA.out.2, ZA.out.size⟩
          | exact ⟨wr.heap.size, a2, c2, rfl, rfl, (HS.out.later (below_set3 ZB.out (Nat.le_refl _) _ _ _)), NB2.out.set _ _ _, TB.out.1.set3 TB.out.2 (Nat.lt_succ_self _) _ _ _, TB.out.2.mono (Nat.le_succ _), Nat.le_refl _⟩
          | exact ⟨w1.heap.size, a2, c2, rfl, rfl, (HS.out.later (below_set3 ZC.out YA.out.size _ _ _)), NC2.out.set _ _ _, TC.out.1.set3 TC.out.2 (Nat.lt_succ_self _) _ _ _, TC.out.2.mono (Nat.le_trans YA.out.size (Nat.le_succ _)), YA.out.size⟩
      case rest =>
      obtain ⟨nb, a2, c2, rfl, rfl, HD⟩ := hcut
      have ER : Aside (∀ m : Nat, putE v s l e = m → m = putE v s l e) := fun m h => h.symm
      have RS : Aside (∀ W', TS w W' v s x y b7 b8 bb a1 c1 l → AtC W' a2 (putL v s l e) → TS w (((W'.setCell ⟨bb, 0, none⟩ (.int .i64 v)).setCell ⟨bb, 1, none⟩ (.int .u16 (s : Int))).setCell ⟨bb, 2, none⟩ (.slice a2 n1 c2)) v s x y b7 b8 bb a2 c2 (putsL v s [] (L.take (k + 1)))) := fun W' h1 h2 => by
        rw [PN.out.1, NN.out.2]
        exact h1.put h2 (HD.out.2.2.2.1.mono (Nat.succ_le_of_lt HSX.out.lt))
      have U0 : Aside (P2 wc w.heap.size 25 (.int .i64 v) (.int .u16 (s : Int)) ∧ Below w.heap.size w wc) := ⟨HD.out.1.1, HD.out.1.2.2.2.2.2.2.1⟩
      by_cases h0 : putE v s l e = 0
      · have AG := put_again h0
        rw [h0]
        have AG2 : Aside (putE v s (putL v s l e) e = 9 ∧ (forS v s (putL v s l e) e.2).testBit e.1 = true ∧ e.1 ≤ 15) := AG
        clear AG h0 ER P9 y0 y1 y2 x0 x1 x2
        obtain ⟨b'', off'', eq'', y0, y1, y2⟩ := AtC.get (HL.out.1.later U0.out.2) KE.out
        have eb : b = b'' := congrArg Addr.block (Option.some.inj eq'')
        have eo : off = off'' := congrArg Addr.off (Option.some.inj eq'')
        subst eb eo
        clear eq''
        obtain ⟨x0, x1, x2⟩ := HD.out.2.1.cells
        obtain ⟨l1, hl1⟩ : ∃ l1, l1 = putL v s l e := ⟨_, rfl⟩
        have N1 : Aside (n1 = l1.length ∧ l1.length ≤ 16) := ⟨by rw [hl1]; exact NN.out.2, by rw [hl1, ← PN.out.1]; exact puts_small v s _⟩
        rw [← hl1] at HD RS AG2
        obtain ⟨n2, hn2⟩ : ∃ n2, n2 = (putL v s l1 e).length := ⟨_, rfl⟩
        have P9 : Aside (∀ (W : World) (a' : Option Addr) (c' : Nat), AtC W a' l1 → Calls Try.prog 9 #[.agg #[.int .i64 v, .int .u16 (s : Int), .slice a' n1 c'], .agg #[.int .u8 (e.1 : Int), .bool e.2.1, .int .u8 (e.2.2 : Int)]] W fun z w' => ∃ a2 c2, z = .returned (.tuple #[.agg #[.int .i64 v, .int .u16 (s : Int), .slice a2 n2 c2], .int .i64 9]) ∧ AtC w' a2 (putL v s l1 e) ∧ Below W.heap.size W w' ∧ n2 ≤ c2 ∧ Fr W.heap.size a2) := fun W a' c' h => by rw [N1.out.1, hn2]; have := put_box v s a' c' l1 e W h HL.out.2.2.1 N1.out.2; rw [AG2.out.1] at this; exact this
        have C17 : Aside (∀ W, AtC W a2 l1 → Calls Try.prog 17 #[.agg #[.int .i64 v, .int .u16 (s : Int), .slice a2 n1 c2], .agg #[.bool e.2.1, .int .u8 (e.2.2 : Int)]] W fun z w' => z = .returned (.int .u16 (forS v s l1 e.2 : Nat)) ∧ Below W.heap.size W w') := fun W h => by rw [N1.out.1]; exact for_box v s a2 c2 l1 e.2.1 e.2.2 W h HL.out.2.2.1 N1.out.2
        have C23 : Aside (∀ W, Calls Try.prog 23 #[.int .u16 (forS v s l1 e.2 : Nat), .int .u8 (e.1 : Int)] W fun z w' => z = .returned (.bool true) ∧ w' = W) := fun W => by
          have := rhas_any (forS v s l1 e.2) e.1 W (for_small v s l1 e.2) (HL.out.2.2.2 e (List.mem_of_getElem? KE.out))
          have hh : hasS (forS v s l1 e.2) e.1 = true := by unfold hasS; rw [AG2.out.2.1, decide_eq_true AG2.out.2.2]; rfl
          rw [hh] at this; exact this
        clear hn2 hl1
        generalize forS v s l1 e.2 = fs at C17 C23
        go_upto_region 10 with fail
        go_cut [13, 14] (fun sb se wx => ∃ (nb2 : Nat) (a3 : Option Addr) (c3 : Nat), sb = .pointer (some ⟨nb2, 0, none⟩) ∧ se = .int .i64 (9 : Int) ∧ Aside ((TS w wx v s x y b7 b8 bb a1 c1 l ∧ X3 wx nb 37 (.int .i64 v) (.int .u16 (s : Int)) (.slice a2 n1 c2) ∧ AtC wx a2 l1) ∧ X3 wx nb2 37 (.int .i64 v) (.int .u16 (s : Int)) (.slice a3 n2 c3) ∧ AtC wx a3 (putL v s l1 e) ∧ Fr wc.heap.size a3 ∧ wc.heap.size ≤ nb2))
        case first =>
          have BOX : Aside (X3 wc nb 37 (.int .i64 v) (.int .u16 (s : Int)) (.slice a2 n1 c2)) := HD.out.2.1
          have ATL : Aside (AtC wc a2 l1) := HD.out.2.2.1
          have R0 : Aside (wc.cell? ⟨b, off + k * 3, none⟩ = some (.int .u8 (e.1 : Int))) := y0
          have R1 : Aside (wc.cell? ⟨b, off + k * 3 + 1, none⟩ = some (.bool e.2.1)) := y1
          have R2 : Aside (wc.cell? ⟨b, off + k * 3 + 2, none⟩ = some (.int .u8 (e.2.2 : Int))) := y2
          have BD : Aside (Below wc.heap.size wc wc.drew) := (Below.refl _ wc).drew
          have BA : Aside (Below wc.heap.size wc (wc.alloc (.cells #[.int .i64 0, .int .u16 0, .slice none 0 0] 37)).drew) := ((Below.refl _ wc).alloc (Nat.le_refl _) _).drew
          have kb : nb ≠ wc.heap.size := Nat.ne_of_lt BOX.out.lt
          have kr : b ≠ wc.heap.size := Nat.ne_of_lt (World.block_lt_of_cell? _ _ y0)
          have kb2 : wc.heap.size ≠ nb := fun h => kb h.symm
          have kr2 : wc.heap.size ≠ b := fun h => kr h.symm
          go_region_held3 (fun w' => w'.cell? ⟨nb, 0, none⟩ = some (.int .i64 v) ∧ w'.cell? ⟨nb, 1, none⟩ = some (.int .u16 (s : Int)) ∧ w'.cell? ⟨nb, 2, none⟩ = some (.slice a2 n1 c2) ∧ w'.cell? ⟨b, off + k * 3, none⟩ = some (.int .u8 (e.1 : Int)) ∧ w'.cell? ⟨b, off + k * 3 + 1, none⟩ = some (.bool e.2.1) ∧ w'.cell? ⟨b, off + k * 3 + 2, none⟩ = some (.int .u8 (e.2.2 : Int)))
            (first | go_keep)
            (first
              | (go_at_call 11; (with_reducible refine (C11.out e wc.drew).mono ?_); rintro e' w1 ⟨rfl, hb⟩; have YA : Aside (Below wc.heap.size wc w1) := below_step BD.out hb; clear hb; clear x0 x1 x2 y0 y1 y2; obtain ⟨x0, x1, x2⟩ := (BOX.out.later YA.out).cells; have y0 := cell_later YA.out R0.out; have y1 := cell_later YA.out R1.out; have y2 := cell_later YA.out R2.out; have kc : nb ≠ w1.heap.size := Nat.ne_of_lt (BOX.out.later YA.out).lt; have kd : b ≠ w1.heap.size := Nat.ne_of_lt (World.block_lt_of_cell? _ _ y0); have kc2 : w1.heap.size ≠ nb := fun h => kc h.symm; have kd2 : w1.heap.size ≠ b := fun h => kd h.symm)
              | (go_at_call 11; (with_reducible refine (C11.out e (wc.alloc (.cells #[.int .i64 0, .int .u16 0, .slice none 0 0] 37)).drew).mono ?_); rintro e' w1 ⟨rfl, hb⟩; have YB : Aside (Below wc.heap.size wc w1) := below_step BA.out hb; have NB : Aside (X3 w1 wc.heap.size 37 (.int .i64 0) (.int .u16 0) (.slice none 0 0)) := ((X3.new wc 37 (.int .i64 0) (.int .u16 0) (.slice none 0 0)).later (Below.refl _ _).drew).later hb; clear hb; clear x0 x1 x2 y0 y1 y2; obtain ⟨x0, x1, x2⟩ := (BOX.out.later YB.out).cells; have y0 := cell_later YB.out R0.out; have y1 := cell_later YB.out R1.out; have y2 := cell_later YB.out R2.out; obtain ⟨z0, z1, z2⟩ := NB.out.cells; have f0 := NB.out.frozen 0; have f1 := NB.out.frozen 1; have f2 := NB.out.frozen 2)
              | (go_at_call 9; (with_reducible refine (P9.out w1 a2 c2 (ATL.out.later YA.out)).mono ?_); rintro e' w2 ⟨a3, c3, rfl, hat, hb, hc, hf⟩; have ZA : Aside (Below wc.heap.size wc w2) := below_step YA.out hb; have TA : Aside (AtC w2 a3 (putL v s l1 e) ∧ Fr wc.heap.size a3) := ⟨hat, hf.mono YA.out.size⟩; clear hat hb hc hf; clear x0 x1 x2 y0 y1 y2; obtain ⟨x0, x1, x2⟩ := (BOX.out.later ZA.out).cells; have y0 := cell_later ZA.out R0.out; have y1 := cell_later ZA.out R1.out; have y2 := cell_later ZA.out R2.out)
              | (go_at_call 9; (with_reducible refine (P9.out w1 a2 c2 (ATL.out.later YB.out)).mono ?_); rintro e' w2 ⟨a3, c3, rfl, hat, hb, hc, hf⟩; have ZB : Aside (Below wc.heap.size wc w2) := below_step YB.out hb; have TB : Aside (AtC w2 a3 (putL v s l1 e) ∧ Fr (wc.heap.size + 1) a3) := ⟨hat, hf.mono (Nat.succ_le_of_lt NB.out.lt)⟩; have NB2 : Aside (X3 w2 wc.heap.size 37 (.int .i64 0) (.int .u16 0) (.slice none 0 0)) := NB.out.later hb; clear hat hb hc hf z0 z1 z2 f0 f1 f2; clear x0 x1 x2 y0 y1 y2; obtain ⟨x0, x1, x2⟩ := (BOX.out.later ZB.out).cells; have y0 := cell_later ZB.out R0.out; have y1 := cell_later ZB.out R1.out; have y2 := cell_later ZB.out R2.out; obtain ⟨z0, z1, z2⟩ := NB2.out.cells; have f0 := NB2.out.frozen 0; have f1 := NB2.out.frozen 1; have f2 := NB2.out.frozen 2)
              | (go_at_call 9; (with_reducible refine (P9.out (w1.alloc (.cells #[.int .i64 0, .int .u16 0, .slice none 0 0] 37)) a2 c2 (ATL.out.later (YA.out.alloc YA.out.size _))).mono ?_); rintro e' w2 ⟨a3, c3, rfl, hat, hb, hc, hf⟩; have ZC : Aside (Below wc.heap.size wc w2) := below_step (YA.out.alloc YA.out.size _) hb; have TC : Aside (AtC w2 a3 (putL v s l1 e) ∧ Fr (w1.heap.size + 1) a3) := ⟨hat, by rw [World.size_alloc] at hf; exact hf⟩; have NC2 : Aside (X3 w2 w1.heap.size 37 (.int .i64 0) (.int .u16 0) (.slice none 0 0)) := (X3.new w1 37 (.int .i64 0) (.int .u16 0) (.slice none 0 0)).later hb; clear hat hb hc hf; clear x0 x1 x2 y0 y1 y2; obtain ⟨x0, x1, x2⟩ := (BOX.out.later ZC.out).cells; have y0 := cell_later ZC.out R0.out; have y1 := cell_later ZC.out R1.out; have y2 := cell_later ZC.out R2.out; obtain ⟨z0, z1, z2⟩ := NC2.out.cells; have f0 := NC2.out.frozen 0; have f1 := NC2.out.frozen 1; have f2 := NC2.out.frozen 2)
              | fail)
          all_goals
            go_wp2_with fail
            go_meet
          all_goals first
            | exact ⟨w2.heap.size, a3, c3, rfl, rfl, (⟨HD.out.1.later (ZA.out.alloc ZA.out.size _), HD.out.2.1.later (ZA.out.alloc ZA.out.size _), HD.out.2.2.1.later (ZA.out.alloc ZA.out.size _)⟩), X3.new _ _ _ _ _, TA.out.1.later (below_one _ _), TA.out.2, ZA.out.size⟩
            | exact ⟨wc.heap.size, a3, c3, rfl, rfl, (⟨HD.out.1.later (below_set3 ZB.out (Nat.le_refl _) _ _ _), HD.out.2.1.later (below_set3 ZB.out (Nat.le_refl _) _ _ _), HD.out.2.2.1.later (below_set3 ZB.out (Nat.le_refl _) _ _ _)⟩), NB2.out.set _ _ _, TB.out.1.set3 TB.out.2 (Nat.lt_succ_self _) _ _ _, TB.out.2.mono (Nat.le_succ _), Nat.le_refl _⟩
            | exact ⟨w1.heap.size, a3, c3, rfl, rfl, (⟨HD.out.1.later (below_set3 ZC.out YA.out.size _ _ _), HD.out.2.1.later (below_set3 ZC.out YA.out.size _ _ _), HD.out.2.2.1.later (below_set3 ZC.out YA.out.size _ _ _)⟩), NC2.out.set _ _ _, TC.out.1.set3 TC.out.2 (Nat.lt_succ_self _) _ _ _, TC.out.2.mono (Nat.le_trans YA.out.size (Nat.le_succ _)), YA.out.size⟩
        case rest =>
        obtain ⟨nb2, a3, c3, rfl, rfl, HE⟩ := hcut
        clear x0 x1 x2 y0 y1 y2
        have BW : Aside (Below w.heap.size w wc) := HE.out.1.1.2.2.2.2.2.2.1
        obtain ⟨b'', off'', eq'', y0, y1, y2⟩ := AtC.get (HL.out.1.later BW.out) KE.out
        have eb : b = b'' := congrArg Addr.block (Option.some.inj eq'')
        have eo : off = off'' := congrArg Addr.off (Option.some.inj eq'')
        subst eb eo
        clear eq''
        have p0 : ∀ p : Bw wc, p.w'.cell? ⟨nb, 0, none⟩ = some (.int .i64 v) := fun p => (HE.out.1.2.1.later p.h).cells.1
        have p1 : ∀ p : Bw wc, p.w'.cell? ⟨nb, 1, none⟩ = some (.int .u16 (s : Int)) := fun p => (HE.out.1.2.1.later p.h).cells.2.1
        have p2 : ∀ p : Bw wc, p.w'.cell? ⟨nb, 2, none⟩ = some (.slice a2 n1 c2) := fun p => (HE.out.1.2.1.later p.h).cells.2.2
        have r0 : ∀ p : Bw wc, p.w'.cell? ⟨b, off + k * 3, none⟩ = some (.int .u8 (e.1 : Int)) := fun p => cell_later p.h y0
        have r1 : ∀ p : Bw wc, p.w'.cell? ⟨b, off + k * 3 + 1, none⟩ = some (.bool e.2.1) := fun p => cell_later p.h y1
        have r2 : ∀ p : Bw wc, p.w'.cell? ⟨b, off + k * 3 + 2, none⟩ = some (.int .u8 (e.2.2 : Int)) := fun p => cell_later p.h y2
        have z0 : ∀ p : Bw wc, p.w'.cell? ⟨bb, 0, none⟩ = some (.int .i64 v) := fun p => (HE.out.1.1.2.2.2.1.later p.h).cells.1
        have z1 : ∀ p : Bw wc, p.w'.cell? ⟨bb, 1, none⟩ = some (.int .u16 (s : Int)) := fun p => (HE.out.1.1.2.2.2.1.later p.h).cells.2.1
        have z2 : ∀ p : Bw wc, p.w'.cell? ⟨bb, 2, none⟩ = some (.slice a1 l.length c1) := fun p => (HE.out.1.1.2.2.2.1.later p.h).cells.2.2
        have f0 : ∀ p : Bw wc, p.w'.frozen? ⟨bb, 0, none⟩ = false := fun p => (HE.out.1.1.2.2.2.1.later p.h).frozen 0
        have f1 : ∀ p : Bw wc, p.w'.frozen? ⟨bb, 1, none⟩ = false := fun p => (HE.out.1.1.2.2.2.1.later p.h).frozen 1
        have f2 : ∀ p : Bw wc, p.w'.frozen? ⟨bb, 2, none⟩ = false := fun p => (HE.out.1.1.2.2.2.1.later p.h).frozen 2
        have ES : Aside (∀ p : Bw wc, _) := fun p => RS.out p.w' (HE.out.1.1.later p.h) (HE.out.1.2.2.later p.h)
        have AT : Aside (∀ p : Bw wc, AtC p.w' a2 l1) := fun p => HE.out.1.2.2.later p.h
        clear y0 y1 y2 RS HE HD P9
        have hne := Bw.some wc
        go_wp2_with fail
        refine wp_region_wq (by kernel_rfl) (by kernel_rfl) ?_
        repeat (refine wq_step (fun K hK => ?_); go_simp; first | (refine hK _ ?_; clear hK K) | (apply Exists.intro; refine ⟨fun _ => ?_, hK _ ?_⟩; (first | (go_at_call 17; exact Calls.bw_of (C17.out _ (AT.out _))) | (go_at_call 23; exact Calls.bw_same (C23.out _))); clear hK K))
        refine wq_nil ?_
        intro _ hw'
        obtain ⟨pq, hw''⟩ := hw'
        subst hw''
        go_wp2_with fail
        go_roundg (60 - (k + 1))
        case measure => omega
        case rel => exact ⟨k + 1, a2, c2, by go_num, by omega, by omega, Nat.le_refl _, ES.out pq⟩
      · have e1 : ((putE v s l e : Int) == 0) = false := by rw [beq_eq_false_iff_ne]; omega
        have e2 : ¬ ((putE v s l e : Int) = 0) := by omega
        clear x0 x1 x2 y0 y1 y2
        obtain ⟨x0, x1, x2⟩ := HD.out.2.1.cells
        obtain ⟨z0, z1, z2⟩ := HD.out.1.2.2.2.1.cells
        have f0 := HD.out.1.2.2.2.1.frozen 0; have f1 := HD.out.1.2.2.2.1.frozen 1; have f2 := HD.out.1.2.2.2.1.frozen 2
        have ES : Aside _ := RS.out wc HD.out.1 HD.out.2.2.1
        generalize putE v s l e = pe at *
        go_wp2_with fail
        go_roundg (60 - (k + 1))
        case measure => omega
        case rel => exact ⟨k + 1, a2, c2, by go_num, by omega, by omega, Nat.le_refl _, ES.out⟩
    · have hx : ¬ (k : Int) < (n : Int) ∨ ((k : Int) < (n : Int) ∧ ¬ (k : Int) < 60) := by omega
      obtain ⟨l, hl⟩ : ∃ l, l = putsL v s [] (L.take k) := ⟨_, rfl⟩
      have LS : Aside (l.length ≤ 16) := by show _ ≤ _; rw [hl]; exact puts_small v s _
      rw [← hl] at HS
      clear hl
      have C17 : Aside (∀ (z : Bool × Nat) W, Below wr.heap.size wr W → Calls Try.prog 17 #[.agg #[.int .i64 v, .int .u16 (s : Int), .slice a1 l.length c1], .agg #[.bool z.1, .int .u8 (z.2 : Int)]] W fun e w' => e = .returned (.int .u16 (forS v s l z : Nat)) ∧ Below W.heap.size W w') := fun z W h => for_box v s a1 c1 l z.1 z.2 W (HS.out.2.2.2.2.1.later h) HL.out.2.2.1 LS.out
      have D1 : Aside (∀ W, Below wr.heap.size wr W → _) := fun W h => C17.out x W h
      have D2 : Aside (∀ W, Below wr.heap.size wr W → _) := fun W h => C17.out y W h
      have u1 : Aside (bits .or .u16 (forS v s l x : Int) (forS v s l y : Int) = ((forS v s l x ||| forS v s l y : Nat) : Int)) := u16_or_nat _ _ (for_small ..) (for_small ..)
      have u2 : Aside (bits .andNot .u16 ((forS v s l x ||| forS v s l y : Nat) : Int) (s : Int) = 0) := by
        have := u16_andNot_nat (forS v s l x ||| forS v s l y) s (Nat.or_lt_two_pow (n := 16) (for_small ..) (for_small ..)) HL.out.2.2.1
        rw [or_members x y HL.out.2.2.1] at this; exact this
      have u3 : Aside (¬ (x.1 = y.1 ∧ x.2 = y.2) → bits .and .u16 (forS v s l x : Int) (forS v s l y : Int) = 0) := fun hne => by
        have := u16_and_nat (forS v s l x) (forS v s l y) (for_small ..) (for_small ..)
        rw [for_apart (fun h => hne (by rw [h]; exact ⟨rfl, rfl⟩))] at this; exact this
      have q1 := fun W => eql30 x.1 y.1 x.2 y.2 W
      have g1 := fun a b xs ys W => eql30_guard a b xs ys W
      have p0 : ∀ p : Bw wr, p.w'.cell? ⟨bb, 0, none⟩ = some (.int .i64 v) := fun p => (HS.out.2.2.2.1.later p.h).cells.1
      have p1 : ∀ p : Bw wr, p.w'.cell? ⟨bb, 1, none⟩ = some (.int .u16 (s : Int)) := fun p => (HS.out.2.2.2.1.later p.h).cells.2.1
      have p2 : ∀ p : Bw wr, p.w'.cell? ⟨bb, 2, none⟩ = some (.slice a1 l.length c1) := fun p => (HS.out.2.2.2.1.later p.h).cells.2.2
      have r0 : ∀ p : Bw wr, p.w'.cell? ⟨b7, 0, none⟩ = some (.bool x.1) := fun p => (HS.out.2.1.later p.h).cells.1
      have r1 : ∀ p : Bw wr, p.w'.cell? ⟨b7, 1, none⟩ = some (.int .u8 (x.2 : Int)) := fun p => (HS.out.2.1.later p.h).cells.2
      have z0 : ∀ p : Bw wr, p.w'.cell? ⟨b8, 0, none⟩ = some (.bool y.1) := fun p => (HS.out.2.2.1.later p.h).cells.1
      have z1 : ∀ p : Bw wr, p.w'.cell? ⟨b8, 1, none⟩ = some (.int .u8 (y.2 : Int)) := fun p => (HS.out.2.2.1.later p.h).cells.2
      have o1 : ∀ p : Bw wr, p.w'.cell? ⟨w.heap.size, 1, none⟩ = some (.int .u16 (s : Int)) := fun p => (HS.out.1.later p.h).cells.2
      have FB : Aside (∀ p : Bw wr, Below w.heap.size w p.w') := fun p => below_step HS.out.2.2.2.2.2.2.1 p.h
      generalize forS v s l x = fx at *
      generalize forS v s l y = fy at *
      clear C17 C11 HS
      have hne := Bw.some wr
      by_cases hxy : x.1 = y.1 ∧ x.2 = y.2
      · rw [decide_eq_true hxy] at q1
        have v1 := u1.out
        have v2 := u2.out
        clear hxy u3 u1 u2
        rcases hx with hx | ⟨hx1, hx⟩
        all_goals
          go_wp2_with fail
          refine wp_region_wq (by kernel_rfl) (by kernel_rfl) ?_
          repeat (refine wq_step (fun K hK => ?_); go_simp; first | (refine hK _ ?_; clear hK K) | (apply Exists.intro; refine ⟨fun _ => ?_, hK _ ?_⟩; (first | (go_at_call 17; with_reducible exact Calls.bw_of (D1.out _ (Bw.h _))) | (go_at_call 17; with_reducible exact Calls.bw_of (D2.out _ (Bw.h _)))); clear hK K))
          refine wq_nil ?_
          intro _ hw'
          obtain ⟨pq, hw''⟩ := hw'
          subst hw''
          go_wp2_with fail
          go_ret
          exact ⟨rfl, FB.out pq⟩
      · rw [decide_eq_false hxy] at q1
        have v1 := u1.out
        have v2 := u2.out
        have v3 := u3.out hxy
        clear hxy u3 u1 u2
        rcases hx with hx | ⟨hx1, hx⟩
        all_goals
          go_wp2_with fail
          refine wp_region_wq (by kernel_rfl) (by kernel_rfl) ?_
          repeat (refine wq_step (fun K hK => ?_); go_simp; first | (refine hK _ ?_; clear hK K) | (apply Exists.intro; refine ⟨fun _ => ?_, hK _ ?_⟩; (first | (go_at_call 17; with_reducible exact Calls.bw_of (D1.out _ (Bw.h _))) | (go_at_call 17; with_reducible exact Calls.bw_of (D2.out _ (Bw.h _)))); clear hK K))
          refine wq_nil ?_
          intro _ hw'
          obtain ⟨pq, hw''⟩ := hw'
          subst hw''
          go_wp2_with fail
          go_ret
          exact ⟨rfl, FB.out pq⟩
end Go.Proofs.Ytfjdopmjcddnlaa
