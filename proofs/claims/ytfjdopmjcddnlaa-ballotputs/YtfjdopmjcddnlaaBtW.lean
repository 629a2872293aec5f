/- The walk of BallotRow. -/
import Derived.Test.YtfjdopmjcddnlaaBtT
set_option linter.unusedVariables false
namespace Go.Proofs.Ytfjdopmjcddnlaa
open Go.RowKit Cn Rl Bt

namespace Bt
theorem puts_mem {v : Int} {s : Nat} {x : Ct} : ∀ {cs l : List Ct}, x ∈ putsL v s l cs → x ∈ l ∨ x ∈ cs
  | [], l, h => .inl h
  | c :: cs, l, h => by
    rcases puts_mem (cs := cs) (l := putL v s l c) h with h | h
    · rcases mem_put.1 h with h | ⟨h, _⟩
      · exact .inl h
      · subst h; exact .inr (List.mem_cons.2 (.inl rfl))
    · exact .inr (List.mem_cons.2 (.inr h))
end Bt
theorem rput_box (v : Int) (s : Nat) (a : Option Addr) (c : Nat) (l : List Ct) (z : Ct) (w : World) (hl : AtC w a l) (hs : s < 65536) (hn : l.length ≤ 16) (h8 : ∀ z ∈ l, z.1 < 256 ∧ z.2.2 < 256) (hz8 : z.1 < 256 ∧ z.2.2 < 256) :
    Calls Try.prog 12 #[.agg #[.int .i64 v, .int .u16 (s : Int), .slice a l.length c], .agg #[.int .u8 (z.1 : Int), .bool z.2.1, .int .u8 (z.2.2 : Int)]] w (PutR w v s a l (putL v s l z) (putE v s l z)) := rput_any v s a c l z w hl hs (by omega) h8 hz8
theorem rchosen_box (v : Int) (s : Nat) (a : Option Addr) (c : Nat) (l : List Ct) (W : World) (h : AtC W a l) (hs : s < 65536) (hn : l.length ≤ 16) (h8 : ∀ z ∈ l, z.1 < 256 ∧ z.2.2 < 256) :
    Calls Try.prog 14 #[.agg #[.int .i64 v, .int .u16 (s : Int), .slice a l.length c]] W fun e w' => e = .returned (.tuple #[.agg #[.bool (chA (chosen v s l)), .int .u8 (chI (chosen v s l) : Int)], .bool (chB (chosen v s l))]) ∧ Below W.heap.size W w' := rchosen_any v s a c l W h hs (by omega) h8
/-- A box, and the document's box. -/
def WS (w W : World) (v : Int) (s M b7 b8 : Nat) (a1 : Option Addr) (c1 : Nat) (a2 : Option Addr) (c2 : Nat) (l : List Ct) : Prop :=
  P2 W w.heap.size 25 (.int .i64 v) (.int .u16 (s : Int)) ∧ X3 W b7 37 (.int .i64 v) (.int .u16 (s : Int)) (.slice a1 l.length c1) ∧ X3 W b8 28 (.int .i64 v) (.int .u16 (s : Int)) (.slice a2 l.length c2) ∧ AtC W a1 l ∧ AtC W a2 l ∧ Fr M a1 ∧ Fr M a2 ∧ Below w.heap.size w W ∧ M ≤ W.heap.size ∧ (w.heap.size < b7 ∧ w.heap.size < b8 ∧ b7 < M ∧ b8 < M ∧ b7 ≠ b8)
theorem WS.later {w W W' : World} {v : Int} {s M b7 b8 : Nat} {a1 a2 : Option Addr} {c1 c2 : Nat} {l : List Ct} (h : WS w W v s M b7 b8 a1 c1 a2 c2 l) (hb : Below W.heap.size W W') : WS w W' v s M b7 b8 a1 c1 a2 c2 l := by
  obtain ⟨h1, h2, h3, h4, h5, h6, h7, h8, h9, h10⟩ := h
  exact ⟨h1.later hb, h2.later hb, h3.later hb, h4.later hb, h5.later hb, h6, h7, below_step h8 hb, Nat.le_trans h9 hb.size, h10⟩
theorem P2_far3 {w : World} {b b' : Nat} {t : TypeId} {x y : Value} (h : P2 w b t x y) (hne : b ≠ b') (u0 u1 u2 : Value) : P2 (((w.setCell ⟨b', 0, none⟩ u0).setCell ⟨b', 1, none⟩ u1).setCell ⟨b', 2, none⟩ u2) b t x y := ((h.far hne _).far hne _).far hne _
theorem X3_far3 {w : World} {b b' : Nat} {t : TypeId} {x y z : Value} (h : X3 w b t x y z) (hne : b ≠ b') (u0 u1 u2 : Value) : X3 (((w.setCell ⟨b', 0, none⟩ u0).setCell ⟨b', 1, none⟩ u1).setCell ⟨b', 2, none⟩ u2) b t x y z := ((h.far hne _).far hne _).far hne _
theorem WS.both {w W : World} {v : Int} {s M b7 b8 n' : Nat} {a1 a2 a3 a4 : Option Addr} {c1 c2 c3 c4 : Nat} {l l' : List Ct} (h : WS w W v s M b7 b8 a1 c1 a2 c2 l) (h3 : AtC W a3 l') (h4 : AtC W a4 l') (f3 : Fr M a3) (f4 : Fr M a4) (hn : n' = l'.length) :
    WS w ((((((W.setCell ⟨b7, 0, none⟩ (.int .i64 v)).setCell ⟨b7, 1, none⟩ (.int .u16 (s : Int))).setCell ⟨b7, 2, none⟩ (.slice a3 n' c3)).setCell ⟨b8, 0, none⟩ (.int .i64 v)).setCell ⟨b8, 1, none⟩ (.int .u16 (s : Int))).setCell ⟨b8, 2, none⟩ (.slice a4 n' c4)) v s M b7 b8 a3 c3 a4 c4 l' := by
  subst hn
  obtain ⟨h1, k2, k3, k4, k5, h6, h7, h8, h9, m1, m2, m3, m4, m5⟩ := h
  exact ⟨P2_far3 (P2_far3 h1 (by omega) _ _ _) (by omega) _ _ _, X3_far3 (k2.set _ _ _) m5 _ _ _, (X3_far3 k3 (fun e => m5 e.symm) _ _ _).set _ _ _, (h3.set3 f3 m3 _ _ _).set3 f3 m4 _ _ _, (h4.set3 f4 m3 _ _ _).set3 f4 m4 _ _ _, f3, f4, below_set3 (below_set3 h8 (by omega) _ _ _) (by omega) _ _ _, by simpa using h9, m1, m2, m3, m4, m5⟩

set_option maxHeartbeats 8000000 in
set_option maxRecDepth 100000 in
theorem row_walk (v : Int) (s : Nat) (a : Option Addr) (c : Nat) (L : List Ct) (w : World) (hl : AtC w a L) (hs : s < 65536) (h8 : ∀ z ∈ L, z.1 < 256 ∧ z.2.2 < 256) :
    Calls Try.prog 4 #[.agg #[.int .i64 v, .int .u16 (s : Int)], .slice a L.length c] w fun e w' => e = .returned (.bool true) ∧ Below w.heap.size w w' := by
  have C8 : Aside (∀ W, _) := alive_any
  have C11 : Aside (∀ (z : Ct) (W : World), _) := theirs_box
  obtain ⟨n, en⟩ : ∃ n, n = L.length := ⟨_, rfl⟩
  rw [← en]
  have HL : Aside (AtC w a L ∧ n = L.length ∧ s < 65536 ∧ ∀ z ∈ L, z.1 < 256 ∧ z.2.2 < 256) := ⟨hl, en, hs, h8⟩
  clear hl en hs h8
  obtain ⟨V, hV⟩ : ∃ V, V = w.alloc (.cells #[.int .i64 v, .int .u16 (s : Int)] 25) := ⟨_, rfl⟩
  have X : Aside (P2 V w.heap.size 25 (.int .i64 v) (.int .u16 (s : Int)) ∧ Below w.heap.size w V) := by
    rw [hV]; exact ⟨P2.new w _ _ _, below_one w _⟩
  go_enter Try.func4, Try.ntmps4
  go_wp2_with fail
  rw [← hV]
  clear hV
  go_wp2_with (go_at_call 8; refine (C8.out _).mono ?_; rintro e w1 ⟨rfl, hb⟩; have Y : Aside (P2 w1 w.heap.size 25 (.int .i64 v) (.int .u16 (s : Int)) ∧ Below w.heap.size w w1) := ⟨X.out.1.later hb, below_step X.out.2 hb⟩; clear hb X C8; obtain ⟨i0, i1⟩ := Y.out.1.cells; have j0 := fun o => cell_later (below_one w1 o) i0; have j1 := fun o => cell_later (below_one w1 o) i1)
  clear i0 i1 j0 j1
  obtain ⟨V0, hV0⟩ : ∃ V0, V0 = (w1.alloc (.cells #[.int .i64 v, .int .u16 (s : Int), .slice none 0 0] 37)).alloc (.cells #[.int .i64 v, .int .u16 (s : Int), .slice none 0 0] 28) := ⟨_, rfl⟩
  rw [← hV0]
  have Z : Aside (WS w V0 v s (w1.heap.size + 1 + 1) w1.heap.size (w1.heap.size + 1) none 0 none 0 []) := by
    rw [hV0]
    exact ⟨(Y.out.1.alloc _).alloc _, (X3.new w1 _ _ _ _).alloc _, X3.new1 w1 _ _ _ _ _, .inl rfl, .inl rfl, Fr.nil _, Fr.nil _, (Y.out.2.alloc Y.out.2.size _).alloc (by have := Y.out.2.size; simp; omega) _, by simp, by have := Y.out.1.lt; omega⟩
  clear hV0 Y
  generalize w1.heap.size + 1 + 1 = M at Z
  generalize w1.heap.size + 1 = b6 at Z ⊢
  generalize w1.heap.size = b5 at Z ⊢
  go_loopg [7] 60 (fun g s7 wr => ∃ (k : Nat) (a1 : Option Addr) (c1 : Nat) (a2 : Option Addr) (c2 : Nat), s7 = .int .i64 (k : Nat) ∧ k ≤ n ∧ k ≤ 60 ∧ 60 - k ≤ g ∧ Aside (WS w wr v s M b5 b6 a1 c1 a2 c2 (putsL v s [] (L.take k))))
  case atStart => exact ⟨0, none, 0, none, 0, rfl, Nat.zero_le _, by decide, by omega, Z.out⟩
  case round =>
    obtain ⟨k, a1, c1, a2, c2, rfl, hk, hk6, hg, HS⟩ := hrel
    by_cases hlt : k < n ∧ k < 60
    · obtain ⟨hlt1, hlt2⟩ := hlt
      have t1 : (k : Int) < (n : Int) := by omega
      have t2 : (k : Int) < 60 := by omega
      have t0 : (0 : Int) ≤ (k : Int) := by omega
      obtain ⟨e, hke⟩ : ∃ e, L[k]? = some e := ⟨_, List.getElem?_eq_getElem (by have := HL.out.2.1; omega)⟩
      have KE : Aside (L[k]? = some e ∧ e.1 < 256 ∧ e.2.2 < 256) := ⟨hke, HL.out.2.2.2 e (List.mem_of_getElem? hke)⟩
      clear hke
      obtain ⟨l, hl⟩ : ∃ l, l = putsL v s [] (L.take k) := ⟨_, rfl⟩
      have PN : Aside (putsL v s [] (L.take (k + 1)) = putL v s l e ∧ l.length ≤ 16 ∧ (putL v s l e).length ≤ 16) := ⟨by rw [hl]; exact puts_take [] KE.out.1, by rw [hl]; exact puts_small v s _, by rw [hl, ← puts_take [] KE.out.1]; exact puts_small v s _⟩
      have L8 : Aside ((∀ z ∈ l, z.1 < 256 ∧ z.2.2 < 256) ∧ ∀ z ∈ putL v s l e, z.1 < 256 ∧ z.2.2 < 256) := by
        have h1 : ∀ z ∈ l, z.1 < 256 ∧ z.2.2 < 256 := fun z hz => by
          rw [hl] at hz
          rcases puts_mem hz with hz | hz
          · exact absurd hz (List.not_mem_nil)
          · exact HL.out.2.2.2 z (List.mem_of_mem_take hz)
        refine ⟨h1, fun z hz => ?_⟩
        rcases mem_put.1 hz with hz | ⟨hz, _⟩
        · exact h1 z hz
        · subst hz; exact KE.out.2
      rw [← hl] at HS
      clear hl
      obtain ⟨b, off, rfl, y0, y1, y2⟩ := AtC.get (HL.out.1.later HS.out.2.2.2.2.2.2.2.1) KE.out.1
      obtain ⟨x0, x1, x2⟩ := HS.out.2.1.cells
      obtain ⟨n0, hn0⟩ : ∃ n0, n0 = l.length := ⟨_, rfl⟩
      obtain ⟨n1, hn1⟩ : ∃ n1, n1 = (putL v s l e).length := ⟨_, rfl⟩
      have NN : Aside (n0 = l.length ∧ n1 = (putL v s l e).length) := ⟨hn0, hn1⟩
      rw [← hn0] at x2
      obtain ⟨pe, hpe⟩ : ∃ pe, pe = putE v s l e := ⟨_, rfl⟩
      have P9 : Aside (∀ (W : World) (a' : Option Addr) (c' : Nat), AtC W a' l → Calls Try.prog 9 #[.agg #[.int .i64 v, .int .u16 (s : Int), .slice a' n0 c'], .agg #[.int .u8 (e.1 : Int), .bool e.2.1, .int .u8 (e.2.2 : Int)]] W fun z w' => ∃ a2 c2, z = .returned (.tuple #[.agg #[.int .i64 v, .int .u16 (s : Int), .slice a2 n1 c2], .int .i64 (pe : Nat)]) ∧ AtC w' a2 (putL v s l e) ∧ Below W.heap.size W w' ∧ n1 ≤ c2 ∧ Fr W.heap.size a2) := fun W a' c' h => by rw [hn0, hn1, hpe]; exact put_box v s a' c' l e W h HL.out.2.2.1 PN.out.2.1
      have P12 : Aside (∀ (W : World), AtC W a2 l → Calls Try.prog 12 #[.agg #[.int .i64 v, .int .u16 (s : Int), .slice a2 n0 c2], .agg #[.int .u8 (e.1 : Int), .bool e.2.1, .int .u8 (e.2.2 : Int)]] W fun z w' => ∃ a' c', z = .returned (.tuple #[.agg #[.int .i64 v, .int .u16 (s : Int), .slice a' n1 c'], .int .i64 (pe : Nat)]) ∧ AtC w' a' (putL v s l e) ∧ Below W.heap.size W w' ∧ ((a' = a2 ∧ putL v s l e = l) ∨ Fr W.heap.size a')) := fun W h => by rw [hn0, hn1, hpe]; exact rput_box v s a2 c2 l e W h HL.out.2.2.1 PN.out.2.1 L8.out.1 KE.out.2
      have HSX : Aside (X3 wr b5 37 (.int .i64 v) (.int .u16 (s : Int)) (.slice a1 n0 c1)) := by rw [hn0]; exact HS.out.2.1
      clear hn0 hn1 hpe
      go_upto_region 8 with fail
      go_cut [8, 9] (fun sb se wx => ∃ (nb : Nat) (a3 : Option Addr) (c3 : Nat), sb = .pointer (some ⟨nb, 0, none⟩) ∧ se = .int .i64 (pe : Int) ∧ Aside ((WS w wx v s M b5 b6 a1 c1 a2 c2 l) ∧ X3 wx nb 37 (.int .i64 v) (.int .u16 (s : Int)) (.slice a3 n1 c3) ∧ AtC wx a3 (putL v s l e) ∧ Fr wr.heap.size a3 ∧ wr.heap.size ≤ nb))
      case first =>
        have BOX : Aside (X3 wr b5 37 (.int .i64 v) (.int .u16 (s : Int)) (.slice a1 n0 c1)) := HSX.out
        have ATL : Aside (AtC wr a1 l) := HS.out.2.2.2.1
        have R0 : Aside (wr.cell? ⟨b, off + k * 3, none⟩ = some (.int .u8 (e.1 : Int))) := y0
        have R1 : Aside (wr.cell? ⟨b, off + k * 3 + 1, none⟩ = some (.bool e.2.1)) := y1
        have R2 : Aside (wr.cell? ⟨b, off + k * 3 + 2, none⟩ = some (.int .u8 (e.2.2 : Int))) := y2
        have BD : Aside (Below wr.heap.size wr wr.drew) := (Below.refl _ wr).drew
        have BA : Aside (Below wr.heap.size wr (wr.alloc (.cells #[.int .i64 0, .int .u16 0, .slice none 0 0] 37)).drew) := ((Below.refl _ wr).alloc (Nat.le_refl _) _).drew
        have kb : b5 ≠ wr.heap.size := Nat.ne_of_lt BOX.out.lt
        have kr : b ≠ wr.heap.size := Nat.ne_of_lt (World.block_lt_of_cell? _ _ y0)
        have kb2 : wr.heap.size ≠ b5 := fun h => kb h.symm
        have kr2 : wr.heap.size ≠ b := fun h => kr h.symm
        go_region_held3 (fun w' => w'.cell? ⟨b5, 0, none⟩ = some (.int .i64 v) ∧ w'.cell? ⟨b5, 1, none⟩ = some (.int .u16 (s : Int)) ∧ w'.cell? ⟨b5, 2, none⟩ = some (.slice a1 n0 c1) ∧ w'.cell? ⟨b, off + k * 3, none⟩ = some (.int .u8 (e.1 : Int)) ∧ w'.cell? ⟨b, off + k * 3 + 1, none⟩ = some (.bool e.2.1) ∧ w'.cell? ⟨b, off + k * 3 + 2, none⟩ = some (.int .u8 (e.2.2 : Int)))
          (first | go_keep)
          (first
            | (go_at_call 11; (with_reducible refine (C11.out e wr.drew).mono ?_); rintro e' w1 ⟨rfl, hb⟩; have YA : Aside (Below wr.heap.size wr w1) := below_step BD.out hb; clear hb; clear x0 x1 x2 y0 y1 y2; obtain ⟨x0, x1, x2⟩ := (BOX.out.later YA.out).cells; have y0 := cell_later YA.out R0.out; have y1 := cell_later YA.out R1.out; have y2 := cell_later YA.out R2.out; have kc : b5 ≠ w1.heap.size := Nat.ne_of_lt (BOX.out.later YA.out).lt; have kd : b ≠ w1.heap.size := Nat.ne_of_lt (World.block_lt_of_cell? _ _ y0); have kc2 : w1.heap.size ≠ b5 := fun h => kc h.symm; have kd2 : w1.heap.size ≠ b := fun h => kd h.symm)
            | (go_at_call 11; (with_reducible refine (C11.out e (wr.alloc (.cells #[.int .i64 0, .int .u16 0, .slice none 0 0] 37)).drew).mono ?_); rintro e' w1 ⟨rfl, hb⟩; have YB : Aside (Below wr.heap.size wr w1) := below_step BA.out hb; have NB : Aside (X3 w1 wr.heap.size 37 (.int .i64 0) (.int .u16 0) (.slice none 0 0)) := ((X3.new wr 37 (.int .i64 0) (.int .u16 0) (.slice none 0 0)).later (Below.refl _ _).drew).later hb; clear hb; clear x0 x1 x2 y0 y1 y2; obtain ⟨x0, x1, x2⟩ := (BOX.out.later YB.out).cells; have y0 := cell_later YB.out R0.out; have y1 := cell_later YB.out R1.out; have y2 := cell_later YB.out R2.out; obtain ⟨z0, z1, z2⟩ := NB.out.cells; have f0 := NB.out.frozen 0; have f1 := NB.out.frozen 1; have f2 := NB.out.frozen 2)
            | (go_at_call 9; (with_reducible refine (P9.out w1 a1 c1 (ATL.out.later YA.out)).mono ?_); rintro e' w2 ⟨a3, c3, rfl, hat, hb, hc, hf⟩; have ZA : Aside (Below wr.heap.size wr w2) := below_step YA.out hb; have TA : Aside (AtC w2 a3 (putL v s l e) ∧ Fr wr.heap.size a3) := ⟨hat, hf.mono YA.out.size⟩; clear hat hb hc hf; clear x0 x1 x2 y0 y1 y2; obtain ⟨x0, x1, x2⟩ := (BOX.out.later ZA.out).cells; have y0 := cell_later ZA.out R0.out; have y1 := cell_later ZA.out R1.out; have y2 := cell_later ZA.out R2.out)
            | (go_at_call 9; (with_reducible refine (P9.out w1 a1 c1 (ATL.out.later YB.out)).mono ?_); rintro e' w2 ⟨a3, c3, rfl, hat, hb, hc, hf⟩; have ZB : Aside (Below wr.heap.size wr w2) := below_step YB.out hb; have TB : Aside (AtC w2 a3 (putL v s l e) ∧ Fr (wr.heap.size + 1) a3) := ⟨hat, hf.mono (Nat.succ_le_of_lt NB.out.lt)⟩; have NB2 : Aside (X3 w2 wr.heap.size 37 (.int .i64 0) (.int .u16 0) (.slice none 0 0)) := NB.out.later hb; clear hat hb hc hf z0 z1 z2 f0 f1 f2; clear x0 x1 x2 y0 y1 y2; obtain ⟨x0, x1, x2⟩ := (BOX.out.later ZB.out).cells; have y0 := cell_later ZB.out R0.out; have y1 := cell_later ZB.out R1.out; have y2 := cell_later ZB.out R2.out; obtain ⟨z0, z1, z2⟩ := NB2.out.cells; have f0 := NB2.out.frozen 0; have f1 := NB2.out.frozen 1; have f2 := NB2.out.frozen 2)
            | (go_at_call 9; (with_reducible refine (P9.out (w1.alloc (.cells #[.int .i64 0, .int .u16 0, .slice none 0 0] 37)) a1 c1 (ATL.out.later (YA.out.alloc YA.out.size _))).mono ?_); rintro e' w2 ⟨a3, c3, rfl, hat, hb, hc, hf⟩; have ZC : Aside (Below wr.heap.size wr w2) := below_step (YA.out.alloc YA.out.size _) hb; have TC : Aside (AtC w2 a3 (putL v s l e) ∧ Fr (w1.heap.size + 1) a3) := ⟨hat, by rw [World.size_alloc] at hf; exact hf⟩; have NC2 : Aside (X3 w2 w1.heap.size 37 (.int .i64 0) (.int .u16 0) (.slice none 0 0)) := (X3.new w1 37 (.int .i64 0) (.int .u16 0) (.slice none 0 0)).later hb; clear hat hb hc hf; clear x0 x1 x2 y0 y1 y2; obtain ⟨x0, x1, x2⟩ := (BOX.out.later ZC.out).cells; have y0 := cell_later ZC.out R0.out; have y1 := cell_later ZC.out R1.out; have y2 := cell_later ZC.out R2.out; obtain ⟨z0, z1, z2⟩ := NC2.out.cells; have f0 := NC2.out.frozen 0; have f1 := NC2.out.frozen 1; have f2 := NC2.out.frozen 2)
            | fail)
        all_goals
          go_wp2_with fail
          go_meet
        all_goals first
          | exact ⟨w2.heap.size, a3, c3, rfl, rfl, (HS.out.later (ZA.out.alloc ZA.out.size _)), X3.new _ _ _ _ _, TA.out.1.later (below_one _ _), TA.out.2, ZA.out.size⟩
          | exact ⟨wr.heap.size, a3, c3, rfl, rfl, (HS.out.later (below_set3 ZB.out (Nat.le_refl _) _ _ _)), NB2.out.set _ _ _, TB.out.1.set3 TB.out.2 (Nat.lt_succ_self _) _ _ _, TB.out.2.mono (Nat.le_succ _), Nat.le_refl _⟩
          | exact ⟨w1.heap.size, a3, c3, rfl, rfl, (HS.out.later (below_set3 ZC.out YA.out.size _ _ _)), NC2.out.set _ _ _, TC.out.1.set3 TC.out.2 (Nat.lt_succ_self _) _ _ _, TC.out.2.mono (Nat.le_trans YA.out.size (Nat.le_succ _)), YA.out.size⟩
      case rest =>
      obtain ⟨nb, a3, c3, rfl, rfl, HD⟩ := hcut
      clear y0 y1 y2 x0 x1 x2 P9
      obtain ⟨l1, hl1⟩ : ∃ l1, l1 = putL v s l e := ⟨_, rfl⟩
      have PM : Aside (putsL v s [] (L.take (k + 1)) = l1 ∧ n1 = l1.length ∧ l1.length ≤ 16 ∧ ∀ z ∈ l1, z.1 < 256 ∧ z.2.2 < 256) := ⟨PN.out.1.trans hl1.symm, by rw [hl1]; exact NN.out.2, by rw [hl1]; exact PN.out.2.2, by rw [hl1]; exact L8.out.2⟩
      rw [← hl1] at HD P12
      clear hl1
      obtain ⟨b'', off'', eq'', y0, y1, y2⟩ := AtC.get (HL.out.1.later HD.out.1.2.2.2.2.2.2.2.1) KE.out.1
      have eb : b = b'' := congrArg Addr.block (Option.some.inj eq'')
      have eo : off = off'' := congrArg Addr.off (Option.some.inj eq'')
      subst eb eo
      clear eq''
      obtain ⟨x0, x1, x2⟩ := HD.out.1.2.2.1.cells
      rw [← NN.out.1] at x2
      go_upto_region 9 with fail
      go_cut [10, 11] (fun sb se wx => ∃ (mb : Nat) (a4 : Option Addr) (c4 : Nat), sb = .pointer (some ⟨mb, 0, none⟩) ∧ se = .int .i64 (pe : Int) ∧ Aside (WS w wx v s M b5 b6 a1 c1 a2 c2 l ∧ X3 wx nb 37 (.int .i64 v) (.int .u16 (s : Int)) (.slice a3 n1 c3) ∧ AtC wx a3 l1 ∧ X3 wx mb 28 (.int .i64 v) (.int .u16 (s : Int)) (.slice a4 n1 c4) ∧ AtC wx a4 l1 ∧ ((a4 = a2 ∧ l1 = l) ∨ Fr wc.heap.size a4) ∧ wc.heap.size ≤ mb))
      case first =>
        have R0 : Aside (wc.cell? ⟨b, off + k * 3, none⟩ = some (.int .u8 (e.1 : Int))) := y0
        have R1 : Aside (wc.cell? ⟨b, off + k * 3 + 1, none⟩ = some (.bool e.2.1)) := y1
        have R2 : Aside (wc.cell? ⟨b, off + k * 3 + 2, none⟩ = some (.int .u8 (e.2.2 : Int))) := y2
        have BOX : Aside (X3 wc b6 28 (.int .i64 v) (.int .u16 (s : Int)) (.slice a2 n0 c2)) := by rw [NN.out.1]; exact HD.out.1.2.2.1
        have AT2 : Aside (AtC wc a2 l) := HD.out.1.2.2.2.2.1
        have BD : Aside (Below wc.heap.size wc wc.drew) := (Below.refl _ wc).drew
        have BA : Aside (Below wc.heap.size wc (wc.alloc (.cells #[.int .i64 0, .int .u16 0, .slice none 0 0] 28)).drew) := ((Below.refl _ wc).alloc (Nat.le_refl _) _).drew
        have kb : b6 ≠ wc.heap.size := Nat.ne_of_lt BOX.out.lt
        have kr : b ≠ wc.heap.size := Nat.ne_of_lt (World.block_lt_of_cell? _ _ y0)
        have kb2 : wc.heap.size ≠ b6 := fun h => kb h.symm
        have kr2 : wc.heap.size ≠ b := fun h => kr h.symm
        go_region_held3 (fun w' => w'.cell? ⟨b6, 0, none⟩ = some (.int .i64 v) ∧ w'.cell? ⟨b6, 1, none⟩ = some (.int .u16 (s : Int)) ∧ w'.cell? ⟨b6, 2, none⟩ = some (.slice a2 n0 c2) ∧ w'.cell? ⟨b, off + k * 3, none⟩ = some (.int .u8 (e.1 : Int)) ∧ w'.cell? ⟨b, off + k * 3 + 1, none⟩ = some (.bool e.2.1) ∧ w'.cell? ⟨b, off + k * 3 + 2, none⟩ = some (.int .u8 (e.2.2 : Int)))
          (first | go_keep)
          (first
            | (go_at_call 12; (with_reducible refine (P12.out wc.drew (AT2.out.later BD.out)).mono ?_); rintro e' w2 ⟨a4, c4, rfl, hat, hb, hf⟩; have ZA : Aside (Below wc.heap.size wc w2) := below_step BD.out hb; have TA : Aside (AtC w2 a4 l1 ∧ ((a4 = a2 ∧ l1 = l) ∨ Fr wc.heap.size a4)) := ⟨hat, hf⟩; clear hat hb hf x0 x1 x2 y0 y1 y2; obtain ⟨x0, x1, x2⟩ := (BOX.out.later ZA.out).cells; have y0 := cell_later ZA.out R0.out; have y1 := cell_later ZA.out R1.out; have y2 := cell_later ZA.out R2.out)
            | (go_at_call 12; (with_reducible refine (P12.out (wc.alloc (.cells #[.int .i64 0, .int .u16 0, .slice none 0 0] 28)).drew (AT2.out.later BA.out)).mono ?_); rintro e' w2 ⟨a4, c4, rfl, hat, hb, hf⟩; have ZB : Aside (Below wc.heap.size wc w2) := below_step BA.out hb; have TB : Aside (AtC w2 a4 l1 ∧ ((a4 = a2 ∧ l1 = l) ∨ Fr (wc.heap.size + 1) a4)) := ⟨hat, hf.imp id (fun h => h.mono (by show wc.heap.size + 1 ≤ (wc.alloc _).heap.size; simp))⟩; have NB2 : Aside (X3 w2 wc.heap.size 28 (.int .i64 0) (.int .u16 0) (.slice none 0 0)) := ((X3.new wc 28 (.int .i64 0) (.int .u16 0) (.slice none 0 0)).later (Below.refl _ _).drew).later hb; clear hat hb hf x0 x1 x2 y0 y1 y2; obtain ⟨x0, x1, x2⟩ := (BOX.out.later ZB.out).cells; have y0 := cell_later ZB.out R0.out; have y1 := cell_later ZB.out R1.out; have y2 := cell_later ZB.out R2.out; obtain ⟨z0, z1, z2⟩ := NB2.out.cells; have f0 := NB2.out.frozen 0; have f1 := NB2.out.frozen 1; have f2 := NB2.out.frozen 2)
            | fail)
        all_goals
          go_wp2_with fail
          go_meet
        all_goals first
          | exact ⟨w2.heap.size, a4, c4, rfl, rfl, HD.out.1.later (ZA.out.alloc ZA.out.size _), HD.out.2.1.later (ZA.out.alloc ZA.out.size _), HD.out.2.2.1.later (ZA.out.alloc ZA.out.size _), X3.new _ _ _ _ _, TA.out.1.later (below_one _ _), TA.out.2, ZA.out.size⟩
          | exact ⟨wc.heap.size, a4, c4, rfl, rfl, HD.out.1.later (below_set3 ZB.out (Nat.le_refl _) _ _ _), HD.out.2.1.later (below_set3 ZB.out (Nat.le_refl _) _ _ _), HD.out.2.2.1.later (below_set3 ZB.out (Nat.le_refl _) _ _ _), NB2.out.set _ _ _, (by
              rcases TB.out.2 with ⟨h, h'⟩ | h
              · rw [h, h']; exact HD.out.1.2.2.2.2.1.later (below_set3 ZB.out (Nat.le_refl _) _ _ _)
              · exact TB.out.1.set3 h (Nat.lt_succ_self _) _ _ _), TB.out.2.imp id (fun h => h.mono (Nat.le_succ _)), Nat.le_refl _⟩
      case rest =>
      obtain ⟨mb, a4, c4, rfl, rfl, HE⟩ := hcut
      clear y0 y1 y2 x0 x1 x2 P12
      have F3 : Aside (Fr M a3) := HD.out.2.2.2.1.mono HS.out.2.2.2.2.2.2.2.2.1
      have ML : Aside (M ≤ mb) := Nat.le_trans HD.out.1.2.2.2.2.2.2.2.2.1 HE.out.2.2.2.2.2.2
      have F4 : Aside (Fr M a4) := by
        rcases HE.out.2.2.2.2.2.1 with h | h
        · have h2 : Fr M a2 := HS.out.2.2.2.2.2.2.1
          rw [← h.1] at h2; exact h2
        · exact h.mono HD.out.1.2.2.2.2.2.2.2.2.1
      have KL : Aside (b5 < M ∧ b6 < M ∧ b5 ≠ b6) := HS.out.2.2.2.2.2.2.2.2.2.2.2
      have k1 : mb ≠ b5 := by have := ML.out; have := KL.out.1; omega
      have k2 : b5 ≠ mb := fun h => k1 h.symm
      have k3 : b6 ≠ b5 := fun h => KL.out.2.2 h.symm
      have k4 : b5 ≠ b6 := KL.out.2.2
      obtain ⟨x0, x1, x2⟩ := HE.out.2.1.cells
      obtain ⟨y0, y1, y2⟩ := HE.out.2.2.2.1.cells
      obtain ⟨z0, z1, z2⟩ := HE.out.1.2.1.cells
      obtain ⟨u0, u1, u2⟩ := HE.out.1.2.2.1.cells
      have f0 := HE.out.1.2.1.frozen 0; have f1 := HE.out.1.2.1.frozen 1; have f2 := HE.out.1.2.1.frozen 2
      have h0 := HE.out.1.2.2.1.frozen 0; have h1 := HE.out.1.2.2.1.frozen 1; have h2 := HE.out.1.2.2.1.frozen 2
      have N1 : Aside (n1 = l1.length) := PM.out.2.1
      go_wp2_with fail
      obtain ⟨W1, hW1⟩ : ∃ W1, W1 = (((((wc.setCell ⟨b5, 0, none⟩ (.int .i64 v)).setCell ⟨b5, 1, none⟩ (.int .u16 (s : Int))).setCell ⟨b5, 2, none⟩ (.slice a3 n1 c3)).setCell ⟨b6, 0, none⟩ (.int .i64 v)).setCell ⟨b6, 1, none⟩ (.int .u16 (s : Int))).setCell ⟨b6, 2, none⟩ (.slice a4 n1 c4) := ⟨_, rfl⟩
      rw [← hW1]
      have HW : Aside (WS w W1 v s M b5 b6 a3 c3 a4 c4 l1) := by rw [hW1]; exact HE.out.1.both HE.out.2.2.1 HE.out.2.2.2.2.1 F3.out F4.out N1.out
      clear hW1 x0 x1 x2 y0 y1 y2 z0 z1 z2 u0 u1 u2 f0 f1 f2 h0 h1 h2 k1 k2 k3 k4 HE HD HS
      obtain ⟨x0, x1, x2⟩ := HW.out.2.1.cells
      rw [← N1.out] at x2
      have C13 : Aside (∀ W, AtC W a3 l1 → Calls Try.prog 13 #[.agg #[.int .i64 v, .int .u16 (s : Int), .slice a3 n1 c3]] W fun e w' => e = .returned (.tuple #[.agg #[.bool (chA (chosen v s l1)), .int .u8 (chI (chosen v s l1) : Int)], .bool (chB (chosen v s l1))]) ∧ Below W.heap.size W w') := fun W h => by rw [N1.out]; exact chosen_box v s a3 c3 l1 W h HL.out.2.2.1 PM.out.2.2.1
      have C14 : Aside (∀ W, AtC W a4 l1 → Calls Try.prog 14 #[.agg #[.int .i64 v, .int .u16 (s : Int), .slice a4 n1 c4]] W fun e w' => e = .returned (.tuple #[.agg #[.bool (chA (chosen v s l1)), .int .u8 (chI (chosen v s l1) : Int)], .bool (chB (chosen v s l1))]) ∧ Below W.heap.size W w') := fun W h => by rw [N1.out]; exact rchosen_box v s a4 c4 l1 W h HL.out.2.2.1 PM.out.2.2.1 PM.out.2.2.2
      generalize chA (chosen v s l1) = ca at C13 C14
      generalize chI (chosen v s l1) = ci at C13 C14
      generalize chB (chosen v s l1) = cb at C13 C14
      have A3 : Aside (AtC W1 a3 l1) := HW.out.2.2.2.1
      go_wp2_with (first
        | (go_at_call 13; refine (C13.out _ A3.out).mono ?_; rintro e' w3 ⟨rfl, hb⟩; have H3 : Aside (WS w (w3.alloc (.cells #[.bool ca, .int .u8 (ci : Int)] 42)) v s M b5 b6 a3 c3 a4 c4 l1 ∧ P2 (w3.alloc (.cells #[.bool ca, .int .u8 (ci : Int)] 42)) w3.heap.size 42 (.bool ca) (.int .u8 (ci : Int))) := ⟨(HW.out.later hb).later (below_one _ _), P2.new _ _ _ _⟩; have A4 : Aside (AtC (w3.alloc (.cells #[.bool ca, .int .u8 (ci : Int)] 42)) a4 l1) := H3.out.1.2.2.2.2.1; clear hb x0 x1 x2; obtain ⟨x0, x1, x2⟩ := H3.out.1.2.2.1.cells; rw [← N1.out] at x2)
        | (go_at_call 14; refine (C14.out _ A4.out).mono ?_; rintro e' w4 ⟨rfl, hb⟩; have H4 : Aside (WS w (w4.alloc (.cells #[.bool ca, .int .u8 (ci : Int)] 30)) v s M b5 b6 a3 c3 a4 c4 l1 ∧ P2 (w4.alloc (.cells #[.bool ca, .int .u8 (ci : Int)] 30)) w3.heap.size 42 (.bool ca) (.int .u8 (ci : Int)) ∧ P2 (w4.alloc (.cells #[.bool ca, .int .u8 (ci : Int)] 30)) w4.heap.size 30 (.bool ca) (.int .u8 (ci : Int))) := ⟨(H3.out.1.later hb).later (below_one _ _), (H3.out.2.later hb).alloc _, P2.new _ _ _ _⟩; clear hb x0 x1 x2)
        | fail)
      generalize w3.heap.size = b12 at H4 ⊢
      generalize hb14 : w4.heap.size = b14 at H4 ⊢
      clear hb14
      generalize w4.alloc (.cells #[.bool ca, .int .u8 (ci : Int)] 30) = W2 at H4 ⊢
      clear H3 A4 HW A3
      have S16 : Aside (∀ W, Below W2.heap.size W2 W → Calls Try.prog 16 #[.agg #[.int .i64 v, .int .u16 (s : Int), .slice a3 n1 c3]] W fun z w' => ∃ a c, z = .returned (.agg #[.int .i64 v, .int .u16 (s : Int), .slice a n1 c]) ∧ AtC w' a l1 ∧ Below W.heap.size W w') := fun W hb => by
        have := ours_any v s a3 c3 l1 W (H4.out.1.2.2.2.1.later hb) (by have := PM.out.2.2.1; omega)
        rw [← N1.out] at this
        exact this.mono fun z w' ⟨p, q, r1, r2, r3⟩ => ⟨p, q, by rw [N1.out]; exact r1, r2, r3⟩
      have S15 : Aside (∀ W p q, AtC W p l1 → Below W2.heap.size W2 W → Calls Try.prog 15 #[.agg #[.int .i64 v, .int .u16 (s : Int), .slice p n1 q], .agg #[.int .i64 v, .int .u16 (s : Int), .slice a4 n1 c4]] W fun z w' => z = .returned (.bool true) ∧ Below W.heap.size W w') := fun W p q h1 hb => by
        rw [N1.out]
        exact same_eq v s p a4 q c4 l1 W h1 (H4.out.1.2.2.2.2.1.later hb) (by have := PM.out.2.2.1; omega)
      have q1 := fun W => neq30 ca ca ci ci W
      rw [decide_eq_true ⟨rfl, rfl⟩] at q1
      have g1 := fun x y xs ys W => neq30_guard x y xs ys W
      have q3 : (cb != cb) = false := by cases cb <;> rfl
      have q4 : ((pe : Int) != (pe : Int)) = false := by simp
      have BQ : Aside (Below W2.heap.size W2 W2.drew) := (Below.refl _ W2).drew
      obtain ⟨x0, x1, x2⟩ := H4.out.1.2.1.cells
      rw [← N1.out] at x2
      obtain ⟨u0, u1, u2⟩ := H4.out.1.2.2.1.cells
      rw [← N1.out] at u2
      obtain ⟨d0, d1⟩ := H4.out.2.1.cells
      obtain ⟨e0, e1⟩ := H4.out.2.2.cells
      go_wp2_with fail
      go_region_held3 (fun w' => w'.cell? ⟨b5, 0, none⟩ = some (.int .i64 v) ∧ w'.cell? ⟨b5, 1, none⟩ = some (.int .u16 (s : Int)) ∧ w'.cell? ⟨b5, 2, none⟩ = some (.slice a3 n1 c3) ∧ w'.cell? ⟨b6, 0, none⟩ = some (.int .i64 v) ∧ w'.cell? ⟨b6, 1, none⟩ = some (.int .u16 (s : Int)) ∧ w'.cell? ⟨b6, 2, none⟩ = some (.slice a4 n1 c4) ∧ w'.cell? ⟨b12, 0, none⟩ = some (.bool ca) ∧ w'.cell? ⟨b12, 1, none⟩ = some (.int .u8 (ci : Int)) ∧ w'.cell? ⟨b14, 0, none⟩ = some (.bool ca) ∧ w'.cell? ⟨b14, 1, none⟩ = some (.int .u8 (ci : Int)))
        (first | go_keep)
        (first
          | (go_at_call 16; (with_reducible refine (S16.out W2.drew BQ.out).mono ?_); rintro z w5 ⟨g1, j1, rfl, hat, hb⟩; have K5 : Aside (AtC w5 g1 l1 ∧ Below W2.heap.size W2 w5) := ⟨hat, below_step BQ.out hb⟩; clear hat hb x0 x1 x2 u0 u1 u2 d0 d1 e0 e1; obtain ⟨x0, x1, x2⟩ := (H4.out.1.2.1.later K5.out.2).cells; rw [← N1.out] at x2; obtain ⟨u0, u1, u2⟩ := (H4.out.1.2.2.1.later K5.out.2).cells; rw [← N1.out] at u2; obtain ⟨d0, d1⟩ := (H4.out.2.1.later K5.out.2).cells; obtain ⟨e0, e1⟩ := (H4.out.2.2.later K5.out.2).cells)
          | (go_at_call 15; (with_reducible refine (S15.out w5 g1 j1 K5.out.1 K5.out.2).mono ?_); rintro z w6 ⟨rfl, hb⟩; have K6 : Aside (Below W2.heap.size W2 w6) := below_step K5.out.2 hb; clear hb x0 x1 x2 u0 u1 u2 d0 d1 e0 e1; obtain ⟨x0, x1, x2⟩ := (H4.out.1.2.1.later K6.out).cells; rw [← N1.out] at x2; obtain ⟨u0, u1, u2⟩ := (H4.out.1.2.2.1.later K6.out).cells; rw [← N1.out] at u2; obtain ⟨d0, d1⟩ := (H4.out.2.1.later K6.out).cells; obtain ⟨e0, e1⟩ := (H4.out.2.2.later K6.out).cells)
          | fail)
      all_goals
        have ES : Aside _ := H4.out.1.later K6.out
        go_wp2_with fail
        go_roundg (60 - (k + 1))
        case measure => omega
        case rel => exact ⟨k + 1, a3, c3, a4, c4, by go_num, by omega, by omega, Nat.le_refl _, by rw [PM.out.1]; exact ES.out⟩
    · have hx : ¬ (k : Int) < (n : Int) ∨ ((k : Int) < (n : Int) ∧ ¬ (k : Int) < 60) := by omega
      have FB : Aside (Below w.heap.size w wr) := HS.out.2.2.2.2.2.2.2.1
      clear HS
      rcases hx with hx | ⟨hx1, hx⟩
      all_goals
        go_wp2_with fail
        go_ret
        exact ⟨rfl, FB.out⟩
end Go.Proofs.Ytfjdopmjcddnlaa
