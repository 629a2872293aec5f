/- The law LinkOthers: true, whatever the world. -/
import Derived.Test.YtimeggbjmcnnoaaLwE
namespace Go.Proofs.Ytimeggbjmcnnoaa
open Go.RowKit

/-- A block of two cells. -/
def P2 (w : World) (b : Nat) (t : TypeId) (v0 v1 : Value) : Prop := w.heap[b]? = some (.cells #[v0, v1] t (0, 0))
theorem P2.later {w w' : World} {b : Nat} {t : TypeId} {v0 v1 : Value} (h : P2 w b t v0 v1) (hb : Below w.heap.size w w') : P2 w' b t v0 v1 :=
  (hb.block b (Array.getElem?_eq_some_iff.1 h).1).trans h
theorem P2.alloc {w : World} {b : Nat} {t : TypeId} {v0 v1 : Value} (h : P2 w b t v0 v1) (o : Obj) : P2 (w.alloc o) b t v0 v1 := h.later (below_one w o)
theorem P2.new (w : World) (t : TypeId) (v0 v1 : Value) : P2 (w.alloc (.cells #[v0, v1] t)) w.heap.size t v0 v1 := heap_alloc_new w _
theorem P2.cells {w : World} {b : Nat} {t : TypeId} {v0 v1 : Value} (h : P2 w b t v0 v1) : w.cell? ⟨b, 0, none⟩ = some v0 ∧ w.cell? ⟨b, 1, none⟩ = some v1 :=
  ⟨cell_of_row w b 0 _ t _ h, cell_of_row w b 1 _ t _ h⟩
theorem L5.new2 (w : World) (o o' : Obj) (t : TypeId) (v0 v1 v2 v3 v4 : Value) : L5 (((w.alloc o).alloc o').alloc (.cells #[v0, v1, v2, v3, v4] t)) (w.heap.size + 2) t v0 v1 v2 v3 v4 := by
  have := L5.new ((w.alloc o).alloc o') t v0 v1 v2 v3 v4
  rw [World.size_alloc, World.size_alloc] at this
  exact this

namespace Tm
theorem sendE_zero {key body : List UInt8} {nx f t : Nat} (h : sendE key nx f t body = 0) : two f t = true ∧ nx ≠ 4294967295 ∧ tagE key f t (nx + 1) body = 0 := by
  unfold sendE at h
  cases h1 : two f t
  · rw [h1, if_pos rfl] at h; cases h
  · rw [h1, if_neg (by simp)] at h
    by_cases h2 : nx = 4294967295
    · rw [if_pos h2] at h; cases h
    · rw [if_neg h2] at h
      exact ⟨rfl, h2, h⟩
theorem accE_first {key body g : List UInt8} {f t s : Nat} : accE key t f t s 0 0 body g = 0 ↔ two f t = true ∧ s ≠ 0 ∧ tagE key f t s body = 0 ∧ g = tag key f t s body := by
  have hn : s ≠ 0 → isNew 0 0 s = true := fun h => by unfold isNew; rw [decide_eq_true (by omega)]; rfl
  unfold accE
  constructor
  · intro h
    by_cases h1 : t ≠ t ∨ two f t = false ∨ s = 0
    · rw [if_pos h1] at h; cases h
    · rw [if_neg h1] at h
      have h2 : two f t = true := by
        cases h3 : two f t
        · exact absurd (.inr (.inl h3)) h1
        · rfl
      have h3 : s ≠ 0 := fun e => h1 (.inr (.inr e))
      by_cases h4 : tagE key f t s body = 0
      · rw [if_neg (by simpa using h4)] at h
        by_cases h5 : g = tag key f t s body
        · exact ⟨h2, h3, h4, h5⟩
        · rw [if_pos h5] at h; cases h
      · rw [if_pos h4] at h
        exact absurd h h4
  · rintro ⟨h1, h2, h3, h4⟩
    rw [if_neg, if_neg (by simpa using h3), if_neg (by simpa using h4), if_neg]
    · rw [hn h2]; simp
    · rintro (h | h | h)
      · exact h rfl
      · rw [h1] at h; cases h
      · exact h2 h
/-- A letter is taken if, and only if, it is the one that was sent. -/
theorem others_iff {k0 k1 b0 b1 : List UInt8} {f t s f' t' s' : Nat} (hf : f < 256) (ht : t < 256) (hs : s < 4294967296) (hf' : f' < 256) (ht' : t' < 256) (hs' : s' < 4294967296) (h : sendE k0 s f t b0 = 0) :
    accE k1 t' f' t' s' 0 0 b1 (tag k0 f t (s + 1) b0) = 0 ↔ (f' = f ∧ t' = t ∧ s' = s + 1 ∧ b1 = b0 ∧ k0 = k1) := by
  obtain ⟨h1, h2, h3⟩ := sendE_zero h
  rw [accE_first]
  constructor
  · rintro ⟨g1, g2, g3, g4⟩
    obtain ⟨e1, e2, e3, e4, e5⟩ := tag_inj hf ht (show s + 1 < 4294967296 by omega) hf' ht' hs' h3 g3 g4
    exact ⟨e2.symm, e3.symm, e4.symm, e5.symm, e1⟩
  · rintro ⟨rfl, rfl, rfl, rfl, rfl⟩
    exact ⟨h1, by omega, h3, rfl⟩
theorem own_zero {k0 b0 : List UInt8} {f t s : Nat} (h : sendE k0 s f t b0 = 0) : accE k0 t f t (s + 1) 0 0 b0 (tag k0 f t (s + 1) b0) = 0 := by
  obtain ⟨h1, h2, h3⟩ := sendE_zero h
  exact accE_first.2 ⟨h1, by omega, h3, rfl⟩
end Tm

set_option maxRecDepth 100000 in
set_option maxHeartbeats 16000000 in
theorem others_walk (k0 k1 : ByteArray) (f t s : Nat) (a : Option Addr) (n cap : Nat) (g : ByteArray) (bx : List UInt8) (f' t' s' : Nat) (a' : Option Addr) (n' cap' : Nat) (g' : ByteArray) (bz : List UInt8) (w : World)
    (hf : f < 256) (ht : t < 256) (hs : s < 4294967296) (hB : Byt w a n cap bx) (hf' : f' < 256) (ht' : t' < 256) (hs' : s' < 4294967296) (hB' : Byt w a' n' cap' bz) :
    Calls Try.prog 6 #[.agg #[.string k0, .string k1], .agg #[.int .u8 (f : Int), .int .u8 (t : Int), .int .u32 (s : Int), .slice a n cap, .string g], .agg #[.int .u8 (f' : Int), .int .u8 (t' : Int), .int .u32 (s' : Int), .slice a' n' cap', .string g']] w fun e w' => e = .returned (.bool true) ∧ Below w.heap.size w w' := by
  have AL : Aside (∀ W, _) := fun W => alive_any W
  have FW : Aside (∀ W, _) := fun W => few_any f t s a n cap g W
  have FV : Aside (∀ W, _) := fun W => few_any f' t' s' a' n' cap' g' W
  have S1 : Aside (∀ W, Below w.heap.size w W → Calls Try.prog 17 #[.agg #[.string k0, .int .u32 (s : Int), .int .u32 0, .int .u64 0], .int .u8 (f : Int), .int .u8 (t : Int), .slice a n cap] W (SendPost k0.data.toList s 0 0 f t bx W)) := fun W hb => by have := send_any k0.data.toList s 0 0 f t a n cap bx W hs hf ht (hB.later hb); rw [str_of] at this; exact this
  have A1 : Aside (∀ W, Below w.heap.size w W → Calls Try.prog 19 #[.agg #[.string k1, .int .u32 0, .int .u32 0, .int .u64 0], .int .u8 (t' : Int), .agg #[.int .u8 (f' : Int), .int .u8 (t' : Int), .int .u32 (s' : Int), .slice a' n' cap', str (Tm.tag k0.data.toList f t (s + 1) bx)]] W (AccPost k1.data.toList 0 0 0 t' f' t' s' bz (Tm.tag k0.data.toList f t (s + 1) bx) W)) := fun W hb => by have := accept_any k1.data.toList 0 0 0 t' f' t' s' a' n' cap' ⟨(Tm.tag k0.data.toList f t (s + 1) bx).toArray⟩ bz W (by omega) (by omega) hf' ht' hs' (hB'.later hb); rw [str_of] at this; exact this
  have A2 : Aside (s + 1 < 4294967296 → ∀ W a2 n2 c2, Byt W a2 n2 c2 bx → Calls Try.prog 19 #[.agg #[.string k0, .int .u32 0, .int .u32 0, .int .u64 0], .int .u8 (t : Int), .agg #[.int .u8 (f : Int), .int .u8 (t : Int), .int .u32 ((s + 1 : Nat) : Int), .slice a2 n2 c2, str (Tm.tag k0.data.toList f t (s + 1) bx)]] W (AccPost k0.data.toList 0 0 0 t f t (s + 1) bx (Tm.tag k0.data.toList f t (s + 1) bx) W)) := fun hq W a2 n2 c2 hy => by have := accept_any k0.data.toList 0 0 0 t f t (s + 1) a2 n2 c2 ⟨(Tm.tag k0.data.toList f t (s + 1) bx).toArray⟩ bx W (by omega) (by omega) hf ht hq hy; rw [str_of] at this; exact this
  have OI : Aside (Tm.sendE k0.data.toList s f t bx = 0 → _) := fun h => Tm.others_iff (k1 := k1.data.toList) (b1 := bz) hf ht hs hf' ht' hs' h
  have OZ : Aside (Tm.sendE k0.data.toList s f t bx = 0 → _) := fun h => Tm.own_zero h
  have SZ : Aside (Tm.sendE k0.data.toList s f t bx = 0 → s + 1 < 4294967296) := fun h => by have := (Tm.sendE_zero h).2.1; omega
  have KK : Aside ((k0.toList == k1.toList) = decide (k0.data.toList = k1.data.toList)) := eq_lists k0 k1
  have HB' : Aside (Byt w a' n' cap' bz) := hB'
  clear hf ht hs hB hf' ht' hs' hB'
  have K0 : Aside (P2 _ w.heap.size 58 _ _) := ((P2.new w 58 (.string k0) (.string k1)).alloc (.cells #[.int .u8 (f : Int), .int .u8 (t : Int), .int .u32 (s : Int), .slice a n cap, .string g] 26)).alloc (.cells #[.int .u8 (f' : Int), .int .u8 (t' : Int), .int .u32 (s' : Int), .slice a' n' cap', .string g'] 26)
  have X0 : Aside (L5 _ (w.heap.size + 1) 26 _ _ _ _ _) := (L5.new1 w (.cells #[.string k0, .string k1] 58) 26 (.int .u8 (f : Int)) (.int .u8 (t : Int)) (.int .u32 (s : Int)) (.slice a n cap) (.string g)).alloc (.cells #[.int .u8 (f' : Int), .int .u8 (t' : Int), .int .u32 (s' : Int), .slice a' n' cap', .string g'] 26)
  have Y0 : Aside (L5 _ (w.heap.size + 2) 26 _ _ _ _ _) := L5.new2 w (.cells #[.string k0, .string k1] 58) (.cells #[.int .u8 (f : Int), .int .u8 (t : Int), .int .u32 (s : Int), .slice a n cap, .string g] 26) 26 (.int .u8 (f' : Int)) (.int .u8 (t' : Int)) (.int .u32 (s' : Int)) (.slice a' n' cap') (.string g')
  have B0 : Aside (∀ o o' o'', Below w.heap.size w (((w.alloc o).alloc o').alloc o'')) := fun o o' o'' => ((below_one w o).alloc (by simp) o').alloc (by simp; omega) o''
  go_enter Try.func6, Try.ntmps6
  go_wp2_with fail
  refine (AL.out _).mono ?_
  rintro e w1 ⟨rfl, b1⟩
  have B1 : Aside (Below w.heap.size w w1) := below_step (B0.out _ _ _) b1
  have K1 : Aside (P2 w1 _ _ _ _) := K0.out.later b1
  have X1 : Aside (L5 w1 _ _ _ _ _ _ _) := X0.out.later b1
  have Y1 : Aside (L5 w1 _ _ _ _ _ _ _) := Y0.out.later b1
  obtain ⟨x0, x1, x2, x3, x4⟩ := X1.out.cells
  clear b1 AL X0 B0 K0 Y0
  go_wp2_with fail
  refine (FW.out _).mono ?_
  rintro e w2 ⟨rfl, b2⟩
  have B2 : Aside (Below w.heap.size w w2) := below_step B1.out b2
  have K2 : Aside (P2 w2 _ _ _ _) := K1.out.later b2
  have X2 : Aside (L5 w2 _ _ _ _ _ _ _) := X1.out.later b2
  have Y2 : Aside (L5 w2 _ _ _ _ _ _ _) := Y1.out.later b2
  clear x0 x1 x2 x3 x4 b2 X1 Y1 K1 B1 FW
  obtain ⟨y0, y1, y2, y3, y4⟩ := Y2.out.cells
  cases hfb : fewB n g
  · clear FV S1 A1 A2 OI OZ SZ KK HB' X2 Y2 K2 hfb
    go_wp2
    go_ret
    exact ⟨rfl, B2.out⟩
  clear hfb
  go_wp2_with fail
  refine (FV.out _).mono ?_
  rintro e w3 ⟨rfl, b3⟩
  have B3 : Aside (Below w.heap.size w w3) := below_step B2.out b3
  have K3 : Aside (P2 w3 _ _ _ _) := K2.out.later b3
  have X3 : Aside (L5 w3 _ _ _ _ _ _ _) := X2.out.later b3
  have Y3 : Aside (L5 w3 _ _ _ _ _ _ _) := Y2.out.later b3
  clear y0 y1 y2 y3 y4 b3 X2 Y2 K2 B2 FV
  obtain ⟨p0, p1⟩ := K3.out.cells
  cases hfb : fewB n' g'
  · clear S1 A1 A2 OI OZ SZ KK HB' X3 Y3 K3 hfb
    go_wp2
    go_ret
    exact ⟨rfl, B3.out⟩
  clear hfb
  by_cases h1 : 3000 < k0.size
  · have t1 : (3000 : Int) < (k0.size : Int) := by omega
    clear S1 A1 A2 OI OZ SZ KK HB' X3 Y3 K3 h1
    go_wp2
    go_ret
    exact ⟨rfl, B3.out⟩
  have t1 : ¬ (3000 : Int) < (k0.size : Int) := by omega
  by_cases h2 : 3000 < k1.size
  · have t2 : (3000 : Int) < (k1.size : Int) := by omega
    clear S1 A1 A2 OI OZ SZ KK HB' X3 Y3 K3 h1 h2
    go_wp2
    go_ret
    exact ⟨rfl, B3.out⟩
  have t2 : ¬ (3000 : Int) < (k1.size : Int) := by omega
  clear h1 h2
  unfold SendPost Tm.sN Tm.sF Tm.sT Tm.sS Tm.sG Tm.sB at S1
  obtain ⟨x0, x1, x2, x3, x4⟩ := X3.out.cells
  have q0 := fun o => (X3.out.alloc o).cells.1
  have q1 := fun o => (X3.out.alloc o).cells.2.1
  have q3 := fun o => (X3.out.alloc o).cells.2.2.2.1
  have C3 : Aside (∀ o, Below w.heap.size w (w3.alloc o)) := fun o => B3.out.alloc B3.out.size o
  go_wp2_with fail
  refine (S1.out _ (C3.out _)).mono ?_
  rintro e w4 ⟨a4, n4, c4, rfl, y4, b4⟩
  have D4 := below_step (C3.out _) b4
  have B4 : Aside (∀ o o', Below w.heap.size w ((w4.alloc o).alloc o')) := fun o o' => (D4.alloc D4.size o).alloc (by have := D4.size; simp; omega) o'
  have K4 : Aside (P2 w4 _ _ _ _) := (K3.out.alloc _).later b4
  have Y4 : Aside (L5 w4 _ _ _ _ _ _ _) := (Y3.out.alloc _).later b4
  clear x0 x1 x2 x3 x4 q0 q1 q3 p0 p1 S1 C3 B3 K3 X3 Y3 t1 t2
  by_cases h3 : Tm.sendE k0.data.toList s f t bx = 0
  · have OI1 := OI.out h3
    have OZ1 := OZ.out h3
    have SZ1 := SZ.out h3
    have A3 : Aside (∀ W a2 n2 c2, _) := A2.out SZ1
    rw [h3] at y4
    rw [h3]
    simp only [if_true] at y4 ⊢
    clear OI OZ SZ A2 h3 b4 D4
    unfold AccPost at A1 A3
    rw [OZ1] at A3
    have OB : Aside ((Tm.accE k1.data.toList t' f' t' s' 0 0 bz (Tm.tag k0.data.toList f t (s + 1) bx) = 0) ↔ _) := OI1
    generalize Tm.accE k1.data.toList t' f' t' s' 0 0 bz (Tm.tag k0.data.toList f t (s + 1) bx) = ga at *
    generalize Tm.aT k1.data.toList t' f' t' s' 0 0 bz (Tm.tag k0.data.toList f t (s + 1) bx) = r1 at *
    generalize Tm.aC k1.data.toList t' f' t' s' 0 0 bz (Tm.tag k0.data.toList f t (s + 1) bx) = r2 at *
    generalize Tm.aT k0.data.toList t f t (s + 1) 0 0 bx (Tm.tag k0.data.toList f t (s + 1) bx) = r3 at *
    generalize Tm.aC k0.data.toList t f t (s + 1) 0 0 bx (Tm.tag k0.data.toList f t (s + 1) bx) = r4 at *
    rw [str_of] at A1 A3
    unfold str at A1 A3 ⊢
    generalize (⟨(Tm.tag k0.data.toList f t (s + 1) bx).toArray⟩ : ByteArray) = tz at *
    obtain ⟨m, hm⟩ : ∃ m : Nat, m = s + 1 := ⟨_, rfl⟩
    rw [← hm] at A3 OB ⊢
    clear OZ1 OI1 SZ1 hm
    have YB : Aside (Byt w4 a4 n4 c4 bx) := y4
    clear y4
    have y0 := fun o o' => ((Y4.out.alloc o).alloc o').cells.1
    have y1 := fun o o' => ((Y4.out.alloc o).alloc o').cells.2.1
    have y2 := fun o o' => ((Y4.out.alloc o).alloc o').cells.2.2.1
    have y3 := fun o o' => ((Y4.out.alloc o).alloc o').cells.2.2.2.1
    have y4 := fun o o' => ((Y4.out.alloc o).alloc o').cells.2.2.2.2
    have p0 := fun o o' o'' => (((K4.out.alloc o).alloc o').alloc o'').cells.1
    have p1 := fun o o' o'' => (((K4.out.alloc o).alloc o').alloc o'').cells.2
    have C4 : Aside (∀ o o' o'', Below w.heap.size w (((w4.alloc o).alloc o').alloc o'')) := fun o o' o'' => (B4.out o o').alloc (by have := (B4.out o o').size; simpa using this) o''
    have D4 : Aside (∀ o o' o'', Below w4.heap.size w4 (((w4.alloc o).alloc o').alloc o'')) := fun o o' o'' => ((below_one w4 o).alloc (by simp) o').alloc (by simp; omega) o''
    go_wp2_with fail
    have SN : Aside (L5 _ (w4.heap.size + 1) 35 _ _ _ _ _) := (L5.new1 w4 (.cells #[.string k0, .int .u32 (m : Int), .int .u32 0, .int .u64 0] 41) 35 (.int .u8 (f : Int)) (.int .u8 (t : Int)) (.int .u32 (m : Int)) (.slice a4 n4 c4) (.string tz)).alloc (.cells #[.int .u8 (f' : Int), .int .u8 (t' : Int), .int .u32 (s' : Int), .slice a' n' cap', .string tz] 35)
    have ZN : Aside (L5 _ (w4.heap.size + 2) 35 _ _ _ _ _) := L5.new2 w4 (.cells #[.string k0, .int .u32 (m : Int), .int .u32 0, .int .u64 0] 41) (.cells #[.int .u8 (f : Int), .int .u8 (t : Int), .int .u32 (m : Int), .slice a4 n4 c4, .string tz] 35) 35 (.int .u8 (f' : Int)) (.int .u8 (t' : Int)) (.int .u32 (s' : Int)) (.slice a' n' cap') (.string tz)
    refine (A1.out _ (C4.out _ _ _)).mono ?_
    rintro e w5 ⟨rfl, b5⟩
    have D5 := below_step (C4.out _ _ _) b5
    have B5 : Aside (∀ o, Below w.heap.size w (w5.alloc o)) := fun o => D5.alloc D5.size o
    have SN5 : Aside (L5 w5 _ _ _ _ _ _ _) := SN.out.later b5
    have ZN5 : Aside (L5 w5 _ _ _ _ _ _ _) := ZN.out.later b5
    have K5 : Aside (P2 w5 _ _ _ _) := (((K4.out.alloc _).alloc _).alloc _).later b5
    have YB5 : Aside (∀ o, Byt (w5.alloc o) a4 n4 c4 bx ∧ Byt (w5.alloc o) a' n' cap' bz) := fun o => ⟨((YB.out.later (D4.out _ _ _)).later b5).later (below_one w5 o), HB'.out.later (B5.out o)⟩
    clear y0 y1 y2 y3 y4 p0 p1 C4 D4 b5 D5 SN ZN K4 A1 Y4 B4 YB HB'
    have s0 := fun o => (SN5.out.alloc o).cells.1
    have s1 := fun o => (SN5.out.alloc o).cells.2.1
    have s2 := fun o => (SN5.out.alloc o).cells.2.2.1
    have s3 := fun o => (SN5.out.alloc o).cells.2.2.2.1
    have s4 := fun o => (SN5.out.alloc o).cells.2.2.2.2
    have z0 := fun o => (ZN5.out.alloc o).cells.1
    have z1 := fun o => (ZN5.out.alloc o).cells.2.1
    have z2 := fun o => (ZN5.out.alloc o).cells.2.2.1
    have z3 := fun o => (ZN5.out.alloc o).cells.2.2.2.1
    have p0 := fun o => (K5.out.alloc o).cells.1
    have p1 := fun o => (K5.out.alloc o).cells.2
    have v1 := fun o => conv_byt (YB5.out o).1
    have v2 := fun o => conv_byt (YB5.out o).2
    have A4 : Aside (∀ o, _) := fun o => A3.out (w5.alloc o) a4 n4 c4 (YB5.out o).1
    have BE : Aside (((⟨bz.toArray⟩ : ByteArray).toList == (⟨bx.toArray⟩ : ByteArray).toList) = decide (bz = bx)) := eq_lists _ _
    unfold str at v1 v2
    generalize (⟨bz.toArray⟩ : ByteArray) = pz at *
    generalize (⟨bx.toArray⟩ : ByteArray) = px at *
    have WY : Aside ((¬ f' = f ∧ ga ≠ 0) ∨ (f' = f ∧ ¬ t' = t ∧ ga ≠ 0) ∨ (f' = f ∧ t' = t ∧ ¬ s' = m ∧ ga ≠ 0) ∨ (f' = f ∧ t' = t ∧ s' = m ∧ (pz.toList == px.toList) = false ∧ ga ≠ 0) ∨ (f' = f ∧ t' = t ∧ s' = m ∧ (pz.toList == px.toList) = true ∧ (k0.toList == k1.toList) = false ∧ ga ≠ 0) ∨ (f' = f ∧ t' = t ∧ s' = m ∧ (pz.toList == px.toList) = true ∧ (k0.toList == k1.toList) = true ∧ ga = 0)) := by
      show _ ∨ _
      have ob := OB.out
      rw [BE.out, KK.out]
      by_cases c1 : f' = f
      · by_cases c2 : t' = t
        · by_cases c3 : s' = m
          · by_cases c4 : bz = bx
            · by_cases c5 : k0.data.toList = k1.data.toList
              · exact .inr (.inr (.inr (.inr (.inr ⟨c1, c2, c3, decide_eq_true c4, decide_eq_true c5, ob.2 ⟨c1, c2, c3, c4, c5⟩⟩))))
              · exact .inr (.inr (.inr (.inr (.inl ⟨c1, c2, c3, decide_eq_true c4, decide_eq_false c5, fun h => c5 (ob.1 h).2.2.2.2⟩))))
            · exact .inr (.inr (.inr (.inl ⟨c1, c2, c3, decide_eq_false c4, fun h => c4 (ob.1 h).2.2.2.1⟩)))
          · exact .inr (.inr (.inl ⟨c1, c2, c3, fun h => c3 (ob.1 h).2.2.1⟩))
        · exact .inr (.inl ⟨c1, c2, fun h => c2 (ob.1 h).2.1⟩)
      · exact .inl ⟨c1, fun h => c1 (ob.1 h).1⟩
    clear OB KK BE A3 SN5 ZN5 K5 YB5
    have ne : ∀ x y : Nat, ¬ x = y → ((x : Int) == (y : Int)) = false := fun x y h => by
      have : ¬ (x : Int) = (y : Int) := by omega
      simpa using this
    have eq : ∀ x y : Nat, x = y → ((x : Int) == (y : Int)) = true := fun x y h => by simp [h]
    have WZ : Aside ((((f' : Int) == (f : Int)) = false ∧ ((ga : Int) == 0) = false) ∨ (((f' : Int) == (f : Int)) = true ∧ ((t' : Int) == (t : Int)) = false ∧ ((ga : Int) == 0) = false) ∨ (((f' : Int) == (f : Int)) = true ∧ ((t' : Int) == (t : Int)) = true ∧ ((s' : Int) == (m : Int)) = false ∧ ((ga : Int) == 0) = false) ∨ (((f' : Int) == (f : Int)) = true ∧ ((t' : Int) == (t : Int)) = true ∧ ((s' : Int) == (m : Int)) = true ∧ (pz.toList == px.toList) = false ∧ ((ga : Int) == 0) = false) ∨ (((f' : Int) == (f : Int)) = true ∧ ((t' : Int) == (t : Int)) = true ∧ ((s' : Int) == (m : Int)) = true ∧ (pz.toList == px.toList) = true ∧ (k0.toList == k1.toList) = false ∧ ((ga : Int) == 0) = false) ∨ (((f' : Int) == (f : Int)) = true ∧ ((t' : Int) == (t : Int)) = true ∧ ((s' : Int) == (m : Int)) = true ∧ (pz.toList == px.toList) = true ∧ (k0.toList == k1.toList) = true ∧ ((ga : Int) == 0) = true)) := by
      show _ ∨ _
      rcases WY.out with ⟨c1, h⟩ | ⟨c1, c2, h⟩ | ⟨c1, c2, c3, h⟩ | ⟨c1, c2, c3, c4, h⟩ | ⟨c1, c2, c3, c4, c5, h⟩ | ⟨c1, c2, c3, c4, c5, h⟩
      · exact .inl ⟨ne _ _ c1, ne ga 0 h⟩
      · exact .inr (.inl ⟨eq _ _ c1, ne _ _ c2, ne ga 0 h⟩)
      · exact .inr (.inr (.inl ⟨eq _ _ c1, eq _ _ c2, ne _ _ c3, ne ga 0 h⟩))
      · exact .inr (.inr (.inr (.inl ⟨eq _ _ c1, eq _ _ c2, eq _ _ c3, c4, ne ga 0 h⟩)))
      · exact .inr (.inr (.inr (.inr (.inl ⟨eq _ _ c1, eq _ _ c2, eq _ _ c3, c4, c5, ne ga 0 h⟩))))
      · exact .inr (.inr (.inr (.inr (.inr ⟨eq _ _ c1, eq _ _ c2, eq _ _ c3, c4, c5, eq ga 0 h⟩))))
    clear WY ne eq
    generalize (f : Int) = F at *
    generalize (f' : Int) = F' at *
    generalize (t : Int) = T0 at *
    generalize (t' : Int) = T' at *
    generalize (m : Int) = M at *
    generalize (s' : Int) = S' at *
    generalize (ga : Int) = G at *
    rcases WZ.out with ⟨c1, h⟩ | ⟨c1, c2, h⟩ | ⟨c1, c2, c3, h⟩ | ⟨c1, c2, c3, c4, h⟩ | ⟨c1, c2, c3, c4, c5, h⟩ | ⟨c1, c2, c3, c4, c5, h⟩
    all_goals
      clear WZ
      go_wp2_with fail
      refine (A4.out _).mono ?_
      rintro e w6 ⟨rfl, b6⟩
      have D6 := below_step (B5.out _) b6
      have B6 : Aside (∀ o, Below w.heap.size w (w6.alloc o)) := fun o => D6.alloc D6.size o
      clear b6 D6 A4 B5 s0 s1 s2 s3 s4 z0 z1 z2 z3 p0 p1 v1 v2
      go_wp2
      go_ret
      exact ⟨rfl, B6.out _⟩
  · have t3 : ((Tm.sendE k0.data.toList s f t bx : Int) != 0) = true := by
      have : ¬ (Tm.sendE k0.data.toList s f t bx : Int) = 0 := by omega
      simpa using this
    simp only [h3, if_false]
    unfold str
    generalize Tm.sendE k0.data.toList s f t bx = se at *
    clear A1 A2 OI OZ SZ KK HB' K4 Y4 b4 y4 D4 h3
    go_wp2
    go_ret
    exact ⟨rfl, B4.out _ _⟩

end Go.Proofs.Ytimeggbjmcnnoaa
