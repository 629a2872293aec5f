/- alive: true, whatever the world. -/
import Derived.Test.YtimeggbjmcnnoaaLnL
import Derived.Lib.SlBytesConst
namespace Go.Proofs.Ytimeggbjmcnnoaa
open Go.RowKit

theorem lit_hi (W : World) : AtB (W.alloc (.cells #[.int .u8 104, .int .u8 105] 5 (2, 3))) (some ⟨W.heap.size, 0, none⟩) [104, 105] := by
  refine .inr ⟨W.heap.size, 0, rfl, fun j hj => ?_⟩
  rw [Nat.zero_add, cell_of_row _ _ j _ 5 (2, 3) (heap_alloc_new W _)]
  match j, hj with
  | 0, _ => rfl
  | 1, _ => rfl

theorem a_key (W : World) : Calls Try.prog 13 #[str [110, 0, 1], .int .u8 3, .int .u8 2] W fun e w' => e = .returned (.tuple #[str kL, .int .i64 0]) ∧ Below W.heap.size W w' := by
  have := key_any [110, 0, 1] 3 2 W
  unfold KeyPost at this
  rw [l_key.1, l_key.2] at this
  exact this
theorem a_send (W : World) : Calls Try.prog 17 #[.agg #[str kL, .int .u32 0, .int .u32 0, .int .u64 0], .int .u8 2, .int .u8 3, .slice (some ⟨W.heap.size, 0, none⟩) 2 2] (W.alloc (.cells #[.int .u8 104, .int .u8 105] 5 (2, 3))) fun e w' => ∃ a n cap, e = .returned (.tuple #[.agg #[str kL, .int .u32 1, .int .u32 0, .int .u64 0], .agg #[.int .u8 2, .int .u8 3, .int .u32 1, .slice a n cap, str gL], .int .i64 0]) ∧ Byt w' a n cap [104, 105] ∧ Below W.heap.size W w' := by
  have := send_any kL 0 0 0 2 3 (some ⟨W.heap.size, 0, none⟩) 2 2 [104, 105] (W.alloc (.cells #[.int .u8 104, .int .u8 105] 5 (2, 3))) (by omega) (by omega) (by omega) ⟨rfl, Nat.le_refl _, lit_hi W, fun e => by cases e⟩
  refine this.mono ?_
  rintro e w' ⟨a, n, cap, he, h1, h2⟩
  unfold Tm.sN Tm.sF Tm.sT Tm.sS Tm.sG at he
  unfold Tm.sB at h1
  rw [l_send] at he h1
  rw [if_pos rfl] at h1
  simp only [if_true] at he
  rw [show (0 + 1 : Nat) = 1 from rfl, l_tag.1] at he
  exact ⟨a, n, cap, he, h1, ((Below.refl _ W).alloc (Nat.le_refl _) _).trans (h2.mono (by simp))⟩
theorem a_acc (W : World) (a : Option Addr) (n cap : Nat) (h : Byt W a n cap [104, 105]) : Calls Try.prog 19 #[.agg #[str kL, .int .u32 0, .int .u32 0, .int .u64 0], .int .u8 3, .agg #[.int .u8 2, .int .u8 3, .int .u32 1, .slice a n cap, str gL]] W fun e w' => e = .returned (.tuple #[.agg #[str kL, .int .u32 0, .int .u32 1, .int .u64 1], .int .i64 0]) ∧ Below W.heap.size W w' := by
  have := accept_any kL 0 0 0 3 2 3 1 a n cap ⟨gL.toArray⟩ [104, 105] W (by omega) (by omega) (by omega) (by omega) (by omega) h
  refine this.mono ?_
  rintro e w' ⟨he, h2⟩
  rw [str_bytes] at he
  unfold Tm.aT Tm.aC at he
  rw [l_acc, if_pos rfl, if_pos rfl] at he
  exact ⟨he, h2⟩
theorem a_old (W : World) (a : Option Addr) (n cap : Nat) (h : Byt W a n cap [104, 105]) : Calls Try.prog 19 #[.agg #[str kL, .int .u32 0, .int .u32 1, .int .u64 1], .int .u8 3, .agg #[.int .u8 2, .int .u8 3, .int .u32 1, .slice a n cap, str gL]] W fun e w' => e = .returned (.tuple #[.agg #[str kL, .int .u32 0, .int .u32 1, .int .u64 1], .int .i64 6]) ∧ Below W.heap.size W w' := by
  have := accept_any kL 0 1 1 3 2 3 1 a n cap ⟨gL.toArray⟩ [104, 105] W (by omega) (by omega) (by omega) (by omega) (by omega) h
  refine this.mono ?_
  rintro e w' ⟨he, h2⟩
  rw [str_bytes] at he
  unfold Tm.aT Tm.aC at he
  rw [l_acc2, if_neg (by omega), if_neg (by omega)] at he
  exact ⟨he, h2⟩

set_option maxRecDepth 100000 in
set_option maxHeartbeats 8000000 in
theorem alive_any (w : World) : Calls Try.prog 11 #[] w fun e w' => e = .returned (.bool true) ∧ Below w.heap.size w w' := by
  have H1 : Aside (Calls _ _ _ w _) := nonce_any 1 w (by omega)
  rw [l_nonce] at H1
  have H2 : Aside (∀ W, _) := fun W => a_key W
  have H3 : Aside (∀ W, _) := fun W => a_send W
  have H4 : Aside (∀ W a n cap, Byt W a n cap _ → _) := fun W a n cap h => a_acc W a n cap h
  have H5 : Aside (∀ W a n cap, Byt W a n cap _ → _) := fun W a n cap h => a_old W a n cap h
  have q1 := fun s n t c W => eql41 s s n n t t c c W
  have q2 := fun x y xs ys W => eql41_guard x y xs ys W
  have q3 := fun s n t c => eqE_refl s n t c
  have q4 := fun W => Lib.run_convert_bytes_const (P := Try.prog) W 24 5 #[.int .u8 104, .int .u8 105] 2 2 Try.underlying24 Try.underlying5
  unfold str at *
  have k1 : ((⟨kL.toArray⟩ : ByteArray).toList == [100, 110, 0, 1, 99, 2, 2, 3]) = true := by decide +kernel
  have k2 : ((⟨gL.toArray⟩ : ByteArray).toList == ((⟨#[109]⟩ : ByteArray) ++ (⟨kL.toArray⟩ : ByteArray) ++ (⟨#[99, 8, 2, 3, 0, 0, 0, 1, 104, 105]⟩ : ByteArray)).toList) = true := by decide +kernel
  have ks : (⟨kL.toArray⟩ : ByteArray).size = 8 := by decide +kernel
  generalize (⟨kL.toArray⟩ : ByteArray) = kb at *
  generalize (⟨gL.toArray⟩ : ByteArray) = gb at *
  generalize (⟨[110, 0, 1].toArray⟩ : ByteArray) = nb at *
  go_enter Try.func11, Try.ntmps11
  go_wp2_with fail
  refine H1.out.mono ?_
  rintro e w1 ⟨rfl, b1⟩
  have B1 : Aside (Below w.heap.size w w1) := b1
  clear b1 H1
  go_wp2_with fail
  refine (H2.out _).mono ?_
  rintro e w2 ⟨rfl, b2⟩
  have B2 : Aside (Below w.heap.size w w2) := below_step B1.out b2
  clear b2 H2 B1
  go_wp2_with fail
  refine (H3.out _).mono ?_
  rintro e w3 ⟨a, n, cap, rfl, y3, b3⟩
  have B3 : Aside (Below w.heap.size w w3) := below_step B2.out b3
  have Y3 : Aside (Byt w3 a n cap _) := y3
  clear b3 H3 B2 y3
  go_wp2_with fail
  have s3 := B3.out.size
  have E3 := (E4.new w3 41 (.string kb) (.int .u32 1) (.int .u32 0) (.int .u64 0)).alloc (.cells #[.int .u8 2, .int .u8 3, .int .u32 1, .slice a n cap, .string gb] 35)
  have X3 := L5.new (w3.alloc (.cells #[.string kb, .int .u32 1, .int .u32 0, .int .u64 0] 41)) 35 (.int .u8 2) (.int .u8 3) (.int .u32 1) (.slice a n cap) (.string gb)
  have C3 := (B3.out.alloc s3 (.cells #[.string kb, .int .u32 1, .int .u32 0, .int .u64 0] 41)).alloc (by simp; omega) (.cells #[.int .u8 2, .int .u8 3, .int .u32 1, .slice a n cap, .string gb] 35)
  have Z3 := Y3.out.later (((Below.refl _ w3).alloc (Nat.le_refl _) (.cells #[.string kb, .int .u32 1, .int .u32 0, .int .u64 0] 41)).alloc (by simp) (.cells #[.int .u8 2, .int .u8 3, .int .u32 1, .slice a n cap, .string gb] 35))
  refine (H4.out _ a n cap Z3).mono ?_
  rintro e w4 ⟨rfl, b4⟩
  have B4 : Aside (Below w.heap.size w w4) := below_step C3 b4
  have E4' := E3.later b4
  have X4 := X3.later b4
  simp only [World.size_alloc] at X4
  have Y4 : Aside (Byt w4 a n cap _) := Z3.later b4
  have EE : Aside (E4 w4 _ _ _ _ _ _) := E4'
  have XX : Aside (L5 w4 _ _ _ _ _ _ _) := X4
  have x0 := fun o => (X4.alloc o).cells.1
  have x1 := fun o => (X4.alloc o).cells.2.1
  have x2 := fun o => (X4.alloc o).cells.2.2.1
  have x3 := fun o => (X4.alloc o).cells.2.2.2.1
  have x4 := fun o => (X4.alloc o).cells.2.2.2.2
  clear E3 X3 C3 Z3 H4 B3 Y3 b4 E4' X4 s3
  go_wp2_with fail
  have s4 := B4.out.size
  have E5 := EE.out.alloc (.cells #[.string kb, .int .u32 0, .int .u32 1, .int .u64 1] 41)
  have X5 := XX.out.alloc (.cells #[.string kb, .int .u32 0, .int .u32 1, .int .u64 1] 41)
  have F5 := E4.new w4 41 (.string kb) (.int .u32 0) (.int .u32 1) (.int .u64 1)
  have C5 := B4.out.alloc s4 (.cells #[.string kb, .int .u32 0, .int .u32 1, .int .u64 1] 41)
  have Z5 := Y4.out.later ((Below.refl _ w4).alloc (Nat.le_refl _) (.cells #[.string kb, .int .u32 0, .int .u32 1, .int .u64 1] 41))
  refine (H5.out _ a n cap Z5).mono ?_
  rintro e w5 ⟨rfl, b5⟩
  have B5 : Aside (Below w.heap.size w w5) := below_step C5 b5
  have E6 := E5.later b5
  have X6 := X5.later b5
  have F6 := F5.later b5
  have e0 := fun o => (E6.alloc o).cells.1
  have e1 := fun o => (E6.alloc o).cells.2.1
  have e2 := fun o => (E6.alloc o).cells.2.2.1
  have e3 := fun o => (E6.alloc o).cells.2.2.2
  have y2 := fun o => (X6.alloc o).cells.2.2.1
  have y4 := fun o => (X6.alloc o).cells.2.2.2.2
  have f0 := fun o => (F6.alloc o).cells.1
  have f1 := fun o => (F6.alloc o).cells.2.1
  have f2 := fun o => (F6.alloc o).cells.2.2.1
  have f3 := fun o => (F6.alloc o).cells.2.2.2
  have s5 := B5.out.size
  have C6 : Aside (∀ o, Below w.heap.size w (w5.alloc o)) := fun o => B5.out.alloc s5 o
  clear E5 X5 F5 C5 Z5 H5 B4 Y4 b5 E6 X6 F6 EE XX x0 x1 x2 x3 x4 s4
  go_wp2

  go_ret
  exact ⟨rfl, C6.out _⟩

end Go.Proofs.Ytimeggbjmcnnoaa
