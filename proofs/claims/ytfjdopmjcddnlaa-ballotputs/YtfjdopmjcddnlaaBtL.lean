/- alive answers true: three of four members want one thing. -/
import Derived.Test.YtfjdopmjcddnlaaBtK
set_option linter.unusedVariables false
namespace Go.Proofs.Ytfjdopmjcddnlaa
open Go.RowKit Cn Rl Bt

namespace Bt
def alL (k : Nat) : List Ct := (List.range k).map fun j => (3 - k + j, true, 5)
theorem al_len (k : Nat) : (alL k).length = k := by unfold alL; simp
theorem al_right {k : Nat} (hk : k ≤ 3) : RightX 0 15 (alL k) := by
  have e : k = 0 ∨ k = 1 ∨ k = 2 ∨ k = 3 := by omega
  unfold RightX Srt
  rcases e with rfl | rfl | rfl | rfl <;> decide +kernel
theorem al_put {k : Nat} (hk : k < 3) : putE 0 15 (alL k) (2 - k, true, 5) = 0 ∧ putL 0 15 (alL k) (2 - k, true, 5) = alL (k + 1) := by
  have h1 : hasS 15 (2 - k) = true ∧ fnd (alL k) (2 - k) = false ∧ appE 0 15 true 5 = 0 ∧ insL (alL k) (2 - k, true, 5) = alL (k + 1) := by
    have e : k = 0 ∨ k = 1 ∨ k = 2 := by omega
    rcases e with rfl | rfl | rfl <;> decide +kernel
  have h0 : putE 0 15 (alL k) (2 - k, true, 5) = 0 := by
    unfold putE
    rw [if_pos (al_right (Nat.le_of_lt hk)), if_pos h1.1, if_neg (by rw [h1.2.1]; decide)]
    exact h1.2.2.1
  exact ⟨h0, by unfold putL; rw [if_pos h0]; exact h1.2.2.2⟩
theorem al_none {k : Nat} (hk : k < 3) : chosen 0 15 (alL k) = none := by
  have h : (alL k).find? (fun c => enough 15 (alL k) c.2) = none := by
    have e : k = 0 ∨ k = 1 ∨ k = 2 := by omega
    rcases e with rfl | rfl | rfl <;> decide +kernel
  unfold chosen
  rw [if_pos (al_right (Nat.le_of_lt hk)), h]; rfl
theorem al_some : chosen 0 15 (alL 3) = some (true, 5) := by
  have h : (alL 3).find? (fun c => enough 15 (alL 3) c.2) = some (0, true, 5) := by decide +kernel
  unfold chosen
  rw [if_pos (al_right (Nat.le_refl _)), h]; rfl
theorem al_for : forS 0 15 (alL 3) (true, 5) = 7 := by
  unfold forS
  rw [if_pos (al_right (Nat.le_refl _))]; decide +kernel
theorem al_have : putE 0 15 (alL 3) (1, true, 5) = 9 := by
  have h1 : hasS 15 1 = true ∧ fnd (alL 3) 1 = true := by decide +kernel
  unfold putE
  rw [if_pos (al_right (Nat.le_refl _)), if_pos h1.1, if_pos h1.2]
theorem al_again : putL 0 15 (alL 3) (1, true, 5) = alL 3 := by unfold putL; rw [al_have]; rfl
end Bt
theorem al_c9 {k : Nat} (hk : k < 3) (a : Option Addr) (c : Nat) (W : World) (h : AtC W a (alL k)) : Calls Try.prog 9 #[.agg #[.int .i64 0, .int .u16 15, .slice a k c], .agg #[.int .u8 ((2 - k : Nat) : Int), .bool true, .int .u8 5]] W fun e w' => ∃ a' c', e = .returned (.tuple #[.agg #[.int .i64 0, .int .u16 15, .slice a' (k + 1) c'], .int .i64 0]) ∧ AtC w' a' (alL (k + 1)) ∧ Below W.heap.size W w' ∧ Fr W.heap.size a' := by
  have := put_any 0 15 a c (alL k) (2 - k, true, 5) W h (by decide) (by rw [al_len]; omega)
  rw [(al_put hk).1, (al_put hk).2, al_len] at this
  refine this.mono fun e w' ⟨a', c', h1, h2, h3, h4, h5⟩ => ⟨a', c', ?_, h2, h3, h5⟩
  rw [al_len] at h1; exact h1
theorem al_c13 {k : Nat} (hk : k < 3) (a : Option Addr) (c : Nat) (W : World) (h : AtC W a (alL k)) : Calls Try.prog 13 #[.agg #[.int .i64 0, .int .u16 15, .slice a k c]] W fun e w' => e = .returned (.tuple #[.agg #[.bool false, .int .u8 0], .bool false]) ∧ Below W.heap.size W w' := by
  have := chosen_any 0 15 a c (alL k) W h (by decide) (by rw [al_len]; omega)
  rw [al_none hk, al_len] at this; exact this
theorem al_d13 (a : Option Addr) (c : Nat) (W : World) (h : AtC W a (alL 3)) : Calls Try.prog 13 #[.agg #[.int .i64 0, .int .u16 15, .slice a 3 c]] W fun e w' => e = .returned (.tuple #[.agg #[.bool true, .int .u8 5], .bool true]) ∧ Below W.heap.size W w' := by
  have := chosen_any 0 15 a c (alL 3) W h (by decide) (by rw [al_len]; omega)
  rw [al_some, al_len] at this; exact this
theorem al_d9 (a : Option Addr) (c : Nat) (W : World) (h : AtC W a (alL 3)) : Calls Try.prog 9 #[.agg #[.int .i64 0, .int .u16 15, .slice a 3 c], .agg #[.int .u8 1, .bool true, .int .u8 5]] W fun e w' => ∃ a' c', e = .returned (.tuple #[.agg #[.int .i64 0, .int .u16 15, .slice a' 3 c'], .int .i64 9]) ∧ Below W.heap.size W w' := by
  have := put_any 0 15 a c (alL 3) (1, true, 5) W h (by decide) (by rw [al_len]; omega)
  rw [al_have, al_again, al_len] at this
  refine this.mono fun e w' ⟨a', c', h1, h2, h3, h4⟩ => ⟨a', c', ?_, h3⟩
  rw [al_len] at h1; exact h1
theorem al_d17 (a : Option Addr) (c : Nat) (W : World) (h : AtC W a (alL 3)) : Calls Try.prog 17 #[.agg #[.int .i64 0, .int .u16 15, .slice a 3 c], .agg #[.bool true, .int .u8 5]] W fun e w' => e = .returned (.int .u16 7) ∧ Below W.heap.size W w' := by
  have := for_any 0 15 a c (alL 3) true 5 W h (by decide) (by rw [al_len]; omega)
  rw [al_for, al_len] at this; exact this
/-- The two boxes of alive. -/
def AS (w W : World) (k : Nat) (a : Option Addr) (c : Nat) : Prop := X3 W w.heap.size 37 (.int .i64 0) (.int .u16 15) (.slice a k c) ∧ P2 W (w.heap.size + 1) 42 (.bool true) (.int .u8 5) ∧ AtC W a (alL k) ∧ Below w.heap.size w W ∧ w.heap.size + 1 < W.heap.size ∧ Fr (w.heap.size + 1 + 1) a
theorem AS.later {w W W' : World} {k : Nat} {a : Option Addr} {c : Nat} (h : AS w W k a c) (hb : Below W.heap.size W W') : AS w W' k a c := ⟨h.1.later hb, h.2.1.later hb, h.2.2.1.later hb, below_step h.2.2.2.1 hb, Nat.lt_of_lt_of_le h.2.2.2.2.1 hb.size, h.2.2.2.2.2⟩
theorem AS.put {w W : World} {k k' : Nat} {a a' : Option Addr} {c c' : Nat} (h : AS w W k a c) (hat : AtC W a' (alL k')) (hf : Fr (w.heap.size + 1 + 1) a') : AS w (((W.setCell ⟨w.heap.size, 0, none⟩ (.int .i64 0)).setCell ⟨w.heap.size, 1, none⟩ (.int .u16 15)).setCell ⟨w.heap.size, 2, none⟩ (.slice a' k' c')) k' a' c' := by
  have ne : w.heap.size + 1 ≠ w.heap.size := by omega
  refine ⟨h.1.set _ _ _, ((h.2.1.far ne _).far ne _).far ne _, hat.set3 hf (by omega) _ _ _, below_set3 h.2.2.2.1 (Nat.le_refl _) _ _ _, ?_, hf⟩
  simpa using h.2.2.2.2.1
set_option maxHeartbeats 4000000 in
set_option maxRecDepth 100000 in
theorem alive_any (w : World) : Calls Try.prog 8 #[] w fun e w' => e = .returned (.bool true) ∧ Below w.heap.size w w' := by
  have C9 : Aside (∀ k a c W, _) := fun (k : Nat) (hk : k < 3) => al_c9 hk
  have C13 : Aside (∀ k a c W, _) := fun (k : Nat) (hk : k < 3) => al_c13 hk
  obtain ⟨V, hV⟩ : ∃ V, V = (w.alloc (.cells #[.int .i64 0, .int .u16 15, .slice none 0 0] 37)).alloc (.cells #[.bool true, .int .u8 5] 42) := ⟨_, rfl⟩
  have S0 : Aside (AS w V 0 none 0) := by
    rw [hV]; exact ⟨(X3.new w _ _ _ _).alloc _, P2.new1 w _ _ _ _, .inl rfl, (below_one w _).alloc (by simp) _, by simp, Fr.nil _⟩
  have q1 := fun W => eql42 true true 5 5 W
  have g1 := fun x y xs ys W => eql42_guard x y xs ys W
  rw [decide_eq_true (by decide)] at q1
  go_enter Try.func8, Try.ntmps8
  go_wp2_with fail
  rw [← hV]
  clear hV
  go_loopw [15] (fun i wr => ∃ (k : Nat) (a : Option Addr) (c : Nat), k ≤ 3 ∧ i = .int .u8 (k : Nat) ∧ Aside (AS w wr k a c)) (fun i _ => 3 - (intOf i).toNat)
  case atStart => exact ⟨0, none, 0, by decide, rfl, S0.out⟩
  case round =>
    obtain ⟨k, a, c, hk, rfl, HS⟩ := hrel
    obtain ⟨x0, x1, x2⟩ := HS.out.1.cells
    obtain ⟨y0, y1⟩ := HS.out.2.1.cells
    by_cases hlt : k < 3
    · have t1 : (k : Int) < 3 := by omega
      have sb : IntKind.u8.wrap (2 - (k : Int)) = ((2 - k : Nat) : Int) := by rw [IntKind.wrap_u8]; omega
      have ad : IntKind.u8.wrap ((k : Int) + 1) = (k : Int) + 1 := by rw [IntKind.wrap_u8]; omega
      have D13 : Aside (∀ W, AtC W a (alL k) → _) := fun W h => al_c13 hlt a c W h
      have D9 : Aside (∀ W, AtC W a (alL k) → _) := fun W h => al_c9 hlt a c W h
      go_wp2_with (first
        | (go_at_call 13; refine (D13.out _ HS.out.2.2.1).mono ?_; rintro e w1 ⟨rfl, hb⟩; have Y : Aside (AS w (w1.alloc (.cells #[.bool false, .int .u8 0] 42)) k a c) := (HS.out.later hb).later (below_one _ _); clear hb x0 x1 x2 y0 y1; obtain ⟨x0, x1, x2⟩ := Y.out.1.cells; obtain ⟨y0, y1⟩ := Y.out.2.1.cells)
        | (go_at_call 9; refine (D9.out _ Y.out.2.2.1).mono ?_; rintro e w2 ⟨a', c', rfl, hat, hb, hfr⟩; have Z : Aside (AS w (w2.alloc (.cells #[.int .i64 0, .int .u16 15, .slice a' (k + 1) c'] 37)) k a c ∧ AtC (w2.alloc (.cells #[.int .i64 0, .int .u16 15, .slice a' (k + 1) c'] 37)) a' (alL (k + 1)) ∧ Fr (w.heap.size + 1 + 1) a') := ⟨(Y.out.later hb).later (below_one _ _), hat.later (below_one _ _), hfr.mono (by have := Y.out.2.2.2.2.1; omega)⟩; clear hb hat hfr x0 x1 x2 y0 y1; obtain ⟨x0, x1, x2⟩ := Z.out.1.1.cells; have f0 := Z.out.1.1.frozen 0; have f1 := Z.out.1.1.frozen 1; have f2 := Z.out.1.1.frozen 2)
        | fail)
      have EN : Aside _ := Z.out.1.put (c' := c') Z.out.2.1 Z.out.2.2
      exact ⟨⟨k + 1, a', c', by omega, by go_num, EN.out⟩, by simp [intOf]; omega⟩
    · obtain rfl : k = 3 := by omega
      have D13 : Aside (∀ W, AtC W a (alL 3) → _) := fun W h => al_d13 a c W h
      have D9 : Aside (∀ W, AtC W a (alL 3) → _) := fun W h => al_d9 a c W h
      have D17 : Aside (∀ W, AtC W a (alL 3) → _) := fun W h => al_d17 a c W h
      go_wp2_with (first
        | (go_at_call 13; refine (D13.out _ HS.out.2.2.1).mono ?_; rintro e w1 ⟨rfl, hb⟩; have Y : Aside (AS w (w1.alloc (.cells #[.bool true, .int .u8 5] 42)) 3 a c ∧ P2 (w1.alloc (.cells #[.bool true, .int .u8 5] 42)) w1.heap.size 42 (.bool true) (.int .u8 5)) := ⟨(HS.out.later hb).later (below_one _ _), P2.new _ _ _ _⟩; clear hb x0 x1 x2 y0 y1; obtain ⟨x0, x1, x2⟩ := Y.out.1.1.cells; obtain ⟨y0, y1⟩ := Y.out.1.2.1.cells)
        | (go_at_call 9; refine (D9.out _ Y.out.1.2.2.1).mono ?_; rintro e w2 ⟨a', c', rfl, hb⟩; have Z : Aside (AS w (w2.alloc (.cells #[.int .i64 0, .int .u16 15, .slice a' 3 c'] 37)) 3 a c ∧ P2 (w2.alloc (.cells #[.int .i64 0, .int .u16 15, .slice a' 3 c'] 37)) w1.heap.size 42 (.bool true) (.int .u8 5)) := ⟨(Y.out.1.later hb).later (below_one _ _), (Y.out.2.later hb).alloc _⟩; clear hb x0 x1 x2 y0 y1; obtain ⟨x0, x1, x2⟩ := Z.out.1.1.cells; obtain ⟨y0, y1⟩ := Z.out.1.2.1.cells; obtain ⟨z0, z1⟩ := Z.out.2.cells)
        | (go_at_call 17; refine (D17.out _ Z.out.1.2.2.1).mono ?_; rintro e w3 ⟨rfl, hb⟩; have B3 : Aside (Below w.heap.size w w3) := below_step Z.out.1.2.2.2.1 hb; clear hb x0 x1 x2 y0 y1 z0 z1)
        | fail)
      go_ret
      exact ⟨rfl, B3.out⟩
end Go.Proofs.Ytfjdopmjcddnlaa
