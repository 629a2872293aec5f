/- The walk of HoldFull. -/
import Derived.Test.YtbacnjkookakcaaHdV
import Derived.Test.YtbacnjkookakcaaHdX
set_option linter.unusedVariables false
namespace Go.Proofs.Ytbacnjkookakcaa
open Go.RowKit
namespace Hd
open Ps

theorem zeroV_small : ∀ i, i < 16 → zeroV i < 65536 := fun i _ => by show (0 : Nat) < 65536; omega
theorem wait_fit {q m : Nat} (hq : q < 16) (hm : m ≤ 64) : ∀ y ∈ waitL q m, Fit y := fun y hy => by
  obtain ⟨k, _, h2, rfl⟩ := waitL_mem hy
  exact rowX_fit hq (by omega)
theorem put_lt {q k s : Nat} (hq : q < 16) (hk : k < 64) (hs : s = k + 1) (W : World) (a : Option Addr) (c : Nat) (ha : AtI W a (waitL q k)) :
    Calls Try.prog 11 #[.agg (holdA zeroV (.slice a k c)), .agg (itA (rowX q s))] W fun e w' => ∃ a c a2 c2, e = .returned (.tuple #[.agg (holdA zeroV (.slice a s c)), .slice a2 0 c2, .int .i64 0]) ∧ AtI w' a (waitL q s) ∧ Below W.heap.size W w' := by
  subst hs
  have h := put_any zeroV a c (waitL q k) (rowX q (k + 1)) W ha (wait_fit hq (by omega)) (rowX_fit hq (by omega)) zeroV_small (by rw [waitL_length]; omega)
  obtain ⟨e1, e2, e3⟩ := put_wait hq hk
  rw [putE_wait hq hk, e1, e2, e3, waitL_length] at h
  refine h.mono ?_
  rintro e w' ⟨a, c, a2, c2, rfl, h1, h2, h3⟩
  rw [waitL_length]
  exact ⟨a, c, a2, c2, rfl, h1, h3⟩
theorem put_ge {q s : Nat} (hq : q < 16) (hs : 64 < s) (h1000 : s ≤ 1000) (W : World) (a : Option Addr) (c : Nat) (ha : AtI W a (waitL q 64)) :
    Calls Try.prog 11 #[.agg (holdA zeroV (.slice a 64 c)), .agg (itA (rowX q s))] W fun e w' => ∃ a c a2 c2, e = .returned (.tuple #[.agg (holdA zeroV (.slice a 64 c)), .slice a2 0 c2, .int .i64 7]) ∧ AtI w' a (waitL q 64) ∧ Below W.heap.size W w' := by
  have h := put_any zeroV a c (waitL q 64) (rowX q s) W ha (wait_fit hq (by omega)) (rowX_fit hq h1000) zeroV_small (by rw [waitL_length]; omega)
  obtain ⟨e1, e2, e3⟩ := put_full hq hs h1000
  rw [putE_full hq hs h1000, e1, e2, e3, waitL_length] at h
  refine h.mono ?_
  rintro e w' ⟨a, c, a2, c2, rfl, h1, h2, h3⟩
  exact ⟨a, c, a2, c2, rfl, h1, h3⟩
theorem put_end {q m u : Nat} (hq : q < 16) (hm : m ≤ 64) (hu : u = m + 1) (W : World) (a : Option Addr) (c : Nat) (ha : AtI W a (waitL q m)) :
    Calls Try.prog 11 #[.agg (holdA zeroV (.slice a m c)), .agg (itA (rowX q 0))] W fun e w' => ∃ F n a c a2 c2, e = .returned (.tuple #[.agg (holdA F (.slice a n c)), .slice a2 u c2, .int .i64 0]) ∧ Below W.heap.size W w' := by
  subst hu
  have h := put_any zeroV a c (waitL q m) (rowX q 0) W ha (wait_fit hq (by omega)) (rowX_fit hq (by omega)) zeroV_small (by rw [waitL_length]; omega)
  rw [putE_all hq hm, waitL_length] at h
  refine h.mono ?_
  rintro e w' ⟨a, c, a2, c2, rfl, h1, h2, h3⟩
  rw [put_all hq hm]
  exact ⟨_, _, a, c, a2, c2, rfl, h3⟩
def freshX (q s : Nat) : It := ⟨q, (s : Int), aI.body⟩
theorem fresh_row (q : Nat) : rowX q 0 = freshX q 0 := by unfold rowX freshX; rw [upd_zero]; rfl
set_option maxRecDepth 100000 in
theorem bq43 (q : Nat) (W : World) : (Instr.build 43 #[(0, .int .u8 (q : Int)), (2, .agg (bdA aI.body))]).run Try.prog W = .ok (.agg (itA (rowX q 0))) W := by
  rw [fresh_row]
  exact run_build W 43 _ _ (by kernel_rfl)
theorem itA_set (x : It) {q s : Nat} (hq : q < 16) : (itA x).setIfInBounds (3 + q) (.int .u16 (s : Int)) = itA ⟨x.frm, x.seq, ⟨x.body.kind, upd x.body.past q s, x.body.text⟩⟩ := by
  have : q = 0 ∨ q = 1 ∨ q = 2 ∨ q = 3 ∨ q = 4 ∨ q = 5 ∨ q = 6 ∨ q = 7 ∨ q = 8 ∨ q = 9 ∨ q = 10 ∨ q = 11 ∨ q = 12 ∨ q = 13 ∨ q = 14 ∨ q = 15 := by omega
  rcases this with rfl | rfl | rfl | rfl | rfl | rfl | rfl | rfl | rfl | rfl | rfl | rfl | rfl | rfl | rfl | rfl <;> rfl
theorem fresh_set {w : World} {b q s : Nat} (h : I20 w b 43 (freshX q s)) (hq : q < 16) : I20 (w.setCell ⟨b, 3 + q, none⟩ (.int .u16 (s : Int))) b 43 (rowX q s) := by
  have := row_set h (j := 3 + q) (.int .u16 (s : Int))
  rw [itA_set _ hq] at this
  exact this
theorem tmod_nat (c n : Nat) : Int.tmod (c : Int) (n : Int) = ((c % n : Nat) : Int) := by
  rw [Int.tmod_eq_emod_of_nonneg (by omega)]; rfl
theorem full_nums {k s : Nat} (h : s = k + 1) (hk : k ≤ 70) : wrap64 ((k : Int) + 1) = (s : Int) ∧ IntKind.i64.wrap ((k : Int) + 1) = (s : Int) ∧ IntKind.u16.wrap (s : Int) = (s : Int) := by
  have m1 : wrap64 ((k : Int) + 1) = (s : Int) := by rw [IntWalk.wrap64_in _ ⟨by omega, by omega⟩]; omega
  exact ⟨m1, by rw [IntWalk.i64_left]; exact m1, by rw [IntKind.wrap_u16]; omega⟩
theorem full_begin (n fr : Nat) (hn : n < 256) (hf : fr < 256) : ∃ q r M : Nat, q < 16 ∧ M ≤ 70 ∧ Int.tmod (fr : Int) 16 = (q : Int) ∧ IntKind.u8.wrap (q : Int) = (q : Int) ∧ wrap64 (n : Int) = (n : Int) ∧ IntKind.i64.wrap (n : Int) = (n : Int) ∧ Int.tmod (n : Int) 70 = (r : Int) ∧ wrap64 (r : Int) = (r : Int) ∧ IntKind.i64.wrap (r : Int) = (r : Int) ∧ wrap64 ((r : Int) + 1) = (M : Int) ∧ IntKind.i64.wrap ((r : Int) + 1) = (M : Int) := by
  have h1 : fr % 16 < 16 := Nat.mod_lt _ (by decide)
  have h2 : n % 70 < 70 := Nat.mod_lt _ (by decide)
  have t1 : Int.tmod (fr : Int) 16 = ((fr % 16 : Nat) : Int) := tmod_nat fr 16
  have t2 : Int.tmod (n : Int) 70 = ((n % 70 : Nat) : Int) := tmod_nat n 70
  refine ⟨fr % 16, n % 70, n % 70 + 1, h1, h2, t1, ?_, ?_, ?_, t2, ?_, ?_, ?_, ?_⟩
  · clear t1 t2; generalize fr % 16 = q at h1; rw [IntKind.wrap_u8]; omega
  · exact IntWalk.wrap64_in _ ⟨by omega, by omega⟩
  · rw [IntWalk.i64_left]; exact IntWalk.wrap64_in _ ⟨by omega, by omega⟩
  · clear t1 t2; generalize n % 70 = q at h2; exact IntWalk.wrap64_in _ ⟨by omega, by omega⟩
  · clear t1 t2; generalize n % 70 = q at h2; rw [IntWalk.i64_left]; exact IntWalk.wrap64_in _ ⟨by omega, by omega⟩
  · clear t1 t2; generalize n % 70 = q at h2; rw [IntWalk.wrap64_in _ ⟨by omega, by omega⟩]; omega
  · clear t1 t2; generalize n % 70 = q at h2; rw [IntWalk.i64_left, IntWalk.wrap64_in _ ⟨by omega, by omega⟩]; omega

/-- The state of the loop. -/
structure FS (w w1 W : World) (q m : Nat) (a : Option Addr) (c : Nat) : Prop where
  hH : H17 W w1.heap.size 36 zeroV (.slice a m c)
  hA : AtI W a (waitL q m)
  below : Below w.heap.size w W
theorem FS.later {w w1 W W' : World} {q m : Nat} {a : Option Addr} {c : Nat} (h : FS w w1 W q m a c) (hb : Below W.heap.size W W') : FS w w1 W' q m a c := ⟨h.hH.later hb, h.hA.later hb, step_below h.below hb⟩
/-- A hold's box is no row of items. -/
theorem box_row {W : World} {b bb off : Nat} {t : TypeId} {f : Nat → Nat} {s : Value} {p : Option Addr} {n c : Nat} (hs : s = .slice p n c) (h : H17 W b t f s) {k : Int} (hc : W.cell? ⟨bb, off, none⟩ = some (.int .u8 k)) : bb ≠ b := by
  rintro rfl
  rw [cell_of_row W bb off _ t _ h] at hc
  subst hs
  by_cases h1 : off < 16
  · rw [holdA_vec f _ h1, vecA_get f h1] at hc
    cases hc
  · by_cases h2 : off = 16
    · subst h2
      have : (holdA f (.slice p n c))[16]? = some (.slice p n c) := rfl
      rw [this] at hc
      cases hc
    · rw [Array.getElem?_eq_none (by show 17 ≤ off; omega)] at hc
      cases hc
/-- What is answered is the hold from now on. -/
theorem FS.next {w w1 W : World} {q m m' : Nat} {a a' : Option Addr} {c c' : Nat} (h : FS w w1 W q m a c) (hle : w.heap.size ≤ w1.heap.size) (ha : AtI W a' (waitL q m')) : FS w w1 (W.setCells w1.heap.size 0 (holdA zeroV (.slice a' m' c')).toList) q m' a' c' := by
  refine ⟨h.hH.whole, ?_, below_cells _ _ h.below hle⟩
  cases m' with
  | zero => exact .inl rfl
  | succ m' =>
    rcases ha with hl | ⟨bb, off, rfl, hc⟩
    · exact .inl hl
    · have h0 : (waitL q (m' + 1))[0]? = some (rowX q 1) := by
        cases e : (waitL q (m' + 1))[0]? with
        | none => rw [List.getElem?_eq_none_iff, waitL_length] at e; omega
        | some x => rw [waitL_get e]
      have c0 := hc 0 _ h0 0 _ rfl
      have hne : bb ≠ w1.heap.size := box_row rfl h.hH c0
      refine .inr ⟨bb, off, rfl, fun j x hx i u hu => ?_⟩
      rw [cell_same (heap_cells_far _ _ _ hne)]
      exact hc j x hx i u hu
end Hd
end Go.Proofs.Ytbacnjkookakcaa
