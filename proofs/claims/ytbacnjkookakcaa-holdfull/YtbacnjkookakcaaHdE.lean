/- The greatest of a vector's numbers (slices.Max). -/
import Derived.Test.YtbacnjkookakcaaHdD
set_option linter.unusedVariables false
namespace Go.Proofs.Ytbacnjkookakcaa
open Go.RowKit
namespace Hd
open Ps

/-- The greatest of the first k numbers, and of the first. -/
def mxV (f : Nat → Nat) : Nat → Nat
  | 0 => f 0
  | k + 1 => max (mxV f k) (f k)
theorem mxV_le (f : Nat → Nat) (m : Nat) : ∀ k, 0 < k → (mxV f k ≤ m ↔ ∀ i, i < k → f i ≤ m)
  | 0, h => by omega
  | 1, _ => by
    unfold mxV mxV
    exact ⟨fun h i hi => by obtain rfl : i = 0 := by omega
                            omega, fun h => by have := h 0 (by omega); omega⟩
  | k + 2, _ => by
    have ih := mxV_le f m (k + 1) (by omega)
    show max (mxV f (k + 1)) (f (k + 1)) ≤ m ↔ _
    constructor
    · intro h i hi
      by_cases e : i = k + 1
      · subst e; omega
      · exact ih.1 (by omega) i (by omega)
    · intro h
      have h1 := ih.2 fun i hi => h i (by omega)
      have h2 := h (k + 1) (by omega)
      omega
theorem mxV_one (f : Nat → Nat) : mxV f 1 = f 0 := by unfold mxV mxV; omega
theorem mxV_lt {f : Nat → Nat} (h : ∀ i, i < 16 → f i < 65536) {k : Nat} (hk : k ≤ 16) (h0 : 0 < k) : mxV f k < 65536 := by
  have := (mxV_le f 65535 k h0).2 fun i hi => by have := h i (by omega); omega
  omega

set_option maxHeartbeats 4000000 in
set_option maxRecDepth 100000 in
theorem max_any (f : Nat → Nat) (b : Nat) (w : World) (h : ∀ i, i < 16 → w.cell? ⟨b, i, none⟩ = some (.int .u16 ((f i : Nat) : Int))) :
    Calls Try.prog 36 #[.slice (some ⟨b, 0, none⟩) 16 16] w fun e w' => e = .returned (.int .u16 ((mxV f 16 : Nat) : Int)) ∧ w' = w := by
  have H : Aside (∀ i, i < 16 → w.cell? ⟨b, i, none⟩ = some (.int .u16 ((f i : Nat) : Int))) := h
  have c0 : w.cell? ⟨b, 0, none⟩ = some (.int .u16 ((mxV f 1 : Nat) : Int)) := by rw [mxV_one]; exact h 0 (by decide)
  clear h
  go_enter Try.func36, Try.ntmps36
  go_wp2_with fail
  go_loopw [3, 4] (fun m i wr => ∃ k : Nat, 1 ≤ k ∧ k ≤ 16 ∧ i = .int .i64 (k : Nat) ∧ m = .int .u16 ((mxV f k : Nat) : Int) ∧ wr = w) (fun _ i _ => 16 - (intOf i).toNat)
  case atStart => exact ⟨1, by omega, by omega, rfl, rfl, rfl⟩
  case round =>
    obtain ⟨k, hk0, hk, rfl, rfl, hw⟩ := hrel
    replace hw := hw.symm; subst hw
    by_cases hlt : k < 16
    · have c1 := H.out k hlt
      have e1 : mxV f (k + 1) = max (mxV f k) (f k) := rfl
      have E : Aside (mxV f (k + 1) = max (mxV f k) (f k)) := e1
      clear c0 e1
      have t1 : (k : Int) < 16 := by omega
      have t0 : (0 : Int) ≤ (k : Int) := by omega
      generalize f k = fk at c1 E
      generalize mxV f k = mk at E ⊢
      go_wp2
      go_roundw
      case rel =>
        refine ⟨k + 1, by omega, by omega, by go_num, ?_, trivial⟩
        rw [E.out]
        exact congrArg (Value.int .u16) (by omega)
      case measure => simp [intOf]; omega
    · obtain rfl : k = 16 := by omega
      clear c0
      go_wp2
      go_ret
      exact ⟨rfl, rfl⟩
end Hd
end Go.Proofs.Ytbacnjkookakcaa
