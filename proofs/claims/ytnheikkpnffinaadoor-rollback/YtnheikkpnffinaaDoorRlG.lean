/- Views and changes compared; alive answers true. -/
import Derived.Test.YtnheikkpnffinaaDoorRlF
set_option linter.unusedVariables false
namespace Go.Proofs.YtnheikkpnffinaaDoor
open Go.RowKit
namespace Rl
open Cn

set_option maxRecDepth 100000 in
theorem eql29 (v v' : Int) (s s' : Nat) (w : World) : (binOp .eql 29 (.agg #[.int .i64 v, .int .u16 (s : Int)]) (.agg #[.int .i64 v', .int .u16 (s' : Int)])).run Tryd.prog w = .ok (.bool (decide (v = v' ∧ s = s'))) w := by
  have u3 := Tryd.underlying3
  have a3 := Tryd.isAgg3
  have z3 := Tryd.sizeOf3
  have u23 := Tryd.underlying23
  have a23 := Tryd.isAgg23
  have z23 := Tryd.sizeOf23
  have hS : Tryd.prog.underlying 29 = some (.struct (Tryd.prog.fieldsOf 29)) := by kernel_rfl
  have hp : Tryd.prog.stoodInHeld 29 = false := by kernel_rfl
  rw [run_eql_struct, show (10000 : Nat) = 9999 + 1 from rfl, run_equalIn_agg w 9999 29 _ _ hS hp]
  simp only [Program.fieldsOf, Tryd.underlying29]
  go_simp
  by_cases h1 : v = v'
  · by_cases h2 : s = s'
    · simp [h1, h2]
    · have : ¬ ((s : Int) = (s' : Int)) := by omega
      simp [h1, h2, this]
  · simp [h1]
theorem eql29_guard (x y : Operand) (xs ys : Array Value) (w : World) : (eqGuard .eql 29 x y (.agg xs) (.agg ys)).run Tryd.prog w = .ok () w :=
  run_eqGuard_agg w .eql 29 x y xs ys (by kernel_rfl)

set_option maxRecDepth 100000 in
theorem eql25 (v v' : Int) (s s' : Nat) (w : World) : (binOp .eql 25 (.agg #[.int .i64 v, .int .u16 (s : Int)]) (.agg #[.int .i64 v', .int .u16 (s' : Int)])).run Tryd.prog w = .ok (.bool (decide (v = v' ∧ s = s'))) w := by
  have u3 := Tryd.underlying3
  have a3 := Tryd.isAgg3
  have z3 := Tryd.sizeOf3
  have u23 := Tryd.underlying23
  have a23 := Tryd.isAgg23
  have z23 := Tryd.sizeOf23
  have hS : Tryd.prog.underlying 25 = some (.struct (Tryd.prog.fieldsOf 25)) := by kernel_rfl
  have hp : Tryd.prog.stoodInHeld 25 = false := by kernel_rfl
  rw [run_eql_struct, show (10000 : Nat) = 9999 + 1 from rfl, run_equalIn_agg w 9999 25 _ _ hS hp]
  simp only [Program.fieldsOf, Tryd.underlying25]
  go_simp
  by_cases h1 : v = v'
  · by_cases h2 : s = s'
    · simp [h1, h2]
    · have : ¬ ((s : Int) = (s' : Int)) := by omega
      simp [h1, h2, this]
  · simp [h1]
theorem eql25_guard (x y : Operand) (xs ys : Array Value) (w : World) : (eqGuard .eql 25 x y (.agg xs) (.agg ys)).run Tryd.prog w = .ok () w :=
  run_eqGuard_agg w .eql 25 x y xs ys (by kernel_rfl)

set_option maxRecDepth 100000 in
theorem eql33 (a a' : Bool) (i i' : Nat) (w : World) : (binOp .eql 33 (.agg #[.bool a, .int .u8 (i : Int)]) (.agg #[.bool a', .int .u8 (i' : Int)])).run Tryd.prog w = .ok (.bool (decide (a = a' ∧ i = i'))) w := by
  have u4 := Tryd.underlying4
  have a4 := Tryd.isAgg4
  have z4 := Tryd.sizeOf4
  have u5 := Tryd.underlying5
  have a5 := Tryd.isAgg5
  have z5 := Tryd.sizeOf5
  have hS : Tryd.prog.underlying 33 = some (.struct (Tryd.prog.fieldsOf 33)) := by kernel_rfl
  have hp : Tryd.prog.stoodInHeld 33 = false := by kernel_rfl
  rw [run_eql_struct, show (10000 : Nat) = 9999 + 1 from rfl, run_equalIn_agg w 9999 33 _ _ hS hp]
  simp only [Program.fieldsOf, Tryd.underlying33]
  go_simp
  by_cases h1 : a = a'
  · by_cases h2 : i = i'
    · simp [h1, h2]
    · have : ¬ ((i : Int) = (i' : Int)) := by omega
      simp [h1, h2, this]
  · simp [h1]
theorem eql33_guard (x y : Operand) (xs ys : Array Value) (w : World) : (eqGuard .eql 33 x y (.agg xs) (.agg ys)).run Tryd.prog w = .ok () w :=
  run_eqGuard_agg w .eql 33 x y xs ys (by kernel_rfl)

set_option maxRecDepth 100000 in
theorem eql27 (a a' : Bool) (i i' : Nat) (w : World) : (binOp .eql 27 (.agg #[.bool a, .int .u8 (i : Int)]) (.agg #[.bool a', .int .u8 (i' : Int)])).run Tryd.prog w = .ok (.bool (decide (a = a' ∧ i = i'))) w := by
  have u4 := Tryd.underlying4
  have a4 := Tryd.isAgg4
  have z4 := Tryd.sizeOf4
  have u5 := Tryd.underlying5
  have a5 := Tryd.isAgg5
  have z5 := Tryd.sizeOf5
  have hS : Tryd.prog.underlying 27 = some (.struct (Tryd.prog.fieldsOf 27)) := by kernel_rfl
  have hp : Tryd.prog.stoodInHeld 27 = false := by kernel_rfl
  rw [run_eql_struct, show (10000 : Nat) = 9999 + 1 from rfl, run_equalIn_agg w 9999 27 _ _ hS hp]
  simp only [Program.fieldsOf, Tryd.underlying27]
  go_simp
  by_cases h1 : a = a'
  · by_cases h2 : i = i'
    · simp [h1, h2]
    · have : ¬ ((i : Int) = (i' : Int)) := by omega
      simp [h1, h2, this]
  · simp [h1]
theorem eql27_guard (x y : Operand) (xs ys : Array Value) (w : World) : (eqGuard .eql 27 x y (.agg xs) (.agg ys)).run Tryd.prog w = .ok () w :=
  run_eqGuard_agg w .eql 27 x y xs ys (by kernel_rfl)

theorem one_ap : appE 0 3 true 3 = 0 ∧ appV 0 3 true 3 = 1 ∧ appS 0 3 true 3 = 11 := by decide +kernel
theorem one_pa : parse ⟨#[45, 49, 53]⟩ = (false, 15, 0) ∧ parse ⟨#[43, 48, 51]⟩ = (false, 0, 4) ∧ txt false 15 = ⟨#[45, 49, 53]⟩ := by decide +kernel
theorem one_ri : rightB 1 11 = true := by decide +kernel

theorem al10 (W : World) : Calls Tryd.prog 10 #[.agg #[.int .i64 0, .int .u16 3], .agg #[.bool true, .int .u8 3]] W fun e w' => e = .returned (.tuple #[.agg #[.int .i64 1, .int .u16 11], .int .i64 0]) ∧ Below W.heap.size W w' := by
  have h := apply_any 0 3 true 3 W (by decide)
  rw [one_ap.1, one_ap.2.1, one_ap.2.2] at h
  exact h
theorem al14 (W : World) : Calls Tryd.prog 14 #[.string ⟨#[45, 49, 53]⟩] W fun e w' => e = .returned (.tuple #[.agg #[.bool false, .int .u8 15], .int .i64 0]) ∧ Below W.heap.size W w' := by
  have h := parse_any ⟨#[45, 49, 53]⟩ W
  rw [one_pa.1] at h
  exact h
theorem bl14 (W : World) : Calls Tryd.prog 14 #[.string ⟨#[43, 48, 51]⟩] W fun e w' => e = .returned (.tuple #[.agg #[.bool false, .int .u8 0], .int .i64 4]) ∧ Below W.heap.size W w' := by
  have h := parse_any ⟨#[43, 48, 51]⟩ W
  rw [one_pa.2.1] at h
  exact h
theorem al16 (W : World) : Calls Tryd.prog 16 #[.agg #[.bool false, .int .u8 15]] W fun e w' => e = .returned (.string ⟨#[45, 49, 53]⟩) ∧ Below W.heap.size W w' := by
  have h := text_any false 15 W (by decide) (.inl (by decide))
  rw [one_pa.2.2] at h
  exact h
theorem al12 (W : World) : Calls Tryd.prog 12 #[.agg #[.int .i64 1, .int .u16 11]] W fun e w' => e = .returned (.bool true) ∧ Below W.heap.size W w' := by
  have h := right_any 1 11 W
  rw [one_ri] at h
  exact h

set_option maxHeartbeats 1000000 in
set_option maxRecDepth 100000 in
theorem alive_any (w : World) : Calls Tryd.prog 9 #[] w fun e w' => e = .returned (.bool true) ∧ Below w.heap.size w w' := by
  have C10 : Aside (∀ W, _) := al10
  have C14 : Aside (∀ W, _) := al14
  have D14 : Aside (∀ W, _) := bl14
  have C16 : Aside (∀ W, _) := al16
  have C12 : Aside (∀ W, _) := al12
  have q1 := fun W => eql29 1 1 11 11 W
  have q2 := fun W => eql33 false false 15 15 W
  have g1 := fun x y xs ys W => eql29_guard x y xs ys W
  have g2 := fun x y xs ys W => eql33_guard x y xs ys W
  rw [show decide ((1 : Int) = 1 ∧ (11 : Nat) = 11) = true from rfl] at q1
  rw [show decide (false = false ∧ (15 : Nat) = 15) = true from rfl] at q2
  generalize h1 : (⟨#[45, 49, 53]⟩ : ByteArray) = s1 at *
  generalize h2 : (⟨#[43, 48, 51]⟩ : ByteArray) = s2 at *
  go_enter Tryd.func9, Tryd.ntmps9
  simp only [h1, h2]
  clear h1 h2
  go_wp2_with (first
    | (go_at_call 10; refine (C10.out _).mono ?_; rintro e w1 ⟨rfl, hb1⟩; have Y1 : Aside (P2 (w1.alloc (.cells #[.int .i64 1, .int .u16 11] 29)) w1.heap.size 29 (.int .i64 1) (.int .u16 11) ∧ Below w.heap.size w (w1.alloc (.cells #[.int .i64 1, .int .u16 11] 29))) := ⟨P2.new _ _ _ _, hb1.alloc hb1.size _⟩; clear hb1)
    | (go_at_call 14; (with_reducible refine (C14.out _).mono ?_); rintro e w2 ⟨rfl, hb1⟩; have Y2 : Aside (P2 (w2.alloc (.cells #[.bool false, .int .u8 15] 33)) w1.heap.size 29 _ _ ∧ P2 (w2.alloc (.cells #[.bool false, .int .u8 15] 33)) w2.heap.size 33 _ _ ∧ Below w.heap.size w (w2.alloc (.cells #[.bool false, .int .u8 15] 33))) := ⟨(Y1.out.1.later hb1).alloc _, P2.new _ _ _ _, (below_step Y1.out.2 hb1).alloc (below_step Y1.out.2 hb1).size _⟩; clear hb1)
    | (go_at_call 14; (with_reducible refine (D14.out _).mono ?_); rintro e w3 ⟨rfl, hb1⟩; have Y3 : Aside (P2 (w3.alloc (.cells #[.bool false, .int .u8 0] 33)) w1.heap.size 29 _ _ ∧ P2 (w3.alloc (.cells #[.bool false, .int .u8 0] 33)) w2.heap.size 33 _ _ ∧ Below w.heap.size w (w3.alloc (.cells #[.bool false, .int .u8 0] 33))) := ⟨(Y2.out.1.later hb1).alloc _, (Y2.out.2.1.later hb1).alloc _, (below_step Y2.out.2.2 hb1).alloc (below_step Y2.out.2.2 hb1).size _⟩; clear hb1; obtain ⟨c0, c1⟩ := Y3.out.1.cells; obtain ⟨d0, d1⟩ := Y3.out.2.1.cells)
    | (go_at_call 16; refine (C16.out _).mono ?_; rintro e w4 ⟨rfl, hb1⟩; clear c0 c1 d0 d1; have Y4 : Aside (P2 w4 w1.heap.size 29 _ _ ∧ Below w.heap.size w w4) := ⟨Y3.out.1.later hb1, below_step Y3.out.2.2 hb1⟩; clear hb1; obtain ⟨c0, c1⟩ := Y4.out.1.cells)
    | (go_at_call 12; refine (C12.out _).mono ?_; rintro e w5 ⟨rfl, hb1⟩; have B : Aside (Below w.heap.size w w5) := below_step Y4.out.2 hb1; clear hb1))
  go_ret
  exact ⟨rfl, B.out⟩
end Rl
end Go.Proofs.YtnheikkpnffinaaDoor
