/- alive: true, whatever the world. -/
import Derived.Test.YtkphpdejcmkdeaaPsO
set_option linter.unusedVariables false
namespace Go.Proofs.Ytkphpdejcmkdeaa
open Go.RowKit Go.Shelf
namespace Ps

def v1 : Nat → Nat := fun i => if i = 0 then 1 else 0
def v05 : Nat → Nat := fun i => if i = 1 then 5 else 0
def v25 : Nat → Nat := fun i => if i = 0 then 2 else if i = 1 then 5 else 0
set_option maxHeartbeats 8000000 in
set_option maxRecDepth 100000 in
theorem alive_any (w : World) : Calls Try.prog 9 #[] w fun e w' => e = .returned (.bool true) ∧ Below w.heap.size w w' := by
  obtain ⟨E, hE⟩ : ∃ E : ByteArray, E = encS exB := ⟨_, rfl⟩
  have C14 : Aside (∀ W, Calls Try.prog 14 #[.agg (bdA exB)] W fun e w' => e = .returned (.tuple #[.string E, .int .i64 0]) ∧ Below W.heap.size W w') := fun W => by
    have := encode_bd exB W exB_small
    rw [exB_enc.2, ← hE] at this; exact this
  have C16 : Aside (∀ W, Calls Try.prog 16 #[.string E] W fun e w' => e = .returned (.tuple #[.agg (bdA exB), .int .i64 0]) ∧ Below W.heap.size W w') := fun W => by
    have := decode_bd E W
    unfold DecP at this
    rw [show E.data.toList = bytes exB by rw [hE, exB_enc.1], exB_dec.1, exB_dec.2] at this; exact this
  have D16 : Aside (∀ W, Calls Try.prog 16 #[.string ⟨#[120]⟩] W fun e w' => e = .returned (.tuple #[.agg (bdA zeroB), .int .i64 4]) ∧ Below W.heap.size W w') := fun W => by
    have := decode_bd ⟨#[120]⟩ W
    unfold DecP decB decK at this
    rw [show (⟨#[120]⟩ : ByteArray).data.toList = [120] from rfl, ex_none] at this; exact this
  have C18 : Aside (∀ W, Calls Try.prog 18 #[.agg (bdA exB), .int .u8 0, .int .i64 2] W fun e w' => e = .returned (.bool true) ∧ Below W.heap.size W w') := fun W => by
    have := right_any exB 0 2 W exB_small
    rw [show rightB exB 0 2 = true by decide +kernel] at this; exact this
  have D18 : Aside (∀ W, Calls Try.prog 18 #[.agg (bdA exB), .int .u8 1, .int .i64 2] W fun e w' => e = .returned (.bool false) ∧ Below W.heap.size W w') := fun W => by
    have := right_any exB 1 2 W exB_small
    rw [show rightB exB 1 2 = false by decide +kernel] at this; exact this
  have C10 : Aside (∀ W, Calls Try.prog 10 #[.agg #[.int .u16 1, .int .u16 0, .int .u16 0, .int .u16 0, .int .u16 0, .int .u16 0, .int .u16 0, .int .u16 0, .int .u16 0, .int .u16 0, .int .u16 0, .int .u16 0, .int .u16 0, .int .u16 0, .int .u16 0, .int .u16 0], .agg (vecA exB.past)] W fun e w' => e = .returned (.bool true) ∧ Below W.heap.size W w') := fun W => by
    have := below_any v1 exB.past W
    rw [show belowB v1 exB.past = true by decide +kernel] at this; exact this
  have C12 : Aside (∀ W, Calls Try.prog 12 #[.agg #[.int .u16 0, .int .u16 5, .int .u16 0, .int .u16 0, .int .u16 0, .int .u16 0, .int .u16 0, .int .u16 0, .int .u16 0, .int .u16 0, .int .u16 0, .int .u16 0, .int .u16 0, .int .u16 0, .int .u16 0, .int .u16 0], .agg (vecA exB.past)] W fun e w' => e = .returned (.agg (vecA (joinV v05 exB.past))) ∧ Below W.heap.size W w') := fun W => join_any v05 exB.past W
  have q1 : ∀ W, (binOp .eql 24 (.agg (vecA (joinV v05 exB.past))) (.agg #[.int .u16 2, .int .u16 5, .int .u16 0, .int .u16 0, .int .u16 0, .int .u16 0, .int .u16 0, .int .u16 0, .int .u16 0, .int .u16 0, .int .u16 0, .int .u16 0, .int .u16 0, .int .u16 0, .int .u16 0, .int .u16 0])).run Try.prog W = .ok (.bool true) W := fun W => by
    have := eql_vec (joinV v05 exB.past) v25 W
    rw [show eqV (joinV v05 exB.past) v25 = true by decide +kernel] at this; exact this
  have q2 : ∀ W, (binOp .eql 35 (.agg (bdA exB)) (.agg (bdA exB))).run Try.prog W = .ok (.bool true) W := fun W => by
    have := eql_bd35 exB exB W
    rw [eqB_alike (Alike.refl exB)] at this; exact this
  have g1 := fun x y xs ys W => guard_eql24 x y xs ys W
  have g2 := fun x y xs ys W => guard_eql35 x y xs ys W
  generalize joinV v05 exB.past = J at C12 q1
  have X1 : Aside (B18 (w.alloc (.cells #[.int .i64 1, .int .u16 2, .int .u16 1, .int .u16 0, .int .u16 0, .int .u16 0, .int .u16 0, .int .u16 0, .int .u16 0, .int .u16 0, .int .u16 0, .int .u16 0, .int .u16 0, .int .u16 0, .int .u16 0, .int .u16 0, .int .u16 0, .string ⟨#[120]⟩] 35)) w.heap.size 35 exB) := B18.new w 35 exB
  have B1 : Aside (Below w.heap.size w (w.alloc (.cells #[.int .i64 1, .int .u16 2, .int .u16 1, .int .u16 0, .int .u16 0, .int .u16 0, .int .u16 0, .int .u16 0, .int .u16 0, .int .u16 0, .int .u16 0, .int .u16 0, .int .u16 0, .int .u16 0, .int .u16 0, .int .u16 0, .int .u16 0, .string ⟨#[120]⟩] 35))) := (Below.refl _ w).alloc (Nat.le_refl _) _
  clear hE
  go_enter Try.func9, Try.ntmps9
  go_wp2_with (first
    | (with_reducible refine wpList_bd35 X1.out rfl _ rfl rfl ?_)
    | (go_at_call 14; refine (C14.out _).mono ?_; rintro e w2 ⟨rfl, hb2⟩; have X2 : Aside (B18 w2 w.heap.size 35 exB) := X1.out.later hb2; have B2 : Aside (Below w.heap.size w w2) := step_below B1.out hb2; clear hb2 X1 B1 C14)
    | (go_at_call 16; refine (C16.out _).mono ?_; rintro e w3 ⟨rfl, hb3⟩; have X3 : Aside (B18 w3 w.heap.size 35 exB) := X2.out.later hb3; have B3 : Aside (Below w.heap.size w w3) := step_below B2.out hb3; have Z3 : Aside (B18 (w3.alloc (.cells #[.int .i64 0, .int .u16 0, .int .u16 0, .int .u16 0, .int .u16 0, .int .u16 0, .int .u16 0, .int .u16 0, .int .u16 0, .int .u16 0, .int .u16 0, .int .u16 0, .int .u16 0, .int .u16 0, .int .u16 0, .int .u16 0, .int .u16 0, .string ⟨#[]⟩] 35)) w3.heap.size 35 zeroB) := B18.zero w3 35; clear hb3 X2 B2 C16)
    | (with_reducible refine wpList_bd_store35 Z3.out rfl _ _ rfl rfl rfl ?_))
  have V0 : Aside (B18 ((w3.alloc (.cells #[.int .i64 0, .int .u16 0, .int .u16 0, .int .u16 0, .int .u16 0, .int .u16 0, .int .u16 0, .int .u16 0, .int .u16 0, .int .u16 0, .int .u16 0, .int .u16 0, .int .u16 0, .int .u16 0, .int .u16 0, .int .u16 0, .int .u16 0, .string ⟨#[]⟩] 35)).setCells w3.heap.size 0 (bdA exB).toList) w3.heap.size 35 exB) := Z3.out.whole exB
  have V1 : Aside (Below w3.heap.size w3 ((w3.alloc (.cells #[.int .i64 0, .int .u16 0, .int .u16 0, .int .u16 0, .int .u16 0, .int .u16 0, .int .u16 0, .int .u16 0, .int .u16 0, .int .u16 0, .int .u16 0, .int .u16 0, .int .u16 0, .int .u16 0, .int .u16 0, .int .u16 0, .int .u16 0, .string ⟨#[]⟩] 35)).setCells w3.heap.size 0 (bdA exB).toList)) := below_cells _ _ ((Below.refl _ w3).alloc (Nat.le_refl _) _) (Nat.le_refl _)
  generalize (w3.alloc (.cells #[.int .i64 0, .int .u16 0, .int .u16 0, .int .u16 0, .int .u16 0, .int .u16 0, .int .u16 0, .int .u16 0, .int .u16 0, .int .u16 0, .int .u16 0, .int .u16 0, .int .u16 0, .int .u16 0, .int .u16 0, .int .u16 0, .int .u16 0, .string ⟨#[]⟩] 35)).setCells w3.heap.size 0 (bdA exB).toList = V at V0 V1 ⊢
  have X4 : Aside (B18 V w.heap.size 35 exB) := X3.out.later V1.out
  have B4 : Aside (Below w.heap.size w V) := step_below B3.out V1.out
  clear X3 B3 Z3 V1
  refine (D16.out V).mono ?_
  rintro e w5 ⟨rfl, hb5⟩
  have X5 : Aside (B18 w5 w.heap.size 35 exB) := X4.out.later hb5
  have Y5 : Aside (B18 w5 w3.heap.size 35 exB) := V0.out.later hb5
  have B5 : Aside (Below w.heap.size w w5) := step_below B4.out hb5
  have Z5 : Aside (B18 (w5.alloc (.cells #[.int .i64 0, .int .u16 0, .int .u16 0, .int .u16 0, .int .u16 0, .int .u16 0, .int .u16 0, .int .u16 0, .int .u16 0, .int .u16 0, .int .u16 0, .int .u16 0, .int .u16 0, .int .u16 0, .int .u16 0, .int .u16 0, .int .u16 0, .string ⟨#[]⟩] 35)) w5.heap.size 35 zeroB) := B18.zero w5 35
  have V5 : Aside (Below w5.heap.size w5 ((w5.alloc (.cells #[.int .i64 0, .int .u16 0, .int .u16 0, .int .u16 0, .int .u16 0, .int .u16 0, .int .u16 0, .int .u16 0, .int .u16 0, .int .u16 0, .int .u16 0, .int .u16 0, .int .u16 0, .int .u16 0, .int .u16 0, .int .u16 0, .int .u16 0, .string ⟨#[]⟩] 35)).setCells w5.heap.size 0 (bdA zeroB).toList)) := below_cells _ _ ((Below.refl _ w5).alloc (Nat.le_refl _) _) (Nat.le_refl _)
  have X6 : Aside (B18 ((w5.alloc (.cells #[.int .i64 0, .int .u16 0, .int .u16 0, .int .u16 0, .int .u16 0, .int .u16 0, .int .u16 0, .int .u16 0, .int .u16 0, .int .u16 0, .int .u16 0, .int .u16 0, .int .u16 0, .int .u16 0, .int .u16 0, .int .u16 0, .int .u16 0, .string ⟨#[]⟩] 35)).setCells w5.heap.size 0 (bdA zeroB).toList) w.heap.size 35 exB) := X5.out.later V5.out
  have Y6 : Aside (B18 ((w5.alloc (.cells #[.int .i64 0, .int .u16 0, .int .u16 0, .int .u16 0, .int .u16 0, .int .u16 0, .int .u16 0, .int .u16 0, .int .u16 0, .int .u16 0, .int .u16 0, .int .u16 0, .int .u16 0, .int .u16 0, .int .u16 0, .int .u16 0, .int .u16 0, .string ⟨#[]⟩] 35)).setCells w5.heap.size 0 (bdA zeroB).toList) w3.heap.size 35 exB) := Y5.out.later V5.out
  have B6 : Aside (Below w.heap.size w ((w5.alloc (.cells #[.int .i64 0, .int .u16 0, .int .u16 0, .int .u16 0, .int .u16 0, .int .u16 0, .int .u16 0, .int .u16 0, .int .u16 0, .int .u16 0, .int .u16 0, .int .u16 0, .int .u16 0, .int .u16 0, .int .u16 0, .int .u16 0, .int .u16 0, .string ⟨#[]⟩] 35)).setCells w5.heap.size 0 (bdA zeroB).toList)) := step_below B5.out V5.out
  clear hb5 X4 V0 B4 D16 X5 Y5 B5 V5
  go_wp2_with (first
    | (with_reducible refine wpList_bd_store35 Z5.out rfl _ _ rfl rfl rfl ?_)
    | (with_reducible refine wpList_bd35 X6.out rfl _ rfl rfl ?_)
    | (go_at_call 18; refine (C18.out _).mono ?_; rintro e w7 ⟨rfl, hb7⟩; have X7 : Aside (B18 w7 w.heap.size 35 exB) := X6.out.later hb7; have Y7 : Aside (B18 w7 w3.heap.size 35 exB) := Y6.out.later hb7; have B7 : Aside (Below w.heap.size w w7) := step_below B6.out hb7; clear hb7 X6 Y6 B6 C18 Z5)
    | (with_reducible refine wpList_bd35_g X7.out _ rfl rfl ?_ ?_; focus (go_simp; done))
    | (go_at_call 18; refine (D18.out _).mono ?_; rintro e w8 ⟨rfl, hb8⟩; have X8 : Aside (B18 w8 w.heap.size 35 exB) := X7.out.later hb8; have Y8 : Aside (B18 w8 w3.heap.size 35 exB) := Y7.out.later hb8; have B8 : Aside (Below w.heap.size w w8) := step_below B7.out hb8; clear hb8 X7 Y7 B7 D18)
    | (with_reducible refine wpList_bd35_g Y8.out _ rfl rfl ?_ ?_; focus (go_simp; done))
    | (with_reducible refine wpList_bd35_g X8.out _ rfl rfl ?_ ?_; focus (go_simp; done))
    | (with_reducible refine wpList_sub_g X8.out _ rfl rfl ?_ ?_; focus (go_simp; done))
    | (go_at_call 10; refine (C10.out _).mono ?_; rintro e w9 ⟨rfl, hb9⟩; have X9 : Aside (B18 w9 w.heap.size 35 exB) := X8.out.later hb9; have B9 : Aside (Below w.heap.size w w9) := step_below B8.out hb9; clear hb9 X8 Y8 B8 C10)
    | (with_reducible refine wpList_sub_g X9.out _ rfl rfl ?_ ?_; focus (go_simp; done))
    | (go_at_call 12; refine (C12.out _).mono ?_; rintro e w10 ⟨rfl, hb10⟩; have B10 : Aside (Below w.heap.size w w10) := step_below B9.out hb10; clear hb10 X9 B9 C12))
  go_ret
  exact ⟨rfl, B10.out⟩
end Ps
end Go.Proofs.Ytkphpdejcmkdeaa
