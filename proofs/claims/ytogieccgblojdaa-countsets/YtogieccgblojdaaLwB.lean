/- The laws on two sets, on what leads back, and on sets against the document's: the walks. -/
import Derived.Test.YtogieccgblojdaaLwA
namespace Go.Proofs.Ytogieccgblojdaa
open Go.RowKit

namespace Cn
theorem size_minus {a b : Nat} (hb : b < 65536) : sizeS (a &&& (65535 - b)) + sizeS (a &&& b) = sizeS a := by
  refine size_of_test fun j hj => ?_
  have e : 65535 - b = 2 ^ 16 - (b + 1) := by omega
  rw [Nat.testBit_and, e, Nat.testBit_two_pow_sub_succ hb, decide_eq_true hj]
  simp
end Cn

set_option maxHeartbeats 2000000 in
theorem union_walk (a b : Nat) (w : World) (ha : a < 65536) (hb : b < 65536) : Calls Try.prog 9 #[.int .u16 (a : Nat), .int .u16 (b : Nat)] w fun e w' => e = .returned (.bool true) ∧ Below w.heap.size w w' := by
  have u1 := u16_or_nat a b ha hb
  have u2 := u16_and_nat a b ha hb
  have u3 := u16_andNot_nat a b ha hb
  have e1 := Cn.size_or a b
  have e2 := Cn.size_minus (a := a) hb
  have l1 : a ||| b < 65536 := Nat.or_lt_two_pow (n := 16) ha hb
  have l2 : a &&& b < 65536 := Nat.and_lt_two_pow (n := 16) _ hb
  have l3 : a &&& (65535 - b) < 65536 := Nat.and_lt_two_pow (n := 16) _ (by omega)
  have k1 := fun W (h : Below w.heap.size w W) => c_size (a ||| b) l1 h
  have k2 := fun W (h : Below w.heap.size w W) => c_size (a &&& b) l2 h
  have k3 := fun W (h : Below w.heap.size w W) => c_size (a &&& (65535 - b)) l3 h
  have k4 := fun W (h : Below w.heap.size w W) => c_size a ha h
  have k5 := fun W (h : Below w.heap.size w W) => c_size b hb h
  have m1 := Cn.size_le (a ||| b)
  have m2 := Cn.size_le (a &&& b)
  have m4 := Cn.size_le a
  have m5 := Cn.size_le b
  generalize Cn.sizeS (a ||| b) = x1 at *
  generalize Cn.sizeS (a &&& b) = x2 at *
  generalize Cn.sizeS (a &&& (65535 - b)) = x3 at *
  generalize Cn.sizeS a = x4 at *
  generalize Cn.sizeS b = x5 at *
  generalize a ||| b = y1 at *
  generalize a &&& b = y2 at *
  generalize a &&& (65535 - b) = y3 at *
  have i1 : (x1 : Int) + (x2 : Int) = (x4 : Int) + (x5 : Int) := by omega
  have i2 : (x3 : Int) = (x4 : Int) - (x2 : Int) := by omega
  have n1 : (x1 : Int) ≤ 16 := by omega
  have n2 : (x2 : Int) ≤ 16 := by omega
  have n4 : (x4 : Int) ≤ 16 := by omega
  have n5 : (x5 : Int) ≤ 16 := by omega
  clear e1 e2 l1 l2 l3 m1 m2 m4 m5
  go_enter Try.func9, Try.ntmps9
  go_wp2_with fail
  refine (alive_any w).mono ?_; rintro e w1 ⟨rfl, b1⟩
  go_wp2_with fail
  refine (k1 w1 b1).mono ?_; rintro e w2 ⟨rfl, b2⟩
  go_wp2_with fail
  refine (k2 w2 b2).mono ?_; rintro e w3 ⟨rfl, b3⟩
  go_wp2_with fail
  refine (k4 w3 b3).mono ?_; rintro e w4 ⟨rfl, b4⟩
  go_wp2_with fail
  refine (k5 w4 b4).mono ?_; rintro e w5 ⟨rfl, b5⟩
  go_wp2_with fail
  refine (k3 w5 b5).mono ?_; rintro e w6 ⟨rfl, b6⟩
  go_wp2_with fail
  refine (k4 w6 b6).mono ?_; rintro e w7 ⟨rfl, b7⟩
  go_wp2_with fail
  refine (k2 w7 b7).mono ?_; rintro e w8 ⟨rfl, b8⟩
  go_wp2
  go_ret
  exact ⟨rfl, b8⟩

theorem back_start (s : Nat) (w : World) (hs : s < 65536) : ∀ W, Below w.heap.size w W → Calls Try.prog 30 #[.int .u16 (s : Nat)] W fun e w' => ∃ a cap, e = .returned (.slice a (Cn.sizeS s) cap) ∧ Below w.heap.size w w' ∧ Calls Try.prog 19 #[.slice a (Cn.sizeS s) cap] w' fun e w'' => e = .returned (.tuple #[.int .u16 (s : Nat), .bool true]) ∧ w'' = w' := by
  intro W hb
  refine (c_list s hs hb).mono ?_
  rintro e w' ⟨a, cap, rfl, hat, _, hb2⟩
  refine ⟨a, cap, rfl, hb2, ?_⟩
  have h := of_any a (Cn.sizeS s) cap (Cn.listS s) w' (Cn.size_list s) (by have := Cn.size_le s; omega) hat
  rw [Cn.of_list hs] at h
  exact h

set_option maxHeartbeats 2000000 in
theorem back_big (s id : Nat) (w : World) (hs : s < 65536) (h : 15 < id) : Calls Try.prog 5 #[.int .u16 (s : Nat), .int .u8 (id : Nat)] w fun e w' => e = .returned (.bool true) ∧ Below w.heap.size w w' := by
  have k0 := back_start s w hs
  have k1 := fun W (h : Below w.heap.size w W) => c_size s hs h
  have k2 := fun W => has_any s id W hs
  have f1 : Cn.hasS s id = false := by unfold Cn.hasS; rw [decide_eq_false (by omega)]; rfl
  have k3 := fun W => with_any s id W hs
  have k4 := fun W => without_any s id W hs
  rw [f1] at k2
  rw [show Cn.withS s id = s by unfold Cn.withS; rw [decide_eq_false (by omega)]; rfl] at k3
  rw [show Cn.withoutS s id = s by unfold Cn.withoutS; rw [f1]; rfl] at k4
  have t1 : (15 : Int) < (id : Int) := by omega
  clear hs f1
  generalize Cn.sizeS s = x at *
  go_enter Try.func5, Try.ntmps5
  go_wp2_with fail
  refine (alive_any w).mono ?_; rintro e w1 ⟨rfl, b1⟩
  go_wp2_with fail
  refine (k0 w1 b1).mono ?_; rintro e w2 ⟨a, cap, rfl, b2, hof⟩
  go_wp2_with fail
  refine hof.mono ?_; rintro e w' ⟨rfl, hw⟩
  replace hw := hw.symm; subst hw
  clear hof
  go_wp2_with fail
  refine (k0 w2 b2).mono ?_; rintro e w3 ⟨a2, cap2, rfl, b3, -⟩
  go_wp2_with fail
  refine (k1 w3 b3).mono ?_; rintro e w4 ⟨rfl, b4⟩
  go_wp2_with fail
  refine (k2 w4).mono ?_; rintro e w' ⟨rfl, hw⟩
  replace hw := hw.symm; subst hw
  go_wp2_with fail
  refine (k3 w4).mono ?_; rintro e w' ⟨rfl, hw⟩
  replace hw := hw.symm; subst hw
  go_wp2_with fail
  refine (k4 w4).mono ?_; rintro e w' ⟨rfl, hw⟩
  replace hw := hw.symm; subst hw
  go_wp2
  go_ret
  exact ⟨rfl, b4⟩

set_option maxHeartbeats 2000000 in
theorem back_in (s id : Nat) (w : World) (hs : s < 65536) (hi : id ≤ 15) (hh : Cn.hasS s id = true) : Calls Try.prog 5 #[.int .u16 (s : Nat), .int .u8 (id : Nat)] w fun e w' => e = .returned (.bool true) ∧ Below w.heap.size w w' := by
  have k0 := back_start s w hs
  have k1 := fun W (h : Below w.heap.size w W) => c_size s hs h
  have k2 := fun W => has_any s id W hs
  have l1 := Cn.without_small (id := id) hs
  have k3 := fun W => without_any s id W hs
  have k4 := fun W => with_any (Cn.withoutS s id) id W l1
  have k5 := fun W (h : Below w.heap.size w W) => c_size (Cn.withoutS s id) l1 h
  rw [Cn.with_without hh] at k4
  rw [hh] at k2
  have e1 := Cn.size_without hh
  have m1 := Cn.size_le s
  have t1 : ¬ (15 : Int) < (id : Int) := by omega
  generalize Cn.sizeS (Cn.withoutS s id) = y at *
  generalize Cn.withoutS s id = t at *
  have i1 : (y : Int) = (Cn.sizeS s : Int) - 1 := by omega
  have n1 : (Cn.sizeS s : Int) ≤ 16 := by omega
  clear hs hh l1 e1 m1
  generalize Cn.sizeS s = x at *
  go_enter Try.func5, Try.ntmps5
  go_wp2_with fail
  refine (alive_any w).mono ?_; rintro e w1 ⟨rfl, b1⟩
  go_wp2_with fail
  refine (k0 w1 b1).mono ?_; rintro e w2 ⟨a, cap, rfl, b2, hof⟩
  go_wp2_with fail
  refine hof.mono ?_; rintro e w' ⟨rfl, hw⟩
  replace hw := hw.symm; subst hw
  clear hof
  go_wp2_with fail
  refine (k0 w2 b2).mono ?_; rintro e w3 ⟨a2, cap2, rfl, b3, -⟩
  go_wp2_with fail
  refine (k1 w3 b3).mono ?_; rintro e w4 ⟨rfl, b4⟩
  go_wp2_with fail
  refine (k2 w4).mono ?_; rintro e w' ⟨rfl, hw⟩
  replace hw := hw.symm; subst hw
  go_wp2_with fail
  refine (k3 w4).mono ?_; rintro e w' ⟨rfl, hw⟩
  replace hw := hw.symm; subst hw
  go_wp2_with fail
  refine (k4 w4).mono ?_; rintro e w' ⟨rfl, hw⟩
  replace hw := hw.symm; subst hw
  go_wp2_with fail
  refine (k3 w4).mono ?_; rintro e w' ⟨rfl, hw⟩
  replace hw := hw.symm; subst hw
  go_wp2_with fail
  refine (k5 w4 b4).mono ?_; rintro e w5 ⟨rfl, b5⟩
  go_wp2_with fail
  refine (k1 w5 b5).mono ?_; rintro e w6 ⟨rfl, b6⟩
  go_wp2
  go_ret
  exact ⟨rfl, b6⟩

set_option maxHeartbeats 2000000 in
theorem back_out (s id : Nat) (w : World) (hs : s < 65536) (hi : id ≤ 15) (hh : Cn.hasS s id = false) : Calls Try.prog 5 #[.int .u16 (s : Nat), .int .u8 (id : Nat)] w fun e w' => e = .returned (.bool true) ∧ Below w.heap.size w w' := by
  have k0 := back_start s w hs
  have k1 := fun W (h : Below w.heap.size w W) => c_size s hs h
  have k2 := fun W => has_any s id W hs
  have l1 := Cn.with_small (id := id) hs
  have k3 := fun W => with_any s id W hs
  have k4 := fun W => without_any (Cn.withS s id) id W l1
  have k5 := fun W (h : Below w.heap.size w W) => c_size (Cn.withS s id) l1 h
  rw [Cn.without_with hh] at k4
  rw [hh] at k2
  have e1 := Cn.size_with hi hh
  have m1 := Cn.size_le s
  have t1 : ¬ (15 : Int) < (id : Int) := by omega
  generalize Cn.sizeS (Cn.withS s id) = y at *
  generalize Cn.withS s id = t at *
  have i1 : (y : Int) = (Cn.sizeS s : Int) + 1 := by omega
  have n1 : (Cn.sizeS s : Int) ≤ 16 := by omega
  clear hs hh l1 e1 m1
  generalize Cn.sizeS s = x at *
  go_enter Try.func5, Try.ntmps5
  go_wp2_with fail
  refine (alive_any w).mono ?_; rintro e w1 ⟨rfl, b1⟩
  go_wp2_with fail
  refine (k0 w1 b1).mono ?_; rintro e w2 ⟨a, cap, rfl, b2, hof⟩
  go_wp2_with fail
  refine hof.mono ?_; rintro e w' ⟨rfl, hw⟩
  replace hw := hw.symm; subst hw
  clear hof
  go_wp2_with fail
  refine (k0 w2 b2).mono ?_; rintro e w3 ⟨a2, cap2, rfl, b3, -⟩
  go_wp2_with fail
  refine (k1 w3 b3).mono ?_; rintro e w4 ⟨rfl, b4⟩
  go_wp2_with fail
  refine (k2 w4).mono ?_; rintro e w' ⟨rfl, hw⟩
  replace hw := hw.symm; subst hw
  go_wp2_with fail
  refine (k3 w4).mono ?_; rintro e w' ⟨rfl, hw⟩
  replace hw := hw.symm; subst hw
  go_wp2_with fail
  refine (k4 w4).mono ?_; rintro e w' ⟨rfl, hw⟩
  replace hw := hw.symm; subst hw
  go_wp2_with fail
  refine (k3 w4).mono ?_; rintro e w' ⟨rfl, hw⟩
  replace hw := hw.symm; subst hw
  go_wp2_with fail
  refine (k5 w4 b4).mono ?_; rintro e w5 ⟨rfl, b5⟩
  go_wp2_with fail
  refine (k1 w5 b5).mono ?_; rintro e w6 ⟨rfl, b6⟩
  go_wp2
  go_ret
  exact ⟨rfl, b6⟩

theorem back_walk (s id : Nat) (w : World) (hs : s < 65536) : Calls Try.prog 5 #[.int .u16 (s : Nat), .int .u8 (id : Nat)] w fun e w' => e = .returned (.bool true) ∧ Below w.heap.size w w' := by
  by_cases h : 15 < id
  · exact back_big s id w hs h
  · cases hh : Cn.hasS s id with
    | true => exact back_in s id w hs (by omega) hh
    | false => exact back_out s id w hs (by omega) hh

set_option maxHeartbeats 2000000 in
theorem sets_many (s id n cap : Nat) (a : Option Addr) (w : World) (hn : 100 < n) : Calls Try.prog 4 #[.int .u16 (s : Nat), .int .u8 (id : Nat), .slice a n cap] w fun e w' => e = .returned (.bool true) ∧ Below w.heap.size w w' := by
  have t1 : (100 : Int) < (n : Int) := by omega
  go_enter Try.func4, Try.ntmps4
  go_wp2_with fail
  refine (alive_any w).mono ?_; rintro e w1 ⟨rfl, hb⟩
  go_wp2
  go_ret
  exact ⟨rfl, hb⟩

set_option maxHeartbeats 4000000 in
theorem sets_few (s id n cap : Nat) (a : Option Addr) (l : List Nat) (w : World) (hs : s < 65536) (hi : id < 256) (hn : n ≤ 100) (hl : l.length = n) (hat : AtN w a l) (h8 : ∀ x ∈ l, x < 256) : Calls Try.prog 4 #[.int .u16 (s : Nat), .int .u8 (id : Nat), .slice a n cap] w fun e w' => e = .returned (.bool true) ∧ Below w.heap.size w w' := by
  have A : Aside (∀ W, Below w.heap.size w W → Calls Try.prog 19 #[.slice a n cap] W fun e w' => e = .returned (ofV (Cn.ofS 0 l)) ∧ w' = W) := fun W h => of_any a n cap l W hl (by omega) (atN_later h hat)
  have B : Aside (∀ W, Below w.heap.size w W → Calls Try.prog 20 #[.slice a n cap] W fun e w' => e = .returned (ofV (Cn.ofS 0 l)) ∧ w' = W) := fun W h => rof_any a n cap l W hl (by omega) (atN_later h hat) h8
  have k1 := fun W => has_any s id W hs
  have k2 := fun W => rhas_any s id W hs hi
  have k3 := fun W => with_any s id W hs
  have k4 := fun W => rwith_any s id W hs hi
  have k5 := fun W => without_any s id W hs
  have k6 := fun W => rwithout_any s id W hs hi
  have k7 := fun W (h : Below w.heap.size w W) => c_size s hs h
  have k8 : ∀ W, Below w.heap.size w W → Calls Try.prog 28 #[.int .u16 (s : Nat)] W fun e w' => e = .returned (.int .i64 (Cn.sizeS s : Nat)) ∧ Below w.heap.size w w' := fun W h => (rsize_any s W hs).mono fun e w' ⟨h1, h2⟩ => ⟨h1, below_step h h2⟩
  have k9 : ∀ W, Below w.heap.size w W → Calls Try.prog 30 #[.int .u16 (s : Nat)] W fun e w' => ∃ b c, e = .returned (.slice b (Cn.sizeS s) c) ∧ Below w.heap.size w w' ∧
      Calls Try.prog 31 #[.int .u16 (s : Nat)] w' fun e w2 => ∃ b2 c2, e = .returned (.slice b2 (Cn.sizeS s) c2) ∧ Below w.heap.size w w2 ∧
      Calls Try.prog 29 #[.slice b (Cn.sizeS s) c, .slice b2 (Cn.sizeS s) c2] w2 fun e w3 => e = .returned (.bool true) ∧ Below w.heap.size w w3 := by
    intro W h
    refine (c_list s hs h).mono ?_
    rintro e w' ⟨b, c, rfl, h1, _, h2⟩
    refine ⟨b, c, rfl, h2, ?_⟩
    refine (rlist_any s w' hs).mono ?_
    rintro e w2 ⟨b2, c2, rfl, h3, h4⟩
    refine ⟨b2, c2, rfl, below_step h2 h4, ?_⟩
    refine (same_yes b b2 (Cn.sizeS s) c c2 (Cn.listS s) w2 (Cn.size_list s) (atN_later h4 h1) h3 (by have := Cn.size_le s; omega)).mono ?_
    rintro e w3 ⟨rfl, h5⟩
    exact ⟨rfl, below_step (below_step h2 h4) h5⟩
  have t1 : ¬ (100 : Int) < (n : Int) := by omega
  generalize Cn.hasS s id = x1 at *
  generalize Cn.withS s id = x2 at *
  generalize Cn.withoutS s id = x3 at *
  generalize Cn.sizeS s = x4 at *
  clear hs hi hat h8 hl
  have o : (∃ t : Nat, ofV (Cn.ofS 0 l) = .tuple #[.int .u16 (t : Nat), .bool true]) ∨ ofV (Cn.ofS 0 l) = .tuple #[.int .u16 0, .bool false] := by
    cases Cn.ofS 0 l with
    | none => exact .inr rfl
    | some t => exact .inl ⟨t, rfl⟩
  rcases o with ⟨t, ho⟩ | ho
  all_goals
    rw [ho] at A B
    clear ho
    go_enter Try.func4, Try.ntmps4
    go_wp2_with fail
    refine (alive_any w).mono ?_; rintro e w1 ⟨rfl, b1⟩
    go_wp2_with fail
    refine (A.out w1 b1).mono ?_; rintro e w' ⟨rfl, hw⟩
    replace hw := hw.symm; subst hw
    go_wp2_with fail
    refine (B.out w1 b1).mono ?_; rintro e w' ⟨rfl, hw⟩
    replace hw := hw.symm; subst hw
    go_wp2_with fail
    refine (k1 w1).mono ?_; rintro e w' ⟨rfl, hw⟩
    replace hw := hw.symm; subst hw
    go_wp2_with fail
    refine (k2 w1).mono ?_; rintro e w' ⟨rfl, hw⟩
    replace hw := hw.symm; subst hw
    go_wp2_with fail
    refine (k3 w1).mono ?_; rintro e w' ⟨rfl, hw⟩
    replace hw := hw.symm; subst hw
    go_wp2_with fail
    refine (k4 w1).mono ?_; rintro e w' ⟨rfl, hw⟩
    replace hw := hw.symm; subst hw
    go_wp2_with fail
    refine (k5 w1).mono ?_; rintro e w' ⟨rfl, hw⟩
    replace hw := hw.symm; subst hw
    go_wp2_with fail
    refine (k6 w1).mono ?_; rintro e w' ⟨rfl, hw⟩
    replace hw := hw.symm; subst hw
    go_wp2_with fail
    refine (k7 w1 b1).mono ?_; rintro e w2 ⟨rfl, b2⟩
    go_wp2_with fail
    refine (k8 w2 b2).mono ?_; rintro e w3 ⟨rfl, b3⟩
    go_wp2_with fail
    refine (k9 w3 b3).mono ?_; rintro e w4 ⟨c1, c2, rfl, b4, hr⟩
    go_wp2_with fail
    refine hr.mono ?_; rintro e w5 ⟨c3, c4, rfl, b5, hq⟩
    go_wp2_with fail
    refine hq.mono ?_; rintro e w6 ⟨rfl, b6⟩
    clear hr hq
    go_wp2
    go_ret
    exact ⟨rfl, b6⟩

end Go.Proofs.Ytogieccgblojdaa
