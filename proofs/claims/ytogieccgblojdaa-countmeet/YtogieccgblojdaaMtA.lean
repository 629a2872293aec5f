/- The law on two sets of enough: the walk, a way at a time. -/
import Derived.Test.YtogieccgblojdaaLwB
namespace Go.Proofs.Ytogieccgblojdaa
open Go.RowKit
set_option linter.unusedVariables false

set_option maxHeartbeats 4000000 in
theorem meet_11 (n m x0 x1 x2 A a b c r ab ar f E G Rr sA sa sb sc sr sab sar : Nat) (w : World)
    (hn : n < 256) (e0 : (n : Int) % 16 + 1 = (m : Int)) (p : Nat) (hp : IntKind.u16.wrap ((2 : Int) ^ m) = (p : Int)) (hq : IntKind.u16.wrap ((p : Int) - 1) = (A : Int))
    (u0 : bits .and .u16 (x0 : Int) (A : Int) = (a : Int)) (u1 : bits .and .u16 (x1 : Int) (A : Int) = (b : Int)) (u2 : bits .and .u16 (x2 : Int) (A : Int) = (c : Int))
    (u3 : bits .andNot .u16 (A : Int) (c : Int) = (r : Int)) (u4 : bits .and .u16 (a : Int) (b : Int) = (ab : Int)) (u5 : bits .and .u16 (a : Int) (r : Int) = (ar : Int))
    (kf : ∀ W, Calls Try.prog 11 #[.int .i64 (m : Nat)] W fun e w' => e = .returned (.int .i64 (f : Nat)) ∧ w' = W) (kE : ∀ W, Calls Try.prog 13 #[.int .i64 (m : Nat)] W fun e w' => e = .returned (.int .i64 (E : Nat)) ∧ w' = W) (kG : ∀ W, Calls Try.prog 17 #[.int .i64 (m : Nat)] W fun e w' => e = .returned (.int .i64 (G : Nat)) ∧ w' = W) (kR : ∀ W, Calls Try.prog 15 #[.int .i64 (m : Nat)] W fun e w' => e = .returned (.int .i64 (Rr : Nat)) ∧ w' = W)
    (kA : ∀ W, Below w.heap.size w W → Calls Try.prog 27 #[.int .u16 (A : Nat)] W fun e w' => e = .returned (.int .i64 (sA : Nat)) ∧ Below w.heap.size w w') (ka : ∀ W, Below w.heap.size w W → Calls Try.prog 27 #[.int .u16 (a : Nat)] W fun e w' => e = .returned (.int .i64 (sa : Nat)) ∧ Below w.heap.size w w') (kb : ∀ W, Below w.heap.size w W → Calls Try.prog 27 #[.int .u16 (b : Nat)] W fun e w' => e = .returned (.int .i64 (sb : Nat)) ∧ Below w.heap.size w w') (kc : ∀ W, Below w.heap.size w W → Calls Try.prog 27 #[.int .u16 (c : Nat)] W fun e w' => e = .returned (.int .i64 (sc : Nat)) ∧ Below w.heap.size w w') (kr : ∀ W, Below w.heap.size w W → Calls Try.prog 27 #[.int .u16 (r : Nat)] W fun e w' => e = .returned (.int .i64 (sr : Nat)) ∧ Below w.heap.size w w') (kab : ∀ W, Below w.heap.size w W → Calls Try.prog 27 #[.int .u16 (ab : Nat)] W fun e w' => e = .returned (.int .i64 (sab : Nat)) ∧ Below w.heap.size w w') (kar : ∀ W, Below w.heap.size w W → Calls Try.prog 27 #[.int .u16 (ar : Nat)] W fun e w' => e = .returned (.int .i64 (sar : Nat)) ∧ Below w.heap.size w w')
    (hf : 3 * (f : Int) + 1 ≤ (m : Int)) (hm : (m : Int) ≤ 16) (hA : (sA : Int) = (m : Int))
    (h1 : ¬ (E : Int) ≤ (sa : Int)) (h4 : ¬ (sc : Int) ≤ (f : Int)) :
    Calls Try.prog 6 #[.int .u8 (n : Nat), .agg #[.int .u16 (x0 : Nat), .int .u16 (x1 : Nat), .int .u16 (x2 : Nat)]] w fun e w' => e = .returned (.bool true) ∧ Below w.heap.size w w' := by
  have B0 : Aside (Below w.heap.size w (w.alloc (.cells #[.int .u16 (x0 : Nat), .int .u16 (x1 : Nat), .int .u16 (x2 : Nat)] 36))) := (Below.refl _ w).alloc (Nat.le_refl _) _
  have BX : Aside (∀ w1, Below (w.alloc (.cells #[.int .u16 (x0 : Nat), .int .u16 (x1 : Nat), .int .u16 (x2 : Nat)] 36)).heap.size (w.alloc (.cells #[.int .u16 (x0 : Nat), .int .u16 (x1 : Nat), .int .u16 (x2 : Nat)] 36)) w1 → w1.cell? ⟨w.heap.size, 0, none⟩ = some (.int .u16 (x0 : Nat)) ∧ w1.cell? ⟨w.heap.size, 1, none⟩ = some (.int .u16 (x1 : Nat)) ∧ w1.cell? ⟨w.heap.size, 2, none⟩ = some (.int .u16 (x2 : Nat))) :=
    fun w1 h => ⟨cell_later h (by rw [World.cell?_alloc_at _ _ _ _ rfl]; rfl), cell_later h (by rw [World.cell?_alloc_at _ _ _ _ rfl]; rfl), cell_later h (by rw [World.cell?_alloc_at _ _ _ _ rfl]; rfl)⟩
  have AL : Aside (∀ W, Calls Try.prog 10 #[] W fun e w' => e = .returned (.bool true) ∧ Below W.heap.size W w') := alive_any
  go_enter Try.func6, Try.ntmps6
  go_wp2_with fail
  refine (AL.out (w.alloc (.cells #[.int .u16 (x0 : Nat), .int .u16 (x1 : Nat), .int .u16 (x2 : Nat)] 36))).mono ?_
  rintro e w1 ⟨rfl, b0⟩
  obtain ⟨c0, c1, c2⟩ := BX.out w1 b0
  have B1 : Aside (Below w.heap.size w w1) := below_step B0.out b0
  clear b0 B0 AL BX
  go_wp2_with fail
  refine (kf w1).mono ?_; rintro e w' ⟨rfl, hw⟩
  replace hw := hw.symm; subst hw
  go_wp2_with fail
  go_quiet (fail)
  have B9 : Aside (∀ q, Below w.heap.size w (w1.drewN q)) := fun q => below_drew B1.out q
  clear B1 c0 c1 c2
  obtain ⟨w2, hw2⟩ : ∃ x, x = w1.drewN nq := ⟨_, rfl⟩
  have b2 := B9.out nq
  clear B9
  rw [← hw2] at b2 ⊢
  clear hw2
  go_wp2_with fail
  refine (kA w2 b2).mono ?_; rintro e wA ⟨rfl, bA⟩
  go_wp2_with fail
  refine (ka wA bA).mono ?_; rintro e w3 ⟨rfl, b3⟩
  go_wp2_with fail
  refine (kE w3).mono ?_; rintro e w' ⟨rfl, hw⟩
  replace hw := hw.symm; subst hw
  go_wp2_with fail
  refine (kc w3 b3).mono ?_; rintro e w4 ⟨rfl, b4⟩
  go_wp2
  go_ret
  exact ⟨rfl, b4⟩

set_option maxHeartbeats 4000000 in
theorem meet_12 (n m x0 x1 x2 A a b c r ab ar f E G Rr sA sa sb sc sr sab sar : Nat) (w : World)
    (hn : n < 256) (e0 : (n : Int) % 16 + 1 = (m : Int)) (p : Nat) (hp : IntKind.u16.wrap ((2 : Int) ^ m) = (p : Int)) (hq : IntKind.u16.wrap ((p : Int) - 1) = (A : Int))
    (u0 : bits .and .u16 (x0 : Int) (A : Int) = (a : Int)) (u1 : bits .and .u16 (x1 : Int) (A : Int) = (b : Int)) (u2 : bits .and .u16 (x2 : Int) (A : Int) = (c : Int))
    (u3 : bits .andNot .u16 (A : Int) (c : Int) = (r : Int)) (u4 : bits .and .u16 (a : Int) (b : Int) = (ab : Int)) (u5 : bits .and .u16 (a : Int) (r : Int) = (ar : Int))
    (kf : ∀ W, Calls Try.prog 11 #[.int .i64 (m : Nat)] W fun e w' => e = .returned (.int .i64 (f : Nat)) ∧ w' = W) (kE : ∀ W, Calls Try.prog 13 #[.int .i64 (m : Nat)] W fun e w' => e = .returned (.int .i64 (E : Nat)) ∧ w' = W) (kG : ∀ W, Calls Try.prog 17 #[.int .i64 (m : Nat)] W fun e w' => e = .returned (.int .i64 (G : Nat)) ∧ w' = W) (kR : ∀ W, Calls Try.prog 15 #[.int .i64 (m : Nat)] W fun e w' => e = .returned (.int .i64 (Rr : Nat)) ∧ w' = W)
    (kA : ∀ W, Below w.heap.size w W → Calls Try.prog 27 #[.int .u16 (A : Nat)] W fun e w' => e = .returned (.int .i64 (sA : Nat)) ∧ Below w.heap.size w w') (ka : ∀ W, Below w.heap.size w W → Calls Try.prog 27 #[.int .u16 (a : Nat)] W fun e w' => e = .returned (.int .i64 (sa : Nat)) ∧ Below w.heap.size w w') (kb : ∀ W, Below w.heap.size w W → Calls Try.prog 27 #[.int .u16 (b : Nat)] W fun e w' => e = .returned (.int .i64 (sb : Nat)) ∧ Below w.heap.size w w') (kc : ∀ W, Below w.heap.size w W → Calls Try.prog 27 #[.int .u16 (c : Nat)] W fun e w' => e = .returned (.int .i64 (sc : Nat)) ∧ Below w.heap.size w w') (kr : ∀ W, Below w.heap.size w W → Calls Try.prog 27 #[.int .u16 (r : Nat)] W fun e w' => e = .returned (.int .i64 (sr : Nat)) ∧ Below w.heap.size w w') (kab : ∀ W, Below w.heap.size w W → Calls Try.prog 27 #[.int .u16 (ab : Nat)] W fun e w' => e = .returned (.int .i64 (sab : Nat)) ∧ Below w.heap.size w w') (kar : ∀ W, Below w.heap.size w W → Calls Try.prog 27 #[.int .u16 (ar : Nat)] W fun e w' => e = .returned (.int .i64 (sar : Nat)) ∧ Below w.heap.size w w')
    (hf : 3 * (f : Int) + 1 ≤ (m : Int)) (hm : (m : Int) ≤ 16) (hA : (sA : Int) = (m : Int))
    (h1 : ¬ (E : Int) ≤ (sa : Int)) (h4 : (sc : Int) ≤ (f : Int)) (h5 : ¬ (sr : Int) < (E : Int)) (h6 : ¬ (sr : Int) < (G : Int)) (h7 : (G : Int) ≤ (sa : Int)) (h8 : ¬ (sar : Int) < (Rr : Int)) (h9 : (Rr : Int) ≤ (sa : Int)) (h10 : ((ar : Int) == 0) = false) :
    Calls Try.prog 6 #[.int .u8 (n : Nat), .agg #[.int .u16 (x0 : Nat), .int .u16 (x1 : Nat), .int .u16 (x2 : Nat)]] w fun e w' => e = .returned (.bool true) ∧ Below w.heap.size w w' := by
  have B0 : Aside (Below w.heap.size w (w.alloc (.cells #[.int .u16 (x0 : Nat), .int .u16 (x1 : Nat), .int .u16 (x2 : Nat)] 36))) := (Below.refl _ w).alloc (Nat.le_refl _) _
  have BX : Aside (∀ w1, Below (w.alloc (.cells #[.int .u16 (x0 : Nat), .int .u16 (x1 : Nat), .int .u16 (x2 : Nat)] 36)).heap.size (w.alloc (.cells #[.int .u16 (x0 : Nat), .int .u16 (x1 : Nat), .int .u16 (x2 : Nat)] 36)) w1 → w1.cell? ⟨w.heap.size, 0, none⟩ = some (.int .u16 (x0 : Nat)) ∧ w1.cell? ⟨w.heap.size, 1, none⟩ = some (.int .u16 (x1 : Nat)) ∧ w1.cell? ⟨w.heap.size, 2, none⟩ = some (.int .u16 (x2 : Nat))) :=
    fun w1 h => ⟨cell_later h (by rw [World.cell?_alloc_at _ _ _ _ rfl]; rfl), cell_later h (by rw [World.cell?_alloc_at _ _ _ _ rfl]; rfl), cell_later h (by rw [World.cell?_alloc_at _ _ _ _ rfl]; rfl)⟩
  have AL : Aside (∀ W, Calls Try.prog 10 #[] W fun e w' => e = .returned (.bool true) ∧ Below W.heap.size W w') := alive_any
  go_enter Try.func6, Try.ntmps6
  go_wp2_with fail
  refine (AL.out (w.alloc (.cells #[.int .u16 (x0 : Nat), .int .u16 (x1 : Nat), .int .u16 (x2 : Nat)] 36))).mono ?_
  rintro e w1 ⟨rfl, b0⟩
  obtain ⟨c0, c1, c2⟩ := BX.out w1 b0
  have B1 : Aside (Below w.heap.size w w1) := below_step B0.out b0
  clear b0 B0 AL BX
  go_wp2_with fail
  refine (kf w1).mono ?_; rintro e w' ⟨rfl, hw⟩
  replace hw := hw.symm; subst hw
  go_wp2_with fail
  go_quiet (fail)
  have B9 : Aside (∀ q, Below w.heap.size w (w1.drewN q)) := fun q => below_drew B1.out q
  clear B1 c0 c1 c2
  obtain ⟨w2, hw2⟩ : ∃ x, x = w1.drewN nq := ⟨_, rfl⟩
  have b2 := B9.out nq
  clear B9
  rw [← hw2] at b2 ⊢
  clear hw2
  go_wp2_with fail
  refine (kA w2 b2).mono ?_; rintro e wA ⟨rfl, bA⟩
  go_wp2_with fail
  refine (ka wA bA).mono ?_; rintro e w3 ⟨rfl, b3⟩
  go_wp2_with fail
  refine (kE w3).mono ?_; rintro e w' ⟨rfl, hw⟩
  replace hw := hw.symm; subst hw
  go_wp2_with fail
  refine (kc w3 b3).mono ?_; rintro e w4 ⟨rfl, b4⟩
  go_wp2_with fail
  refine (kr w4 b4).mono ?_; rintro e w5 ⟨rfl, b5⟩
  go_wp2_with fail
  refine (kE w5).mono ?_; rintro e w' ⟨rfl, hw⟩
  replace hw := hw.symm; subst hw
  go_wp2_with fail
  refine (kr w5 b5).mono ?_; rintro e w6 ⟨rfl, b6⟩
  go_wp2_with fail
  refine (kG w6).mono ?_; rintro e w' ⟨rfl, hw⟩
  replace hw := hw.symm; subst hw
  go_wp2_with fail
  refine (ka w6 b6).mono ?_; rintro e w7 ⟨rfl, b7⟩
  go_wp2_with fail
  refine (kG w7).mono ?_; rintro e w' ⟨rfl, hw⟩
  replace hw := hw.symm; subst hw
  go_wp2_with fail
  refine (kar w7 b7).mono ?_; rintro e w8 ⟨rfl, b8⟩
  go_wp2_with fail
  refine (kR w8).mono ?_; rintro e w' ⟨rfl, hw⟩
  replace hw := hw.symm; subst hw
  go_wp2_with fail
  refine (ka w8 b8).mono ?_; rintro e w9 ⟨rfl, b9⟩
  go_wp2_with fail
  refine (kR w9).mono ?_; rintro e w' ⟨rfl, hw⟩
  replace hw := hw.symm; subst hw
  go_wp2
  go_ret
  exact ⟨rfl, b9⟩

set_option maxHeartbeats 4000000 in
theorem meet_13 (n m x0 x1 x2 A a b c r ab ar f E G Rr sA sa sb sc sr sab sar : Nat) (w : World)
    (hn : n < 256) (e0 : (n : Int) % 16 + 1 = (m : Int)) (p : Nat) (hp : IntKind.u16.wrap ((2 : Int) ^ m) = (p : Int)) (hq : IntKind.u16.wrap ((p : Int) - 1) = (A : Int))
    (u0 : bits .and .u16 (x0 : Int) (A : Int) = (a : Int)) (u1 : bits .and .u16 (x1 : Int) (A : Int) = (b : Int)) (u2 : bits .and .u16 (x2 : Int) (A : Int) = (c : Int))
    (u3 : bits .andNot .u16 (A : Int) (c : Int) = (r : Int)) (u4 : bits .and .u16 (a : Int) (b : Int) = (ab : Int)) (u5 : bits .and .u16 (a : Int) (r : Int) = (ar : Int))
    (kf : ∀ W, Calls Try.prog 11 #[.int .i64 (m : Nat)] W fun e w' => e = .returned (.int .i64 (f : Nat)) ∧ w' = W) (kE : ∀ W, Calls Try.prog 13 #[.int .i64 (m : Nat)] W fun e w' => e = .returned (.int .i64 (E : Nat)) ∧ w' = W) (kG : ∀ W, Calls Try.prog 17 #[.int .i64 (m : Nat)] W fun e w' => e = .returned (.int .i64 (G : Nat)) ∧ w' = W) (kR : ∀ W, Calls Try.prog 15 #[.int .i64 (m : Nat)] W fun e w' => e = .returned (.int .i64 (Rr : Nat)) ∧ w' = W)
    (kA : ∀ W, Below w.heap.size w W → Calls Try.prog 27 #[.int .u16 (A : Nat)] W fun e w' => e = .returned (.int .i64 (sA : Nat)) ∧ Below w.heap.size w w') (ka : ∀ W, Below w.heap.size w W → Calls Try.prog 27 #[.int .u16 (a : Nat)] W fun e w' => e = .returned (.int .i64 (sa : Nat)) ∧ Below w.heap.size w w') (kb : ∀ W, Below w.heap.size w W → Calls Try.prog 27 #[.int .u16 (b : Nat)] W fun e w' => e = .returned (.int .i64 (sb : Nat)) ∧ Below w.heap.size w w') (kc : ∀ W, Below w.heap.size w W → Calls Try.prog 27 #[.int .u16 (c : Nat)] W fun e w' => e = .returned (.int .i64 (sc : Nat)) ∧ Below w.heap.size w w') (kr : ∀ W, Below w.heap.size w W → Calls Try.prog 27 #[.int .u16 (r : Nat)] W fun e w' => e = .returned (.int .i64 (sr : Nat)) ∧ Below w.heap.size w w') (kab : ∀ W, Below w.heap.size w W → Calls Try.prog 27 #[.int .u16 (ab : Nat)] W fun e w' => e = .returned (.int .i64 (sab : Nat)) ∧ Below w.heap.size w w') (kar : ∀ W, Below w.heap.size w W → Calls Try.prog 27 #[.int .u16 (ar : Nat)] W fun e w' => e = .returned (.int .i64 (sar : Nat)) ∧ Below w.heap.size w w')
    (hf : 3 * (f : Int) + 1 ≤ (m : Int)) (hm : (m : Int) ≤ 16) (hA : (sA : Int) = (m : Int))
    (h1 : ¬ (E : Int) ≤ (sa : Int)) (h4 : (sc : Int) ≤ (f : Int)) (h5 : ¬ (sr : Int) < (E : Int)) (h6 : ¬ (sr : Int) < (G : Int)) (h7 : ¬ (G : Int) ≤ (sa : Int)) (h9 : (Rr : Int) ≤ (sa : Int)) (h10 : ((ar : Int) == 0) = false) :
    Calls Try.prog 6 #[.int .u8 (n : Nat), .agg #[.int .u16 (x0 : Nat), .int .u16 (x1 : Nat), .int .u16 (x2 : Nat)]] w fun e w' => e = .returned (.bool true) ∧ Below w.heap.size w w' := by
  have B0 : Aside (Below w.heap.size w (w.alloc (.cells #[.int .u16 (x0 : Nat), .int .u16 (x1 : Nat), .int .u16 (x2 : Nat)] 36))) := (Below.refl _ w).alloc (Nat.le_refl _) _
  have BX : Aside (∀ w1, Below (w.alloc (.cells #[.int .u16 (x0 : Nat), .int .u16 (x1 : Nat), .int .u16 (x2 : Nat)] 36)).heap.size (w.alloc (.cells #[.int .u16 (x0 : Nat), .int .u16 (x1 : Nat), .int .u16 (x2 : Nat)] 36)) w1 → w1.cell? ⟨w.heap.size, 0, none⟩ = some (.int .u16 (x0 : Nat)) ∧ w1.cell? ⟨w.heap.size, 1, none⟩ = some (.int .u16 (x1 : Nat)) ∧ w1.cell? ⟨w.heap.size, 2, none⟩ = some (.int .u16 (x2 : Nat))) :=
    fun w1 h => ⟨cell_later h (by rw [World.cell?_alloc_at _ _ _ _ rfl]; rfl), cell_later h (by rw [World.cell?_alloc_at _ _ _ _ rfl]; rfl), cell_later h (by rw [World.cell?_alloc_at _ _ _ _ rfl]; rfl)⟩
  have AL : Aside (∀ W, Calls Try.prog 10 #[] W fun e w' => e = .returned (.bool true) ∧ Below W.heap.size W w') := alive_any
  go_enter Try.func6, Try.ntmps6
  go_wp2_with fail
  refine (AL.out (w.alloc (.cells #[.int .u16 (x0 : Nat), .int .u16 (x1 : Nat), .int .u16 (x2 : Nat)] 36))).mono ?_
  rintro e w1 ⟨rfl, b0⟩
  obtain ⟨c0, c1, c2⟩ := BX.out w1 b0
  have B1 : Aside (Below w.heap.size w w1) := below_step B0.out b0
  clear b0 B0 AL BX
  go_wp2_with fail
  refine (kf w1).mono ?_; rintro e w' ⟨rfl, hw⟩
  replace hw := hw.symm; subst hw
  go_wp2_with fail
  go_quiet (fail)
  have B9 : Aside (∀ q, Below w.heap.size w (w1.drewN q)) := fun q => below_drew B1.out q
  clear B1 c0 c1 c2
  obtain ⟨w2, hw2⟩ : ∃ x, x = w1.drewN nq := ⟨_, rfl⟩
  have b2 := B9.out nq
  clear B9
  rw [← hw2] at b2 ⊢
  clear hw2
  go_wp2_with fail
  refine (kA w2 b2).mono ?_; rintro e wA ⟨rfl, bA⟩
  go_wp2_with fail
  refine (ka wA bA).mono ?_; rintro e w3 ⟨rfl, b3⟩
  go_wp2_with fail
  refine (kE w3).mono ?_; rintro e w' ⟨rfl, hw⟩
  replace hw := hw.symm; subst hw
  go_wp2_with fail
  refine (kc w3 b3).mono ?_; rintro e w4 ⟨rfl, b4⟩
  go_wp2_with fail
  refine (kr w4 b4).mono ?_; rintro e w5 ⟨rfl, b5⟩
  go_wp2_with fail
  refine (kE w5).mono ?_; rintro e w' ⟨rfl, hw⟩
  replace hw := hw.symm; subst hw
  go_wp2_with fail
  refine (kr w5 b5).mono ?_; rintro e w6 ⟨rfl, b6⟩
  go_wp2_with fail
  refine (kG w6).mono ?_; rintro e w' ⟨rfl, hw⟩
  replace hw := hw.symm; subst hw
  go_wp2_with fail
  refine (ka w6 b6).mono ?_; rintro e w7 ⟨rfl, b7⟩
  go_wp2_with fail
  refine (kG w7).mono ?_; rintro e w' ⟨rfl, hw⟩
  replace hw := hw.symm; subst hw
  go_wp2_with fail
  refine (ka w7 b7).mono ?_; rintro e w8 ⟨rfl, b8⟩
  go_wp2_with fail
  refine (kR w8).mono ?_; rintro e w' ⟨rfl, hw⟩
  replace hw := hw.symm; subst hw
  go_wp2
  go_ret
  exact ⟨rfl, b8⟩

set_option maxHeartbeats 4000000 in
theorem meet_14 (n m x0 x1 x2 A a b c r ab ar f E G Rr sA sa sb sc sr sab sar : Nat) (w : World)
    (hn : n < 256) (e0 : (n : Int) % 16 + 1 = (m : Int)) (p : Nat) (hp : IntKind.u16.wrap ((2 : Int) ^ m) = (p : Int)) (hq : IntKind.u16.wrap ((p : Int) - 1) = (A : Int))
    (u0 : bits .and .u16 (x0 : Int) (A : Int) = (a : Int)) (u1 : bits .and .u16 (x1 : Int) (A : Int) = (b : Int)) (u2 : bits .and .u16 (x2 : Int) (A : Int) = (c : Int))
    (u3 : bits .andNot .u16 (A : Int) (c : Int) = (r : Int)) (u4 : bits .and .u16 (a : Int) (b : Int) = (ab : Int)) (u5 : bits .and .u16 (a : Int) (r : Int) = (ar : Int))
    (kf : ∀ W, Calls Try.prog 11 #[.int .i64 (m : Nat)] W fun e w' => e = .returned (.int .i64 (f : Nat)) ∧ w' = W) (kE : ∀ W, Calls Try.prog 13 #[.int .i64 (m : Nat)] W fun e w' => e = .returned (.int .i64 (E : Nat)) ∧ w' = W) (kG : ∀ W, Calls Try.prog 17 #[.int .i64 (m : Nat)] W fun e w' => e = .returned (.int .i64 (G : Nat)) ∧ w' = W) (kR : ∀ W, Calls Try.prog 15 #[.int .i64 (m : Nat)] W fun e w' => e = .returned (.int .i64 (Rr : Nat)) ∧ w' = W)
    (kA : ∀ W, Below w.heap.size w W → Calls Try.prog 27 #[.int .u16 (A : Nat)] W fun e w' => e = .returned (.int .i64 (sA : Nat)) ∧ Below w.heap.size w w') (ka : ∀ W, Below w.heap.size w W → Calls Try.prog 27 #[.int .u16 (a : Nat)] W fun e w' => e = .returned (.int .i64 (sa : Nat)) ∧ Below w.heap.size w w') (kb : ∀ W, Below w.heap.size w W → Calls Try.prog 27 #[.int .u16 (b : Nat)] W fun e w' => e = .returned (.int .i64 (sb : Nat)) ∧ Below w.heap.size w w') (kc : ∀ W, Below w.heap.size w W → Calls Try.prog 27 #[.int .u16 (c : Nat)] W fun e w' => e = .returned (.int .i64 (sc : Nat)) ∧ Below w.heap.size w w') (kr : ∀ W, Below w.heap.size w W → Calls Try.prog 27 #[.int .u16 (r : Nat)] W fun e w' => e = .returned (.int .i64 (sr : Nat)) ∧ Below w.heap.size w w') (kab : ∀ W, Below w.heap.size w W → Calls Try.prog 27 #[.int .u16 (ab : Nat)] W fun e w' => e = .returned (.int .i64 (sab : Nat)) ∧ Below w.heap.size w w') (kar : ∀ W, Below w.heap.size w W → Calls Try.prog 27 #[.int .u16 (ar : Nat)] W fun e w' => e = .returned (.int .i64 (sar : Nat)) ∧ Below w.heap.size w w')
    (hf : 3 * (f : Int) + 1 ≤ (m : Int)) (hm : (m : Int) ≤ 16) (hA : (sA : Int) = (m : Int))
    (h1 : ¬ (E : Int) ≤ (sa : Int)) (h4 : (sc : Int) ≤ (f : Int)) (h5 : ¬ (sr : Int) < (E : Int)) (h6 : ¬ (sr : Int) < (G : Int)) (h7 : ¬ (G : Int) ≤ (sa : Int)) (h9 : ¬ (Rr : Int) ≤ (sa : Int)) :
    Calls Try.prog 6 #[.int .u8 (n : Nat), .agg #[.int .u16 (x0 : Nat), .int .u16 (x1 : Nat), .int .u16 (x2 : Nat)]] w fun e w' => e = .returned (.bool true) ∧ Below w.heap.size w w' := by
  have B0 : Aside (Below w.heap.size w (w.alloc (.cells #[.int .u16 (x0 : Nat), .int .u16 (x1 : Nat), .int .u16 (x2 : Nat)] 36))) := (Below.refl _ w).alloc (Nat.le_refl _) _
  have BX : Aside (∀ w1, Below (w.alloc (.cells #[.int .u16 (x0 : Nat), .int .u16 (x1 : Nat), .int .u16 (x2 : Nat)] 36)).heap.size (w.alloc (.cells #[.int .u16 (x0 : Nat), .int .u16 (x1 : Nat), .int .u16 (x2 : Nat)] 36)) w1 → w1.cell? ⟨w.heap.size, 0, none⟩ = some (.int .u16 (x0 : Nat)) ∧ w1.cell? ⟨w.heap.size, 1, none⟩ = some (.int .u16 (x1 : Nat)) ∧ w1.cell? ⟨w.heap.size, 2, none⟩ = some (.int .u16 (x2 : Nat))) :=
    fun w1 h => ⟨cell_later h (by rw [World.cell?_alloc_at _ _ _ _ rfl]; rfl), cell_later h (by rw [World.cell?_alloc_at _ _ _ _ rfl]; rfl), cell_later h (by rw [World.cell?_alloc_at _ _ _ _ rfl]; rfl)⟩
  have AL : Aside (∀ W, Calls Try.prog 10 #[] W fun e w' => e = .returned (.bool true) ∧ Below W.heap.size W w') := alive_any
  go_enter Try.func6, Try.ntmps6
  go_wp2_with fail
  refine (AL.out (w.alloc (.cells #[.int .u16 (x0 : Nat), .int .u16 (x1 : Nat), .int .u16 (x2 : Nat)] 36))).mono ?_
  rintro e w1 ⟨rfl, b0⟩
  obtain ⟨c0, c1, c2⟩ := BX.out w1 b0
  have B1 : Aside (Below w.heap.size w w1) := below_step B0.out b0
  clear b0 B0 AL BX
  go_wp2_with fail
  refine (kf w1).mono ?_; rintro e w' ⟨rfl, hw⟩
  replace hw := hw.symm; subst hw
  go_wp2_with fail
  go_quiet (fail)
  have B9 : Aside (∀ q, Below w.heap.size w (w1.drewN q)) := fun q => below_drew B1.out q
  clear B1 c0 c1 c2
  obtain ⟨w2, hw2⟩ : ∃ x, x = w1.drewN nq := ⟨_, rfl⟩
  have b2 := B9.out nq
  clear B9
  rw [← hw2] at b2 ⊢
  clear hw2
  go_wp2_with fail
  refine (kA w2 b2).mono ?_; rintro e wA ⟨rfl, bA⟩
  go_wp2_with fail
  refine (ka wA bA).mono ?_; rintro e w3 ⟨rfl, b3⟩
  go_wp2_with fail
  refine (kE w3).mono ?_; rintro e w' ⟨rfl, hw⟩
  replace hw := hw.symm; subst hw
  go_wp2_with fail
  refine (kc w3 b3).mono ?_; rintro e w4 ⟨rfl, b4⟩
  go_wp2_with fail
  refine (kr w4 b4).mono ?_; rintro e w5 ⟨rfl, b5⟩
  go_wp2_with fail
  refine (kE w5).mono ?_; rintro e w' ⟨rfl, hw⟩
  replace hw := hw.symm; subst hw
  go_wp2_with fail
  refine (kr w5 b5).mono ?_; rintro e w6 ⟨rfl, b6⟩
  go_wp2_with fail
  refine (kG w6).mono ?_; rintro e w' ⟨rfl, hw⟩
  replace hw := hw.symm; subst hw
  go_wp2_with fail
  refine (ka w6 b6).mono ?_; rintro e w7 ⟨rfl, b7⟩
  go_wp2_with fail
  refine (kG w7).mono ?_; rintro e w' ⟨rfl, hw⟩
  replace hw := hw.symm; subst hw
  go_wp2_with fail
  refine (ka w7 b7).mono ?_; rintro e w8 ⟨rfl, b8⟩
  go_wp2_with fail
  refine (kR w8).mono ?_; rintro e w' ⟨rfl, hw⟩
  replace hw := hw.symm; subst hw
  go_wp2
  go_ret
  exact ⟨rfl, b8⟩

set_option maxHeartbeats 4000000 in
theorem meet_21 (n m x0 x1 x2 A a b c r ab ar f E G Rr sA sa sb sc sr sab sar : Nat) (w : World)
    (hn : n < 256) (e0 : (n : Int) % 16 + 1 = (m : Int)) (p : Nat) (hp : IntKind.u16.wrap ((2 : Int) ^ m) = (p : Int)) (hq : IntKind.u16.wrap ((p : Int) - 1) = (A : Int))
    (u0 : bits .and .u16 (x0 : Int) (A : Int) = (a : Int)) (u1 : bits .and .u16 (x1 : Int) (A : Int) = (b : Int)) (u2 : bits .and .u16 (x2 : Int) (A : Int) = (c : Int))
    (u3 : bits .andNot .u16 (A : Int) (c : Int) = (r : Int)) (u4 : bits .and .u16 (a : Int) (b : Int) = (ab : Int)) (u5 : bits .and .u16 (a : Int) (r : Int) = (ar : Int))
    (kf : ∀ W, Calls Try.prog 11 #[.int .i64 (m : Nat)] W fun e w' => e = .returned (.int .i64 (f : Nat)) ∧ w' = W) (kE : ∀ W, Calls Try.prog 13 #[.int .i64 (m : Nat)] W fun e w' => e = .returned (.int .i64 (E : Nat)) ∧ w' = W) (kG : ∀ W, Calls Try.prog 17 #[.int .i64 (m : Nat)] W fun e w' => e = .returned (.int .i64 (G : Nat)) ∧ w' = W) (kR : ∀ W, Calls Try.prog 15 #[.int .i64 (m : Nat)] W fun e w' => e = .returned (.int .i64 (Rr : Nat)) ∧ w' = W)
    (kA : ∀ W, Below w.heap.size w W → Calls Try.prog 27 #[.int .u16 (A : Nat)] W fun e w' => e = .returned (.int .i64 (sA : Nat)) ∧ Below w.heap.size w w') (ka : ∀ W, Below w.heap.size w W → Calls Try.prog 27 #[.int .u16 (a : Nat)] W fun e w' => e = .returned (.int .i64 (sa : Nat)) ∧ Below w.heap.size w w') (kb : ∀ W, Below w.heap.size w W → Calls Try.prog 27 #[.int .u16 (b : Nat)] W fun e w' => e = .returned (.int .i64 (sb : Nat)) ∧ Below w.heap.size w w') (kc : ∀ W, Below w.heap.size w W → Calls Try.prog 27 #[.int .u16 (c : Nat)] W fun e w' => e = .returned (.int .i64 (sc : Nat)) ∧ Below w.heap.size w w') (kr : ∀ W, Below w.heap.size w W → Calls Try.prog 27 #[.int .u16 (r : Nat)] W fun e w' => e = .returned (.int .i64 (sr : Nat)) ∧ Below w.heap.size w w') (kab : ∀ W, Below w.heap.size w W → Calls Try.prog 27 #[.int .u16 (ab : Nat)] W fun e w' => e = .returned (.int .i64 (sab : Nat)) ∧ Below w.heap.size w w') (kar : ∀ W, Below w.heap.size w W → Calls Try.prog 27 #[.int .u16 (ar : Nat)] W fun e w' => e = .returned (.int .i64 (sar : Nat)) ∧ Below w.heap.size w w')
    (hf : 3 * (f : Int) + 1 ≤ (m : Int)) (hm : (m : Int) ≤ 16) (hA : (sA : Int) = (m : Int))
    (h1 : (E : Int) ≤ (sa : Int)) (h2 : ¬ (E : Int) ≤ (sb : Int)) (h4 : ¬ (sc : Int) ≤ (f : Int)) :
    Calls Try.prog 6 #[.int .u8 (n : Nat), .agg #[.int .u16 (x0 : Nat), .int .u16 (x1 : Nat), .int .u16 (x2 : Nat)]] w fun e w' => e = .returned (.bool true) ∧ Below w.heap.size w w' := by
  have B0 : Aside (Below w.heap.size w (w.alloc (.cells #[.int .u16 (x0 : Nat), .int .u16 (x1 : Nat), .int .u16 (x2 : Nat)] 36))) := (Below.refl _ w).alloc (Nat.le_refl _) _
  have BX : Aside (∀ w1, Below (w.alloc (.cells #[.int .u16 (x0 : Nat), .int .u16 (x1 : Nat), .int .u16 (x2 : Nat)] 36)).heap.size (w.alloc (.cells #[.int .u16 (x0 : Nat), .int .u16 (x1 : Nat), .int .u16 (x2 : Nat)] 36)) w1 → w1.cell? ⟨w.heap.size, 0, none⟩ = some (.int .u16 (x0 : Nat)) ∧ w1.cell? ⟨w.heap.size, 1, none⟩ = some (.int .u16 (x1 : Nat)) ∧ w1.cell? ⟨w.heap.size, 2, none⟩ = some (.int .u16 (x2 : Nat))) :=
    fun w1 h => ⟨cell_later h (by rw [World.cell?_alloc_at _ _ _ _ rfl]; rfl), cell_later h (by rw [World.cell?_alloc_at _ _ _ _ rfl]; rfl), cell_later h (by rw [World.cell?_alloc_at _ _ _ _ rfl]; rfl)⟩
  have AL : Aside (∀ W, Calls Try.prog 10 #[] W fun e w' => e = .returned (.bool true) ∧ Below W.heap.size W w') := alive_any
  go_enter Try.func6, Try.ntmps6
  go_wp2_with fail
  refine (AL.out (w.alloc (.cells #[.int .u16 (x0 : Nat), .int .u16 (x1 : Nat), .int .u16 (x2 : Nat)] 36))).mono ?_
  rintro e w1 ⟨rfl, b0⟩
  obtain ⟨c0, c1, c2⟩ := BX.out w1 b0
  have B1 : Aside (Below w.heap.size w w1) := below_step B0.out b0
  clear b0 B0 AL BX
  go_wp2_with fail
  refine (kf w1).mono ?_; rintro e w' ⟨rfl, hw⟩
  replace hw := hw.symm; subst hw
  go_wp2_with fail
  go_quiet (fail)
  have B9 : Aside (∀ q, Below w.heap.size w (w1.drewN q)) := fun q => below_drew B1.out q
  clear B1 c0 c1 c2
  obtain ⟨w2, hw2⟩ : ∃ x, x = w1.drewN nq := ⟨_, rfl⟩
  have b2 := B9.out nq
  clear B9
  rw [← hw2] at b2 ⊢
  clear hw2
  go_wp2_with fail
  refine (kA w2 b2).mono ?_; rintro e wA ⟨rfl, bA⟩
  go_wp2_with fail
  refine (ka wA bA).mono ?_; rintro e w3 ⟨rfl, b3⟩
  go_wp2_with fail
  refine (kE w3).mono ?_; rintro e w' ⟨rfl, hw⟩
  replace hw := hw.symm; subst hw
  go_wp2_with fail
  refine (kb w3 b3).mono ?_; rintro e w4 ⟨rfl, b4⟩
  go_wp2_with fail
  refine (kE w4).mono ?_; rintro e w' ⟨rfl, hw⟩
  replace hw := hw.symm; subst hw
  go_wp2_with fail
  refine (kc w4 b4).mono ?_; rintro e w5 ⟨rfl, b5⟩
  go_wp2
  go_ret
  exact ⟨rfl, b5⟩

set_option maxHeartbeats 4000000 in
theorem meet_22 (n m x0 x1 x2 A a b c r ab ar f E G Rr sA sa sb sc sr sab sar : Nat) (w : World)
    (hn : n < 256) (e0 : (n : Int) % 16 + 1 = (m : Int)) (p : Nat) (hp : IntKind.u16.wrap ((2 : Int) ^ m) = (p : Int)) (hq : IntKind.u16.wrap ((p : Int) - 1) = (A : Int))
    (u0 : bits .and .u16 (x0 : Int) (A : Int) = (a : Int)) (u1 : bits .and .u16 (x1 : Int) (A : Int) = (b : Int)) (u2 : bits .and .u16 (x2 : Int) (A : Int) = (c : Int))
    (u3 : bits .andNot .u16 (A : Int) (c : Int) = (r : Int)) (u4 : bits .and .u16 (a : Int) (b : Int) = (ab : Int)) (u5 : bits .and .u16 (a : Int) (r : Int) = (ar : Int))
    (kf : ∀ W, Calls Try.prog 11 #[.int .i64 (m : Nat)] W fun e w' => e = .returned (.int .i64 (f : Nat)) ∧ w' = W) (kE : ∀ W, Calls Try.prog 13 #[.int .i64 (m : Nat)] W fun e w' => e = .returned (.int .i64 (E : Nat)) ∧ w' = W) (kG : ∀ W, Calls Try.prog 17 #[.int .i64 (m : Nat)] W fun e w' => e = .returned (.int .i64 (G : Nat)) ∧ w' = W) (kR : ∀ W, Calls Try.prog 15 #[.int .i64 (m : Nat)] W fun e w' => e = .returned (.int .i64 (Rr : Nat)) ∧ w' = W)
    (kA : ∀ W, Below w.heap.size w W → Calls Try.prog 27 #[.int .u16 (A : Nat)] W fun e w' => e = .returned (.int .i64 (sA : Nat)) ∧ Below w.heap.size w w') (ka : ∀ W, Below w.heap.size w W → Calls Try.prog 27 #[.int .u16 (a : Nat)] W fun e w' => e = .returned (.int .i64 (sa : Nat)) ∧ Below w.heap.size w w') (kb : ∀ W, Below w.heap.size w W → Calls Try.prog 27 #[.int .u16 (b : Nat)] W fun e w' => e = .returned (.int .i64 (sb : Nat)) ∧ Below w.heap.size w w') (kc : ∀ W, Below w.heap.size w W → Calls Try.prog 27 #[.int .u16 (c : Nat)] W fun e w' => e = .returned (.int .i64 (sc : Nat)) ∧ Below w.heap.size w w') (kr : ∀ W, Below w.heap.size w W → Calls Try.prog 27 #[.int .u16 (r : Nat)] W fun e w' => e = .returned (.int .i64 (sr : Nat)) ∧ Below w.heap.size w w') (kab : ∀ W, Below w.heap.size w W → Calls Try.prog 27 #[.int .u16 (ab : Nat)] W fun e w' => e = .returned (.int .i64 (sab : Nat)) ∧ Below w.heap.size w w') (kar : ∀ W, Below w.heap.size w W → Calls Try.prog 27 #[.int .u16 (ar : Nat)] W fun e w' => e = .returned (.int .i64 (sar : Nat)) ∧ Below w.heap.size w w')
    (hf : 3 * (f : Int) + 1 ≤ (m : Int)) (hm : (m : Int) ≤ 16) (hA : (sA : Int) = (m : Int))
    (h1 : (E : Int) ≤ (sa : Int)) (h2 : ¬ (E : Int) ≤ (sb : Int)) (h4 : (sc : Int) ≤ (f : Int)) (h5 : ¬ (sr : Int) < (E : Int)) (h6 : ¬ (sr : Int) < (G : Int)) (h7 : (G : Int) ≤ (sa : Int)) (h8 : ¬ (sar : Int) < (Rr : Int)) (h9 : (Rr : Int) ≤ (sa : Int)) (h10 : ((ar : Int) == 0) = false) :
    Calls Try.prog 6 #[.int .u8 (n : Nat), .agg #[.int .u16 (x0 : Nat), .int .u16 (x1 : Nat), .int .u16 (x2 : Nat)]] w fun e w' => e = .returned (.bool true) ∧ Below w.heap.size w w' := by
  have B0 : Aside (Below w.heap.size w (w.alloc (.cells #[.int .u16 (x0 : Nat), .int .u16 (x1 : Nat), .int .u16 (x2 : Nat)] 36))) := (Below.refl _ w).alloc (Nat.le_refl _) _
  have BX : Aside (∀ w1, Below (w.alloc (.cells #[.int .u16 (x0 : Nat), .int .u16 (x1 : Nat), .int .u16 (x2 : Nat)] 36)).heap.size (w.alloc (.cells #[.int .u16 (x0 : Nat), .int .u16 (x1 : Nat), .int .u16 (x2 : Nat)] 36)) w1 → w1.cell? ⟨w.heap.size, 0, none⟩ = some (.int .u16 (x0 : Nat)) ∧ w1.cell? ⟨w.heap.size, 1, none⟩ = some (.int .u16 (x1 : Nat)) ∧ w1.cell? ⟨w.heap.size, 2, none⟩ = some (.int .u16 (x2 : Nat))) :=
    fun w1 h => ⟨cell_later h (by rw [World.cell?_alloc_at _ _ _ _ rfl]; rfl), cell_later h (by rw [World.cell?_alloc_at _ _ _ _ rfl]; rfl), cell_later h (by rw [World.cell?_alloc_at _ _ _ _ rfl]; rfl)⟩
  have AL : Aside (∀ W, Calls Try.prog 10 #[] W fun e w' => e = .returned (.bool true) ∧ Below W.heap.size W w') := alive_any
  go_enter Try.func6, Try.ntmps6
  go_wp2_with fail
  refine (AL.out (w.alloc (.cells #[.int .u16 (x0 : Nat), .int .u16 (x1 : Nat), .int .u16 (x2 : Nat)] 36))).mono ?_
  rintro e w1 ⟨rfl, b0⟩
  obtain ⟨c0, c1, c2⟩ := BX.out w1 b0
  have B1 : Aside (Below w.heap.size w w1) := below_step B0.out b0
  clear b0 B0 AL BX
  go_wp2_with fail
  refine (kf w1).mono ?_; rintro e w' ⟨rfl, hw⟩
  replace hw := hw.symm; subst hw
  go_wp2_with fail
  go_quiet (fail)
  have B9 : Aside (∀ q, Below w.heap.size w (w1.drewN q)) := fun q => below_drew B1.out q
  clear B1 c0 c1 c2
  obtain ⟨w2, hw2⟩ : ∃ x, x = w1.drewN nq := ⟨_, rfl⟩
  have b2 := B9.out nq
  clear B9
  rw [← hw2] at b2 ⊢
  clear hw2
  go_wp2_with fail
  refine (kA w2 b2).mono ?_; rintro e wA ⟨rfl, bA⟩
  go_wp2_with fail
  refine (ka wA bA).mono ?_; rintro e w3 ⟨rfl, b3⟩
  go_wp2_with fail
  refine (kE w3).mono ?_; rintro e w' ⟨rfl, hw⟩
  replace hw := hw.symm; subst hw
  go_wp2_with fail
  refine (kb w3 b3).mono ?_; rintro e w4 ⟨rfl, b4⟩
  go_wp2_with fail
  refine (kE w4).mono ?_; rintro e w' ⟨rfl, hw⟩
  replace hw := hw.symm; subst hw
  go_wp2_with fail
  refine (kc w4 b4).mono ?_; rintro e w5 ⟨rfl, b5⟩
  go_wp2_with fail
  refine (kr w5 b5).mono ?_; rintro e w6 ⟨rfl, b6⟩
  go_wp2_with fail
  refine (kE w6).mono ?_; rintro e w' ⟨rfl, hw⟩
  replace hw := hw.symm; subst hw
  go_wp2_with fail
  refine (kr w6 b6).mono ?_; rintro e w7 ⟨rfl, b7⟩
  go_wp2_with fail
  refine (kG w7).mono ?_; rintro e w' ⟨rfl, hw⟩
  replace hw := hw.symm; subst hw
  go_wp2_with fail
  refine (ka w7 b7).mono ?_; rintro e w8 ⟨rfl, b8⟩
  go_wp2_with fail
  refine (kG w8).mono ?_; rintro e w' ⟨rfl, hw⟩
  replace hw := hw.symm; subst hw
  go_wp2_with fail
  refine (kar w8 b8).mono ?_; rintro e w9 ⟨rfl, b9⟩
  go_wp2_with fail
  refine (kR w9).mono ?_; rintro e w' ⟨rfl, hw⟩
  replace hw := hw.symm; subst hw
  go_wp2_with fail
  refine (ka w9 b9).mono ?_; rintro e w10 ⟨rfl, b10⟩
  go_wp2_with fail
  refine (kR w10).mono ?_; rintro e w' ⟨rfl, hw⟩
  replace hw := hw.symm; subst hw
  go_wp2
  go_ret
  exact ⟨rfl, b10⟩

set_option maxHeartbeats 4000000 in
theorem meet_23 (n m x0 x1 x2 A a b c r ab ar f E G Rr sA sa sb sc sr sab sar : Nat) (w : World)
    (hn : n < 256) (e0 : (n : Int) % 16 + 1 = (m : Int)) (p : Nat) (hp : IntKind.u16.wrap ((2 : Int) ^ m) = (p : Int)) (hq : IntKind.u16.wrap ((p : Int) - 1) = (A : Int))
    (u0 : bits .and .u16 (x0 : Int) (A : Int) = (a : Int)) (u1 : bits .and .u16 (x1 : Int) (A : Int) = (b : Int)) (u2 : bits .and .u16 (x2 : Int) (A : Int) = (c : Int))
    (u3 : bits .andNot .u16 (A : Int) (c : Int) = (r : Int)) (u4 : bits .and .u16 (a : Int) (b : Int) = (ab : Int)) (u5 : bits .and .u16 (a : Int) (r : Int) = (ar : Int))
    (kf : ∀ W, Calls Try.prog 11 #[.int .i64 (m : Nat)] W fun e w' => e = .returned (.int .i64 (f : Nat)) ∧ w' = W) (kE : ∀ W, Calls Try.prog 13 #[.int .i64 (m : Nat)] W fun e w' => e = .returned (.int .i64 (E : Nat)) ∧ w' = W) (kG : ∀ W, Calls Try.prog 17 #[.int .i64 (m : Nat)] W fun e w' => e = .returned (.int .i64 (G : Nat)) ∧ w' = W) (kR : ∀ W, Calls Try.prog 15 #[.int .i64 (m : Nat)] W fun e w' => e = .returned (.int .i64 (Rr : Nat)) ∧ w' = W)
    (kA : ∀ W, Below w.heap.size w W → Calls Try.prog 27 #[.int .u16 (A : Nat)] W fun e w' => e = .returned (.int .i64 (sA : Nat)) ∧ Below w.heap.size w w') (ka : ∀ W, Below w.heap.size w W → Calls Try.prog 27 #[.int .u16 (a : Nat)] W fun e w' => e = .returned (.int .i64 (sa : Nat)) ∧ Below w.heap.size w w') (kb : ∀ W, Below w.heap.size w W → Calls Try.prog 27 #[.int .u16 (b : Nat)] W fun e w' => e = .returned (.int .i64 (sb : Nat)) ∧ Below w.heap.size w w') (kc : ∀ W, Below w.heap.size w W → Calls Try.prog 27 #[.int .u16 (c : Nat)] W fun e w' => e = .returned (.int .i64 (sc : Nat)) ∧ Below w.heap.size w w') (kr : ∀ W, Below w.heap.size w W → Calls Try.prog 27 #[.int .u16 (r : Nat)] W fun e w' => e = .returned (.int .i64 (sr : Nat)) ∧ Below w.heap.size w w') (kab : ∀ W, Below w.heap.size w W → Calls Try.prog 27 #[.int .u16 (ab : Nat)] W fun e w' => e = .returned (.int .i64 (sab : Nat)) ∧ Below w.heap.size w w') (kar : ∀ W, Below w.heap.size w W → Calls Try.prog 27 #[.int .u16 (ar : Nat)] W fun e w' => e = .returned (.int .i64 (sar : Nat)) ∧ Below w.heap.size w w')
    (hf : 3 * (f : Int) + 1 ≤ (m : Int)) (hm : (m : Int) ≤ 16) (hA : (sA : Int) = (m : Int))
    (h1 : (E : Int) ≤ (sa : Int)) (h2 : ¬ (E : Int) ≤ (sb : Int)) (h4 : (sc : Int) ≤ (f : Int)) (h5 : ¬ (sr : Int) < (E : Int)) (h6 : ¬ (sr : Int) < (G : Int)) (h7 : ¬ (G : Int) ≤ (sa : Int)) (h9 : (Rr : Int) ≤ (sa : Int)) (h10 : ((ar : Int) == 0) = false) :
    Calls Try.prog 6 #[.int .u8 (n : Nat), .agg #[.int .u16 (x0 : Nat), .int .u16 (x1 : Nat), .int .u16 (x2 : Nat)]] w fun e w' => e = .returned (.bool true) ∧ Below w.heap.size w w' := by
  have B0 : Aside (Below w.heap.size w (w.alloc (.cells #[.int .u16 (x0 : Nat), .int .u16 (x1 : Nat), .int .u16 (x2 : Nat)] 36))) := (Below.refl _ w).alloc (Nat.le_refl _) _
  have BX : Aside (∀ w1, Below (w.alloc (.cells #[.int .u16 (x0 : Nat), .int .u16 (x1 : Nat), .int .u16 (x2 : Nat)] 36)).heap.size (w.alloc (.cells #[.int .u16 (x0 : Nat), .int .u16 (x1 : Nat), .int .u16 (x2 : Nat)] 36)) w1 → w1.cell? ⟨w.heap.size, 0, none⟩ = some (.int .u16 (x0 : Nat)) ∧ w1.cell? ⟨w.heap.size, 1, none⟩ = some (.int .u16 (x1 : Nat)) ∧ w1.cell? ⟨w.heap.size, 2, none⟩ = some (.int .u16 (x2 : Nat))) :=
    fun w1 h => ⟨cell_later h (by rw [World.cell?_alloc_at _ _ _ _ rfl]; rfl), cell_later h (by rw [World.cell?_alloc_at _ _ _ _ rfl]; rfl), cell_later h (by rw [World.cell?_alloc_at _ _ _ _ rfl]; rfl)⟩
  have AL : Aside (∀ W, Calls Try.prog 10 #[] W fun e w' => e = .returned (.bool true) ∧ Below W.heap.size W w') := alive_any
  go_enter Try.func6, Try.ntmps6
  go_wp2_with fail
  refine (AL.out (w.alloc (.cells #[.int .u16 (x0 : Nat), .int .u16 (x1 : Nat), .int .u16 (x2 : Nat)] 36))).mono ?_
  rintro e w1 ⟨rfl, b0⟩
  obtain ⟨c0, c1, c2⟩ := BX.out w1 b0
  have B1 : Aside (Below w.heap.size w w1) := below_step B0.out b0
  clear b0 B0 AL BX
  go_wp2_with fail
  refine (kf w1).mono ?_; rintro e w' ⟨rfl, hw⟩
  replace hw := hw.symm; subst hw
  go_wp2_with fail
  go_quiet (fail)
  have B9 : Aside (∀ q, Below w.heap.size w (w1.drewN q)) := fun q => below_drew B1.out q
  clear B1 c0 c1 c2
  obtain ⟨w2, hw2⟩ : ∃ x, x = w1.drewN nq := ⟨_, rfl⟩
  have b2 := B9.out nq
  clear B9
  rw [← hw2] at b2 ⊢
  clear hw2
  go_wp2_with fail
  refine (kA w2 b2).mono ?_; rintro e wA ⟨rfl, bA⟩
  go_wp2_with fail
  refine (ka wA bA).mono ?_; rintro e w3 ⟨rfl, b3⟩
  go_wp2_with fail
  refine (kE w3).mono ?_; rintro e w' ⟨rfl, hw⟩
  replace hw := hw.symm; subst hw
  go_wp2_with fail
  refine (kb w3 b3).mono ?_; rintro e w4 ⟨rfl, b4⟩
  go_wp2_with fail
  refine (kE w4).mono ?_; rintro e w' ⟨rfl, hw⟩
  replace hw := hw.symm; subst hw
  go_wp2_with fail
  refine (kc w4 b4).mono ?_; rintro e w5 ⟨rfl, b5⟩
  go_wp2_with fail
  refine (kr w5 b5).mono ?_; rintro e w6 ⟨rfl, b6⟩
  go_wp2_with fail
  refine (kE w6).mono ?_; rintro e w' ⟨rfl, hw⟩
  replace hw := hw.symm; subst hw
  go_wp2_with fail
  refine (kr w6 b6).mono ?_; rintro e w7 ⟨rfl, b7⟩
  go_wp2_with fail
  refine (kG w7).mono ?_; rintro e w' ⟨rfl, hw⟩
  replace hw := hw.symm; subst hw
  go_wp2_with fail
  refine (ka w7 b7).mono ?_; rintro e w8 ⟨rfl, b8⟩
  go_wp2_with fail
  refine (kG w8).mono ?_; rintro e w' ⟨rfl, hw⟩
  replace hw := hw.symm; subst hw
  go_wp2_with fail
  refine (ka w8 b8).mono ?_; rintro e w9 ⟨rfl, b9⟩
  go_wp2_with fail
  refine (kR w9).mono ?_; rintro e w' ⟨rfl, hw⟩
  replace hw := hw.symm; subst hw
  go_wp2
  go_ret
  exact ⟨rfl, b9⟩

set_option maxHeartbeats 4000000 in
theorem meet_24 (n m x0 x1 x2 A a b c r ab ar f E G Rr sA sa sb sc sr sab sar : Nat) (w : World)
    (hn : n < 256) (e0 : (n : Int) % 16 + 1 = (m : Int)) (p : Nat) (hp : IntKind.u16.wrap ((2 : Int) ^ m) = (p : Int)) (hq : IntKind.u16.wrap ((p : Int) - 1) = (A : Int))
    (u0 : bits .and .u16 (x0 : Int) (A : Int) = (a : Int)) (u1 : bits .and .u16 (x1 : Int) (A : Int) = (b : Int)) (u2 : bits .and .u16 (x2 : Int) (A : Int) = (c : Int))
    (u3 : bits .andNot .u16 (A : Int) (c : Int) = (r : Int)) (u4 : bits .and .u16 (a : Int) (b : Int) = (ab : Int)) (u5 : bits .and .u16 (a : Int) (r : Int) = (ar : Int))
    (kf : ∀ W, Calls Try.prog 11 #[.int .i64 (m : Nat)] W fun e w' => e = .returned (.int .i64 (f : Nat)) ∧ w' = W) (kE : ∀ W, Calls Try.prog 13 #[.int .i64 (m : Nat)] W fun e w' => e = .returned (.int .i64 (E : Nat)) ∧ w' = W) (kG : ∀ W, Calls Try.prog 17 #[.int .i64 (m : Nat)] W fun e w' => e = .returned (.int .i64 (G : Nat)) ∧ w' = W) (kR : ∀ W, Calls Try.prog 15 #[.int .i64 (m : Nat)] W fun e w' => e = .returned (.int .i64 (Rr : Nat)) ∧ w' = W)
    (kA : ∀ W, Below w.heap.size w W → Calls Try.prog 27 #[.int .u16 (A : Nat)] W fun e w' => e = .returned (.int .i64 (sA : Nat)) ∧ Below w.heap.size w w') (ka : ∀ W, Below w.heap.size w W → Calls Try.prog 27 #[.int .u16 (a : Nat)] W fun e w' => e = .returned (.int .i64 (sa : Nat)) ∧ Below w.heap.size w w') (kb : ∀ W, Below w.heap.size w W → Calls Try.prog 27 #[.int .u16 (b : Nat)] W fun e w' => e = .returned (.int .i64 (sb : Nat)) ∧ Below w.heap.size w w') (kc : ∀ W, Below w.heap.size w W → Calls Try.prog 27 #[.int .u16 (c : Nat)] W fun e w' => e = .returned (.int .i64 (sc : Nat)) ∧ Below w.heap.size w w') (kr : ∀ W, Below w.heap.size w W → Calls Try.prog 27 #[.int .u16 (r : Nat)] W fun e w' => e = .returned (.int .i64 (sr : Nat)) ∧ Below w.heap.size w w') (kab : ∀ W, Below w.heap.size w W → Calls Try.prog 27 #[.int .u16 (ab : Nat)] W fun e w' => e = .returned (.int .i64 (sab : Nat)) ∧ Below w.heap.size w w') (kar : ∀ W, Below w.heap.size w W → Calls Try.prog 27 #[.int .u16 (ar : Nat)] W fun e w' => e = .returned (.int .i64 (sar : Nat)) ∧ Below w.heap.size w w')
    (hf : 3 * (f : Int) + 1 ≤ (m : Int)) (hm : (m : Int) ≤ 16) (hA : (sA : Int) = (m : Int))
    (h1 : (E : Int) ≤ (sa : Int)) (h2 : ¬ (E : Int) ≤ (sb : Int)) (h4 : (sc : Int) ≤ (f : Int)) (h5 : ¬ (sr : Int) < (E : Int)) (h6 : ¬ (sr : Int) < (G : Int)) (h7 : ¬ (G : Int) ≤ (sa : Int)) (h9 : ¬ (Rr : Int) ≤ (sa : Int)) :
    Calls Try.prog 6 #[.int .u8 (n : Nat), .agg #[.int .u16 (x0 : Nat), .int .u16 (x1 : Nat), .int .u16 (x2 : Nat)]] w fun e w' => e = .returned (.bool true) ∧ Below w.heap.size w w' := by
  have B0 : Aside (Below w.heap.size w (w.alloc (.cells #[.int .u16 (x0 : Nat), .int .u16 (x1 : Nat), .int .u16 (x2 : Nat)] 36))) := (Below.refl _ w).alloc (Nat.le_refl _) _
  have BX : Aside (∀ w1, Below (w.alloc (.cells #[.int .u16 (x0 : Nat), .int .u16 (x1 : Nat), .int .u16 (x2 : Nat)] 36)).heap.size (w.alloc (.cells #[.int .u16 (x0 : Nat), .int .u16 (x1 : Nat), .int .u16 (x2 : Nat)] 36)) w1 → w1.cell? ⟨w.heap.size, 0, none⟩ = some (.int .u16 (x0 : Nat)) ∧ w1.cell? ⟨w.heap.size, 1, none⟩ = some (.int .u16 (x1 : Nat)) ∧ w1.cell? ⟨w.heap.size, 2, none⟩ = some (.int .u16 (x2 : Nat))) :=
    fun w1 h => ⟨cell_later h (by rw [World.cell?_alloc_at _ _ _ _ rfl]; rfl), cell_later h (by rw [World.cell?_alloc_at _ _ _ _ rfl]; rfl), cell_later h (by rw [World.cell?_alloc_at _ _ _ _ rfl]; rfl)⟩
  have AL : Aside (∀ W, Calls Try.prog 10 #[] W fun e w' => e = .returned (.bool true) ∧ Below W.heap.size W w') := alive_any
  go_enter Try.func6, Try.ntmps6
  go_wp2_with fail
  refine (AL.out (w.alloc (.cells #[.int .u16 (x0 : Nat), .int .u16 (x1 : Nat), .int .u16 (x2 : Nat)] 36))).mono ?_
  rintro e w1 ⟨rfl, b0⟩
  obtain ⟨c0, c1, c2⟩ := BX.out w1 b0
  have B1 : Aside (Below w.heap.size w w1) := below_step B0.out b0
  clear b0 B0 AL BX
  go_wp2_with fail
  refine (kf w1).mono ?_; rintro e w' ⟨rfl, hw⟩
  replace hw := hw.symm; subst hw
  go_wp2_with fail
  go_quiet (fail)
  have B9 : Aside (∀ q, Below w.heap.size w (w1.drewN q)) := fun q => below_drew B1.out q
  clear B1 c0 c1 c2
  obtain ⟨w2, hw2⟩ : ∃ x, x = w1.drewN nq := ⟨_, rfl⟩
  have b2 := B9.out nq
  clear B9
  rw [← hw2] at b2 ⊢
  clear hw2
  go_wp2_with fail
  refine (kA w2 b2).mono ?_; rintro e wA ⟨rfl, bA⟩
  go_wp2_with fail
  refine (ka wA bA).mono ?_; rintro e w3 ⟨rfl, b3⟩
  go_wp2_with fail
  refine (kE w3).mono ?_; rintro e w' ⟨rfl, hw⟩
  replace hw := hw.symm; subst hw
  go_wp2_with fail
  refine (kb w3 b3).mono ?_; rintro e w4 ⟨rfl, b4⟩
  go_wp2_with fail
  refine (kE w4).mono ?_; rintro e w' ⟨rfl, hw⟩
  replace hw := hw.symm; subst hw
  go_wp2_with fail
  refine (kc w4 b4).mono ?_; rintro e w5 ⟨rfl, b5⟩
  go_wp2_with fail
  refine (kr w5 b5).mono ?_; rintro e w6 ⟨rfl, b6⟩
  go_wp2_with fail
  refine (kE w6).mono ?_; rintro e w' ⟨rfl, hw⟩
  replace hw := hw.symm; subst hw
  go_wp2_with fail
  refine (kr w6 b6).mono ?_; rintro e w7 ⟨rfl, b7⟩
  go_wp2_with fail
  refine (kG w7).mono ?_; rintro e w' ⟨rfl, hw⟩
  replace hw := hw.symm; subst hw
  go_wp2_with fail
  refine (ka w7 b7).mono ?_; rintro e w8 ⟨rfl, b8⟩
  go_wp2_with fail
  refine (kG w8).mono ?_; rintro e w' ⟨rfl, hw⟩
  replace hw := hw.symm; subst hw
  go_wp2_with fail
  refine (ka w8 b8).mono ?_; rintro e w9 ⟨rfl, b9⟩
  go_wp2_with fail
  refine (kR w9).mono ?_; rintro e w' ⟨rfl, hw⟩
  replace hw := hw.symm; subst hw
  go_wp2
  go_ret
  exact ⟨rfl, b9⟩

set_option maxHeartbeats 4000000 in
theorem meet_31 (n m x0 x1 x2 A a b c r ab ar f E G Rr sA sa sb sc sr sab sar : Nat) (w : World)
    (hn : n < 256) (e0 : (n : Int) % 16 + 1 = (m : Int)) (p : Nat) (hp : IntKind.u16.wrap ((2 : Int) ^ m) = (p : Int)) (hq : IntKind.u16.wrap ((p : Int) - 1) = (A : Int))
    (u0 : bits .and .u16 (x0 : Int) (A : Int) = (a : Int)) (u1 : bits .and .u16 (x1 : Int) (A : Int) = (b : Int)) (u2 : bits .and .u16 (x2 : Int) (A : Int) = (c : Int))
    (u3 : bits .andNot .u16 (A : Int) (c : Int) = (r : Int)) (u4 : bits .and .u16 (a : Int) (b : Int) = (ab : Int)) (u5 : bits .and .u16 (a : Int) (r : Int) = (ar : Int))
    (kf : ∀ W, Calls Try.prog 11 #[.int .i64 (m : Nat)] W fun e w' => e = .returned (.int .i64 (f : Nat)) ∧ w' = W) (kE : ∀ W, Calls Try.prog 13 #[.int .i64 (m : Nat)] W fun e w' => e = .returned (.int .i64 (E : Nat)) ∧ w' = W) (kG : ∀ W, Calls Try.prog 17 #[.int .i64 (m : Nat)] W fun e w' => e = .returned (.int .i64 (G : Nat)) ∧ w' = W) (kR : ∀ W, Calls Try.prog 15 #[.int .i64 (m : Nat)] W fun e w' => e = .returned (.int .i64 (Rr : Nat)) ∧ w' = W)
    (kA : ∀ W, Below w.heap.size w W → Calls Try.prog 27 #[.int .u16 (A : Nat)] W fun e w' => e = .returned (.int .i64 (sA : Nat)) ∧ Below w.heap.size w w') (ka : ∀ W, Below w.heap.size w W → Calls Try.prog 27 #[.int .u16 (a : Nat)] W fun e w' => e = .returned (.int .i64 (sa : Nat)) ∧ Below w.heap.size w w') (kb : ∀ W, Below w.heap.size w W → Calls Try.prog 27 #[.int .u16 (b : Nat)] W fun e w' => e = .returned (.int .i64 (sb : Nat)) ∧ Below w.heap.size w w') (kc : ∀ W, Below w.heap.size w W → Calls Try.prog 27 #[.int .u16 (c : Nat)] W fun e w' => e = .returned (.int .i64 (sc : Nat)) ∧ Below w.heap.size w w') (kr : ∀ W, Below w.heap.size w W → Calls Try.prog 27 #[.int .u16 (r : Nat)] W fun e w' => e = .returned (.int .i64 (sr : Nat)) ∧ Below w.heap.size w w') (kab : ∀ W, Below w.heap.size w W → Calls Try.prog 27 #[.int .u16 (ab : Nat)] W fun e w' => e = .returned (.int .i64 (sab : Nat)) ∧ Below w.heap.size w w') (kar : ∀ W, Below w.heap.size w W → Calls Try.prog 27 #[.int .u16 (ar : Nat)] W fun e w' => e = .returned (.int .i64 (sar : Nat)) ∧ Below w.heap.size w w')
    (hf : 3 * (f : Int) + 1 ≤ (m : Int)) (hm : (m : Int) ≤ 16) (hA : (sA : Int) = (m : Int))
    (h1 : (E : Int) ≤ (sa : Int)) (h2 : (E : Int) ≤ (sb : Int)) (h3 : ¬ (sab : Int) ≤ (f : Int)) (h4 : ¬ (sc : Int) ≤ (f : Int)) :
    Calls Try.prog 6 #[.int .u8 (n : Nat), .agg #[.int .u16 (x0 : Nat), .int .u16 (x1 : Nat), .int .u16 (x2 : Nat)]] w fun e w' => e = .returned (.bool true) ∧ Below w.heap.size w w' := by
  have B0 : Aside (Below w.heap.size w (w.alloc (.cells #[.int .u16 (x0 : Nat), .int .u16 (x1 : Nat), .int .u16 (x2 : Nat)] 36))) := (Below.refl _ w).alloc (Nat.le_refl _) _
  have BX : Aside (∀ w1, Below (w.alloc (.cells #[.int .u16 (x0 : Nat), .int .u16 (x1 : Nat), .int .u16 (x2 : Nat)] 36)).heap.size (w.alloc (.cells #[.int .u16 (x0 : Nat), .int .u16 (x1 : Nat), .int .u16 (x2 : Nat)] 36)) w1 → w1.cell? ⟨w.heap.size, 0, none⟩ = some (.int .u16 (x0 : Nat)) ∧ w1.cell? ⟨w.heap.size, 1, none⟩ = some (.int .u16 (x1 : Nat)) ∧ w1.cell? ⟨w.heap.size, 2, none⟩ = some (.int .u16 (x2 : Nat))) :=
    fun w1 h => ⟨cell_later h (by rw [World.cell?_alloc_at _ _ _ _ rfl]; rfl), cell_later h (by rw [World.cell?_alloc_at _ _ _ _ rfl]; rfl), cell_later h (by rw [World.cell?_alloc_at _ _ _ _ rfl]; rfl)⟩
  have AL : Aside (∀ W, Calls Try.prog 10 #[] W fun e w' => e = .returned (.bool true) ∧ Below W.heap.size W w') := alive_any
  go_enter Try.func6, Try.ntmps6
  go_wp2_with fail
  refine (AL.out (w.alloc (.cells #[.int .u16 (x0 : Nat), .int .u16 (x1 : Nat), .int .u16 (x2 : Nat)] 36))).mono ?_
  rintro e w1 ⟨rfl, b0⟩
  obtain ⟨c0, c1, c2⟩ := BX.out w1 b0
  have B1 : Aside (Below w.heap.size w w1) := below_step B0.out b0
  clear b0 B0 AL BX
  go_wp2_with fail
  refine (kf w1).mono ?_; rintro e w' ⟨rfl, hw⟩
  replace hw := hw.symm; subst hw
  go_wp2_with fail
  go_quiet (fail)
  have B9 : Aside (∀ q, Below w.heap.size w (w1.drewN q)) := fun q => below_drew B1.out q
  clear B1 c0 c1 c2
  obtain ⟨w2, hw2⟩ : ∃ x, x = w1.drewN nq := ⟨_, rfl⟩
  have b2 := B9.out nq
  clear B9
  rw [← hw2] at b2 ⊢
  clear hw2
  go_wp2_with fail
  refine (kA w2 b2).mono ?_; rintro e wA ⟨rfl, bA⟩
  go_wp2_with fail
  refine (ka wA bA).mono ?_; rintro e w3 ⟨rfl, b3⟩
  go_wp2_with fail
  refine (kE w3).mono ?_; rintro e w' ⟨rfl, hw⟩
  replace hw := hw.symm; subst hw
  go_wp2_with fail
  refine (kb w3 b3).mono ?_; rintro e w4 ⟨rfl, b4⟩
  go_wp2_with fail
  refine (kE w4).mono ?_; rintro e w' ⟨rfl, hw⟩
  replace hw := hw.symm; subst hw
  go_wp2_with fail
  refine (kab w4 b4).mono ?_; rintro e w5 ⟨rfl, b5⟩
  go_wp2_with fail
  refine (kc w5 b5).mono ?_; rintro e w6 ⟨rfl, b6⟩
  go_wp2
  go_ret
  exact ⟨rfl, b6⟩

set_option maxHeartbeats 4000000 in
theorem meet_32 (n m x0 x1 x2 A a b c r ab ar f E G Rr sA sa sb sc sr sab sar : Nat) (w : World)
    (hn : n < 256) (e0 : (n : Int) % 16 + 1 = (m : Int)) (p : Nat) (hp : IntKind.u16.wrap ((2 : Int) ^ m) = (p : Int)) (hq : IntKind.u16.wrap ((p : Int) - 1) = (A : Int))
    (u0 : bits .and .u16 (x0 : Int) (A : Int) = (a : Int)) (u1 : bits .and .u16 (x1 : Int) (A : Int) = (b : Int)) (u2 : bits .and .u16 (x2 : Int) (A : Int) = (c : Int))
    (u3 : bits .andNot .u16 (A : Int) (c : Int) = (r : Int)) (u4 : bits .and .u16 (a : Int) (b : Int) = (ab : Int)) (u5 : bits .and .u16 (a : Int) (r : Int) = (ar : Int))
    (kf : ∀ W, Calls Try.prog 11 #[.int .i64 (m : Nat)] W fun e w' => e = .returned (.int .i64 (f : Nat)) ∧ w' = W) (kE : ∀ W, Calls Try.prog 13 #[.int .i64 (m : Nat)] W fun e w' => e = .returned (.int .i64 (E : Nat)) ∧ w' = W) (kG : ∀ W, Calls Try.prog 17 #[.int .i64 (m : Nat)] W fun e w' => e = .returned (.int .i64 (G : Nat)) ∧ w' = W) (kR : ∀ W, Calls Try.prog 15 #[.int .i64 (m : Nat)] W fun e w' => e = .returned (.int .i64 (Rr : Nat)) ∧ w' = W)
    (kA : ∀ W, Below w.heap.size w W → Calls Try.prog 27 #[.int .u16 (A : Nat)] W fun e w' => e = .returned (.int .i64 (sA : Nat)) ∧ Below w.heap.size w w') (ka : ∀ W, Below w.heap.size w W → Calls Try.prog 27 #[.int .u16 (a : Nat)] W fun e w' => e = .returned (.int .i64 (sa : Nat)) ∧ Below w.heap.size w w') (kb : ∀ W, Below w.heap.size w W → Calls Try.prog 27 #[.int .u16 (b : Nat)] W fun e w' => e = .returned (.int .i64 (sb : Nat)) ∧ Below w.heap.size w w') (kc : ∀ W, Below w.heap.size w W → Calls Try.prog 27 #[.int .u16 (c : Nat)] W fun e w' => e = .returned (.int .i64 (sc : Nat)) ∧ Below w.heap.size w w') (kr : ∀ W, Below w.heap.size w W → Calls Try.prog 27 #[.int .u16 (r : Nat)] W fun e w' => e = .returned (.int .i64 (sr : Nat)) ∧ Below w.heap.size w w') (kab : ∀ W, Below w.heap.size w W → Calls Try.prog 27 #[.int .u16 (ab : Nat)] W fun e w' => e = .returned (.int .i64 (sab : Nat)) ∧ Below w.heap.size w w') (kar : ∀ W, Below w.heap.size w W → Calls Try.prog 27 #[.int .u16 (ar : Nat)] W fun e w' => e = .returned (.int .i64 (sar : Nat)) ∧ Below w.heap.size w w')
    (hf : 3 * (f : Int) + 1 ≤ (m : Int)) (hm : (m : Int) ≤ 16) (hA : (sA : Int) = (m : Int))
    (h1 : (E : Int) ≤ (sa : Int)) (h2 : (E : Int) ≤ (sb : Int)) (h3 : ¬ (sab : Int) ≤ (f : Int)) (h4 : (sc : Int) ≤ (f : Int)) (h5 : ¬ (sr : Int) < (E : Int)) (h6 : ¬ (sr : Int) < (G : Int)) (h7 : (G : Int) ≤ (sa : Int)) (h8 : ¬ (sar : Int) < (Rr : Int)) (h9 : (Rr : Int) ≤ (sa : Int)) (h10 : ((ar : Int) == 0) = false) :
    Calls Try.prog 6 #[.int .u8 (n : Nat), .agg #[.int .u16 (x0 : Nat), .int .u16 (x1 : Nat), .int .u16 (x2 : Nat)]] w fun e w' => e = .returned (.bool true) ∧ Below w.heap.size w w' := by
  have B0 : Aside (Below w.heap.size w (w.alloc (.cells #[.int .u16 (x0 : Nat), .int .u16 (x1 : Nat), .int .u16 (x2 : Nat)] 36))) := (Below.refl _ w).alloc (Nat.le_refl _) _
  have BX : Aside (∀ w1, Below (w.alloc (.cells #[.int .u16 (x0 : Nat), .int .u16 (x1 : Nat), .int .u16 (x2 : Nat)] 36)).heap.size (w.alloc (.cells #[.int .u16 (x0 : Nat), .int .u16 (x1 : Nat), .int .u16 (x2 : Nat)] 36)) w1 → w1.cell? ⟨w.heap.size, 0, none⟩ = some (.int .u16 (x0 : Nat)) ∧ w1.cell? ⟨w.heap.size, 1, none⟩ = some (.int .u16 (x1 : Nat)) ∧ w1.cell? ⟨w.heap.size, 2, none⟩ = some (.int .u16 (x2 : Nat))) :=
    fun w1 h => ⟨cell_later h (by rw [World.cell?_alloc_at _ _ _ _ rfl]; rfl), cell_later h (by rw [World.cell?_alloc_at _ _ _ _ rfl]; rfl), cell_later h (by rw [World.cell?_alloc_at _ _ _ _ rfl]; rfl)⟩
  have AL : Aside (∀ W, Calls Try.prog 10 #[] W fun e w' => e = .returned (.bool true) ∧ Below W.heap.size W w') := alive_any
  go_enter Try.func6, Try.ntmps6
  go_wp2_with fail
  refine (AL.out (w.alloc (.cells #[.int .u16 (x0 : Nat), .int .u16 (x1 : Nat), .int .u16 (x2 : Nat)] 36))).mono ?_
  rintro e w1 ⟨rfl, b0⟩
  obtain ⟨c0, c1, c2⟩ := BX.out w1 b0
  have B1 : Aside (Below w.heap.size w w1) := below_step B0.out b0
  clear b0 B0 AL BX
  go_wp2_with fail
  refine (kf w1).mono ?_; rintro e w' ⟨rfl, hw⟩
  replace hw := hw.symm; subst hw
  go_wp2_with fail
  go_quiet (fail)
  have B9 : Aside (∀ q, Below w.heap.size w (w1.drewN q)) := fun q => below_drew B1.out q
  clear B1 c0 c1 c2
  obtain ⟨w2, hw2⟩ : ∃ x, x = w1.drewN nq := ⟨_, rfl⟩
  have b2 := B9.out nq
  clear B9
  rw [← hw2] at b2 ⊢
  clear hw2
  go_wp2_with fail
  refine (kA w2 b2).mono ?_; rintro e wA ⟨rfl, bA⟩
  go_wp2_with fail
  refine (ka wA bA).mono ?_; rintro e w3 ⟨rfl, b3⟩
  go_wp2_with fail
  refine (kE w3).mono ?_; rintro e w' ⟨rfl, hw⟩
  replace hw := hw.symm; subst hw
  go_wp2_with fail
  refine (kb w3 b3).mono ?_; rintro e w4 ⟨rfl, b4⟩
  go_wp2_with fail
  refine (kE w4).mono ?_; rintro e w' ⟨rfl, hw⟩
  replace hw := hw.symm; subst hw
  go_wp2_with fail
  refine (kab w4 b4).mono ?_; rintro e w5 ⟨rfl, b5⟩
  go_wp2_with fail
  refine (kc w5 b5).mono ?_; rintro e w6 ⟨rfl, b6⟩
  go_wp2_with fail
  refine (kr w6 b6).mono ?_; rintro e w7 ⟨rfl, b7⟩
  go_wp2_with fail
  refine (kE w7).mono ?_; rintro e w' ⟨rfl, hw⟩
  replace hw := hw.symm; subst hw
  go_wp2_with fail
  refine (kr w7 b7).mono ?_; rintro e w8 ⟨rfl, b8⟩
  go_wp2_with fail
  refine (kG w8).mono ?_; rintro e w' ⟨rfl, hw⟩
  replace hw := hw.symm; subst hw
  go_wp2_with fail
  refine (ka w8 b8).mono ?_; rintro e w9 ⟨rfl, b9⟩
  go_wp2_with fail
  refine (kG w9).mono ?_; rintro e w' ⟨rfl, hw⟩
  replace hw := hw.symm; subst hw
  go_wp2_with fail
  refine (kar w9 b9).mono ?_; rintro e w10 ⟨rfl, b10⟩
  go_wp2_with fail
  refine (kR w10).mono ?_; rintro e w' ⟨rfl, hw⟩
  replace hw := hw.symm; subst hw
  go_wp2_with fail
  refine (ka w10 b10).mono ?_; rintro e w11 ⟨rfl, b11⟩
  go_wp2_with fail
  refine (kR w11).mono ?_; rintro e w' ⟨rfl, hw⟩
  replace hw := hw.symm; subst hw
  go_wp2
  go_ret
  exact ⟨rfl, b11⟩

set_option maxHeartbeats 4000000 in
theorem meet_33 (n m x0 x1 x2 A a b c r ab ar f E G Rr sA sa sb sc sr sab sar : Nat) (w : World)
    (hn : n < 256) (e0 : (n : Int) % 16 + 1 = (m : Int)) (p : Nat) (hp : IntKind.u16.wrap ((2 : Int) ^ m) = (p : Int)) (hq : IntKind.u16.wrap ((p : Int) - 1) = (A : Int))
    (u0 : bits .and .u16 (x0 : Int) (A : Int) = (a : Int)) (u1 : bits .and .u16 (x1 : Int) (A : Int) = (b : Int)) (u2 : bits .and .u16 (x2 : Int) (A : Int) = (c : Int))
    (u3 : bits .andNot .u16 (A : Int) (c : Int) = (r : Int)) (u4 : bits .and .u16 (a : Int) (b : Int) = (ab : Int)) (u5 : bits .and .u16 (a : Int) (r : Int) = (ar : Int))
    (kf : ∀ W, Calls Try.prog 11 #[.int .i64 (m : Nat)] W fun e w' => e = .returned (.int .i64 (f : Nat)) ∧ w' = W) (kE : ∀ W, Calls Try.prog 13 #[.int .i64 (m : Nat)] W fun e w' => e = .returned (.int .i64 (E : Nat)) ∧ w' = W) (kG : ∀ W, Calls Try.prog 17 #[.int .i64 (m : Nat)] W fun e w' => e = .returned (.int .i64 (G : Nat)) ∧ w' = W) (kR : ∀ W, Calls Try.prog 15 #[.int .i64 (m : Nat)] W fun e w' => e = .returned (.int .i64 (Rr : Nat)) ∧ w' = W)
    (kA : ∀ W, Below w.heap.size w W → Calls Try.prog 27 #[.int .u16 (A : Nat)] W fun e w' => e = .returned (.int .i64 (sA : Nat)) ∧ Below w.heap.size w w') (ka : ∀ W, Below w.heap.size w W → Calls Try.prog 27 #[.int .u16 (a : Nat)] W fun e w' => e = .returned (.int .i64 (sa : Nat)) ∧ Below w.heap.size w w') (kb : ∀ W, Below w.heap.size w W → Calls Try.prog 27 #[.int .u16 (b : Nat)] W fun e w' => e = .returned (.int .i64 (sb : Nat)) ∧ Below w.heap.size w w') (kc : ∀ W, Below w.heap.size w W → Calls Try.prog 27 #[.int .u16 (c : Nat)] W fun e w' => e = .returned (.int .i64 (sc : Nat)) ∧ Below w.heap.size w w') (kr : ∀ W, Below w.heap.size w W → Calls Try.prog 27 #[.int .u16 (r : Nat)] W fun e w' => e = .returned (.int .i64 (sr : Nat)) ∧ Below w.heap.size w w') (kab : ∀ W, Below w.heap.size w W → Calls Try.prog 27 #[.int .u16 (ab : Nat)] W fun e w' => e = .returned (.int .i64 (sab : Nat)) ∧ Below w.heap.size w w') (kar : ∀ W, Below w.heap.size w W → Calls Try.prog 27 #[.int .u16 (ar : Nat)] W fun e w' => e = .returned (.int .i64 (sar : Nat)) ∧ Below w.heap.size w w')
    (hf : 3 * (f : Int) + 1 ≤ (m : Int)) (hm : (m : Int) ≤ 16) (hA : (sA : Int) = (m : Int))
    (h1 : (E : Int) ≤ (sa : Int)) (h2 : (E : Int) ≤ (sb : Int)) (h3 : ¬ (sab : Int) ≤ (f : Int)) (h4 : (sc : Int) ≤ (f : Int)) (h5 : ¬ (sr : Int) < (E : Int)) (h6 : ¬ (sr : Int) < (G : Int)) (h7 : ¬ (G : Int) ≤ (sa : Int)) (h9 : (Rr : Int) ≤ (sa : Int)) (h10 : ((ar : Int) == 0) = false) :
    Calls Try.prog 6 #[.int .u8 (n : Nat), .agg #[.int .u16 (x0 : Nat), .int .u16 (x1 : Nat), .int .u16 (x2 : Nat)]] w fun e w' => e = .returned (.bool true) ∧ Below w.heap.size w w' := by
  have B0 : Aside (Below w.heap.size w (w.alloc (.cells #[.int .u16 (x0 : Nat), .int .u16 (x1 : Nat), .int .u16 (x2 : Nat)] 36))) := (Below.refl _ w).alloc (Nat.le_refl _) _
  have BX : Aside (∀ w1, Below (w.alloc (.cells #[.int .u16 (x0 : Nat), .int .u16 (x1 : Nat), .int .u16 (x2 : Nat)] 36)).heap.size (w.alloc (.cells #[.int .u16 (x0 : Nat), .int .u16 (x1 : Nat), .int .u16 (x2 : Nat)] 36)) w1 → w1.cell? ⟨w.heap.size, 0, none⟩ = some (.int .u16 (x0 : Nat)) ∧ w1.cell? ⟨w.heap.size, 1, none⟩ = some (.int .u16 (x1 : Nat)) ∧ w1.cell? ⟨w.heap.size, 2, none⟩ = some (.int .u16 (x2 : Nat))) :=
    fun w1 h => ⟨cell_later h (by rw [World.cell?_alloc_at _ _ _ _ rfl]; rfl), cell_later h (by rw [World.cell?_alloc_at _ _ _ _ rfl]; rfl), cell_later h (by rw [World.cell?_alloc_at _ _ _ _ rfl]; rfl)⟩
  have AL : Aside (∀ W, Calls Try.prog 10 #[] W fun e w' => e = .returned (.bool true) ∧ Below W.heap.size W w') := alive_any
  go_enter Try.func6, Try.ntmps6
  go_wp2_with fail
  refine (AL.out (w.alloc (.cells #[.int .u16 (x0 : Nat), .int .u16 (x1 : Nat), .int .u16 (x2 : Nat)] 36))).mono ?_
  rintro e w1 ⟨rfl, b0⟩
  obtain ⟨c0, c1, c2⟩ := BX.out w1 b0
  have B1 : Aside (Below w.heap.size w w1) := below_step B0.out b0
  clear b0 B0 AL BX
  go_wp2_with fail
  refine (kf w1).mono ?_; rintro e w' ⟨rfl, hw⟩
  replace hw := hw.symm; subst hw
  go_wp2_with fail
  go_quiet (fail)
  have B9 : Aside (∀ q, Below w.heap.size w (w1.drewN q)) := fun q => below_drew B1.out q
  clear B1 c0 c1 c2
  obtain ⟨w2, hw2⟩ : ∃ x, x = w1.drewN nq := ⟨_, rfl⟩
  have b2 := B9.out nq
  clear B9
  rw [← hw2] at b2 ⊢
  clear hw2
  go_wp2_with fail
  refine (kA w2 b2).mono ?_; rintro e wA ⟨rfl, bA⟩
  go_wp2_with fail
  refine (ka wA bA).mono ?_; rintro e w3 ⟨rfl, b3⟩
  go_wp2_with fail
  refine (kE w3).mono ?_; rintro e w' ⟨rfl, hw⟩
  replace hw := hw.symm; subst hw
  go_wp2_with fail
  refine (kb w3 b3).mono ?_; rintro e w4 ⟨rfl, b4⟩
  go_wp2_with fail
  refine (kE w4).mono ?_; rintro e w' ⟨rfl, hw⟩
  replace hw := hw.symm; subst hw
  go_wp2_with fail
  refine (kab w4 b4).mono ?_; rintro e w5 ⟨rfl, b5⟩
  go_wp2_with fail
  refine (kc w5 b5).mono ?_; rintro e w6 ⟨rfl, b6⟩
  go_wp2_with fail
  refine (kr w6 b6).mono ?_; rintro e w7 ⟨rfl, b7⟩
  go_wp2_with fail
  refine (kE w7).mono ?_; rintro e w' ⟨rfl, hw⟩
  replace hw := hw.symm; subst hw
  go_wp2_with fail
  refine (kr w7 b7).mono ?_; rintro e w8 ⟨rfl, b8⟩
  go_wp2_with fail
  refine (kG w8).mono ?_; rintro e w' ⟨rfl, hw⟩
  replace hw := hw.symm; subst hw
  go_wp2_with fail
  refine (ka w8 b8).mono ?_; rintro e w9 ⟨rfl, b9⟩
  go_wp2_with fail
  refine (kG w9).mono ?_; rintro e w' ⟨rfl, hw⟩
  replace hw := hw.symm; subst hw
  go_wp2_with fail
  refine (ka w9 b9).mono ?_; rintro e w10 ⟨rfl, b10⟩
  go_wp2_with fail
  refine (kR w10).mono ?_; rintro e w' ⟨rfl, hw⟩
  replace hw := hw.symm; subst hw
  go_wp2
  go_ret
  exact ⟨rfl, b10⟩

set_option maxHeartbeats 4000000 in
theorem meet_34 (n m x0 x1 x2 A a b c r ab ar f E G Rr sA sa sb sc sr sab sar : Nat) (w : World)
    (hn : n < 256) (e0 : (n : Int) % 16 + 1 = (m : Int)) (p : Nat) (hp : IntKind.u16.wrap ((2 : Int) ^ m) = (p : Int)) (hq : IntKind.u16.wrap ((p : Int) - 1) = (A : Int))
    (u0 : bits .and .u16 (x0 : Int) (A : Int) = (a : Int)) (u1 : bits .and .u16 (x1 : Int) (A : Int) = (b : Int)) (u2 : bits .and .u16 (x2 : Int) (A : Int) = (c : Int))
    (u3 : bits .andNot .u16 (A : Int) (c : Int) = (r : Int)) (u4 : bits .and .u16 (a : Int) (b : Int) = (ab : Int)) (u5 : bits .and .u16 (a : Int) (r : Int) = (ar : Int))
    (kf : ∀ W, Calls Try.prog 11 #[.int .i64 (m : Nat)] W fun e w' => e = .returned (.int .i64 (f : Nat)) ∧ w' = W) (kE : ∀ W, Calls Try.prog 13 #[.int .i64 (m : Nat)] W fun e w' => e = .returned (.int .i64 (E : Nat)) ∧ w' = W) (kG : ∀ W, Calls Try.prog 17 #[.int .i64 (m : Nat)] W fun e w' => e = .returned (.int .i64 (G : Nat)) ∧ w' = W) (kR : ∀ W, Calls Try.prog 15 #[.int .i64 (m : Nat)] W fun e w' => e = .returned (.int .i64 (Rr : Nat)) ∧ w' = W)
    (kA : ∀ W, Below w.heap.size w W → Calls Try.prog 27 #[.int .u16 (A : Nat)] W fun e w' => e = .returned (.int .i64 (sA : Nat)) ∧ Below w.heap.size w w') (ka : ∀ W, Below w.heap.size w W → Calls Try.prog 27 #[.int .u16 (a : Nat)] W fun e w' => e = .returned (.int .i64 (sa : Nat)) ∧ Below w.heap.size w w') (kb : ∀ W, Below w.heap.size w W → Calls Try.prog 27 #[.int .u16 (b : Nat)] W fun e w' => e = .returned (.int .i64 (sb : Nat)) ∧ Below w.heap.size w w') (kc : ∀ W, Below w.heap.size w W → Calls Try.prog 27 #[.int .u16 (c : Nat)] W fun e w' => e = .returned (.int .i64 (sc : Nat)) ∧ Below w.heap.size w w') (kr : ∀ W, Below w.heap.size w W → Calls Try.prog 27 #[.int .u16 (r : Nat)] W fun e w' => e = .returned (.int .i64 (sr : Nat)) ∧ Below w.heap.size w w') (kab : ∀ W, Below w.heap.size w W → Calls Try.prog 27 #[.int .u16 (ab : Nat)] W fun e w' => e = .returned (.int .i64 (sab : Nat)) ∧ Below w.heap.size w w') (kar : ∀ W, Below w.heap.size w W → Calls Try.prog 27 #[.int .u16 (ar : Nat)] W fun e w' => e = .returned (.int .i64 (sar : Nat)) ∧ Below w.heap.size w w')
    (hf : 3 * (f : Int) + 1 ≤ (m : Int)) (hm : (m : Int) ≤ 16) (hA : (sA : Int) = (m : Int))
    (h1 : (E : Int) ≤ (sa : Int)) (h2 : (E : Int) ≤ (sb : Int)) (h3 : ¬ (sab : Int) ≤ (f : Int)) (h4 : (sc : Int) ≤ (f : Int)) (h5 : ¬ (sr : Int) < (E : Int)) (h6 : ¬ (sr : Int) < (G : Int)) (h7 : ¬ (G : Int) ≤ (sa : Int)) (h9 : ¬ (Rr : Int) ≤ (sa : Int)) :
    Calls Try.prog 6 #[.int .u8 (n : Nat), .agg #[.int .u16 (x0 : Nat), .int .u16 (x1 : Nat), .int .u16 (x2 : Nat)]] w fun e w' => e = .returned (.bool true) ∧ Below w.heap.size w w' := by
  have B0 : Aside (Below w.heap.size w (w.alloc (.cells #[.int .u16 (x0 : Nat), .int .u16 (x1 : Nat), .int .u16 (x2 : Nat)] 36))) := (Below.refl _ w).alloc (Nat.le_refl _) _
  have BX : Aside (∀ w1, Below (w.alloc (.cells #[.int .u16 (x0 : Nat), .int .u16 (x1 : Nat), .int .u16 (x2 : Nat)] 36)).heap.size (w.alloc (.cells #[.int .u16 (x0 : Nat), .int .u16 (x1 : Nat), .int .u16 (x2 : Nat)] 36)) w1 → w1.cell? ⟨w.heap.size, 0, none⟩ = some (.int .u16 (x0 : Nat)) ∧ w1.cell? ⟨w.heap.size, 1, none⟩ = some (.int .u16 (x1 : Nat)) ∧ w1.cell? ⟨w.heap.size, 2, none⟩ = some (.int .u16 (x2 : Nat))) :=
    fun w1 h => ⟨cell_later h (by rw [World.cell?_alloc_at _ _ _ _ rfl]; rfl), cell_later h (by rw [World.cell?_alloc_at _ _ _ _ rfl]; rfl), cell_later h (by rw [World.cell?_alloc_at _ _ _ _ rfl]; rfl)⟩
  have AL : Aside (∀ W, Calls Try.prog 10 #[] W fun e w' => e = .returned (.bool true) ∧ Below W.heap.size W w') := alive_any
  go_enter Try.func6, Try.ntmps6
  go_wp2_with fail
  refine (AL.out (w.alloc (.cells #[.int .u16 (x0 : Nat), .int .u16 (x1 : Nat), .int .u16 (x2 : Nat)] 36))).mono ?_
  rintro e w1 ⟨rfl, b0⟩
  obtain ⟨c0, c1, c2⟩ := BX.out w1 b0
  have B1 : Aside (Below w.heap.size w w1) := below_step B0.out b0
  clear b0 B0 AL BX
  go_wp2_with fail
  refine (kf w1).mono ?_; rintro e w' ⟨rfl, hw⟩
  replace hw := hw.symm; subst hw
  go_wp2_with fail
  go_quiet (fail)
  have B9 : Aside (∀ q, Below w.heap.size w (w1.drewN q)) := fun q => below_drew B1.out q
  clear B1 c0 c1 c2
  obtain ⟨w2, hw2⟩ : ∃ x, x = w1.drewN nq := ⟨_, rfl⟩
  have b2 := B9.out nq
  clear B9
  rw [← hw2] at b2 ⊢
  clear hw2
  go_wp2_with fail
  refine (kA w2 b2).mono ?_; rintro e wA ⟨rfl, bA⟩
  go_wp2_with fail
  refine (ka wA bA).mono ?_; rintro e w3 ⟨rfl, b3⟩
  go_wp2_with fail
  refine (kE w3).mono ?_; rintro e w' ⟨rfl, hw⟩
  replace hw := hw.symm; subst hw
  go_wp2_with fail
  refine (kb w3 b3).mono ?_; rintro e w4 ⟨rfl, b4⟩
  go_wp2_with fail
  refine (kE w4).mono ?_; rintro e w' ⟨rfl, hw⟩
  replace hw := hw.symm; subst hw
  go_wp2_with fail
  refine (kab w4 b4).mono ?_; rintro e w5 ⟨rfl, b5⟩
  go_wp2_with fail
  refine (kc w5 b5).mono ?_; rintro e w6 ⟨rfl, b6⟩
  go_wp2_with fail
  refine (kr w6 b6).mono ?_; rintro e w7 ⟨rfl, b7⟩
  go_wp2_with fail
  refine (kE w7).mono ?_; rintro e w' ⟨rfl, hw⟩
  replace hw := hw.symm; subst hw
  go_wp2_with fail
  refine (kr w7 b7).mono ?_; rintro e w8 ⟨rfl, b8⟩
  go_wp2_with fail
  refine (kG w8).mono ?_; rintro e w' ⟨rfl, hw⟩
  replace hw := hw.symm; subst hw
  go_wp2_with fail
  refine (ka w8 b8).mono ?_; rintro e w9 ⟨rfl, b9⟩
  go_wp2_with fail
  refine (kG w9).mono ?_; rintro e w' ⟨rfl, hw⟩
  replace hw := hw.symm; subst hw
  go_wp2_with fail
  refine (ka w9 b9).mono ?_; rintro e w10 ⟨rfl, b10⟩
  go_wp2_with fail
  refine (kR w10).mono ?_; rintro e w' ⟨rfl, hw⟩
  replace hw := hw.symm; subst hw
  go_wp2
  go_ret
  exact ⟨rfl, b10⟩

end Go.Proofs.Ytogieccgblojdaa
