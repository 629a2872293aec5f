/- alive, and the laws on numbers of members and on two sets: the walks. -/
import Derived.Test.YtogieccgblojdaaOfA
import Derived.OpenShut
namespace Go.Proofs.Ytogieccgblojdaa
open Go.RowKit

theorem atN_new (w : World) (l : List Nat) (t : Nat) : AtN (w.alloc (.cells (u8s l).toArray t)) (some ⟨w.heap.size, 0, none⟩) l := by
  refine .inr ⟨_, 0, rfl, fun j x hx => ?_⟩
  rw [Nat.zero_add, World.cell?_alloc_at _ _ _ _ rfl, ← Array.getElem?_toList]
  simp [u8s, hx]

/-- Contracts, carried to where a law's walk began. -/
theorem c_size {B : Nat} {w W : World} (x : Nat) (hx : x < 65536) (hb : Below B w W) : Calls Try.prog 27 #[.int .u16 (x : Nat)] W fun e w' => e = .returned (.int .i64 (Cn.sizeS x : Nat)) ∧ Below B w w' := by
  refine (size_any x W hx).mono ?_
  rintro e w' ⟨rfl, q, rfl⟩
  exact ⟨rfl, below_drew hb q⟩
theorem c_list {w W : World} (x : Nat) (hx : x < 65536) (hb : Below w.heap.size w W) : Calls Try.prog 30 #[.int .u16 (x : Nat)] W fun e w' => ∃ a cap, e = .returned (.slice a (Cn.sizeS x) cap) ∧ AtN w' a (Cn.listS x) ∧ Below W.heap.size W w' ∧ Below w.heap.size w w' := by
  refine (list_any x W hx).mono ?_
  rintro e w' ⟨a, cap, rfl, h, hb2⟩
  exact ⟨a, cap, rfl, h, hb2, below_step hb hb2⟩

set_option maxHeartbeats 2000000 in
theorem alive_any (w : World) : Calls Try.prog 10 #[] w fun e w' => e = .returned (.bool true) ∧ Below w.heap.size w w' := by
  have R : Aside (∀ w', Below w.heap.size w w' → (fun (e : Ending) w' => e = .returned (.bool true) ∧ Below w.heap.size w w') (.returned (.bool true)) w') := fun w' h => ⟨rfl, h⟩
  generalize (fun (e : Ending) w' => e = .returned (.bool true) ∧ Below w.heap.size w w') = Q at R ⊢
  go_enter Try.func10, Try.ntmps10
  go_wp2_with fail
  have hB : Aside (Below w.heap.size w (w.alloc (.cells #[.int .u8 1, .int .u8 3] 5))) := (Below.refl _ w).alloc (Nat.le_refl _) _
  refine (of_any _ _ _ [1, 3] _ rfl (by show 2 ≤ _; omega) (atN_new w [1, 3] 5)).mono ?_
  rintro e w1 ⟨rfl, rfl⟩
  rw [show ofV (Cn.ofS 0 [1, 3]) = .tuple #[.int .u16 10, .bool true] by rw [show Cn.ofS 0 [1, 3] = some 10 by decide +kernel]; rfl]
  go_wp2_with fail
  refine (faulty_any _ _).mono ?_
  rintro e w1 ⟨rfl, rfl⟩
  rw [show Cn.faulty 4 = 1 by decide]
  go_wp2_with fail
  refine (echoes_any _ _).mono ?_
  rintro e w1 ⟨rfl, rfl⟩
  rw [show Cn.echoes 4 = 3 by decide]
  go_wp2_with fail
  refine (readies_any _ _).mono ?_
  rintro e w1 ⟨rfl, rfl⟩
  rw [show Cn.readies 4 = 2 by decide]
  go_wp2_with fail
  refine (enough_any _ _).mono ?_
  rintro e w1 ⟨rfl, rfl⟩
  rw [show Cn.enough 7 = 5 by decide]
  go_wp2_with fail
  refine (c_size 10 (by omega) hB.out).mono ?_
  rintro e w2 ⟨rfl, hB2⟩
  rw [show Cn.sizeS 10 = 2 by decide]
  have hB3 : Aside (Below w.heap.size w w2) := hB2
  clear hB2 hB
  go_wp2_with fail
  refine (has_any 10 3 _ (by omega)).mono ?_
  rintro e w3 ⟨rfl, hw⟩
  replace hw := hw.symm; subst hw
  rw [show Cn.hasS 10 3 = true by decide]
  go_wp2_with fail
  refine (c_list 10 (by omega) hB3.out).mono ?_
  rintro e w4 ⟨a, cap, rfl, hat, -, hB4⟩
  rw [show Cn.sizeS 10 = 2 by decide]
  have R1 := R.out w4 hB4
  clear R hat hB4
  go_wp2
  exact R1

set_option maxHeartbeats 2000000 in
theorem numbers_walk (n : Int) (w : World) : Calls Try.prog 3 #[.int .i64 n] w fun e w' => e = .returned (.bool true) ∧ Below w.heap.size w w' := by
  have f1 := fun W => faulty_any n W
  have f2 := fun W => rfaulty_any n W
  have f3 := fun W => echoes_any n W
  have f4 := fun W => rechoes_any n W
  have f5 := fun W => readies_any n W
  have f6 := fun W => rreadies_any n W
  have f7 := fun W => enough_any n W
  have f8 := fun W => renough_any n W
  generalize (Cn.faulty n : Int) = x1 at f1 f2
  generalize (Cn.echoes n : Int) = x2 at f3 f4
  generalize (Cn.readies n : Int) = x3 at f5 f6
  generalize (Cn.enough n : Int) = x4 at f7 f8
  go_enter Try.func3, Try.ntmps3
  go_wp2_with fail
  refine (alive_any w).mono ?_; rintro e w1 ⟨rfl, hb⟩
  go_wp2_with fail
  refine (f1 w1).mono ?_; rintro e w2 ⟨rfl, hw⟩
  replace hw := hw.symm; subst hw
  go_wp2_with fail
  refine (f2 w1).mono ?_; rintro e w2 ⟨rfl, hw⟩
  replace hw := hw.symm; subst hw
  go_wp2_with fail
  refine (f3 w1).mono ?_; rintro e w2 ⟨rfl, hw⟩
  replace hw := hw.symm; subst hw
  go_wp2_with fail
  refine (f4 w1).mono ?_; rintro e w2 ⟨rfl, hw⟩
  replace hw := hw.symm; subst hw
  go_wp2_with fail
  refine (f5 w1).mono ?_; rintro e w2 ⟨rfl, hw⟩
  replace hw := hw.symm; subst hw
  go_wp2_with fail
  refine (f6 w1).mono ?_; rintro e w2 ⟨rfl, hw⟩
  replace hw := hw.symm; subst hw
  go_wp2_with fail
  refine (f7 w1).mono ?_; rintro e w2 ⟨rfl, hw⟩
  replace hw := hw.symm; subst hw
  go_wp2_with fail
  refine (f8 w1).mono ?_; rintro e w2 ⟨rfl, hw⟩
  replace hw := hw.symm; subst hw
  go_wp2
  go_ret
  exact ⟨rfl, hb⟩

/-- Numbers of m and of one more. -/
theorem rises {m : Nat} (h1 : 1 ≤ m) (h2 : m ≤ 15) :
    Cn.faulty (m : Int) ≤ Cn.faulty ((m : Int) + 1) ∧ Cn.echoes (m : Int) ≤ Cn.echoes ((m : Int) + 1) ∧ Cn.enough (m : Int) ≤ Cn.enough ((m : Int) + 1) ∧
    m + Cn.faulty (m : Int) < 2 * Cn.echoes (m : Int) ∧ 2 * (Cn.echoes (m : Int) - 1) ≤ m + Cn.faulty (m : Int) ∧ Cn.readies (m : Int) + Cn.faulty (m : Int) = Cn.enough (m : Int) := by
  have key : ∀ k : Fin 15, let m := k.val + 1
      Cn.faulty (m : Int) ≤ Cn.faulty ((m : Int) + 1) ∧ Cn.echoes (m : Int) ≤ Cn.echoes ((m : Int) + 1) ∧ Cn.enough (m : Int) ≤ Cn.enough ((m : Int) + 1) ∧
      m + Cn.faulty (m : Int) < 2 * Cn.echoes (m : Int) ∧ 2 * (Cn.echoes (m : Int) - 1) ≤ m + Cn.faulty (m : Int) ∧ Cn.readies (m : Int) + Cn.faulty (m : Int) = Cn.enough (m : Int) := by decide +kernel
  have := key ⟨m - 1, by omega⟩
  simp only [show m - 1 + 1 = m by omega] at this
  exact this
theorem echoes_pos (n : Int) : 1 ≤ Cn.echoes n ∧ Cn.echoes n ≤ 11 := by
  have := Cn.held_bound n
  have := faulty_bound n
  unfold Cn.echoes; omega
theorem enough_le (n : Int) : Cn.enough n ≤ 11 := by
  have := faulty_bound n
  unfold Cn.enough; omega
theorem readies_le (n : Int) : Cn.readies n ≤ 6 := by
  have := faulty_bound n
  unfold Cn.readies; omega

set_option maxHeartbeats 2000000 in
theorem rise_walk (n : Nat) (w : World) (hn : n < 256) : Calls Try.prog 7 #[.int .u8 (n : Nat)] w fun e w' => e = .returned (.bool true) ∧ Below w.heap.size w w' := by
  obtain ⟨m, hm⟩ : ∃ m, m = n % 15 + 1 := ⟨_, rfl⟩
  obtain ⟨g1, g2, g3, g4, g5, g6⟩ := rises (m := m) (by omega) (by omega)
  have f1 := fun W => faulty_any (m : Int) W
  have f2 := fun W => faulty_any ((m : Int) + 1) W
  have f3 := fun W => echoes_any (m : Int) W
  have f4 := fun W => echoes_any ((m : Int) + 1) W
  have f5 := fun W => readies_any (m : Int) W
  have f7 := fun W => enough_any (m : Int) W
  have f8 := fun W => enough_any ((m : Int) + 1) W
  have b1 := faulty_bound (m : Int)
  have b2 := echoes_pos (m : Int)
  have b3 := readies_le (m : Int)
  generalize Cn.faulty (m : Int) = x1 at *
  generalize Cn.faulty ((m : Int) + 1) = x2 at *
  generalize Cn.echoes (m : Int) = x3 at *
  generalize Cn.echoes ((m : Int) + 1) = x4 at *
  generalize Cn.readies (m : Int) = x5 at *
  generalize Cn.enough (m : Int) = x7 at *
  generalize Cn.enough ((m : Int) + 1) = x8 at *
  have e0 : (n : Int) % 15 + 1 = (m : Int) := by omega
  have m1 : (1 : Int) ≤ (m : Int) := by omega
  have m2 : (m : Int) ≤ 15 := by omega
  have i1 : (x1 : Int) ≤ (x2 : Int) := by omega
  have i2 : (x3 : Int) ≤ (x4 : Int) := by omega
  have i3 : (x7 : Int) ≤ (x8 : Int) := by omega
  have i4 : (m : Int) + (x1 : Int) < 2 * (x3 : Int) := by omega
  have i5 : 2 * ((x3 : Int) - 1) ≤ (m : Int) + (x1 : Int) := by omega
  have i6 : (x5 : Int) + (x1 : Int) = (x7 : Int) := by omega
  have c1 : (x1 : Int) ≤ 5 := by omega
  have c2 : (x3 : Int) ≤ 11 := by omega
  have c3 : (x5 : Int) ≤ 6 := by omega
  clear g1 g2 g3 g4 g5 g6 hm b1 b2 b3
  go_enter Try.func7, Try.ntmps7
  go_wp2_with fail
  refine (alive_any w).mono ?_; rintro e w1 ⟨rfl, hb⟩
  go_wp2_with fail
  refine (f1 w1).mono ?_; rintro e w2 ⟨rfl, hw⟩
  replace hw := hw.symm; subst hw
  go_wp2_with fail
  refine (f2 w1).mono ?_; rintro e w2 ⟨rfl, hw⟩
  replace hw := hw.symm; subst hw
  go_wp2_with fail
  refine (f3 w1).mono ?_; rintro e w2 ⟨rfl, hw⟩
  replace hw := hw.symm; subst hw
  go_wp2_with fail
  refine (f4 w1).mono ?_; rintro e w2 ⟨rfl, hw⟩
  replace hw := hw.symm; subst hw
  go_wp2_with fail
  refine (f7 w1).mono ?_; rintro e w2 ⟨rfl, hw⟩
  replace hw := hw.symm; subst hw
  go_wp2_with fail
  refine (f8 w1).mono ?_; rintro e w2 ⟨rfl, hw⟩
  replace hw := hw.symm; subst hw
  go_wp2_with fail
  refine (f3 w1).mono ?_; rintro e w2 ⟨rfl, hw⟩
  replace hw := hw.symm; subst hw
  go_wp2_with fail
  refine (f3 w1).mono ?_; rintro e w2 ⟨rfl, hw⟩
  replace hw := hw.symm; subst hw
  go_wp2_with fail
  refine (f5 w1).mono ?_; rintro e w2 ⟨rfl, hw⟩
  replace hw := hw.symm; subst hw
  go_wp2_with fail
  refine (f7 w1).mono ?_; rintro e w2 ⟨rfl, hw⟩
  replace hw := hw.symm; subst hw
  go_wp2
  go_ret
  exact ⟨rfl, hb⟩

end Go.Proofs.Ytogieccgblojdaa
