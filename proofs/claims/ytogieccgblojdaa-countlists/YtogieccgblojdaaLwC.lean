/- The law on a set's list: the walk. -/
import Derived.Test.YtogieccgblojdaaLwB
namespace Go.Proofs.Ytogieccgblojdaa
open Go.RowKit

namespace Cn
theorem has_test {s : Nat} (hs : s < 65536) (i : Nat) : hasS s i = s.testBit i := by
  unfold hasS
  by_cases h : i ≤ 15
  · simp [h]
  · rw [test_big hs (by omega)]; simp
theorem upto_end {s : Nat} (hs : s < 65536) : upto s 20 = sizeS s := by
  rw [show (20 : Nat) = 16 + 1 + 1 + 1 + 1 from rfl, upto_succ, upto_succ, upto_succ, upto_succ, test_big hs (by omega), test_big hs (by omega), test_big hs (by omega), test_big hs (by omega)]
  rfl
end Cn

set_option maxHeartbeats 2000000 in
theorem lists_walk (s : Nat) (w : World) (hs : s < 65536) : Calls Try.prog 8 #[.int .u16 (s : Nat)] w fun e w' => e = .returned (.bool true) ∧ Below w.heap.size w w' := by
  have k0 : Aside (∀ W, Below w.heap.size w W → Calls Try.prog 30 #[.int .u16 (s : Nat)] W fun e w' => ∃ a cap, e = .returned (.slice a (Cn.sizeS s) cap) ∧ AtN w' a (Cn.listS s) ∧ Below W.heap.size W w' ∧ Below w.heap.size w w') := fun W h => c_list s hs h
  have k1 : Aside (∀ W, Below w.heap.size w W → Calls Try.prog 27 #[.int .u16 (s : Nat)] W fun e w' => e = .returned (.int .i64 (Cn.sizeS s : Nat)) ∧ Below w.heap.size w w') := fun W h => c_size s hs h
  have k2 : Aside (∀ (i : Nat) W, Calls Try.prog 21 #[.int .u16 (s : Nat), .int .u8 (i : Nat)] W fun e w' => e = .returned (.bool (s.testBit i)) ∧ w' = W) := fun i W => by
    have := has_any s i W hs
    rw [Cn.has_test hs] at this
    exact this
  have ALL : Aside (Cn.upto s 20 = Cn.sizeS s) := Cn.upto_end hs
  have LT : Aside (∀ i, s.testBit i = true → (Cn.listS s)[Cn.upto s i]? = some i ∧ Cn.upto s i < Cn.sizeS s) := by
    intro i h
    have hi : i < 16 := by
      by_cases h16 : i < 16
      · exact h16
      · rw [Cn.test_big hs (by omega)] at h; cases h
    have h1 := Cn.list_at hi h
    refine ⟨h1, ?_⟩
    have := (List.getElem?_eq_some_iff.1 h1).1
    rw [Cn.size_list] at this
    exact this
  have SZ := Cn.size_le s
  have UP : Aside (∀ i, Cn.upto s (i + 1) = Cn.upto s i + if s.testBit i then 1 else 0) := Cn.upto_succ s
  clear hs
  go_enter Try.func8, Try.ntmps8
  go_wp2_with fail
  refine (alive_any w).mono ?_; rintro e w1 ⟨rfl, b1⟩
  go_wp2_with fail
  refine (k0.out w1 b1).mono ?_; rintro e w2 ⟨a, cap, rfl, hat, -, b2⟩
  have A : Aside (AtN w2 a (Cn.listS s)) := hat
  have B : Aside (Below w.heap.size w w2) := b2
  clear hat b1 b2 k0
  go_wp2_with fail
  go_loop [4, 10] (fun n i => ∃ k : Nat, k ≤ 20 ∧ i = .int .u8 k ∧ n = .int .i64 (Cn.upto s k : Nat)) (fun _ i => 20 - (intOf i).toNat)
  case atStart => exact ⟨0, by omega, rfl, rfl⟩
  case round =>
    obtain ⟨k, hk, rfl, rfl⟩ := hrel
    have kH := k2.out k w2
    by_cases hlt : k < 20
    · have t1 : (k : Int) < 20 := by omega
      have up := UP.out k
      cases hb : s.testBit k with
      | true =>
        rw [hb] at kH up
        obtain ⟨h1, h2⟩ := LT.out k hb
        rcases A.out with e | ⟨b, off, rfl, hcs⟩
        · rw [e] at h1; simp at h1
        have c0 := hcs _ _ h1
        have E : Hid (Cn.upto s (k + 1) = Cn.upto s k + 1) := up
        generalize Cn.upto s k = u at *
        have t2 : ¬ (Cn.sizeS s : Int) ≤ (u : Int) := by omega
        have t3 : (u : Int) < (Cn.sizeS s : Int) := by omega
        have t4 : (Cn.sizeS s : Int) ≤ 16 := by omega
        generalize Cn.sizeS s = z at *
        clear hcs h1 h2 up LT UP k1 k2 hb
        go_wp2_with fail
        refine kH.mono ?_; rintro e w' ⟨rfl, hw⟩
        replace hw := hw.symm; subst hw
        go_wp2
        go_round
        case rel => exact ⟨k + 1, by omega, by go_num, by congr 1; have := E.out; omega⟩
        case measure => simp [intOf]; omega
      | false =>
        rw [hb] at kH up
        have E : Hid (Cn.upto s (k + 1) = Cn.upto s k) := up
        clear up LT UP k1 k2 hb
        go_wp2_with fail
        refine kH.mono ?_; rintro e w' ⟨rfl, hw⟩
        replace hw := hw.symm; subst hw
        go_wp2
        go_round
        case rel => exact ⟨k + 1, by omega, by go_num, by rw [E.out]⟩
        case measure => simp [intOf]; omega
    · obtain rfl : k = 20 := by omega
      have e20 := ALL.out
      have kS := k1.out w2 B.out
      generalize Cn.upto s 20 = u at *
      subst e20
      clear LT UP k1 k2 kH
      generalize Cn.sizeS s = z at *
      go_wp2_with fail
      refine kS.mono ?_; rintro e w3 ⟨rfl, b3⟩
      go_wp2
      go_ret
      exact ⟨rfl, b3⟩

end Go.Proofs.Ytogieccgblojdaa
