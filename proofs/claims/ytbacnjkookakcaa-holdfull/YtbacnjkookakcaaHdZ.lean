/- The walk of HoldFull. -/
import Derived.Test.YtbacnjkookakcaaHdY
set_option linter.unusedVariables false
namespace Go.Proofs.Ytbacnjkookakcaa
open Go.RowKit
namespace Hd
open Ps

set_option maxHeartbeats 16000000 in
set_option maxRecDepth 100000 in
theorem full_walk (n fr : Nat) (w : World) (hn : n < 256) (hf : fr < 256) : Calls Try.prog 8 #[.int .u8 (n : Int), .int .u8 (fr : Int)] w fun e w' => e = .returned (.bool true) ∧ Below w.heap.size w w' := by
  obtain ⟨q, r, M, hq, hM, n1, n2, n3, n4, n5, n6, n7, n8, n9⟩ := full_begin n fr hn hf
  have C9 : Aside (∀ W, _) := alive_any
  have i1 : (0 : Int) ≤ (q : Int) := by omega
  have i2 : (q : Int) < 16 := by omega
  clear hn hf
  go_enter Try.func8, Try.ntmps8
  go_wp2_with (first
    | (go_at_call 9; (with_reducible refine (C9.out _).mono ?_); rintro e w1 ⟨rfl, hb⟩; have ST0 : Aside (FS w w1 (w1.alloc (.cells #[.int .u16 0, .int .u16 0, .int .u16 0, .int .u16 0, .int .u16 0, .int .u16 0, .int .u16 0, .int .u16 0, .int .u16 0, .int .u16 0, .int .u16 0, .int .u16 0, .int .u16 0, .int .u16 0, .int .u16 0, .int .u16 0, .slice none 0 0] 36)) q 0 none 0 ∧ w.heap.size ≤ w1.heap.size) := ⟨⟨H17.zero w1, .inl rfl, hb.alloc hb.size _⟩, hb.size⟩; clear hb))
  obtain ⟨W0, hW0⟩ : ∃ W0, W0 = w1.alloc (.cells #[.int .u16 0, .int .u16 0, .int .u16 0, .int .u16 0, .int .u16 0, .int .u16 0, .int .u16 0, .int .u16 0, .int .u16 0, .int .u16 0, .int .u16 0, .int .u16 0, .int .u16 0, .int .u16 0, .int .u16 0, .int .u16 0, .slice none 0 0] 36) := ⟨_, rfl⟩
  rw [← hW0] at ST0 ⊢
  clear hW0
  have LE : Aside (w.heap.size ≤ w1.heap.size) := ST0.out.2
  clear n1 n2 n3 n4 n5 n6 n7 n8 n9
  go_loopw [7, 8, 9, 10, 11, 24] (fun _ _ _ _ _ i wr => ∃ (k m : Nat) (a : Option Addr) (c : Nat), k ≤ M ∧ i = .int .i64 (k : Nat) ∧ m = min k 64 ∧ Aside (FS w w1 wr q m a c)) (fun _ _ _ _ _ i _ => M - (intOf i).toNat)
  case atStart => exact ⟨0, 0, none, 0, by omega, rfl, rfl, ST0.out.1⟩
  case round =>
    obtain ⟨k, m, a, c, hMk, rfl, hm, ST⟩ := hrel
    by_cases hlt : k < M
    · have t1 : (k : Int) < (M : Int) := by omega
      obtain ⟨s, hs⟩ : ∃ s, s = k + 1 := ⟨_, rfl⟩
      obtain ⟨m1, m2, m3⟩ := full_nums hs (by omega)
      by_cases hk64 : k < 64
      · have t64 : (k : Int) < 64 := by omega
        obtain rfl : m = k := by omega
        have FIN : Aside (m + 1 ≤ M ∧ s = min (m + 1) 64 ∧ (s : Int) = ((m + 1 : Nat) : Int)) := by refine ⟨by omega, by omega, by omega⟩
        · have ZX : Aside (I20 (wr.alloc (.cells #[.int .u8 0, .int .i64 0, .int .i64 0, .int .u16 0, .int .u16 0, .int .u16 0, .int .u16 0, .int .u16 0, .int .u16 0, .int .u16 0, .int .u16 0, .int .u16 0, .int .u16 0, .int .u16 0, .int .u16 0, .int .u16 0, .int .u16 0, .int .u16 0, .int .u16 0, .string ⟨#[]⟩] 43)) wr.heap.size 43 ⟨0, 0, ⟨0, fun _ => 0, ⟨#[]⟩⟩⟩) := I20.zeroT wr 43
          obtain ⟨W2, hW2⟩ : ∃ W2, W2 = (wr.alloc (.cells #[.int .u8 0, .int .i64 0, .int .i64 0, .int .u16 0, .int .u16 0, .int .u16 0, .int .u16 0, .int .u16 0, .int .u16 0, .int .u16 0, .int .u16 0, .int .u16 0, .int .u16 0, .int .u16 0, .int .u16 0, .int .u16 0, .int .u16 0, .int .u16 0, .int .u16 0, .string ⟨#[]⟩] 43)).setCells wr.heap.size 0 (itA (freshX q s)).toList := ⟨_, rfl⟩
          have S2 : Aside (I20 W2 wr.heap.size 43 (freshX q s) ∧ FS w w1 W2 q m a c ∧ w1.heap.size ≠ wr.heap.size) := by
            have hb : Below wr.heap.size wr W2 := by rw [hW2]; exact below_cells _ _ ((Below.refl _ wr).alloc (Nat.le_refl _) _) (Nat.le_refl _)
            exact ⟨by rw [hW2]; exact ZX.out.whole _, ST.out.later hb, Nat.ne_of_lt ST.out.hH.lt⟩
          have S3 : Aside (I20 (W2.setCell ⟨wr.heap.size, 3 + q, none⟩ (.int .u16 (s : Int))) wr.heap.size 43 (rowX q s) ∧ FS w w1 (W2.setCell ⟨wr.heap.size, 3 + q, none⟩ (.int .u16 (s : Int))) q m a c) := by
            have hb : Below wr.heap.size wr (W2.setCell ⟨wr.heap.size, 3 + q, none⟩ (.int .u16 (s : Int))) := by
              rw [hW2]
              exact (below_cells _ _ ((Below.refl _ wr).alloc (Nat.le_refl _) _) (Nat.le_refl _)).setCell (p := ⟨wr.heap.size, 3 + q, none⟩) (Nat.le_refl _) _
            exact ⟨fresh_set S2.out.1 hq, ST.out.later hb⟩
          have d1 : W2.cell? ⟨wr.heap.size, 3 + q, none⟩ = some (.int .u16 0) := S2.out.1.past hq
          have z1 := S2.out.1.frozen (3 + q)
          have PUT : Aside (∀ W, AtI W a (waitL q m) → Calls Try.prog 11 #[.agg (holdA zeroV (.slice a m c)), .agg (itA (rowX q s))] W fun e w' => ∃ a c a2 c2, e = .returned (.tuple #[.agg (holdA zeroV (.slice a s c)), .slice a2 0 c2, .int .i64 0]) ∧ AtI w' a (waitL q s) ∧ Below W.heap.size W w') := fun W h => put_lt hq hk64 hs W a c h
          clear hs hm hMk
          go_wp2_with (first
            | (with_reducible refine wpList_bld1 rfl 41 0 _ rfl _ _ (ba41 _) rfl ?_)
            | (with_reducible refine wpList_build3 rfl 43 _ _ _ rfl _ _ _ _ (build43 (freshX q s) _) rfl rfl rfl ?_)
            | ((with_reducible refine wpList_it_store ZX.out rfl _ _ rfl rfl rfl ?_); rw [← hW2]; clear hW2 ZX)
            | (with_reducible refine wpList_hold36 S3.out.2.hH rfl _ rfl rfl ?_)
            | (with_reducible refine wpList_it43 S3.out.1 rfl _ rfl rfl ?_)
            | (go_at_call 11; (with_reducible refine (PUT.out _ S3.out.2.hA).mono ?_); rintro e w3 ⟨a1, c1, a2, c2, rfl, h1, hb⟩; have Z3 : Aside (H17 (w3.alloc (.cells #[.int .u16 0, .int .u16 0, .int .u16 0, .int .u16 0, .int .u16 0, .int .u16 0, .int .u16 0, .int .u16 0, .int .u16 0, .int .u16 0, .int .u16 0, .int .u16 0, .int .u16 0, .int .u16 0, .int .u16 0, .int .u16 0, .slice none 0 0] 36)) w3.heap.size 36 (fun _ => 0) (.slice none 0 0)) := H17.zero w3; obtain ⟨W3, hW3⟩ : ∃ W3, W3 = (w3.alloc (.cells #[.int .u16 0, .int .u16 0, .int .u16 0, .int .u16 0, .int .u16 0, .int .u16 0, .int .u16 0, .int .u16 0, .int .u16 0, .int .u16 0, .int .u16 0, .int .u16 0, .int .u16 0, .int .u16 0, .int .u16 0, .int .u16 0, .slice none 0 0] 36)).setCells w3.heap.size 0 (holdA zeroV (.slice a1 s c1)).toList := ⟨_, rfl⟩; have b3 : Below w3.heap.size w3 W3 := (by rw [hW3]; exact below_cells _ _ ((Below.refl _ w3).alloc (Nat.le_refl _) _) (Nat.le_refl _)); have S4 : Aside (H17 W3 w3.heap.size 36 zeroV (.slice a1 s c1) ∧ FS w w1 W3 q m a c ∧ AtI W3 a1 (waitL q s)) := ⟨(by rw [hW3]; exact Z3.out.whole), (S3.out.2.later hb).later b3, h1.later b3⟩; have S5 : Aside (FS w w1 (W3.setCells w1.heap.size 0 (holdA zeroV (.slice a1 s c1)).toList) q s a1 c1) := S4.out.2.1.next LE.out S4.out.2.2; clear h1 hb b3)
            | ((with_reducible refine wpList_hold_store Z3.out rfl _ _ rfl rfl rfl ?_); rw [← hW3]; clear hW3 Z3 d1 z1)
            | (with_reducible refine wpList_hold36 S4.out.1 rfl _ rfl rfl ?_)
            | (with_reducible refine wpList_hold_store S4.out.2.1.hH rfl _ _ rfl rfl rfl ?_))
          go_roundw
          case rel => exact ⟨m + 1, s, a1, c1, FIN.out.1, by rw [FIN.out.2.2], FIN.out.2.1, S5⟩
          case measure =>
            have F := FIN.out
            clear m1 m2 m3 S5 S3 S2 ST PUT S4
            simp only [intOf]
            omega
      · have t64 : ¬ (k : Int) < 64 := by omega
        obtain rfl : m = 64 := by omega
        have FIN : Aside (k + 1 ≤ M ∧ 64 = min (k + 1) 64 ∧ (s : Int) = ((k + 1 : Nat) : Int)) := by refine ⟨by omega, by omega, by omega⟩
        · have ZX : Aside (I20 (wr.alloc (.cells #[.int .u8 0, .int .i64 0, .int .i64 0, .int .u16 0, .int .u16 0, .int .u16 0, .int .u16 0, .int .u16 0, .int .u16 0, .int .u16 0, .int .u16 0, .int .u16 0, .int .u16 0, .int .u16 0, .int .u16 0, .int .u16 0, .int .u16 0, .int .u16 0, .int .u16 0, .string ⟨#[]⟩] 43)) wr.heap.size 43 ⟨0, 0, ⟨0, fun _ => 0, ⟨#[]⟩⟩⟩) := I20.zeroT wr 43
          obtain ⟨W2, hW2⟩ : ∃ W2, W2 = (wr.alloc (.cells #[.int .u8 0, .int .i64 0, .int .i64 0, .int .u16 0, .int .u16 0, .int .u16 0, .int .u16 0, .int .u16 0, .int .u16 0, .int .u16 0, .int .u16 0, .int .u16 0, .int .u16 0, .int .u16 0, .int .u16 0, .int .u16 0, .int .u16 0, .int .u16 0, .int .u16 0, .string ⟨#[]⟩] 43)).setCells wr.heap.size 0 (itA (freshX q s)).toList := ⟨_, rfl⟩
          have S2 : Aside (I20 W2 wr.heap.size 43 (freshX q s) ∧ FS w w1 W2 q 64 a c ∧ w1.heap.size ≠ wr.heap.size) := by
            have hb : Below wr.heap.size wr W2 := by rw [hW2]; exact below_cells _ _ ((Below.refl _ wr).alloc (Nat.le_refl _) _) (Nat.le_refl _)
            exact ⟨by rw [hW2]; exact ZX.out.whole _, ST.out.later hb, Nat.ne_of_lt ST.out.hH.lt⟩
          have S3 : Aside (I20 (W2.setCell ⟨wr.heap.size, 3 + q, none⟩ (.int .u16 (s : Int))) wr.heap.size 43 (rowX q s) ∧ FS w w1 (W2.setCell ⟨wr.heap.size, 3 + q, none⟩ (.int .u16 (s : Int))) q 64 a c) := by
            have hb : Below wr.heap.size wr (W2.setCell ⟨wr.heap.size, 3 + q, none⟩ (.int .u16 (s : Int))) := by
              rw [hW2]
              exact (below_cells _ _ ((Below.refl _ wr).alloc (Nat.le_refl _) _) (Nat.le_refl _)).setCell (p := ⟨wr.heap.size, 3 + q, none⟩) (Nat.le_refl _) _
            exact ⟨fresh_set S2.out.1 hq, ST.out.later hb⟩
          have d1 : W2.cell? ⟨wr.heap.size, 3 + q, none⟩ = some (.int .u16 0) := S2.out.1.past hq
          have z1 := S2.out.1.frozen (3 + q)
          have PUT : Aside (∀ W, AtI W a (waitL q 64) → Calls Try.prog 11 #[.agg (holdA zeroV (.slice a 64 c)), .agg (itA (rowX q s))] W fun e w' => ∃ a c a2 c2, e = .returned (.tuple #[.agg (holdA zeroV (.slice a 64 c)), .slice a2 0 c2, .int .i64 7]) ∧ AtI w' a (waitL q 64) ∧ Below W.heap.size W w') := fun W h => put_ge hq (by omega) (by omega) W a c h
          clear hs hm hMk
          go_wp2_with (first
            | (with_reducible refine wpList_bld1 rfl 41 0 _ rfl _ _ (ba41 _) rfl ?_)
            | (with_reducible refine wpList_build3 rfl 43 _ _ _ rfl _ _ _ _ (build43 (freshX q s) _) rfl rfl rfl ?_)
            | ((with_reducible refine wpList_it_store ZX.out rfl _ _ rfl rfl rfl ?_); rw [← hW2]; clear hW2 ZX)
            | (with_reducible refine wpList_hold36 S3.out.2.hH rfl _ rfl rfl ?_)
            | (with_reducible refine wpList_it43 S3.out.1 rfl _ rfl rfl ?_)
            | (go_at_call 11; (with_reducible refine (PUT.out _ S3.out.2.hA).mono ?_); rintro e w3 ⟨a1, c1, a2, c2, rfl, h1, hb⟩; have Z3 : Aside (H17 (w3.alloc (.cells #[.int .u16 0, .int .u16 0, .int .u16 0, .int .u16 0, .int .u16 0, .int .u16 0, .int .u16 0, .int .u16 0, .int .u16 0, .int .u16 0, .int .u16 0, .int .u16 0, .int .u16 0, .int .u16 0, .int .u16 0, .int .u16 0, .slice none 0 0] 36)) w3.heap.size 36 (fun _ => 0) (.slice none 0 0)) := H17.zero w3; obtain ⟨W3, hW3⟩ : ∃ W3, W3 = (w3.alloc (.cells #[.int .u16 0, .int .u16 0, .int .u16 0, .int .u16 0, .int .u16 0, .int .u16 0, .int .u16 0, .int .u16 0, .int .u16 0, .int .u16 0, .int .u16 0, .int .u16 0, .int .u16 0, .int .u16 0, .int .u16 0, .int .u16 0, .slice none 0 0] 36)).setCells w3.heap.size 0 (holdA zeroV (.slice a1 64 c1)).toList := ⟨_, rfl⟩; have b3 : Below w3.heap.size w3 W3 := (by rw [hW3]; exact below_cells _ _ ((Below.refl _ w3).alloc (Nat.le_refl _) _) (Nat.le_refl _)); have S4 : Aside (H17 W3 w3.heap.size 36 zeroV (.slice a1 64 c1) ∧ FS w w1 W3 q 64 a c ∧ AtI W3 a1 (waitL q 64)) := ⟨(by rw [hW3]; exact Z3.out.whole), (S3.out.2.later hb).later b3, h1.later b3⟩; have S5 : Aside (FS w w1 (W3.setCells w1.heap.size 0 (holdA zeroV (.slice a1 64 c1)).toList) q 64 a1 c1) := S4.out.2.1.next LE.out S4.out.2.2; clear h1 hb b3)
            | ((with_reducible refine wpList_hold_store Z3.out rfl _ _ rfl rfl rfl ?_); rw [← hW3]; clear hW3 Z3 d1 z1)
            | (with_reducible refine wpList_hold36 S4.out.1 rfl _ rfl rfl ?_)
            | (with_reducible refine wpList_hold_store S4.out.2.1.hH rfl _ _ rfl rfl rfl ?_))
          go_roundw
          case rel => exact ⟨k + 1, 64, a1, c1, FIN.out.1, by rw [FIN.out.2.2], FIN.out.2.1, S5⟩
          case measure =>
            have F := FIN.out
            clear m1 m2 m3 S5 S3 S2 ST PUT S4
            simp only [intOf]
            omega
    · obtain rfl : k = M := by omega
      have t1 : ¬ (k : Int) < (k : Int) := by omega
      obtain ⟨u, hu⟩ : ∃ u, u = m + 1 := ⟨_, rfl⟩
      have mn : min (k : Int) 64 = (m : Int) := by omega
      obtain ⟨m1, m2, _⟩ := full_nums hu (by omega)
      have PUT : Aside (∀ W, AtI W a (waitL q m) → Calls Try.prog 11 #[.agg (holdA zeroV (.slice a m c)), .agg (itA (rowX q 0))] W fun e w' => ∃ F n a c a2 c2, e = .returned (.tuple #[.agg (holdA F (.slice a n c)), .slice a2 u c2, .int .i64 0]) ∧ Below W.heap.size W w') := fun W h => put_end hq (by omega) hu W a c h
      clear hu hm hMk hlt
      go_wp2_with (first
        | (with_reducible refine wpList_bld1 rfl 41 0 _ rfl _ _ (ba41 _) rfl ?_)
        | (with_reducible refine wpList_bld2 rfl 43 0 2 _ _ rfl _ _ _ (bq43 q _) rfl rfl ?_)
        | (with_reducible refine wpList_hold36 ST.out.hH rfl _ rfl rfl ?_)
        | (go_at_call 11; (with_reducible refine (PUT.out _ ST.out.hA).mono ?_); rintro e w3 ⟨F, n3, a1, c1, a2, c2, rfl, hb⟩; have Z3 : Aside (H17 (w3.alloc (.cells #[.int .u16 0, .int .u16 0, .int .u16 0, .int .u16 0, .int .u16 0, .int .u16 0, .int .u16 0, .int .u16 0, .int .u16 0, .int .u16 0, .int .u16 0, .int .u16 0, .int .u16 0, .int .u16 0, .int .u16 0, .int .u16 0, .slice none 0 0] 36)) w3.heap.size 36 (fun _ => 0) (.slice none 0 0)) := H17.zero w3; have B : Aside (∀ cs, Below w.heap.size w ((w3.alloc (.cells #[.int .u16 0, .int .u16 0, .int .u16 0, .int .u16 0, .int .u16 0, .int .u16 0, .int .u16 0, .int .u16 0, .int .u16 0, .int .u16 0, .int .u16 0, .int .u16 0, .int .u16 0, .int .u16 0, .int .u16 0, .int .u16 0, .slice none 0 0] 36)).setCells w3.heap.size 0 cs)) := (fun cs => step_below (step_below ST.out.below hb) (below_cells _ _ ((Below.refl _ w3).alloc (Nat.le_refl _) _) (Nat.le_refl _))); clear hb)
        | (with_reducible refine wpList_hold_store Z3.out rfl _ _ rfl rfl rfl ?_))
      go_ret
      exact ⟨rfl, B.out _⟩
end Hd
end Go.Proofs.Ytbacnjkookakcaa
