/- TermMade: the walk. -/
import Derived.Test.YtldojinnipbblaaLawG
namespace Go.Proofs.Ytldojinnipbblaa
open Go.RowKit

set_option maxHeartbeats 4000000 in
theorem made_early (key t other : ByteArray) (w : World) (h : 2100 < key.size ∨ 2100 < t.size ∨ 2100 < other.size) : Calls Try.prog 6 #[.string key, .string t, .string other] w fun e w' => e = .returned (.bool true) ∧ Below w.heap.size w w' := by
  have key : (2100 : Int) < (key.size : Int) ∨ (¬ (2100 : Int) < (key.size : Int) ∧ (2100 : Int) < (t.size : Int)) ∨ (¬ (2100 : Int) < (key.size : Int) ∧ ¬ (2100 : Int) < (t.size : Int) ∧ (2100 : Int) < (other.size : Int)) := by omega
  clear h
  rcases key with t1 | ⟨t1, t2⟩ | ⟨t1, t2, t3⟩
  all_goals
    go_enter Try.func6, Try.ntmps6
    go_wp2_with fail
    refine (alive_any w).mono ?_
    rintro e w1 ⟨rfl, hb1⟩
    go_wp2
    go_ret
    exact ⟨rfl, hb1⟩

set_option maxHeartbeats 8000000 in
theorem made_bad (key t other S Y : ByteArray) (kk c g i co : Nat) (w : World) (t1 : ¬ (2100 : Int) < (key.size : Int)) (t2 : ¬ (2100 : Int) < (t.size : Int)) (t3 : ¬ (2100 : Int) < (other.size : Int)) (tc : ((c : Int) == 0) = false) (HP0 : ∀ W, Calls Try.prog 12 #[.string t] W fun e w' => ∃ a n cap, e = .returned (.tuple #[.int .u8 (kk : Int), .slice a n cap, .int .i64 (c : Nat)]) ∧ Below W.heap.size W w' ∧ n = 0) (HS0 : ∀ W, Calls Try.prog 23 #[.int .u8 115, .slice (some ⟨W.heap.size, 0, none⟩) 2 2] (W.alloc (.cells #[.string key, .string t] 22)) fun e w' => e = .returned (.tuple #[.string S, .int .i64 (g : Nat)]) ∧ Below W.heap.size W w') (HO01 : g = 0 → ∀ W, Calls Try.prog 25 #[.string key, .string S] W fun e w' => e = .returned (.tuple #[.string t, .int .i64 0]) ∧ Below W.heap.size W w') (HO02 : ∀ W, Calls Try.prog 25 #[.string other, .string S] W fun e w' => e = .returned (.tuple #[.string Y, .int .i64 (i : Nat)]) ∧ Below W.heap.size W w') (HC0 : ∀ W, Calls Try.prog 16 #[.string other] W fun e w' => e = .returned (.int .i64 (co : Nat)) ∧ Below W.heap.size W w') (hend : ((g : Int) != 0) = true ∨ (g = 0 ∧ i = co ∧ ((co : Int) != 0) = true) ∨ (g = 0 ∧ co = 0 ∧ i = 0 ∧ (other.toList == key.toList) = true) ∨ (g = 0 ∧ co = 0 ∧ i = 12 ∧ (other.toList == key.toList) = false ∧ Y = ⟨#[]⟩)) :
    Calls Try.prog 6 #[.string key, .string t, .string other] w fun e w' => e = .returned (.bool true) ∧ Below w.heap.size w w' := by
  have HP : Aside (∀ W, _) := HP0
  have HS : Aside (∀ W, _) := HS0
  have HO2 : Aside (∀ W, _) := HO02
  have HC : Aside (∀ W, _) := HC0
  clear HP0 HS0 HO02 HC0
  rcases hend with v1 | ⟨rfl, rfl, v1⟩ | ⟨rfl, rfl, rfl, v1⟩ | ⟨rfl, rfl, rfl, v1, rfl⟩
  · clear HO01 HO2 HC
    go_enter Try.func6, Try.ntmps6
    go_wp2_with fail
    refine (alive_any w).mono ?_
    rintro e w1 ⟨rfl, hb1⟩
    have B1 : Aside (Below w.heap.size w w1) := hb1
    clear hb1
    go_wp2_with fail
    refine (HP.out w1).mono ?_
    rintro e w2 ⟨a2, n2, cap2, rfl, hb2, hz2⟩
    have B2 : Aside (Below w.heap.size w w2) := below_step B1.out hb2
    clear hb2 B1 HP hz2
    go_wp2_with fail
    refine (HS.out w2).mono ?_
    rintro e w3 ⟨rfl, hb3⟩
    have B3 : Aside (Below w.heap.size w w3) := below_step B2.out hb3
    clear hb3 B2 HS
    go_wp2
    go_ret
    exact ⟨rfl, B3.out⟩
  · have HO1 : Aside (∀ W, _) := HO01 rfl
    clear HO01
    go_enter Try.func6, Try.ntmps6
    go_wp2_with fail
    refine (alive_any w).mono ?_
    rintro e w1 ⟨rfl, hb1⟩
    have B1 : Aside (Below w.heap.size w w1) := hb1
    clear hb1
    go_wp2_with fail
    refine (HP.out w1).mono ?_
    rintro e w2 ⟨a2, n2, cap2, rfl, hb2, hz2⟩
    have B2 : Aside (Below w.heap.size w w2) := below_step B1.out hb2
    clear hb2 B1 HP hz2
    go_wp2_with fail
    refine (HS.out w2).mono ?_
    rintro e w3 ⟨rfl, hb3⟩
    have B3 : Aside (Below w.heap.size w w3) := below_step B2.out hb3
    clear hb3 B2 HS
    go_wp2_with fail
    refine (HO1.out w3).mono ?_
    rintro e w4 ⟨rfl, hb4⟩
    have B4 : Aside (Below w.heap.size w w4) := below_step B3.out hb4
    clear hb4 B3 HO1
    go_wp2_with fail
    refine (HO2.out w4).mono ?_
    rintro e w5 ⟨rfl, hb5⟩
    have B5 : Aside (Below w.heap.size w w5) := below_step B4.out hb5
    clear hb5 B4 HO2
    go_wp2_with fail
    refine (HC.out w5).mono ?_
    rintro e w6 ⟨rfl, hb6⟩
    have B6 : Aside (Below w.heap.size w w6) := below_step B5.out hb6
    clear hb6 B5
    go_wp2_with fail
    refine (HC.out w6).mono ?_
    rintro e w7 ⟨rfl, hb7⟩
    have B7 : Aside (Below w.heap.size w w7) := below_step B6.out hb7
    clear hb7 B6 HC
    go_wp2
    go_ret
    exact ⟨rfl, B7.out⟩
  · have HO1 : Aside (∀ W, _) := HO01 rfl
    clear HO01
    go_enter Try.func6, Try.ntmps6
    go_wp2_with fail
    refine (alive_any w).mono ?_
    rintro e w1 ⟨rfl, hb1⟩
    have B1 : Aside (Below w.heap.size w w1) := hb1
    clear hb1
    go_wp2_with fail
    refine (HP.out w1).mono ?_
    rintro e w2 ⟨a2, n2, cap2, rfl, hb2, hz2⟩
    have B2 : Aside (Below w.heap.size w w2) := below_step B1.out hb2
    clear hb2 B1 HP hz2
    go_wp2_with fail
    refine (HS.out w2).mono ?_
    rintro e w3 ⟨rfl, hb3⟩
    have B3 : Aside (Below w.heap.size w w3) := below_step B2.out hb3
    clear hb3 B2 HS
    go_wp2_with fail
    refine (HO1.out w3).mono ?_
    rintro e w4 ⟨rfl, hb4⟩
    have B4 : Aside (Below w.heap.size w w4) := below_step B3.out hb4
    clear hb4 B3 HO1
    go_wp2_with fail
    refine (HO2.out w4).mono ?_
    rintro e w5 ⟨rfl, hb5⟩
    have B5 : Aside (Below w.heap.size w w5) := below_step B4.out hb5
    clear hb5 B4 HO2
    go_wp2_with fail
    refine (HC.out w5).mono ?_
    rintro e w6 ⟨rfl, hb6⟩
    have B6 : Aside (Below w.heap.size w w6) := below_step B5.out hb6
    clear hb6 B5
    go_wp2
    go_ret
    exact ⟨rfl, B6.out⟩
  · have HO1 : Aside (∀ W, _) := HO01 rfl
    clear HO01
    go_enter Try.func6, Try.ntmps6
    go_wp2_with fail
    refine (alive_any w).mono ?_
    rintro e w1 ⟨rfl, hb1⟩
    have B1 : Aside (Below w.heap.size w w1) := hb1
    clear hb1
    go_wp2_with fail
    refine (HP.out w1).mono ?_
    rintro e w2 ⟨a2, n2, cap2, rfl, hb2, hz2⟩
    have B2 : Aside (Below w.heap.size w w2) := below_step B1.out hb2
    clear hb2 B1 HP hz2
    go_wp2_with fail
    refine (HS.out w2).mono ?_
    rintro e w3 ⟨rfl, hb3⟩
    have B3 : Aside (Below w.heap.size w w3) := below_step B2.out hb3
    clear hb3 B2 HS
    go_wp2_with fail
    refine (HO1.out w3).mono ?_
    rintro e w4 ⟨rfl, hb4⟩
    have B4 : Aside (Below w.heap.size w w4) := below_step B3.out hb4
    clear hb4 B3 HO1
    go_wp2_with fail
    refine (HO2.out w4).mono ?_
    rintro e w5 ⟨rfl, hb5⟩
    have B5 : Aside (Below w.heap.size w w5) := below_step B4.out hb5
    clear hb5 B4 HO2
    go_wp2_with fail
    refine (HC.out w5).mono ?_
    rintro e w6 ⟨rfl, hb6⟩
    have B6 : Aside (Below w.heap.size w w6) := below_step B5.out hb6
    clear hb6 B5
    go_wp2
    go_ret
    exact ⟨rfl, B6.out⟩

set_option maxHeartbeats 8000000 in
theorem made_leaf (key t other S Y : ByteArray) (kk c g i co : Nat) (w : World) (t1 : ¬ (2100 : Int) < (key.size : Int)) (t2 : ¬ (2100 : Int) < (t.size : Int)) (t3 : ¬ (2100 : Int) < (other.size : Int)) (hc : c = 0) (HP0 : ∀ W, Calls Try.prog 12 #[.string t] W fun e w' => ∃ a n cap, e = .returned (.tuple #[.int .u8 (kk : Int), .slice a n cap, .int .i64 (c : Nat)]) ∧ Below W.heap.size W w' ∧ n = 0) (HS0 : ∀ W, Calls Try.prog 23 #[.int .u8 115, .slice (some ⟨W.heap.size, 0, none⟩) 2 2] (W.alloc (.cells #[.string key, .string t] 22)) fun e w' => e = .returned (.tuple #[.string S, .int .i64 (g : Nat)]) ∧ Below W.heap.size W w') (HO01 : g = 0 → ∀ W, Calls Try.prog 25 #[.string key, .string S] W fun e w' => e = .returned (.tuple #[.string t, .int .i64 0]) ∧ Below W.heap.size W w') (HO02 : ∀ W, Calls Try.prog 25 #[.string other, .string S] W fun e w' => e = .returned (.tuple #[.string Y, .int .i64 (i : Nat)]) ∧ Below W.heap.size W w') (HC0 : ∀ W, Calls Try.prog 16 #[.string other] W fun e w' => e = .returned (.int .i64 (co : Nat)) ∧ Below W.heap.size W w') (hend : ((g : Int) != 0) = true ∨ (g = 0 ∧ i = co ∧ ((co : Int) != 0) = true) ∨ (g = 0 ∧ co = 0 ∧ i = 0 ∧ (other.toList == key.toList) = true) ∨ (g = 0 ∧ co = 0 ∧ i = 12 ∧ (other.toList == key.toList) = false ∧ Y = ⟨#[]⟩)) :
    Calls Try.prog 6 #[.string key, .string t, .string other] w fun e w' => e = .returned (.bool true) ∧ Below w.heap.size w w' := by
  have HP : Aside (∀ W, _) := HP0
  have HS : Aside (∀ W, _) := HS0
  have HO2 : Aside (∀ W, _) := HO02
  have HC : Aside (∀ W, _) := HC0
  subst hc
  clear HP0 HS0 HO02 HC0
  rcases hend with v1 | ⟨rfl, rfl, v1⟩ | ⟨rfl, rfl, rfl, v1⟩ | ⟨rfl, rfl, rfl, v1, rfl⟩
  · clear HO01 HO2 HC
    go_enter Try.func6, Try.ntmps6
    go_wp2_with fail
    refine (alive_any w).mono ?_
    rintro e w1 ⟨rfl, hb1⟩
    have B1 : Aside (Below w.heap.size w w1) := hb1
    clear hb1
    go_wp2_with fail
    refine (HP.out w1).mono ?_
    rintro e w2 ⟨a2, n2, cap2, rfl, hb2, hz2⟩
    have B2 : Aside (Below w.heap.size w w2) := below_step B1.out hb2
    subst hz2
    clear hb2 B1 HP
    go_wp2_with fail
    refine (HS.out w2).mono ?_
    rintro e w3 ⟨rfl, hb3⟩
    have B3 : Aside (Below w.heap.size w w3) := below_step B2.out hb3
    clear hb3 B2 HS
    go_wp2
    go_ret
    exact ⟨rfl, B3.out⟩
  · have HO1 : Aside (∀ W, _) := HO01 rfl
    clear HO01
    go_enter Try.func6, Try.ntmps6
    go_wp2_with fail
    refine (alive_any w).mono ?_
    rintro e w1 ⟨rfl, hb1⟩
    have B1 : Aside (Below w.heap.size w w1) := hb1
    clear hb1
    go_wp2_with fail
    refine (HP.out w1).mono ?_
    rintro e w2 ⟨a2, n2, cap2, rfl, hb2, hz2⟩
    have B2 : Aside (Below w.heap.size w w2) := below_step B1.out hb2
    subst hz2
    clear hb2 B1 HP
    go_wp2_with fail
    refine (HS.out w2).mono ?_
    rintro e w3 ⟨rfl, hb3⟩
    have B3 : Aside (Below w.heap.size w w3) := below_step B2.out hb3
    clear hb3 B2 HS
    go_wp2_with fail
    refine (HO1.out w3).mono ?_
    rintro e w4 ⟨rfl, hb4⟩
    have B4 : Aside (Below w.heap.size w w4) := below_step B3.out hb4
    clear hb4 B3 HO1
    go_wp2_with fail
    refine (HO2.out w4).mono ?_
    rintro e w5 ⟨rfl, hb5⟩
    have B5 : Aside (Below w.heap.size w w5) := below_step B4.out hb5
    clear hb5 B4 HO2
    go_wp2_with fail
    refine (HC.out w5).mono ?_
    rintro e w6 ⟨rfl, hb6⟩
    have B6 : Aside (Below w.heap.size w w6) := below_step B5.out hb6
    clear hb6 B5
    go_wp2_with fail
    refine (HC.out w6).mono ?_
    rintro e w7 ⟨rfl, hb7⟩
    have B7 : Aside (Below w.heap.size w w7) := below_step B6.out hb7
    clear hb7 B6 HC
    go_wp2
    go_ret
    exact ⟨rfl, B7.out⟩
  · have HO1 : Aside (∀ W, _) := HO01 rfl
    clear HO01
    go_enter Try.func6, Try.ntmps6
    go_wp2_with fail
    refine (alive_any w).mono ?_
    rintro e w1 ⟨rfl, hb1⟩
    have B1 : Aside (Below w.heap.size w w1) := hb1
    clear hb1
    go_wp2_with fail
    refine (HP.out w1).mono ?_
    rintro e w2 ⟨a2, n2, cap2, rfl, hb2, hz2⟩
    have B2 : Aside (Below w.heap.size w w2) := below_step B1.out hb2
    subst hz2
    clear hb2 B1 HP
    go_wp2_with fail
    refine (HS.out w2).mono ?_
    rintro e w3 ⟨rfl, hb3⟩
    have B3 : Aside (Below w.heap.size w w3) := below_step B2.out hb3
    clear hb3 B2 HS
    go_wp2_with fail
    refine (HO1.out w3).mono ?_
    rintro e w4 ⟨rfl, hb4⟩
    have B4 : Aside (Below w.heap.size w w4) := below_step B3.out hb4
    clear hb4 B3 HO1
    go_wp2_with fail
    refine (HO2.out w4).mono ?_
    rintro e w5 ⟨rfl, hb5⟩
    have B5 : Aside (Below w.heap.size w w5) := below_step B4.out hb5
    clear hb5 B4 HO2
    go_wp2_with fail
    refine (HC.out w5).mono ?_
    rintro e w6 ⟨rfl, hb6⟩
    have B6 : Aside (Below w.heap.size w w6) := below_step B5.out hb6
    clear hb6 B5
    go_wp2
    go_ret
    exact ⟨rfl, B6.out⟩
  · have HO1 : Aside (∀ W, _) := HO01 rfl
    clear HO01
    go_enter Try.func6, Try.ntmps6
    go_wp2_with fail
    refine (alive_any w).mono ?_
    rintro e w1 ⟨rfl, hb1⟩
    have B1 : Aside (Below w.heap.size w w1) := hb1
    clear hb1
    go_wp2_with fail
    refine (HP.out w1).mono ?_
    rintro e w2 ⟨a2, n2, cap2, rfl, hb2, hz2⟩
    have B2 : Aside (Below w.heap.size w w2) := below_step B1.out hb2
    subst hz2
    clear hb2 B1 HP
    go_wp2_with fail
    refine (HS.out w2).mono ?_
    rintro e w3 ⟨rfl, hb3⟩
    have B3 : Aside (Below w.heap.size w w3) := below_step B2.out hb3
    clear hb3 B2 HS
    go_wp2_with fail
    refine (HO1.out w3).mono ?_
    rintro e w4 ⟨rfl, hb4⟩
    have B4 : Aside (Below w.heap.size w w4) := below_step B3.out hb4
    clear hb4 B3 HO1
    go_wp2_with fail
    refine (HO2.out w4).mono ?_
    rintro e w5 ⟨rfl, hb5⟩
    have B5 : Aside (Below w.heap.size w w5) := below_step B4.out hb5
    clear hb5 B4 HO2
    go_wp2_with fail
    refine (HC.out w5).mono ?_
    rintro e w6 ⟨rfl, hb6⟩
    have B6 : Aside (Below w.heap.size w w6) := below_step B5.out hb6
    clear hb6 B5
    go_wp2
    go_ret
    exact ⟨rfl, B6.out⟩

set_option maxHeartbeats 8000000 in
theorem made_node (key t other S Y : ByteArray) (kk g i co : Nat) (ps : List (List UInt8)) (w : World) (t1 : ¬ (2100 : Int) < (key.size : Int)) (t2 : ¬ (2100 : Int) < (t.size : Int)) (t3 : ¬ (2100 : Int) < (other.size : Int)) (HP0 : ∀ W, Calls Try.prog 12 #[.string t] W fun e w' => ∃ a n cap, e = .returned (.tuple #[.int .u8 (kk : Int), .slice a n cap, .int .i64 0]) ∧ Below W.heap.size W w' ∧ 0 < n ∧ ps.length = n ∧ AtS w' a ps) (HM0 : ∀ W a n cap, ps.length = n → AtS W a ps → Calls Try.prog 23 #[.int .u8 (kk : Int), .slice a n cap] W fun e w' => e = .returned (.tuple #[.string t, .int .i64 0]) ∧ Below W.heap.size W w') (HS0 : ∀ W, Calls Try.prog 23 #[.int .u8 115, .slice (some ⟨W.heap.size, 0, none⟩) 2 2] (W.alloc (.cells #[.string key, .string t] 22)) fun e w' => e = .returned (.tuple #[.string S, .int .i64 (g : Nat)]) ∧ Below W.heap.size W w') (HO01 : g = 0 → ∀ W, Calls Try.prog 25 #[.string key, .string S] W fun e w' => e = .returned (.tuple #[.string t, .int .i64 0]) ∧ Below W.heap.size W w') (HO02 : ∀ W, Calls Try.prog 25 #[.string other, .string S] W fun e w' => e = .returned (.tuple #[.string Y, .int .i64 (i : Nat)]) ∧ Below W.heap.size W w') (HC0 : ∀ W, Calls Try.prog 16 #[.string other] W fun e w' => e = .returned (.int .i64 (co : Nat)) ∧ Below W.heap.size W w') (hend : ((g : Int) != 0) = true ∨ (g = 0 ∧ i = co ∧ ((co : Int) != 0) = true) ∨ (g = 0 ∧ co = 0 ∧ i = 0 ∧ (other.toList == key.toList) = true) ∨ (g = 0 ∧ co = 0 ∧ i = 12 ∧ (other.toList == key.toList) = false ∧ Y = ⟨#[]⟩)) :
    Calls Try.prog 6 #[.string key, .string t, .string other] w fun e w' => e = .returned (.bool true) ∧ Below w.heap.size w w' := by
  have HP : Aside (∀ W, _) := HP0
  have HS : Aside (∀ W, _) := HS0
  have HO2 : Aside (∀ W, _) := HO02
  have HC : Aside (∀ W, _) := HC0
  have HM : Aside (∀ W, _) := HM0
  clear HM0
  clear HP0 HS0 HO02 HC0
  rcases hend with v1 | ⟨rfl, rfl, v1⟩ | ⟨rfl, rfl, rfl, v1⟩ | ⟨rfl, rfl, rfl, v1, rfl⟩
  · clear HO01 HO2 HC
    go_enter Try.func6, Try.ntmps6
    go_wp2_with fail
    refine (alive_any w).mono ?_
    rintro e w1 ⟨rfl, hb1⟩
    have B1 : Aside (Below w.heap.size w w1) := hb1
    clear hb1
    go_wp2_with fail
    refine (HP.out w1).mono ?_
    rintro e w2 ⟨a2, n2, cap2, rfl, hb2, hn2, hl2, hat2⟩
    have hM := HM.out w2 a2 n2 cap2 hl2 hat2
    have B2 : Aside (Below w.heap.size w w2) := below_step B1.out hb2
    have tn : (0 : Int) < (n2 : Int) := by omega
    clear hb2 B1 HP hat2 hl2
    go_wp2_with fail
    refine hM.mono ?_
    rintro e w2b ⟨rfl, hb2b⟩
    have B2b : Aside (Below w.heap.size w w2b) := below_step B2.out hb2b
    clear hb2b B2 HM hM
    go_wp2_with fail
    refine (HS.out w2b).mono ?_
    rintro e w3 ⟨rfl, hb3⟩
    have B3 : Aside (Below w.heap.size w w3) := below_step B2b.out hb3
    clear hb3 B2b HS
    go_wp2
    go_ret
    exact ⟨rfl, B3.out⟩
  · have HO1 : Aside (∀ W, _) := HO01 rfl
    clear HO01
    go_enter Try.func6, Try.ntmps6
    go_wp2_with fail
    refine (alive_any w).mono ?_
    rintro e w1 ⟨rfl, hb1⟩
    have B1 : Aside (Below w.heap.size w w1) := hb1
    clear hb1
    go_wp2_with fail
    refine (HP.out w1).mono ?_
    rintro e w2 ⟨a2, n2, cap2, rfl, hb2, hn2, hl2, hat2⟩
    have hM := HM.out w2 a2 n2 cap2 hl2 hat2
    have B2 : Aside (Below w.heap.size w w2) := below_step B1.out hb2
    have tn : (0 : Int) < (n2 : Int) := by omega
    clear hb2 B1 HP hat2 hl2
    go_wp2_with fail
    refine hM.mono ?_
    rintro e w2b ⟨rfl, hb2b⟩
    have B2b : Aside (Below w.heap.size w w2b) := below_step B2.out hb2b
    clear hb2b B2 HM hM
    go_wp2_with fail
    refine (HS.out w2b).mono ?_
    rintro e w3 ⟨rfl, hb3⟩
    have B3 : Aside (Below w.heap.size w w3) := below_step B2b.out hb3
    clear hb3 B2b HS
    go_wp2_with fail
    refine (HO1.out w3).mono ?_
    rintro e w4 ⟨rfl, hb4⟩
    have B4 : Aside (Below w.heap.size w w4) := below_step B3.out hb4
    clear hb4 B3 HO1
    go_wp2_with fail
    refine (HO2.out w4).mono ?_
    rintro e w5 ⟨rfl, hb5⟩
    have B5 : Aside (Below w.heap.size w w5) := below_step B4.out hb5
    clear hb5 B4 HO2
    go_wp2_with fail
    refine (HC.out w5).mono ?_
    rintro e w6 ⟨rfl, hb6⟩
    have B6 : Aside (Below w.heap.size w w6) := below_step B5.out hb6
    clear hb6 B5
    go_wp2_with fail
    refine (HC.out w6).mono ?_
    rintro e w7 ⟨rfl, hb7⟩
    have B7 : Aside (Below w.heap.size w w7) := below_step B6.out hb7
    clear hb7 B6 HC
    go_wp2
    go_ret
    exact ⟨rfl, B7.out⟩
  · have HO1 : Aside (∀ W, _) := HO01 rfl
    clear HO01
    go_enter Try.func6, Try.ntmps6
    go_wp2_with fail
    refine (alive_any w).mono ?_
    rintro e w1 ⟨rfl, hb1⟩
    have B1 : Aside (Below w.heap.size w w1) := hb1
    clear hb1
    go_wp2_with fail
    refine (HP.out w1).mono ?_
    rintro e w2 ⟨a2, n2, cap2, rfl, hb2, hn2, hl2, hat2⟩
    have hM := HM.out w2 a2 n2 cap2 hl2 hat2
    have B2 : Aside (Below w.heap.size w w2) := below_step B1.out hb2
    have tn : (0 : Int) < (n2 : Int) := by omega
    clear hb2 B1 HP hat2 hl2
    go_wp2_with fail
    refine hM.mono ?_
    rintro e w2b ⟨rfl, hb2b⟩
    have B2b : Aside (Below w.heap.size w w2b) := below_step B2.out hb2b
    clear hb2b B2 HM hM
    go_wp2_with fail
    refine (HS.out w2b).mono ?_
    rintro e w3 ⟨rfl, hb3⟩
    have B3 : Aside (Below w.heap.size w w3) := below_step B2b.out hb3
    clear hb3 B2b HS
    go_wp2_with fail
    refine (HO1.out w3).mono ?_
    rintro e w4 ⟨rfl, hb4⟩
    have B4 : Aside (Below w.heap.size w w4) := below_step B3.out hb4
    clear hb4 B3 HO1
    go_wp2_with fail
    refine (HO2.out w4).mono ?_
    rintro e w5 ⟨rfl, hb5⟩
    have B5 : Aside (Below w.heap.size w w5) := below_step B4.out hb5
    clear hb5 B4 HO2
    go_wp2_with fail
    refine (HC.out w5).mono ?_
    rintro e w6 ⟨rfl, hb6⟩
    have B6 : Aside (Below w.heap.size w w6) := below_step B5.out hb6
    clear hb6 B5
    go_wp2
    go_ret
    exact ⟨rfl, B6.out⟩
  · have HO1 : Aside (∀ W, _) := HO01 rfl
    clear HO01
    go_enter Try.func6, Try.ntmps6
    go_wp2_with fail
    refine (alive_any w).mono ?_
    rintro e w1 ⟨rfl, hb1⟩
    have B1 : Aside (Below w.heap.size w w1) := hb1
    clear hb1
    go_wp2_with fail
    refine (HP.out w1).mono ?_
    rintro e w2 ⟨a2, n2, cap2, rfl, hb2, hn2, hl2, hat2⟩
    have hM := HM.out w2 a2 n2 cap2 hl2 hat2
    have B2 : Aside (Below w.heap.size w w2) := below_step B1.out hb2
    have tn : (0 : Int) < (n2 : Int) := by omega
    clear hb2 B1 HP hat2 hl2
    go_wp2_with fail
    refine hM.mono ?_
    rintro e w2b ⟨rfl, hb2b⟩
    have B2b : Aside (Below w.heap.size w w2b) := below_step B2.out hb2b
    clear hb2b B2 HM hM
    go_wp2_with fail
    refine (HS.out w2b).mono ?_
    rintro e w3 ⟨rfl, hb3⟩
    have B3 : Aside (Below w.heap.size w w3) := below_step B2b.out hb3
    clear hb3 B2b HS
    go_wp2_with fail
    refine (HO1.out w3).mono ?_
    rintro e w4 ⟨rfl, hb4⟩
    have B4 : Aside (Below w.heap.size w w4) := below_step B3.out hb4
    clear hb4 B3 HO1
    go_wp2_with fail
    refine (HO2.out w4).mono ?_
    rintro e w5 ⟨rfl, hb5⟩
    have B5 : Aside (Below w.heap.size w w5) := below_step B4.out hb5
    clear hb5 B4 HO2
    go_wp2_with fail
    refine (HC.out w5).mono ?_
    rintro e w6 ⟨rfl, hb6⟩
    have B6 : Aside (Below w.heap.size w w6) := below_step B5.out hb6
    clear hb6 B5
    go_wp2
    go_ret
    exact ⟨rfl, B6.out⟩

theorem made_walk (key t other : ByteArray) (w : World) : Calls Try.prog 6 #[.string key, .string t, .string other] w fun e w' => e = .returned (.bool true) ∧ Below w.heap.size w w' := by
  by_cases h : 2100 < key.size ∨ 2100 < t.size ∨ 2100 < other.size
  · exact made_early key t other w h
  have t1 : ¬ (2100 : Int) < (key.size : Int) := by omega
  have t2 : ¬ (2100 : Int) < (t.size : Int) := by omega
  have t3 : ¬ (2100 : Int) < (other.size : Int) := by omega
  have HS := fun W => make_s2 115 key t W
  have HC := fun W => check_any other W
  have nz : ∀ n : Nat, n ≠ 0 → ((n : Int) != 0) = true := by
    intro n hn
    have : ¬ (n : Int) = 0 := by omega
    simpa using this
  -- what is made of key and text, and how it opens
  obtain ⟨S, Y, g, i, x1, x2, x3, x4, hend⟩ : ∃ (S Y : ByteArray) (g i : Nat), str (Tm.make 115 [key.data.toList, t.data.toList]) = .string S ∧ Tm.makeE 115 [key.data.toList, t.data.toList] = g ∧
      (g = 0 → ∀ W, Calls Try.prog 25 #[.string key, .string S] W fun e w' => e = .returned (.tuple #[.string t, .int .i64 0]) ∧ Below W.heap.size W w') ∧
      (∀ W, Calls Try.prog 25 #[.string other, .string S] W fun e w' => e = .returned (.tuple #[.string Y, .int .i64 (i : Nat)]) ∧ Below W.heap.size W w') ∧
      (((g : Int) != 0) = true ∨ (g = 0 ∧ i = Tm.chk other.data.toList ∧ ((Tm.chk other.data.toList : Int) != 0) = true) ∨ (g = 0 ∧ Tm.chk other.data.toList = 0 ∧ i = 0 ∧ (other.toList == key.toList) = true) ∨ (g = 0 ∧ Tm.chk other.data.toList = 0 ∧ i = 12 ∧ (other.toList == key.toList) = false ∧ Y = ⟨#[]⟩)) := by
    refine ⟨⟨(Tm.make 115 [key.data.toList, t.data.toList]).toArray⟩, ⟨(Tm.openR other.data.toList (Tm.make 115 [key.data.toList, t.data.toList])).toArray⟩, _, Tm.openE other.data.toList (Tm.make 115 [key.data.toList, t.data.toList]), rfl, rfl, ?_, ?_, ?_⟩
    · intro hg W
      obtain ⟨k1, k2, k3, k4, k5, k6, _⟩ := Tm.make_two_ok (k := 115) (by decide) hg
      have := open_any key ⟨(Tm.make 115 [key.data.toList, t.data.toList]).toArray⟩ W
      unfold OpenPost at this
      rw [str_bytes, k4] at this
      have e1 : Tm.openE key.data.toList (115 :: (key.data.toList ++ t.data.toList)) = 0 := by
        unfold Tm.openE; rw [if_pos k1, if_pos k3, if_pos k5, k6]; simp
      have e2 : Tm.openR key.data.toList (115 :: (key.data.toList ++ t.data.toList)) = t.data.toList := by
        unfold Tm.openR; rw [if_pos e1, k6]; rfl
      rw [e1, e2, str_of] at this
      rw [k4]
      exact this
    · intro W
      have := open_any other ⟨(Tm.make 115 [key.data.toList, t.data.toList]).toArray⟩ W
      unfold OpenPost at this
      rw [str_bytes] at this
      exact this
    · by_cases hg : Tm.makeE 115 [key.data.toList, t.data.toList] = 0
      · right
        obtain ⟨k1, k2, k3, k4, k5, k6, _⟩ := Tm.make_two_ok (k := 115) (by decide) hg
        rw [k4]
        by_cases ho : Tm.chk other.data.toList = 0
        · right
          rw [eq_lists]
          by_cases he : key.data.toList = other.data.toList
          · left
            refine ⟨hg, ho, ?_, decide_eq_true he.symm⟩
            unfold Tm.openE; rw [if_pos ho, if_pos k3, if_pos k5, k6]; simp [he]
          · right
            have e1 : Tm.openE other.data.toList (115 :: (key.data.toList ++ t.data.toList)) = 12 := by
              unfold Tm.openE; rw [if_pos ho, if_pos k3, if_pos k5, k6]; simp [he]
            refine ⟨hg, ho, e1, decide_eq_false (fun e => he e.symm), ?_⟩
            have e2 : Tm.openR other.data.toList (115 :: (key.data.toList ++ t.data.toList)) = [] := by
              unfold Tm.openR; rw [if_neg (by omega)]
            rw [e2]
        · left
          refine ⟨hg, ?_, nz _ ho⟩
          unfold Tm.openE; rw [if_neg ho]
      · left
        exact nz _ hg
  rw [x1, x2] at HS
  by_cases hc : Tm.chk t.data.toList = 0
  · by_cases hp : Tm.partsOf t.data.toList = []
    · refine made_leaf key t other S Y (Tm.kindOf t.data.toList).toNat 0 g i _ w t1 t2 t3 rfl (fun W => ?_) HS x3 x4 HC hend
      refine (parts_any t W).mono ?_
      rintro e w' ⟨v, rfl, ho, hb⟩
      rw [hp] at ho
      obtain ⟨a, cap, rfl, _⟩ := owns_strs ho
      exact ⟨a, _, cap, by rw [hc]; rfl, hb, rfl⟩
    · obtain ⟨m1, m2⟩ := Tm.made_of hc hp
      refine made_node key t other S Y (Tm.kindOf t.data.toList).toNat g i _ (Tm.partsOf t.data.toList) w t1 t2 t3 (fun W => ?_) (fun W a n cap hn ha => ?_) HS x3 x4 HC hend
      · refine (parts_any t W).mono ?_
        rintro e w' ⟨v, rfl, ho, hb⟩
        obtain ⟨a, cap, rfl, _, _, hat⟩ := owns_strs ho
        exact ⟨a, _, cap, by rw [hc]; rfl, hb, List.length_pos_iff.2 hp, rfl, hat⟩
      · have := make_any (Tm.kindOf t.data.toList) a n cap (Tm.partsOf t.data.toList) W hn (by have := Tm.partsOf_len t.data.toList; omega) ha
        unfold MakePost at this
        rw [m1, m2, str_of] at this
        exact this
  · refine made_bad key t other S Y (Tm.kindOf t.data.toList).toNat (Tm.chk t.data.toList) g i _ w t1 t2 t3 ?_ (fun W => ?_) HS x3 x4 HC hend
    · have : ¬ (Tm.chk t.data.toList : Int) = 0 := by omega
      simpa using this
    · refine (parts_any t W).mono ?_
      rintro e w' ⟨v, rfl, ho, hb⟩
      rw [show Tm.partsOf t.data.toList = [] by unfold Tm.partsOf; rw [if_neg hc]] at ho
      obtain ⟨a, cap, rfl, _⟩ := owns_strs ho
      exact ⟨a, _, cap, rfl, hb, rfl⟩

end Go.Proofs.Ytldojinnipbblaa
