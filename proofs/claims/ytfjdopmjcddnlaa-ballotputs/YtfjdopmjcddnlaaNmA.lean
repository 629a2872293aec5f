/- What the functions on numbers of members give, the program's and the document's own: a contract a function, over the translated program. -/
import Derived.Test.YtfjdopmjcddnlaaCnA
import Derived.Test.YtfjdopmjcddnlaaChecked
import Derived.WalkKit
import Derived.WalkSpells
import Derived.WalkLawsBesides
namespace Go.Proofs.Ytfjdopmjcddnlaa
open Go.RowKit

theorem ret_i {a b : Int} (h : a = b) : Ending.returned (.int .i64 a) = .returned (.int .i64 b) := by rw [h]

theorem held_cases (n : Int) : (n < 1 ∧ Cn.held n = 1) ∨ (1 ≤ n ∧ n ≤ 16 ∧ (Cn.held n : Int) = n) ∨ (16 < n ∧ Cn.held n = 16) := by
  unfold Cn.held
  by_cases h : n < 1
  · exact .inl ⟨h, if_pos h⟩
  · by_cases h2 : 16 < n
    · exact .inr (.inr ⟨h2, by rw [if_neg h, if_pos h2]⟩)
    · exact .inr (.inl ⟨by omega, by omega, by rw [if_neg h, if_neg h2]; omega⟩)

theorem members_any (n : Int) (w : World) : Calls Try.prog 48 #[.int .i64 n] w fun e w' => e = .returned (.int .i64 (Cn.held n : Nat)) ∧ w' = w := by
  have hm : min (max n 1) 16 = (Cn.held n : Int) := by
    rcases held_cases n with ⟨h, e⟩ | ⟨h1, h2, e⟩ | ⟨h, e⟩ <;> omega
  generalize (Cn.held n : Int) = m at hm ⊢
  go_enter Try.func48, Try.ntmps48
  go_wp2
  all_goals
    go_ret
    exact ⟨ret_i (by omega), rfl⟩

theorem held_any (n : Int) (w : World) : Calls Try.prog 39 #[.int .i64 n] w fun e w' => e = .returned (.int .i64 (Cn.held n : Nat)) ∧ w' = w := by
  have hm : max 1 (min n 16) = (Cn.held n : Int) := by
    rcases held_cases n with ⟨h, e⟩ | ⟨h1, h2, e⟩ | ⟨h, e⟩ <;> omega
  generalize (Cn.held n : Int) = m at hm ⊢
  go_enter Try.func39, Try.ntmps39
  go_wp2
  all_goals
    go_ret
    exact ⟨ret_i (by omega), rfl⟩

theorem faulty_any (n : Int) (w : World) : Calls Try.prog 49 #[.int .i64 n] w fun e w' => e = .returned (.int .i64 (Cn.faulty n : Nat)) ∧ w' = w := by
  have hm := members_any n w
  obtain ⟨h1, h2⟩ := Cn.held_bound n
  have hq : ((Cn.held n : Int) - 1) / 3 = (Cn.faulty n : Int) := by unfold Cn.faulty; omega
  generalize (Cn.faulty n : Int) = q at hq ⊢
  generalize Cn.held n = m at *
  go_enter Try.func49, Try.ntmps49
  go_wp2_with (go_at_call 48; refine hm.mono ?_; rintro e w' ⟨rfl, rfl⟩)
  go_ret
  exact ⟨ret_i (by omega), rfl⟩

theorem rfaulty_any (n : Int) (w : World) : Calls Try.prog 22 #[.int .i64 n] w fun e w' => e = .returned (.int .i64 (Cn.faulty n : Nat)) ∧ w' = w := by
  have hm := held_any n w
  obtain ⟨h1, h2⟩ := Cn.held_bound n
  have hq : ((Cn.held n : Int) - 1) / 3 = (Cn.faulty n : Int) := by unfold Cn.faulty; omega
  generalize (Cn.faulty n : Int) = q at hq ⊢
  generalize Cn.held n = m at *
  go_enter Try.func22, Try.ntmps22
  go_wp2_with (go_at_call 39; refine hm.mono ?_; rintro e w' ⟨rfl, rfl⟩)
  go_ret
  exact ⟨ret_i (by omega), rfl⟩

theorem faulty_bound (n : Int) : Cn.faulty n ≤ 5 := by
  obtain ⟨h1, h2⟩ := Cn.held_bound n
  unfold Cn.faulty; omega

theorem echoes_any (n : Int) (w : World) : Calls Try.prog 32 #[.int .i64 n] w fun e w' => e = .returned (.int .i64 (Cn.echoes n : Nat)) ∧ w' = w := by
  have hm := members_any n w
  have hf := faulty_any n w
  obtain ⟨h1, h2⟩ := Cn.held_bound n
  have h3 := faulty_bound n
  have hq : ((Cn.held n : Int) + Cn.faulty n) / 2 + 1 = (Cn.echoes n : Int) := by unfold Cn.echoes; omega
  generalize (Cn.echoes n : Int) = q at hq ⊢
  generalize Cn.held n = m at *
  generalize Cn.faulty n = f at *
  go_enter Try.func32, Try.ntmps32
  go_wp2_with fail
  refine hm.mono ?_; rintro e w' ⟨rfl, rfl⟩
  go_wp2_with fail
  refine hf.mono ?_; rintro e w' ⟨rfl, rfl⟩
  go_wp2
  go_ret
  exact ⟨ret_i (by omega), rfl⟩

set_option maxHeartbeats 1000000 in
theorem rechoes_any (n : Int) (w : World) : Calls Try.prog 21 #[.int .i64 n] w fun e w' => e = .returned (.int .i64 (Cn.echoes n : Nat)) ∧ w' = w := by
  have hm := held_any n w
  have hf := rfaulty_any n w
  obtain ⟨h1, h2⟩ := Cn.held_bound n
  have h3 := faulty_bound n
  have hq : ((Cn.held n : Int) + Cn.faulty n) / 2 + 1 = (Cn.echoes n : Int) := by unfold Cn.echoes; omega
  generalize Cn.echoes n = q at hq ⊢
  generalize Cn.held n = m at *
  generalize Cn.faulty n = f at *
  go_enter Try.func21, Try.ntmps21
  go_wp2_with fail
  refine hm.mono ?_; rintro e w' ⟨rfl, rfl⟩
  go_wp2_with fail
  refine hf.mono ?_; rintro e w' ⟨rfl, rfl⟩
  go_wp2_with fail
  go_loop [4] (fun i => ∃ j : Nat, j ≤ q ∧ i = .int .i64 j) (fun i => q - (intOf i).toNat)
  case atStart => exact ⟨0, Nat.zero_le _, rfl⟩
  case round =>
    obtain ⟨j, hj, rfl⟩ := hrel
    by_cases hlt : j < q
    · have t1 : 2 * (j : Int) ≤ (m : Int) + (f : Int) := by omega
      go_wp2
      go_round
      case rel => exact ⟨j + 1, by omega, by go_num⟩
      case measure => simp [intOf]; omega
    · have t1 : ¬ 2 * (j : Int) ≤ (m : Int) + (f : Int) := by omega
      go_wp2
      go_ret
      exact ⟨ret_i (by omega), rfl⟩

end Go.Proofs.Ytfjdopmjcddnlaa
