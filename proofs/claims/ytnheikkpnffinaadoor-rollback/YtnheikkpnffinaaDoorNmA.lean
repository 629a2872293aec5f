/- What the functions on numbers of members give, the program's and the document's own: a contract a function, over the translated program. -/
import Derived.Test.YtnheikkpnffinaaDoorCnA
import Derived.Test.YtnheikkpnffinaaDoorChecked
import Derived.WalkKit
import Derived.WalkSpells
import Derived.WalkLawsBesides
namespace Go.Proofs.YtnheikkpnffinaaDoor
open Go.RowKit

theorem ret_i {a b : Int} (h : a = b) : Ending.returned (.int .i64 a) = .returned (.int .i64 b) := by rw [h]

theorem held_cases (n : Int) : (n < 1 ∧ Cn.held n = 1) ∨ (1 ≤ n ∧ n ≤ 16 ∧ (Cn.held n : Int) = n) ∨ (16 < n ∧ Cn.held n = 16) := by
  unfold Cn.held
  by_cases h : n < 1
  · exact .inl ⟨h, if_pos h⟩
  · by_cases h2 : 16 < n
    · exact .inr (.inr ⟨h2, by rw [if_neg h, if_pos h2]⟩)
    · exact .inr (.inl ⟨by omega, by omega, by rw [if_neg h, if_neg h2]; omega⟩)

theorem faulty_bound (n : Int) : Cn.faulty n ≤ 5 := by
  obtain ⟨h1, h2⟩ := Cn.held_bound n
  unfold Cn.faulty; omega

end Go.Proofs.YtnheikkpnffinaaDoor
