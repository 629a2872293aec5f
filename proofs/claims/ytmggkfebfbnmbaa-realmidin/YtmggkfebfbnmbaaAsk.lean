/- The contracts once more, over a name for 'it fits 64 bits', as the laws use them. -/
import Derived.Test.YtmggkfebfbnmbaaAlive
import Derived.Test.YtmggkfebfbnmbaaMid
import Derived.OpenShut
namespace Go.Proofs.Ytmggkfebfbnmbaa
open Go.RowKit

/-- It fits 64 bits. -/
def W64 (n : Nat) : Prop := n < 18446744073709551616

theorem nat_of_wf {a : Int} (h : (Lit.int .u64 a).wf = true) : ∃ n : Nat, a = (n : Int) ∧ W64 n := by
  have hb : 0 ≤ a ∧ a ≤ 18446744073709551615 := bounds_u64 h
  exact ⟨a.toNat, by omega, by unfold W64; omega⟩

theorem w64_can {n : Nat} (h : W64 n) : W64 (Fl.can n) := Fl.can_lt h
theorem w64_cod {n : Nat} (h : W64 n) : W64 (Fl.cod n) := Fl.cod_lt h

/-- Three floats in a new block: the cells of a slice over it. -/
theorem three_cells (w : World) (x y z : UInt64) (j : Nat) (u : Value) (h : ([x, y, z].map encF)[j]? = some u) :
    (w.alloc (.cells #[encF x, encF y, encF z] 24)).cell? ⟨w.heap.size, 0 + j, none⟩ = some u := by
  rw [World.cell?_alloc_at _ _ _ _ rfl, Nat.zero_add]
  rw [← h, ← Array.getElem?_toList]
  rfl

theorem can_of_cod {a b : Nat} (ha : W64 a) (hb : W64 b) (h : Fl.cod a = Fl.cod b) : Fl.can a = Fl.can b := (Fl.cod_eq_iff ha hb).1 h

theorem alive_any (w : World) : Calls Try.prog 11 #[] w fun e w' => e = .returned (.bool true) ∧ Below w.heap.size w w' := by
  refine alive_core w ?_
  have h := mid_any [4613937818241073152, 9221120237041090561, 4607182418800017408] w.heap.size 0 3 (w.alloc (.cells #[encF 4613937818241073152, encF 9221120237041090561, encF 4607182418800017408] 24)) (by decide) (by decide)
    (three_cells w _ _ _)
  refine h.mono ?_
  rintro e w' ⟨d, rfl, hp, hs, hb⟩
  have hc := mid_cod _ d 1 (Fl.cod 4613937818241073152) (by decide) hp hs (by decide +kernel) (by decide +kernel)
  have hk : Fl.can (d[1]!).toNat = 4613937818241073152 := can_of_cod (u64_lt _) (by unfold W64; omega) hc
  refine ⟨congrArg (fun n => Ending.returned (.float .f64 n)) hk, ((Below.refl _ w).alloc (Nat.le_refl _) _).trans (hb.mono (by simp))⟩

end Go.Proofs.Ytmggkfebfbnmbaa
