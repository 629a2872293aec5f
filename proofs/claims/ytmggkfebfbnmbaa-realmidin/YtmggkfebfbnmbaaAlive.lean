/- alive: true, whatever the world. -/
import Derived.Test.YtmggkfebfbnmbaaWalksD
namespace Go.Proofs.Ytmggkfebfbnmbaa
open Go.RowKit

theorem alive_core (w : World) (hm : Calls Try.prog 21 #[.slice (some ⟨w.heap.size, 0, none⟩) 3 3] (w.alloc (.cells #[.float .f64 4613937818241073152, .float .f64 9221120237041090561, .float .f64 4607182418800017408] 24))
      fun e w' => e = .returned (.float .f64 4613937818241073152) ∧ Below w.heap.size w w') :
    Calls Try.prog 11 #[] w fun e w' => e = .returned (.bool true) ∧ Below w.heap.size w w' := by
  have o1 := order_any 9223372036854775808 0 w (by omega) (by omega)
  rw [show Fl.ord 9223372036854775808 0 = 0 from by decide +kernel] at o1
  have o2 := order_any 9221120237041090561 9218868437227405312 w (by omega) (by omega)
  rw [show Fl.ord 9221120237041090561 9218868437227405312 = 1 from by decide +kernel] at o2
  have f3 : (FloatKind.f64.format.order 4613937818241073152 4613937818241073152 == some .eq) = true := by decide +kernel
  go_enter Try.func11, Try.ntmps11
  go_wp2_with fail
  refine (nan_any _).mono ?_; rintro e w' ⟨rfl, rfl⟩
  go_wp2_with fail
  refine (copysign_zero _).mono ?_; rintro e w' ⟨rfl, rfl⟩
  go_wp2_with fail
  refine o1.mono ?_; rintro e w' ⟨rfl, rfl⟩
  go_wp2_with fail
  refine (inf_one _).mono ?_; rintro e w' ⟨rfl, rfl⟩
  go_wp2_with fail
  refine o2.mono ?_; rintro e w' ⟨rfl, rfl⟩
  go_wp2_with fail
  refine hm.mono ?_; rintro e w1 ⟨rfl, hb⟩
  go_wp2_with fail
  have c := code_any 0 w1 (by omega)
  rw [show Fl.cod 0 = 9223372036854775808 from rfl] at c
  refine c.mono ?_; rintro e w2 ⟨rfl, rfl⟩
  go_wp2_with fail
  have s := same_any 9221120237041090561 9221120237041090561 w2 (by omega) (by omega)
  rw [show (Fl.ord 9221120237041090561 9221120237041090561 == 0) = true from by decide +kernel] at s
  refine s.mono ?_; rintro e w3 ⟨rfl, rfl⟩
  go_wp2
  go_ret
  exact ⟨rfl, hb⟩

end Go.Proofs.Ytmggkfebfbnmbaa
