/- What the functions on one, two and three numbers give, each for every word: a contract a function, over the translated program. -/
import Derived.Test.YtmggkfebfbnmbaaRows
import Derived.Test.YtmggkfebfbnmbaaPlain
import Derived.WalkKit
import Derived.WalkSpells
import Derived.WalkLawsBesides
namespace Go.Proofs.Ytmggkfebfbnmbaa
open Go.RowKit

theorem frombits_run (n : Int) (w : World) : (callFunc 30 #[.int .u64 n]).run Try.prog w = .ok (.value (.float .f64 n.toNat)) w := by
  rw [run_callFunc_extern (e := Extern.MathFloatBits.float64frombits) Try.func30 (by kernel_rfl) (by kernel_rfl) (by kernel_rfl) (by kernel_rfl)]
  rfl

theorem tobits_run (b : Nat) (w : World) : (callFunc 31 #[.float .f64 b]).run Try.prog w = .ok (.value (.int .u64 b)) w := by
  rw [run_callFunc_extern (e := Extern.MathFloatBits.float64bits) Try.func31 (by kernel_rfl) (by kernel_rfl) (by kernel_rfl) (by kernel_rfl)]
  rfl

set_option maxHeartbeats 400000 in
theorem of_any (n : Nat) (w : World) :
    Calls Try.prog 13 #[.int .u64 n] w fun e w' => e = .returned (.float .f64 n) ∧ w' = w := by
  have hx := fun n W => frombits_run n W
  go_enter Try.func13, Try.ntmps13
  go_wp2
  go_ret
  exact ⟨rfl, rfl⟩

set_option maxHeartbeats 400000 in
theorem bits_any (b : Nat) (w : World) :
    Calls Try.prog 14 #[.float .f64 b] w fun e w' => e = .returned (.int .u64 b) ∧ w' = w := by
  have hx := fun n W => tobits_run n W
  go_enter Try.func14, Try.ntmps14
  go_wp2
  go_ret
  exact ⟨rfl, rfl⟩

set_option maxHeartbeats 400000 in
theorem nan_any (w : World) :
    Calls Try.prog 27 #[] w fun e w' => e = .returned (.float .f64 9221120237041090561) ∧ w' = w := by
  have hx := fun n W => frombits_run n W
  go_enter Try.func27, Try.ntmps27
  go_wp2
  go_ret
  exact ⟨rfl, rfl⟩

set_option maxHeartbeats 400000 in
theorem isNaN_any (b : Nat) (w : World) (hb : b < 18446744073709551616) :
    Calls Try.prog 32 #[.float .f64 b] w fun e w' => e = .returned (.bool (Fl.isN b)) ∧ w' = w := by
  have hs := Fl.self_order b hb
  have H : Hid ((FloatKind.f64.format.order b b != some .eq) = Fl.isN b) := hs
  clear hs hb
  go_enter Try.func32, Try.ntmps32
  go_wp2
  go_ret
  rw [← H.out]
  exact ⟨rfl, rfl⟩

end Go.Proofs.Ytmggkfebfbnmbaa
