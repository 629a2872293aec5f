/- Where math/bits.Len64 of this program lies: the library's proved contract speaks of it. -/
import Derived.Shelf.Strconv.Itoa0
import Derived.Test.YtkphpdejcmkdeaaRows
namespace Go.Proofs.Ytkphpdejcmkdeaa
open Go.Shelf
def lay52_ren : Go.Shelf.Ren := ⟨fun | 129 => 69 | n => n, fun | 53 => 48 | 3 => 3 | 4 => 4 | 46 => 94 | 5 => 5 | 9 => 9 | n => n, fun | n => n⟩
theorem lay52 : Go.Proofs.Lays.n129 Try.prog lay52_ren := {
  mixed := by kernel_rfl
  f129 := Try.func69.trans (congrArg some (by kernel_rfl))
  t3 := Try.underlying3
  a3 := Try.isAgg3
  z3 := Try.sizeOf3
  v3 := Try.zeroValue3
  t4 := Try.underlying4
  a4 := Try.isAgg4
  z4 := Try.sizeOf4
  v4 := Try.zeroValue4
  t5 := Try.underlying5
  a5 := Try.isAgg5
  z5 := Try.sizeOf5
  v5 := Try.zeroValue5
  t9 := Try.underlying9
  a9 := Try.isAgg9
  z9 := Try.sizeOf9
  v9 := Try.zeroValue9
  t46 := Try.underlying94
  a46 := Try.isAgg94
  z46 := Try.sizeOf94
  v46 := Try.zeroValue94
  t53 := Try.underlying48
  a53 := Try.isAgg48
  z53 := Try.sizeOf48
  v53 := Try.zeroValue48 }

theorem len64_any (x : Nat) (w : World) (h : x < 18446744073709551616) :
    Calls Try.prog 69 #[.int .u64 (x : Int)] w fun e w' => e = .returned (.int .i64 (Lib.bitLen x : Nat)) ∧ w' = w := by
  have h := Any.bits_Len64 lay52 (x : Int) w (by omega) (by omega)
  rw [Int.toNat_natCast] at h
  exact h

end Go.Proofs.Ytkphpdejcmkdeaa
