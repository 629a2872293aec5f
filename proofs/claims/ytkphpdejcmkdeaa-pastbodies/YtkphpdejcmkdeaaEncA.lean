/- What bytesOf, isCanon and mayBe give. -/
import Derived.Test.YtkphpdejcmkdeaaFlo
import Derived.Test.YtkphpdejcmkdeaaLays
import Derived.Test.YtkphpdejcmkdeaaDefs
import Derived.Deep.QuietTactic
import Derived.Deep.LoopGhost
import Derived.BigQuiet
import Derived.OwnWalk
namespace Go.Proofs.Ytkphpdejcmkdeaa
open Go.RowKit

theorem u64_lt (x : UInt64) : x.toNat < 18446744073709551616 := x.toNat_lt

theorem bitLen_64 (x : Nat) (h : x < 18446744073709551616) : Lib.bitLen x ≤ 64 := Lib.bitLen_le x 64 (Nat.le_refl _) h
theorem nb_le (x : Nat) (h : x < 18446744073709551616) : Pk.nb x ≤ 8 := by
  have := bitLen_64 x h
  unfold Pk.nb; omega

set_option maxHeartbeats 400000 in
theorem bytesOf_any (x : Nat) (w : World) (h : x < 18446744073709551616) :
    Calls Try.prog 57 #[.int .u64 (x : Int)] w fun e w' => e = .returned (.int .i64 (Pk.nb x : Nat)) ∧ w' = w := by
  have hl := len64_any x w h
  have h64 := bitLen_64 x h
  unfold Pk.nb
  generalize Lib.bitLen x = b at hl h64 ⊢
  clear h
  go_enter Try.func57, Try.ntmps57
  go_wp2_with fail
  refine hl.mono ?_; rintro e w' ⟨rfl, rfl⟩
  go_wp2
  go_ret
  refine ⟨congrArg (fun z => Ending.returned (.int .i64 z)) ?_, rfl⟩
  omega

theorem isCanon_any (b : Nat) (w : World) (hb : b < 18446744073709551616) :
    Calls Try.prog 44 #[.float .f64 b] w fun e w' => e = .returned (.bool (decide (Fl.can b = b))) ∧ w' = w := by
  have hc := canon_any b w hb
  have hx := fun n W => tobits_run n W
  generalize Fl.can b = c at hc ⊢
  clear hb
  go_enter Try.func44, Try.ntmps44
  go_wp2_with fail
  refine hc.mono ?_; rintro e w' ⟨rfl, rfl⟩
  go_wp2
  go_ret
  refine ⟨congrArg (fun z => Ending.returned (.bool z)) ?_, rfl⟩
  by_cases g : c = b
  · subst g; simp
  · have g' : ¬ (c : Int) = (b : Int) := by omega
    simp [g, g']

/-- mayBe's answer over the walk's own tests. -/
def mayW (k : Int) (n r : Nat) (s : ByteArray) (c : Bool) : Bool :=
  if (k == 1) = true then s.toList.isEmpty && ((r : Int) == 0)
  else if (k == 2) = true then ((n : Int) == 0) && ((r : Int) == 0) && decide ((s.size : Int) ≤ 2000)
  else if (k == 3) = true then ((n : Int) == 0) && s.toList.isEmpty && c
  else false

set_option maxHeartbeats 400000 in
theorem mayBe_core (k : Int) (n r : Nat) (s : ByteArray) (w : World) (c : Bool) (hc : ∀ w, Calls Try.prog 44 #[.float .f64 r] w fun e w' => e = .returned (.bool c) ∧ w' = w) :
    Calls Try.prog 34 #[.agg #[.int .i64 k, .int .u64 n, .string s, .float .f64 r]] w fun e w' => e = .returned (.bool (mayW k n r s c)) ∧ Below w.heap.size w w' := by
  have hx := fun n W => tobits_run n W
  have hb : ∀ o, Below w.heap.size w (w.alloc o) := fun o => (Below.refl _ w).alloc (Nat.le_refl _) o
  go_enter Try.func34, Try.ntmps34
  go_wp2_with (go_at_call 44; refine (hc _).mono ?_; rintro e w' ⟨rfl, rfl⟩)
  all_goals
    go_ret
    refine ⟨congrArg (fun z => Ending.returned (.bool z)) ?_, hb _⟩
    simp_all [mayW]

theorem toList_size (s : ByteArray) : s.toList.isEmpty = decide (s.size = 0) := by
  rw [ByteArray.toList_eq]
  obtain ⟨⟨l⟩⟩ := s
  cases l <;> rfl

theorem mayBe_any (f : Pk.Fld) (w : World) :
    Calls Try.prog 34 #[.agg #[.int .i64 f.kind, .int .u64 (f.num.toNat : Int), .string f.text, .float .f64 f.real.toNat]] w fun e w' => e = .returned (.bool (Pk.may f)) ∧ Below w.heap.size w w' := by
  have h := mayBe_core f.kind f.num.toNat f.real.toNat f.text w _ (fun w => isCanon_any f.real.toNat w (u64_lt _))
  have e : mayW f.kind f.num.toNat f.real.toNat f.text (decide (Fl.can f.real.toNat = f.real.toNat)) = Pk.may f := by
    unfold mayW Pk.may
    rw [toList_size]
    simp only [beq_iff_eq]
    have hz : ∀ n : Nat, ((n : Int) == 0) = decide (n = 0) := fun n => by by_cases g : n = 0 <;> simp [g]
    have hs : decide ((f.text.size : Int) ≤ 2000) = decide (f.text.size ≤ 2000) := by
      congr 1; apply propext; omega
    rw [hz, hz, hs]
  rw [e] at h
  exact h

end Go.Proofs.Ytkphpdejcmkdeaa
