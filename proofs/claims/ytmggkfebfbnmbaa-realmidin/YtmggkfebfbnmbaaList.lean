/- How a list of 64-bit words that came in is read, for the walks over lists; RealMids at none, and at too many. -/
import Derived.Test.YtmggkfebfbnmbaaFill
import Derived.OpenShut
namespace Go.Proofs.Ytmggkfebfbnmbaa
open Go.RowKit

/-- What the walk is told of a slice of words that came in. -/
def IsRow (w : World) (a : Option Addr) (len cap : Nat) (zs : List Int) : Prop :=
  (a = none ∧ len = 0 ∧ cap = 0 ∧ zs = []) ∨
  ∃ x, a = some x ∧ len ≤ cap ∧ cap ≤ maxLen ∧ zs.length = cap ∧ (∀ i, i < zs.length → w.cell? (x.add i) = some (.int .u64 (zs.getD i 0))) ∧ ∀ n ∈ zs, (Lit.int .u64 n).wf = true

theorem row_words {w : World} {a : Option Addr} {len cap : Nat} {zs : List Int} (h : IsRow w a len cap zs) (h0 : 0 < len) :
    ∃ (b off : Nat) (us : List UInt64), a = some ⟨b, off, none⟩ ∧ us.length = len ∧ ∀ j, j < len → w.cell? ⟨b, off + j, none⟩ = some (.int .u64 ((us[j]!).toNat : Int)) := by
  rcases h with ⟨_, h1, _⟩ | ⟨x, rfl, hl, hm, hz, hc, hw⟩
  · omega
  obtain ⟨b, off, rfl, hc'⟩ := ints_at hc (by omega)
  refine ⟨b, off, (zs.take len).map (fun z => UInt64.ofNat z.toNat), rfl, by simp; omega, ?_⟩
  intro j hj
  have hj2 : j < zs.length := by omega
  rw [hc' j hj2]
  have hwj := hw zs[j] (List.getElem_mem hj2)
  have hb : 0 ≤ zs[j] ∧ zs[j] ≤ 18446744073709551615 := bounds_u64 hwj
  have e1 : zs.getD j 0 = zs[j] := by simp [hj2]
  have e2 : ((zs.take len).map (fun z => UInt64.ofNat z.toNat))[j]! = UInt64.ofNat zs[j].toNat := by simp [hj, hj2]
  rw [e1, e2]
  have e3 : (UInt64.ofNat zs[j].toNat).toNat = zs[j].toNat := by simp; omega
  rw [e3]
  congr 2
  omega

set_option maxHeartbeats 2000000 in
theorem mids_many (a : Option Addr) (n cap : Nat) (w : World) (hn : 200 < n) :
    Calls Try.prog 4 #[.slice a n cap] w fun e w' => e = .returned (.bool true) ∧ Below w.heap.size w w' := by
  have t1 : (200 : Int) < (n : Int) := by omega
  go_enter Try.func4, Try.ntmps4
  go_wp2_with fail
  refine (alive_any w).mono ?_; rintro e w1 ⟨rfl, hb⟩
  go_wp2
  go_ret
  exact ⟨rfl, hb⟩

set_option maxHeartbeats 400000 in
theorem rmid_none (a : Option Addr) (cap : Nat) (w : World) :
    Calls Try.prog 22 #[.slice a 0 cap] w fun e w' => e = .returned (.int .u64 9221120237041090561) ∧ w' = w := by
  go_enter Try.func22, Try.ntmps22
  go_wp2
  go_ret
  exact ⟨rfl, rfl⟩

set_option maxHeartbeats 400000 in
theorem mids_none (a : Option Addr) (cap : Nat) (w : World) :
    Calls Try.prog 4 #[.slice a 0 cap] w fun e w' => e = .returned (.bool true) ∧ Below w.heap.size w w' := by
  go_enter Try.func4, Try.ntmps4
  go_wp2_with fail
  refine (alive_any w).mono ?_; rintro e w1 ⟨rfl, hb⟩
  go_wp2_with fail
  go_loop [3, 16] (fun v i => v = .slice none 0 0 ∧ i = .int .i64 0) (fun _ _ => 0)
  case atStart => exact ⟨rfl, rfl⟩
  case round =>
    obtain ⟨rfl, rfl⟩ := hrel
    go_wp2_with fail
    refine (mid_none _ _ _).mono ?_; rintro e w' ⟨rfl, hw'⟩
    replace hw' := hw'.symm; subst hw'
    go_wp2_with fail
    go_loop [30] (fun i => i = .int .i64 0) (fun _ => 0)
    case atStart => rfl
    case round =>
      subst hrel
      go_wp2_with fail
      refine (bits_any _ _).mono ?_; rintro e w' ⟨rfl, hw'⟩
      replace hw' := hw'.symm; subst hw'
      go_wp2_with fail
      refine (rmid_none _ _ _).mono ?_; rintro e w' ⟨rfl, hw'⟩
      replace hw' := hw'.symm; subst hw'
      go_wp2
      go_ret
      exact ⟨rfl, hb⟩

end Go.Proofs.Ytmggkfebfbnmbaa
