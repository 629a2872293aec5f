/- What giveUp, take and one give: the reader's first three, for all bytes that are left. -/
import Derived.Test.YtkphpdejcmkdeaaFlo
import Derived.Test.YtkphpdejcmkdeaaDefs
import Derived.Lib.BufferOwn
import Derived.Deep.RegionHeld
import Derived.Deep.QuietTactic
import Derived.Deep.LoopGhost
import Derived.BigQuiet
import Derived.OwnWalk
namespace Go.Proofs.Ytkphpdejcmkdeaa
open Go.RowKit

/-- What a reader gives up with. -/
def gave : List PanicEntry := [{ v := .iface 9 (.string { data := #[112, 97, 99, 107, 58, 32, 110, 111, 32, 98, 121, 116, 101, 115, 32, 111, 102, 32, 102, 105, 101, 108, 100, 115] }), recovered := false }]

theorem giveUp_any (w : World) : Calls Try.prog 51 #[] w fun e w' => e = .panicked gave ∧ w' = w := by
  go_enter Try.func51, Try.ntmps51
  go_wp2
  exact ⟨rfl, rfl, rfl⟩

/-- Bytes lie behind an address. -/
def AtB (w : World) (a : Option Addr) (bs : List UInt8) : Prop :=
  bs = [] ∨ ∃ b off, a = some ⟨b, off, none⟩ ∧ ∀ j (h : j < bs.length), w.cell? ⟨b, off + j, none⟩ = some (.int .u8 (bs[j].toNat : Int))

/-- The reader in block pb has these bytes left. -/
def Rest (w : World) (pb : Nat) (bs : List UInt8) : Prop :=
  w.frozen? ⟨pb, 0, none⟩ = false ∧ ∃ a cap, w.cell? ⟨pb, 0, none⟩ = some (.slice a bs.length cap) ∧ bs.length ≤ cap ∧
    (bs = [] ∨ ∃ b off, a = some ⟨b, off, none⟩ ∧ b < pb ∧ ∀ j (h : j < bs.length), w.cell? ⟨b, off + j, none⟩ = some (.int .u8 (bs[j].toNat : Int)))

set_option maxHeartbeats 400000 in
theorem take_core (pb n m cap : Nat) (a : Option Addr) (w : World) (hc : w.cell? ⟨pb, 0, none⟩ = some (.slice a n cap)) (hz : w.frozen? ⟨pb, 0, none⟩ = false) (hm : m ≤ n) (hn : n ≤ cap) :
    Calls Try.prog 61 #[.pointer (some ⟨pb, 0, none⟩), .int .i64 (m : Nat)] w fun e w' => e = .returned (.slice a m cap) ∧ w' = w.setCell ⟨pb, 0, none⟩ (.slice (if cap = m then a else a.map (·.add m)) (n - m) (cap - m)) := by
  have t1 : ¬ (n : Int) < (m : Int) := by omega
  go_enter Try.func61, Try.ntmps61
  go_wp2
  all_goals
    go_ret
    exact ⟨rfl, rfl⟩

set_option maxHeartbeats 400000 in
theorem take_bad (pb n cap : Nat) (m : Int) (a : Option Addr) (w : World) (hc : w.cell? ⟨pb, 0, none⟩ = some (.slice a n cap)) (hm : (n : Int) < m) :
    Calls Try.prog 61 #[.pointer (some ⟨pb, 0, none⟩), .int .i64 m] w fun e w' => e = .panicked gave ∧ w' = w := by
  go_enter Try.func61, Try.ntmps61
  go_wp2_with fail
  refine (giveUp_any _).mono ?_; rintro e w' ⟨rfl, rfl⟩
  go_wp2
  exact ⟨rfl, rfl, rfl⟩

theorem grown_set (w : World) (pb : Nat) (v : Value) : w.grownBy (w.setCell ⟨pb, 0, none⟩ v) (some pb) := Lib.grownBy_setB (World.grownBy.refl w _) 0 v

theorem take_ok (pb m : Nat) (bs : List UInt8) (w : World) (h : Rest w pb bs) (hm : m ≤ bs.length) :
    Calls Try.prog 61 #[.pointer (some ⟨pb, 0, none⟩), .int .i64 (m : Nat)] w fun e w' =>
      (∃ a cap, e = .returned (.slice a m cap) ∧ m ≤ cap ∧ AtB w' a (bs.take m)) ∧ w.grownBy w' (some pb) ∧ Rest w' pb (bs.drop m) := by
  obtain ⟨hz, a, cap, hc, hn, hat⟩ := h
  refine (take_core pb bs.length m cap a w hc hz hm hn).mono ?_
  rintro e w' ⟨rfl, rfl⟩
  have hother : ∀ b off v, b < pb → w.cell? ⟨b, off, none⟩ = some v → (w.setCell ⟨pb, 0, none⟩ (.slice (if cap = m then a else a.map (·.add m)) (bs.length - m) (cap - m))).cell? ⟨b, off, none⟩ = some v := by
    intro b off v hb hv
    rw [World.cell?_setCell_far _ _ _ _ (show pb ≠ b by omega)]; exact hv
  refine ⟨⟨a, cap, rfl, by omega, ?_⟩, grown_set _ _ _, by rw [World.frozen?_setCell]; exact hz, (if cap = m then a else a.map (·.add m)), cap - m, ?_, ?_, ?_⟩
  · rcases hat with rfl | ⟨b, off, rfl, hb, hcs⟩
    · left; simp
    · right
      refine ⟨b, off, rfl, fun j hj => hother _ _ _ hb ?_⟩
      rw [List.length_take] at hj
      rw [hcs j (by omega)]
      simp
  · rw [World.cell?_setCell_same w _ _ hc, List.length_drop]
  · rw [List.length_drop]; omega
  · by_cases he : m = bs.length
    · left; rw [he]; simp
    · right
      rcases hat with rfl | ⟨b, off, rfl, hb, hcs⟩
      · simp at hm he; omega
      · refine ⟨b, off + m, ?_, hb, fun j hj => hother _ _ _ hb ?_⟩
        · rw [if_neg (by omega)]
          show some (Addr.add _ _) = _
          unfold Addr.add
          split <;> simp_all
        · rw [List.length_drop] at hj
          rw [Nat.add_assoc, hcs (m + j) (by omega)]
          simp

theorem take_end (pb : Nat) (m : Int) (bs : List UInt8) (w : World) (h : Rest w pb bs) (hm : (bs.length : Int) < m) :
    Calls Try.prog 61 #[.pointer (some ⟨pb, 0, none⟩), .int .i64 m] w fun e w' => e = .panicked gave ∧ w.grownBy w' (some pb) := by
  obtain ⟨hz, a, cap, hc, hn, hat⟩ := h
  refine (take_bad pb bs.length cap m a w hc hm).mono ?_
  rintro e w' ⟨rfl, rfl⟩
  exact ⟨rfl, World.grownBy.refl _ _⟩

set_option maxHeartbeats 400000 in
theorem one_ok (pb : Nat) (x : UInt8) (r : List UInt8) (w : World) (h : Rest w pb (x :: r)) :
    Calls Try.prog 50 #[.pointer (some ⟨pb, 0, none⟩)] w fun e w' => e = .returned (.int .u8 (x.toNat : Int)) ∧ w.grownBy w' (some pb) ∧ Rest w' pb r := by
  have ht := take_ok pb 1 (x :: r) w h (by simp)
  have T : Aside (Calls Try.prog 61 #[.pointer (some ⟨pb, 0, none⟩), .int .i64 1] w fun e w' =>
      (∃ a cap, e = .returned (.slice a 1 cap) ∧ 1 ≤ cap ∧ AtB w' a [x]) ∧ w.grownBy w' (some pb) ∧ Rest w' pb r) := ht
  clear ht h
  go_enter Try.func50, Try.ntmps50
  go_wp2_with fail
  refine T.out.mono ?_
  rintro e w1 ⟨⟨a, cap, rfl, hcap, hat⟩, hg, hr⟩
  rcases hat with hat | ⟨b, off, rfl, hcs⟩
  · cases hat
  have c0 := hcs 0 (by simp)
  simp only [Nat.add_zero, List.getElem_cons_zero] at c0
  have G : Aside (w.grownBy w1 (some pb) ∧ Rest w1 pb r) := ⟨hg, hr⟩
  clear T hcs hg hr
  go_wp2
  go_ret
  exact ⟨rfl, G.out⟩

set_option maxHeartbeats 400000 in
theorem one_end (pb : Nat) (w : World) (h : Rest w pb []) :
    Calls Try.prog 50 #[.pointer (some ⟨pb, 0, none⟩)] w fun e w' => e = .panicked gave ∧ w.grownBy w' (some pb) := by
  have T : Aside (Calls Try.prog 61 #[.pointer (some ⟨pb, 0, none⟩), .int .i64 1] w fun e w' => e = .panicked gave ∧ w.grownBy w' (some pb)) := take_end pb 1 [] w h (by simp)
  clear h
  go_enter Try.func50, Try.ntmps50
  go_wp2_with fail
  refine T.out.mono ?_
  rintro e w1 ⟨rfl, hg⟩
  go_wp2
  exact ⟨rfl, rfl, hg⟩

end Go.Proofs.Ytkphpdejcmkdeaa
