/- What partsOf, need, skip and one give. -/
import Derived.Test.YtimeggbjmcnnoaaMath
import Derived.Test.YtimeggbjmcnnoaaChecked
import Derived.WalkKit
import Derived.WalkSpells
import Derived.WalkLawsBesides
import Derived.Lib.BufferOwn
import Derived.Deep.RegionHeld
import Derived.Deep.QuietTactic
import Derived.Deep.LoopGhost
import Derived.BigQuiet
import Derived.OwnWalk
namespace Go.Proofs.Ytimeggbjmcnnoaa
open Go.RowKit

theorem kind_cases (k : UInt8) : k = 104 ∨ k = 100 ∨ k = 109 ∨ k = 115 ∨ k = 112 ∨
    (Tm.ar1 k = 0 ∧ ((k.toNat : Int) == 104) = false ∧ ((k.toNat : Int) == 100) = false ∧ ((k.toNat : Int) == 109) = false ∧ ((k.toNat : Int) == 115) = false ∧ ((k.toNat : Int) == 112) = false) := by
  have ne : ∀ m : UInt8, ¬ k = m → ((k.toNat : Int) == (m.toNat : Int)) = false := by
    intro m h
    have : ¬ (k.toNat : Int) = (m.toNat : Int) := fun e => h (UInt8.toNat_inj.1 (by omega))
    simpa using this
  by_cases h1 : k = 104
  · exact .inl h1
  by_cases h2 : k = 100
  · exact .inr (.inl h2)
  by_cases h3 : k = 109
  · exact .inr (.inr (.inl h3))
  by_cases h4 : k = 115
  · exact .inr (.inr (.inr (.inl h4)))
  by_cases h5 : k = 112
  · exact .inr (.inr (.inr (.inr (.inl h5))))
  exact .inr (.inr (.inr (.inr (.inr ⟨by simp [Tm.ar1, h1, h2, h3, h4, h5], ne 104 h1, ne 100 h2, ne 109 h3, ne 115 h4, ne 112 h5⟩))))

theorem partsOf_any (k : UInt8) (w : World) : Calls Try.prog 43 #[.int .u8 (k.toNat : Int)] w fun e w' => e = .returned (.int .i64 (Tm.ar1 k : Nat)) ∧ w' = w := by
  rcases kind_cases k with rfl | rfl | rfl | rfl | rfl | ⟨h0, h1, h2, h3, h4, h5⟩
  · rw [show Tm.ar1 104 = 1 by decide]
    show Calls Try.prog 43 #[.int .u8 104] w _
    go_enter Try.func43, Try.ntmps43
    go_wp2
    go_ret
    exact ⟨rfl, rfl⟩
  · rw [show Tm.ar1 100 = 2 by decide]
    show Calls Try.prog 43 #[.int .u8 100] w _
    go_enter Try.func43, Try.ntmps43
    go_wp2
    go_ret
    exact ⟨rfl, rfl⟩
  · rw [show Tm.ar1 109 = 2 by decide]
    show Calls Try.prog 43 #[.int .u8 109] w _
    go_enter Try.func43, Try.ntmps43
    go_wp2
    go_ret
    exact ⟨rfl, rfl⟩
  · rw [show Tm.ar1 115 = 2 by decide]
    show Calls Try.prog 43 #[.int .u8 115] w _
    go_enter Try.func43, Try.ntmps43
    go_wp2
    go_ret
    exact ⟨rfl, rfl⟩
  · rw [show Tm.ar1 112 = 2 by decide]
    show Calls Try.prog 43 #[.int .u8 112] w _
    go_enter Try.func43, Try.ntmps43
    go_wp2
    go_ret
    exact ⟨rfl, rfl⟩
  · rw [h0]
    generalize (k.toNat : Int) = n at *
    go_enter Try.func43, Try.ntmps43
    go_wp2
    go_ret
    exact ⟨rfl, rfl⟩

/-- What a reader gives up with. -/
def gave (n : Int) : List PanicEntry := [{ v := .iface 97 (.agg #[.int .i64 n]), recovered := false }]

/-- The reader in block pb stands at this place of the text. -/
def Rd (w : World) (pb : Nat) (s : ByteArray) (i : Nat) : Prop :=
  w.cell? ⟨pb, 0, none⟩ = some (.string s) ∧ w.cell? ⟨pb, 1, none⟩ = some (.int .i64 (i : Int)) ∧ w.frozen? ⟨pb, 1, none⟩ = false ∧ i ≤ s.size ∧ s.size ≤ 2000

theorem grown_drew {w w' : World} {row : Option Nat} (h : w.grownBy w' row) (q : Nat) : w.grownBy (w'.drewN q) row := ⟨h.os, h.tape, h.output, h.size, h.block⟩
theorem rd_drew {w : World} {pb i : Nat} {s : ByteArray} (h : Rd w pb s i) (q : Nat) : Rd (w.drewN q) pb s i := h
theorem grown_set (w : World) (pb off : Nat) (v : Value) : w.grownBy (w.setCell ⟨pb, off, none⟩ v) (some pb) := Lib.grownBy_setB (World.grownBy.refl w _) off v
theorem rd_set {w : World} {pb i j : Nat} {s : ByteArray} (h : Rd w pb s i) (hj : j ≤ s.size) : Rd (w.setCell ⟨pb, 1, none⟩ (.int .i64 (j : Int))) pb s j := by
  obtain ⟨h1, h2, h3, h4, h5⟩ := h
  refine ⟨?_, World.cell?_setCell_same w _ _ h2, by rw [World.frozen?_setCell]; exact h3, hj, h5⟩
  rw [World.cell?_setCell_other w _ _ _ (by simp)]; exact h1

set_option maxHeartbeats 1000000 in
theorem skip_ok (pb i n : Nat) (s : ByteArray) (w : World) (h : Rd w pb s i) (hn : i + n ≤ s.size) :
    Calls Try.prog 56 #[.pointer (some ⟨pb, 0, none⟩), .int .i64 (n : Nat)] w fun e w' => e = .returned (.tuple #[]) ∧ w.grownBy w' (some pb) ∧ Rd w' pb s (i + n) := by
  obtain ⟨h1, h2, h3, h4, h5⟩ := h
  have K : Rd w pb s i := ⟨h1, h2, h3, h4, h5⟩
  have t1 : ¬ (s.size : Int) - (i : Int) < (n : Int) := by omega
  have R : Aside (∀ q, w.grownBy ((w.drewN q).setCell ⟨pb, 1, none⟩ (.int .i64 ((i : Int) + (n : Int)))) (some pb) ∧ Rd ((w.drewN q).setCell ⟨pb, 1, none⟩ (.int .i64 ((i : Int) + (n : Int)))) pb s (i + n)) :=
    fun q => ⟨Lib.grownBy_trans (grown_drew (World.grownBy.refl w _) q) (grown_set _ _ _ _), rd_set (rd_drew K q) hn⟩
  clear K
  go_enter Try.func56, Try.ntmps56
  go_wp2_with fail
  go_quiet (fail)
  go_wp2
  exact ⟨rfl, .tuple #[], results_none rfl _ _ _, rfl, R.out _⟩

set_option maxHeartbeats 1000000 in
theorem skip_bad (pb i : Nat) (n : Int) (s : ByteArray) (w : World) (h : Rd w pb s i) (hn : (s.size : Int) < i + n) :
    Calls Try.prog 56 #[.pointer (some ⟨pb, 0, none⟩), .int .i64 n] w fun e w' => e = .panicked (gave 4) ∧ w.grownBy w' (some pb) := by
  obtain ⟨h1, h2, h3, h4, h5⟩ := h
  have t1 : (s.size : Int) - (i : Int) < n := by omega
  go_enter Try.func56, Try.ntmps56
  go_wp2_with fail
  go_quiet (fail)
  go_wp2
  exact ⟨rfl, rfl, grown_drew (World.grownBy.refl w _) _⟩

theorem at_place {s : ByteArray} {i : Nat} {k : UInt8} {r : List UInt8} (h : s.data.toList.drop i = k :: r) : i < s.size ∧ s.data.toList[i]? = some k ∧ s.data.toList.drop (i + 1) = r := by
  have h1 : s.data.toList[i]? = some k := by
    have : (s.data.toList.drop i)[0]? = some k := by rw [h]; rfl
    rw [List.getElem?_drop] at this; simpa using this
  refine ⟨?_, h1, ?_⟩
  · have := (List.getElem?_eq_some_iff.1 h1).1
    simpa using this
  · have : (s.data.toList.drop i).drop 1 = r := by rw [h]; rfl
    rw [List.drop_drop] at this; exact this

theorem idx {s : ByteArray} {i : Nat} {k : UInt8} {r : List UInt8} (h : s.data.toList.drop i = k :: r) (W : World) :
    (Instr.index 22 (.string s) (.int .i64 (i : Int))).run Try.prog W = .ok (.int .u8 (k.toNat : Int)) W := by
  obtain ⟨h1, h2, _⟩ := at_place h
  rw [run_index_string W 22 s .i64 (i : Int) Try.underlying22, dif_pos ⟨by omega, by omega⟩]
  have e : s[(i : Int).toNat]'(by simpa using h1) = k := by
    have h3 := (List.getElem?_eq_some_iff.1 h2)
    obtain ⟨h4, h5⟩ := h3
    simp only [Int.toNat_natCast]
    rw [← h5]
    simp [ByteArray.getElem_eq_getElem_data]
  rw [e]

theorem rd_lt {w : World} {pb i : Nat} {s : ByteArray} (h : Rd w pb s i) : pb < w.heap.size := World.block_lt_of_cell? w _ h.1

set_option maxHeartbeats 1000000 in
theorem one_ok (pb i : Nat) (s : ByteArray) (k : UInt8) (r : List UInt8) (w : World) (h : Rd w pb s i) (hk : s.data.toList.drop i = k :: r) :
    Calls Try.prog 55 #[.pointer (some ⟨pb, 0, none⟩)] w fun e w' => e = .returned (.int .u8 (k.toNat : Int)) ∧ w.grownBy w' (some pb) ∧ Rd w' pb s (i + 1) := by
  have hs := skip_ok pb i 1 s w h (at_place hk).1
  have X : Aside (∀ W, _) := fun W => idx hk W
  clear h hk
  go_enter Try.func55, Try.ntmps55
  go_wp2_with fail
  refine hs.mono ?_
  rintro e w1 ⟨rfl, hg, hr⟩
  have R : Aside (∀ q, w.grownBy (w1.drewN q) (some pb) ∧ Rd (w1.drewN q) pb s (i + 1)) := fun q => ⟨grown_drew hg q, rd_drew hr q⟩
  obtain ⟨h1, h2, h3, h4, h5⟩ := hr
  have X1 := X.out
  have e1 : ((i + 1 : Nat) : Int) - 1 = (i : Int) := by omega
  clear hs hg X
  go_wp2_with fail
  go_quiet (fail)
  go_wp2
  go_ret
  exact ⟨rfl, R.out _⟩

set_option maxHeartbeats 1000000 in
theorem one_end (pb i : Nat) (s : ByteArray) (w : World) (h : Rd w pb s i) (hk : s.data.toList.drop i = []) :
    Calls Try.prog 55 #[.pointer (some ⟨pb, 0, none⟩)] w fun e w' => e = .panicked (gave 4) ∧ w.grownBy w' (some pb) := by
  have hs := skip_bad pb i 1 s w h (by have := List.drop_eq_nil_iff.1 hk; simp at this; have h4 := h.2.2.2.1; omega)
  clear h hk
  go_enter Try.func55, Try.ntmps55
  go_wp2_with fail
  refine hs.mono ?_
  rintro e w1 ⟨rfl, hg⟩
  clear hs
  go_wp2
  exact ⟨rfl, rfl, hg⟩

end Go.Proofs.Ytimeggbjmcnnoaa
