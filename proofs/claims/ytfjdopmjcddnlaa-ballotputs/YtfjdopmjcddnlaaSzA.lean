/- What Size gives: how many bits of sixteen are set, by a table of two hundred and fifty-six. -/
import Derived.Test.YtfjdopmjcddnlaaScA
import Derived.Lib.BitFns
import Derived.Lib.BufferOwn
import Derived.Deep.RegionHeld
import Derived.Deep.QuietTactic
import Derived.Deep.LoopGhost
import Derived.OwnWalk
import Derived.BigQuiet
namespace Go.Proofs.Ytfjdopmjcddnlaa
open Go.RowKit

namespace Cn
def low8 (n : Nat) : Nat := (List.range 8).countP (n.testBit ·)
theorem low8_ones : ∀ n : Fin 256, low8 n.val = Lib.onesCount n.val := by decide +kernel
theorem size_halves (s : Nat) : sizeS s = low8 (s / 256) + low8 (s % 256) := by
  unfold sizeS low8
  have e : List.range 16 = List.range 8 ++ (List.range 8).map (8 + ·) := by decide
  rw [e, List.countP_append, List.countP_map, Nat.add_comm]
  congr 1
  · refine List.countP_congr fun j _ => ?_
    show (s.testBit (8 + j) = true) ↔ ((s / 256).testBit j = true)
    rw [show (256 : Nat) = 2 ^ 8 from rfl, Nat.testBit_div_two_pow, Nat.add_comm]
  · refine List.countP_congr fun j hj => ?_
    have := List.mem_range.1 hj
    rw [show (256 : Nat) = 2 ^ 8 from rfl, Nat.testBit_mod_two_pow, decide_eq_true this]
    simp
theorem pop_low {n : Nat} (h : n < 256) : Lib.pop8 (n : Int) = (low8 n : Int) ∧ low8 n ≤ 8 := by
  have h1 := Lib.pop8_eq ⟨n, h⟩
  have h2 := Lib.onesCount_le8 ⟨n, h⟩
  have h3 := low8_ones ⟨n, h⟩
  simp only at h1 h2 h3
  rw [h1, h3]
  exact ⟨rfl, h2⟩
end Cn

/-- The world but for what it drew. -/
def Drew (w w' : World) : Prop := ∃ q, w' = w.drewN q
theorem below_drew {B : Nat} {w w' : World} (h : Below B w w') (q : Nat) : Below B w (w'.drewN q) := ⟨h.os, h.tape, h.output, h.size, h.block⟩
theorem drew_below {w w' : World} (h : Drew w w') : Below w.heap.size w w' := by
  obtain ⟨q, rfl⟩ := h; exact below_drew (Below.refl _ w) q
theorem drew_cell {w w' : World} (h : Drew w w') {a : Addr} {v : Value} (hc : w.cell? a = some v) : w'.cell? a = some v := by
  obtain ⟨q, rfl⟩ := h; exact hc
theorem drew_more {w w' : World} (h : Drew w w') (q : Nat) : Drew w (w'.drewN q) := by
  obtain ⟨p, rfl⟩ := h
  exact ⟨p + q, by simp [World.drewN, Nat.add_assoc]⟩

set_option maxRecDepth 100000 in
/-- The table, as the program's text has it. -/
theorem fold_tab : (⟨(([0, 1, 1, 2, 1, 2, 2, 3, 1, 2, 2, 3, 2, 3, 3, 4, 1, 2, 2, 3, 2, 3, 3, 4, 2, 3, 3, 4, 3, 4, 4, 5, 1, 2, 2, 3, 2, 3, 3, 4, 2, 3, 3, 4, 3, 4, 4, 5, 2, 3, 3, 4, 3, 4, 4, 5, 3, 4, 4, 5, 4, 5, 5, 6].append [1, 2, 2, 3, 2, 3, 3, 4, 2, 3, 3, 4, 3, 4, 4, 5, 2, 3, 3, 4, 3, 4, 4, 5, 3, 4, 4, 5, 4, 5, 5, 6, 2, 3, 3, 4, 3, 4, 4, 5, 3, 4, 4, 5, 4, 5, 5, 6, 3, 4, 4, 5, 4, 5, 5, 6, 4, 5, 5, 6, 5, 6, 6, 7]).append ([1, 2, 2, 3, 2, 3, 3, 4, 2, 3, 3, 4, 3, 4, 4, 5, 2, 3, 3, 4, 3, 4, 4, 5, 3, 4, 4, 5, 4, 5, 5, 6, 2, 3, 3, 4, 3, 4, 4, 5, 3, 4, 4, 5, 4, 5, 5, 6, 3, 4, 4, 5, 4, 5, 5, 6, 4, 5, 5, 6, 5, 6, 6, 7].append [2, 3, 3, 4, 3, 4, 4, 5, 3, 4, 4, 5, 4, 5, 5, 6, 3, 4, 4, 5, 4, 5, 5, 6, 4, 5, 5, 6, 5, 6, 6, 7, 3, 4, 4, 5, 4, 5, 5, 6, 4, 5, 5, 6, 5, 6, 6, 7, 4, 5, 5, 6, 5, 6, 6, 7, 5, 6, 6, 7, 6, 7, 7, 8])).toArray⟩ : ByteArray) = Lib.pop8tab := by rfl

set_option maxHeartbeats 2000000 in
set_option maxRecDepth 100000 in
theorem ones_any (s : Nat) (w : World) (hs : s < 65536) : Calls Try.prog 50 #[.int .u16 (s : Nat)] w fun e w' => e = .returned (.int .i64 (Cn.sizeS s : Nat)) ∧ Drew w w' := by
  have hh := Cn.size_halves s
  obtain ⟨p1, l1⟩ := Cn.pop_low (show s / 256 < 256 by omega)
  obtain ⟨p2, l2⟩ := Cn.pop_low (show s % 256 < 256 by omega)
  have R : Aside (∀ w', Drew w w' → (fun (e : Ending) w' => e = .returned (.int .i64 (Cn.sizeS s : Nat)) ∧ Drew w w') (.returned (.int .i64 ((Cn.low8 (s / 256) : Int) + (Cn.low8 (s % 256) : Int)))) w') := by
    intro w' hw
    exact ⟨ret_i (by rw [hh]; omega), hw⟩
  generalize (fun (e : Ending) w' => e = .returned (.int .i64 (Cn.sizeS s : Nat)) ∧ Drew w w') = Q at R ⊢
  have hm := u16_and_nat s 255 hs (by omega)
  rw [show s &&& 255 = s % 256 from Nat.and_two_pow_sub_one_eq_mod s 8] at hm
  rw [show ((255 : Nat) : Int) = 255 from rfl] at hm
  generalize Cn.low8 (s / 256) = x at *
  generalize Cn.low8 (s % 256) = y at *
  have hd : (s : Int) / 256 = ((s / 256 : Nat) : Int) := by omega
  have b1 : s / 256 ≤ 255 := by omega
  have b2 : s % 256 ≤ 255 := by omega
  generalize s / 256 = a at *
  generalize s % 256 = b at *
  have X1 : ∀ W, (Instr.index 9 (.string Lib.pop8tab) (.int .u16 (a : Int))).run Try.prog W = .ok (.int .u8 (x : Int)) W := fun W => by
    rw [Lib.run_index_pop8tab W 9 .u16 _ Try.underlying9 (by omega) (by omega), p1]
  have X2 : ∀ W, (Instr.index 9 (.string Lib.pop8tab) (.int .u16 (b : Int))).run Try.prog W = .ok (.int .u8 (y : Int)) W := fun W => by
    rw [Lib.run_index_pop8tab W 9 .u16 _ Try.underlying9 (by omega) (by omega), p2]
  have R1 : Aside (∀ q, Q (.returned (.int .i64 ((x : Int) + (y : Int)))) (w.drewN q)) := fun q => R.out _ ⟨q, rfl⟩
  clear hh R p1 p2 b1 b2
  go_enter Try.func50, Try.ntmps50
  go_wp2_with fail
  rw [fold_tab]
  go_quiet (fail)
  go_wp2
  exact R1.out _

theorem size_any (s : Nat) (w : World) (hs : s < 65536) : Calls Try.prog 33 #[.int .u16 (s : Nat)] w fun e w' => e = .returned (.int .i64 (Cn.sizeS s : Nat)) ∧ Drew w w' := by
  have ho := ones_any s w hs
  generalize (Cn.sizeS s : Int) = m at ho ⊢
  go_enter Try.func33, Try.ntmps33
  go_wp2_with fail
  refine ho.mono ?_; rintro e w' ⟨rfl, hw⟩
  go_wp2
  go_ret
  exact ⟨rfl, hw⟩

end Go.Proofs.Ytfjdopmjcddnlaa
