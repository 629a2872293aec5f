/- alive: true, whatever the world. -/
import Derived.Test.YtldojinnipbblaaSame
namespace Go.Proofs.Ytldojinnipbblaa
open Go.RowKit

def bN : List UInt8 := [110, 1, 2]
def bC : List UInt8 := [99, 1, 97]
def bP : List UInt8 := [112, 110, 1, 2, 99, 1, 97]
def bS : List UInt8 := [115, 110, 1, 2, 112, 110, 1, 2, 99, 1, 97]

theorem f_nonce : Tm.nonce 258 = bN := by decide +kernel
theorem f_const : Tm.const [97] = bC ∧ Tm.constE [97] = 0 := by decide +kernel
theorem f_pair : Tm.make 112 [bN, bC] = bP ∧ Tm.makeE 112 [bN, bC] = 0 := by decide +kernel
theorem f_seal : Tm.make 115 [bN, bP] = bS ∧ Tm.makeE 115 [bN, bP] = 0 := by decide +kernel
theorem f_open : Tm.openR bN bS = bP ∧ Tm.openE bN bS = 0 := by decide +kernel
theorem f_shut : Tm.openR bC bS = [] ∧ Tm.openE bC bS = 12 := by decide +kernel
theorem f_subs : Tm.chk bP = 0 ∧ (Tm.subsOf bP).length = 3 := by decide +kernel
theorem f_check : Tm.chk [120] = 4 := by decide +kernel

/-- Two texts in a new block. -/
theorem at_two (w : World) (x y : List UInt8) : AtS (w.alloc (.cells #[str x, str y] 22)) (some ⟨w.heap.size, 0, none⟩) [x, y] := by
  refine .inr ⟨w.heap.size, 0, rfl, fun j z hz => ?_⟩
  rw [Nat.zero_add, World.cell?_alloc_at _ _ _ _ rfl]
  match j, hz with
  | 0, hz => simp at hz; subst hz; rfl
  | 1, hz => simp at hz; subst hz; rfl
  | j + 2, hz => simp at hz
theorem at_one (w : World) (x : List UInt8) : AtS (w.alloc (.cells #[str x] 22)) (some ⟨w.heap.size, 0, none⟩) [x] := by
  refine .inr ⟨w.heap.size, 0, rfl, fun j z hz => ?_⟩
  rw [Nat.zero_add, World.cell?_alloc_at _ _ _ _ rfl]
  match j, hz with
  | 0, hz => simp at hz; subst hz; rfl
  | j + 1, hz => simp at hz
/-- Make of two, over a new block. -/
theorem make_two (k : UInt8) (x y : List UInt8) (w : World) : Calls Try.prog 23 #[.int .u8 (k.toNat : Int), .slice (some ⟨w.heap.size, 0, none⟩) 2 2] (w.alloc (.cells #[str x, str y] 22)) fun e w' => e = .returned (.tuple #[str (Tm.make k [x, y]), .int .i64 (Tm.makeE k [x, y] : Nat)]) ∧ Below w.heap.size w w' := by
  refine (make_any k _ 2 2 [x, y] _ rfl (by omega) (at_two w x y)).mono ?_
  rintro e w' ⟨rfl, hb⟩
  exact ⟨rfl, ((Below.refl _ w).alloc (Nat.le_refl _) _).trans (hb.mono (by simp))⟩
theorem make_one (k : UInt8) (x : List UInt8) (w : World) : Calls Try.prog 23 #[.int .u8 (k.toNat : Int), .slice (some ⟨w.heap.size, 0, none⟩) 1 1] (w.alloc (.cells #[str x] 22)) fun e w' => e = .returned (.tuple #[str (Tm.make k [x]), .int .i64 (Tm.makeE k [x] : Nat)]) ∧ Below w.heap.size w w' := by
  refine (make_any k _ 1 1 [x] _ rfl (by omega) (at_one w x)).mono ?_
  rintro e w' ⟨rfl, hb⟩
  exact ⟨rfl, ((Below.refl _ w).alloc (Nat.le_refl _) _).trans (hb.mono (by simp))⟩

set_option maxHeartbeats 2000000 in
theorem alive_any (w : World) : Calls Try.prog 11 #[] w fun e w' => e = .returned (.bool true) ∧ Below w.heap.size w w' := by
  have h1 := nonce_any 258 w (by omega)
  have H2 : Aside (∀ W, _) := fun W => const_any ⟨#[97]⟩ W
  have H3 : Aside (∀ W, _) := fun W => make_two 112 bN bC W
  have H4 : Aside (∀ W, _) := fun W => make_two 115 bN bP W
  have H5 : Aside (∀ W, _) := fun W => open_any ⟨bN.toArray⟩ ⟨bS.toArray⟩ W
  have H6 : Aside (∀ W, _) := fun W => open_any ⟨bC.toArray⟩ ⟨bS.toArray⟩ W
  have H7 : Aside (∀ W, _) := fun W => subs_any ⟨bP.toArray⟩ W
  have H8 : Aside (∀ W, _) := fun W => check_any ⟨#[120]⟩ W
  unfold OpenPost at H5 H6
  unfold SubsPost at H7
  rw [show (⟨#[97]⟩ : ByteArray).data.toList = [97] from rfl, f_const.1, f_const.2] at H2
  rw [f_nonce] at h1
  rw [f_pair.1, f_pair.2] at H3
  rw [f_seal.1, f_seal.2] at H4
  rw [str_bytes, str_bytes, f_open.1, f_open.2] at H5
  rw [str_bytes, str_bytes, f_shut.1, f_shut.2] at H6
  rw [str_bytes, f_subs.1, f_subs.2] at H7
  rw [show (⟨#[120]⟩ : ByteArray).data.toList = [120] from rfl, f_check] at H8
  unfold str at h1 H2 H3 H4 H5 H6
  have q1 : (⟨bN.toArray⟩ : ByteArray).toList = [110, 1, 2] := ByteArray.toList_mk _
  have q2 : (⟨bP.toArray⟩ : ByteArray).toList = [112, 110, 1, 2, 99, 1, 97] := ByteArray.toList_mk _
  generalize (⟨bN.toArray⟩ : ByteArray) = xN at *
  generalize (⟨bC.toArray⟩ : ByteArray) = xC at *
  generalize (⟨bP.toArray⟩ : ByteArray) = xP at *
  generalize (⟨bS.toArray⟩ : ByteArray) = xS at *
  go_enter Try.func11, Try.ntmps11
  go_wp2_with fail
  refine h1.mono ?_
  rintro e w1 ⟨rfl, b1⟩
  clear h1
  go_wp2_with fail
  refine (H2.out w1).mono ?_
  rintro e w2 ⟨rfl, b2⟩
  have B2 : Aside (Below w.heap.size w w2) := below_step b1 b2
  clear b1 b2 H2
  go_wp2_with fail
  refine (H3.out w2).mono ?_
  rintro e w3 ⟨rfl, b3⟩
  have B3 : Aside (Below w.heap.size w w3) := below_step B2.out b3
  clear b3 H3 B2
  go_wp2_with fail
  refine (H4.out w3).mono ?_
  rintro e w4 ⟨rfl, b4⟩
  have B4 : Aside (Below w.heap.size w w4) := below_step B3.out b4
  clear b4 H4 B3
  go_wp2_with fail
  refine (H5.out w4).mono ?_
  rintro e w5 ⟨rfl, b5⟩
  have B5 : Aside (Below w.heap.size w w5) := below_step B4.out b5
  clear b5 H5 B4
  go_wp2_with fail
  refine (H6.out w5).mono ?_
  rintro e w6 ⟨rfl, b6⟩
  have B6 : Aside (Below w.heap.size w w6) := below_step B5.out b6
  clear b6 H6 B5
  go_wp2_with fail
  refine (H7.out w6).mono ?_
  rintro e w7 ⟨v7, rfl, hown, b7⟩
  obtain ⟨a7, c7, rfl, -, -, -⟩ := owns_strs hown
  have B7 : Aside (Below w.heap.size w w7) := below_step B6.out b7
  clear b7 H7 B6 hown
  go_wp2_with fail
  refine (H8.out w7).mono ?_
  rintro e w8 ⟨rfl, b8⟩
  have B8 : Aside (Below w.heap.size w w8) := below_step B7.out b8
  clear b8 H8 B7
  go_wp2
  go_ret
  exact ⟨rfl, B8.out⟩

end Go.Proofs.Ytldojinnipbblaa
