/- alive: true, whatever the world. -/
import Derived.Test.YtdpnffnogckfjaaLwA
namespace Go.Proofs.Ytdpnffnogckfjaa
open Go.RowKit

def n1 : List UInt8 := [110, 0, 1]
def n2 : List UInt8 := [110, 0, 2]
def s12 : List UInt8 := [115, 110, 0, 1, 110, 0, 2]
def p12 : List UInt8 := [112, 110, 0, 1, 110, 0, 2]
def h2 : List UInt8 := [104, 110, 0, 2]
theorem f_n1 : Tm.nonce 1 = n1 ∧ Tm.nonce 2 = n2 := by decide +kernel
theorem f_d1 : Tm.derives [s12, n1] n2 = true ∧ Tm.derivesE [s12, n1] n2 = 0 := by decide +kernel
theorem f_d2 : Tm.derives [s12] n2 = false ∧ Tm.derivesE [s12] n2 = 0 := by decide +kernel
theorem f_k : (Tm.knownL [s12, n1]).length = 3 ∧ Tm.knownE [s12, n1] = 0 := by decide +kernel
theorem f_d3 : Tm.derives [p12] h2 = true ∧ Tm.derivesE [p12] h2 = 0 := by decide +kernel

/-- Texts in a new block. -/
theorem at_two (w : World) (x y : List UInt8) : AtS (w.alloc (.cells #[str x, str y] 23)) (some ⟨w.heap.size, 0, none⟩) [x, y] := by
  refine .inr ⟨w.heap.size, 0, rfl, fun j z hz => ?_⟩
  rw [Nat.zero_add, World.cell?_alloc_at _ _ _ _ rfl]
  match j, hz with
  | 0, hz => simp at hz; subst hz; rfl
  | 1, hz => simp at hz; subst hz; rfl
  | j + 2, hz => simp at hz
theorem at_one (w : World) (x : List UInt8) : AtS (w.alloc (.cells #[str x] 23)) (some ⟨w.heap.size, 0, none⟩) [x] := by
  refine .inr ⟨w.heap.size, 0, rfl, fun j z hz => ?_⟩
  rw [Nat.zero_add, World.cell?_alloc_at _ _ _ _ rfl]
  match j, hz with
  | 0, hz => simp at hz; subst hz; rfl
  | j + 1, hz => simp at hz
theorem over_new {w w' : World} {o : Obj} (h : Below (w.alloc o).heap.size (w.alloc o) w') : Below w.heap.size w w' := ((Below.refl _ w).alloc (Nat.le_refl _) _).trans (h.mono (by simp))
theorem der_two (x y g : List UInt8) (w : World) : Calls Try.prog 15 #[.slice (some ⟨w.heap.size, 0, none⟩) 2 2, str g] (w.alloc (.cells #[str x, str y] 23)) fun e w' => e = .returned (.tuple #[.bool (Tm.derives [x, y] g), .int .i64 (Tm.derivesE [x, y] g : Nat)]) ∧ Below w.heap.size w w' :=
  (derives_any _ 2 2 [x, y] g _ rfl (at_two w x y)).mono fun _ _ ⟨he, hb⟩ => ⟨he, over_new hb⟩
theorem der_one (x g : List UInt8) (w : World) : Calls Try.prog 15 #[.slice (some ⟨w.heap.size, 0, none⟩) 1 1, str g] (w.alloc (.cells #[str x] 23)) fun e w' => e = .returned (.tuple #[.bool (Tm.derives [x] g), .int .i64 (Tm.derivesE [x] g : Nat)]) ∧ Below w.heap.size w w' :=
  (derives_any _ 1 1 [x] g _ rfl (at_one w x)).mono fun _ _ ⟨he, hb⟩ => ⟨he, over_new hb⟩
theorem kn_two (x y : List UInt8) (w : World) : Calls Try.prog 13 #[.slice (some ⟨w.heap.size, 0, none⟩) 2 2] (w.alloc (.cells #[str x, str y] 23)) fun e w' => ∃ a cap, e = .returned (.tuple #[.slice a (Tm.knownL [x, y]).length cap, .int .i64 (Tm.knownE [x, y] : Nat)]) ∧ Below w.heap.size w w' :=
  (known_any _ 2 2 [x, y] _ rfl (at_two w x y)).mono fun _ _ ⟨v, he, ho, hb⟩ => by
    obtain ⟨a, cap, rfl, -⟩ := owns_strs ho
    exact ⟨a, cap, he, over_new hb⟩

set_option maxHeartbeats 4000000 in
theorem alive_any (w : World) : Calls Try.prog 11 #[] w fun e w' => e = .returned (.bool true) ∧ Below w.heap.size w w' := by
  have h1 := nonce_any 1 w (by omega)
  have H2 : Aside (∀ W, _) := fun W => nonce_any 2 W (by omega)
  have H3 : Aside (∀ W, _) := fun W => der_two s12 n1 n2 W
  have H4 : Aside (∀ W, _) := fun W => der_one s12 n2 W
  have H5 : Aside (∀ W, _) := fun W => kn_two s12 n1 W
  have H6 : Aside (∀ W, _) := fun W => der_one p12 h2 W
  rw [f_n1.1] at h1
  rw [f_n1.2] at H2
  rw [f_d1.1, f_d1.2] at H3
  rw [f_d2.1, f_d2.2] at H4
  rw [f_k.1, f_k.2] at H5
  rw [f_d3.1, f_d3.2] at H6
  unfold str at h1 H2 H3 H4 H5 H6
  have a1 : (⟨#[115]⟩ : ByteArray) ++ (⟨n1.toArray⟩ : ByteArray) ++ (⟨n2.toArray⟩ : ByteArray) = ⟨s12.toArray⟩ := by rfl
  have a2 : (⟨#[112]⟩ : ByteArray) ++ (⟨n1.toArray⟩ : ByteArray) ++ (⟨n2.toArray⟩ : ByteArray) = ⟨p12.toArray⟩ := by rfl
  have a3 : (⟨#[104]⟩ : ByteArray) ++ (⟨n2.toArray⟩ : ByteArray) = ⟨h2.toArray⟩ := by rfl
  have q1 : (⟨n1.toArray⟩ : ByteArray).toList = [110, 0, 1] := ByteArray.toList_mk _
  have z1 : (⟨n1.toArray⟩ : ByteArray).size = 3 := by rfl
  have z2 : (⟨n2.toArray⟩ : ByteArray).size = 3 := by rfl
  generalize (⟨n1.toArray⟩ : ByteArray) = xA at *
  generalize (⟨n2.toArray⟩ : ByteArray) = xB at *
  generalize (⟨s12.toArray⟩ : ByteArray) = xS at *
  generalize (⟨p12.toArray⟩ : ByteArray) = xP at *
  generalize (⟨h2.toArray⟩ : ByteArray) = xH at *
  go_enter Try.func11, Try.ntmps11
  go_wp2_with fail
  refine h1.mono ?_
  rintro e w1 ⟨rfl, b1⟩
  clear h1
  go_wp2_with fail
  refine (H2.out w1).mono ?_
  rintro e w2 ⟨rfl, b2⟩
  have B2 : Aside (Below w.heap.size w w2) := below_step b1 b2
  clear b1 b2 H2
  go_wp2_with fail
  refine (H3.out w2).mono ?_
  rintro e w3 ⟨rfl, b3⟩
  have B3 : Aside (Below w.heap.size w w3) := below_step B2.out b3
  clear b3 H3 B2
  go_wp2_with fail
  refine (H4.out w3).mono ?_
  rintro e w4 ⟨rfl, b4⟩
  have B4 : Aside (Below w.heap.size w w4) := below_step B3.out b4
  clear b4 H4 B3
  go_wp2_with fail
  refine (H5.out w4).mono ?_
  rintro e w5 ⟨ka, kc, rfl, b5⟩
  have B5 : Aside (Below w.heap.size w w5) := below_step B4.out b5
  clear b5 H5 B4
  go_wp2_with fail
  refine (H6.out w5).mono ?_
  rintro e w6 ⟨rfl, b6⟩
  have B6 : Aside (Below w.heap.size w w6) := below_step B5.out b6
  clear b6 H6 B5
  go_wp2
  go_ret
  exact ⟨rfl, B6.out⟩

end Go.Proofs.Ytdpnffnogckfjaa
