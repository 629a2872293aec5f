/- alive: true, whatever the world. -/
import Derived.Test.YtjcgkljncaphhaaOwns
namespace Go.Proofs.Ytjcgkljncaphhaa
open Go.RowKit

def two : List Pk.Fld := [⟨1, 300, ⟨#[]⟩, 0⟩, ⟨2, 0, ⟨#[97, 98]⟩, 0⟩]
def ten : List UInt8 := [2, 1, 2, 44, 1, 2, 1, 2, 97, 98]

theorem two_err : Pk.encE two = 0 := by decide +kernel
theorem two_bytes : Pk.encR two = ten := by decide +kernel
theorem ten_fields : Pk.decP ten = some two := by
  have h := Pk.decP_enc two_err
  have e : Pk.encR two = Pk.allB two := by unfold Pk.encR; rw [if_pos two_err]
  rw [← e, two_bytes] at h
  exact h
theorem ten_half : Pk.decP (ten.take 5) = none := by
  have h : (Pk.decP (ten.take 5)).isNone = true := by decide +kernel
  exact Option.isNone_iff_eq_none.1 h
theorem two_kinds : isB two [1, 2] = true := by decide +kernel

def cells8 : Array Value := #[.int .i64 1, .int .u64 300, .string ⟨#[]⟩, .float .f64 0, .int .i64 2, .int .u64 0, .string ⟨#[97, 98]⟩, .float .f64 0]

theorem two_at (w : World) : AtP (w.alloc (.cells cells8 52)) (some ⟨w.heap.size, 0, none⟩) two := by
  refine .inr ⟨w.heap.size, 0, rfl, fun j f hf => ?_⟩
  have c : ∀ i, (w.alloc (.cells cells8 52)).cell? ⟨w.heap.size, i, none⟩ = cells8[i]? := fun i => by rw [World.cell?_alloc_at _ _ _ _ rfl]
  match j, hf with
  | 0, hf =>
    simp only [two, List.getElem?_cons_zero, Option.some.injEq] at hf
    subst hf
    exact ⟨(c _).trans rfl, (c _).trans rfl, (c _).trans rfl, (c _).trans rfl⟩
  | 1, hf =>
    simp only [two, List.getElem?_cons_succ, List.getElem?_cons_zero, Option.some.injEq] at hf
    subst hf
    exact ⟨(c _).trans rfl, (c _).trans rfl, (c _).trans rfl, (c _).trans rfl⟩
  | j + 2, hf => simp [two] at hf

set_option maxHeartbeats 2000000 in
theorem alive_any (w : World) : Calls Try.prog 11 #[] w fun e w' => e = .returned (.bool true) ∧ Below w.heap.size w w' := by
  have hE := encode_any (some ⟨w.heap.size, 0, none⟩) 2 2 two (w.alloc (.cells cells8 52)) rfl (two_at w) (by omega)
  unfold EncPost at hE
  rw [two_err, two_bytes] at hE
  unfold cells8 at hE
  have hsf := fun a m b W => store_flt a m b W
  go_enter Try.func11, Try.ntmps11
  go_wp2_with fail
  refine hE.mono ?_
  rintro e w1 ⟨v, rfl, hown, hb1⟩
  have hbb : Below w.heap.size w w1 := ((Below.refl _ w).alloc (Nat.le_refl _) _).trans (hb1.mono (by simp))
  rw [show ten.length = 10 from rfl] at hown
  obtain ⟨a, cap, rfl, hcap, -, hat⟩ := owns_bytes hown
  have hD1 := decode_all a 10 cap ten w1 rfl hcap hat
  have A : Aside (AtB w1 a ten) := hat
  unfold DecPost at hD1
  rw [ten_fields] at hD1
  clear hE hown hb1 hat
  go_wp2_with fail
  refine hD1.mono ?_
  rintro e w2 ⟨⟨v2, rfl, hown2⟩, hb2⟩
  rw [show two.length = 2 from rfl] at hown2
  obtain ⟨a2, cap2, rfl, -, hat2⟩ := owns_fields hown2
  have hD2 := decode_all a 5 cap (ten.take 5) w2 rfl (by omega) (atB_take 5 (atB_later hb2 A.out))
  unfold DecPost at hD2
  rw [ten_half] at hD2
  have F : Aside (AtP w2 a2 two ∧ Below w1.heap.size w1 w2) := ⟨hat2, hb2⟩
  clear hD1 hown2 hat2 hb2
  go_wp2_with fail
  refine hD2.mono ?_
  rintro e w3 ⟨rfl, hb3⟩
  have hcv := conv_bytes w3 a ten cap (atB_later hb3 (atB_later F.out.2 A.out))
  rw [show ten.length = 10 from rfl] at hcv
  have hat3 := atP_later hb3 F.out.1
  have hb13 : Aside (Below w.heap.size w w3) := hbb.trans ((F.out.2.mono hbb.size).trans (hb3.mono (Nat.le_trans hbb.size F.out.2.size)))
  have hI : Aside (∀ w4 c, Below w3.heap.size w3 w4 → AtI w4 c [1, 2] → _) := fun w4 c h1 h2 => is_any a2 c 2 2 cap2 2 two [1, 2] w4 (by omega) rfl rfl (atP_later h1 hat3) h2
  rw [two_kinds] at hI
  rcases hat3 with he | ⟨g, off, rfl, hcs⟩
  · cases he
  obtain ⟨_, _, d2, _⟩ := hcs 1 _ rfl
  simp only at d2
  have hI4 := hI.out (w3.alloc (.cells #[.int .i64 1, .int .i64 2] 3)) (some ⟨w3.heap.size, 0, none⟩) ((Below.refl _ w3).alloc (Nat.le_refl _) _) (by
    refine .inr ⟨w3.heap.size, 0, rfl, fun j x hx => ?_⟩
    rw [World.cell?_alloc_at _ _ _ _ rfl, Nat.zero_add]
    match j, hx with
    | 0, hx => simp at hx; subst hx; rfl
    | 1, hx => simp at hx; subst hx; rfl
    | j + 2, hx => simp at hx)
  unfold ten at hcv
  clear hD2 hcs A F hbb hI hb3
  go_wp2_with fail
  refine hI4.mono ?_
  rintro e w4 ⟨rfl, hb4⟩
  have hb5 : Below w.heap.size w w4 := (hb13.out.alloc hb13.out.size _).trans (hb4.mono (by have := hb13.out.size; simp; omega))
  clear hI4 hb4 hb13 hcv d2
  go_wp2
  go_ret
  exact ⟨rfl, hb5⟩

end Go.Proofs.Ytjcgkljncaphhaa
