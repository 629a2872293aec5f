/- One field by itself: what Encode gives; and how many bytes numbers need. -/
import Derived.Test.YtjcgkljncaphhaaAlive
namespace Go.Proofs.Ytjcgkljncaphhaa
open Go.RowKit

theorem one_at (f : Pk.Fld) (w : World) : AtP (w.alloc (.cells #[.int .i64 f.kind, .int .u64 (f.num.toNat : Int), .string f.text, .float .f64 f.real.toNat] 52)) (some ⟨w.heap.size, 0, none⟩) [f] := by
  refine .inr ⟨w.heap.size, 0, rfl, fun j g hg => ?_⟩
  match j, hg with
  | 0, hg =>
    simp only [List.getElem?_cons_zero, Option.some.injEq] at hg
    subst hg
    refine ⟨?_, ?_, ?_, ?_⟩ <;> (rw [World.cell?_alloc_at _ _ _ _ rfl]; rfl)
  | j + 1, hg => simp at hg

/-- Encode of one field that lies in a new block. -/
theorem encode_one (f : Pk.Fld) (w : World) :
    Calls Try.prog 13 #[.slice (some ⟨w.heap.size, 0, none⟩) 1 1] (w.alloc (.cells #[.int .i64 f.kind, .int .u64 (f.num.toNat : Int), .string f.text, .float .f64 f.real.toNat] 52)) fun e w' =>
      (∃ a cap, e = .returned (.tuple #[.slice a (Pk.encR [f]).length cap, .int .i64 (Pk.encE [f] : Nat)])) ∧ Below w.heap.size w w' := by
  refine (encode_any _ 1 1 [f] _ rfl (one_at f w) (by omega)).mono ?_
  rintro e w' ⟨v, rfl, hown, hb⟩
  obtain ⟨a, cap, rfl, _, _, _⟩ := owns_bytes hown
  exact ⟨⟨a, cap, rfl⟩, ((Below.refl _ w).alloc (Nat.le_refl _) _).trans (hb.mono (by simp))⟩

theorem num_one (u : UInt64) : Pk.encE [⟨1, u, ⟨#[]⟩, 0⟩] = 0 ∧ (Pk.encR [⟨1, u, ⟨#[]⟩, 0⟩]).length = 3 + Pk.nb u.toNat := by
  have h8 := nb_le _ u.toNat_lt
  have hl : (Pk.allB [⟨1, u, ⟨#[]⟩, 0⟩]).length = 3 + Pk.nb u.toNat := by
    unfold Pk.allB Pk.fsB
    simp only [List.flatMap_cons, List.flatMap_nil, List.append_nil, List.length_cons, Pk.encB_1, numB_length]
    omega
  have e : Pk.encE [⟨1, u, ⟨#[]⟩, 0⟩] = 0 := by
    refine Pk.encE_zero.2 ⟨by simp [Pk.may]; rfl, by simp, by omega⟩
  refine ⟨e, ?_⟩
  unfold Pk.encR
  rw [if_pos e, hl]

theorem nb_mono {a b : Nat} (hb : b < 18446744073709551616) (h : a ≤ b) : Pk.nb a ≤ Pk.nb b := by
  by_cases h0 : a = 0
  · subst h0; rw [Pk.nb_zero]; omega
  · have h1 := Pk.nb_ge a (by omega) h0
    have h2 := Pk.lt_nb b hb
    have h3 : 256 ^ (Pk.nb a - 1) < 256 ^ Pk.nb b := by omega
    have := (Nat.pow_lt_pow_iff_right (by omega : 1 < 256)).1 h3
    omega

end Go.Proofs.Ytjcgkljncaphhaa
