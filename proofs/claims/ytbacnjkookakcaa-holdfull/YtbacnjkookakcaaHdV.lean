/- alive answers true. -/
import Derived.Test.YtbacnjkookakcaaHdU
set_option linter.unusedVariables false
namespace Go.Proofs.Ytbacnjkookakcaa
open Go.RowKit
namespace Hd
open Ps

set_option maxHeartbeats 16000000 in
set_option maxRecDepth 100000 in
theorem alive_any (w : World) : Calls Try.prog 9 #[] w fun e w' => e = .returned (.bool true) ∧ Below w.heap.size w w' := by
  obtain ⟨W1, hW1⟩ : ∃ W1, W1 = (w.alloc (.cells #[.int .u8 0, .int .i64 0, .int .i64 0, .int .u16 0, .int .u16 0, .int .u16 0, .int .u16 0, .int .u16 0, .int .u16 0, .int .u16 0, .int .u16 0, .int .u16 0, .int .u16 0, .int .u16 0, .int .u16 0, .int .u16 0, .int .u16 0, .int .u16 0, .int .u16 0, .string ⟨#[]⟩] 43)).setCells w.heap.size 0 (itA aI).toList := ⟨_, rfl⟩
  obtain ⟨W2, hW2⟩ : ∃ W2, W2 = (W1.alloc (.cells #[.int .u8 0, .int .i64 0, .int .i64 0, .int .u16 0, .int .u16 0, .int .u16 0, .int .u16 0, .int .u16 0, .int .u16 0, .int .u16 0, .int .u16 0, .int .u16 0, .int .u16 0, .int .u16 0, .int .u16 0, .int .u16 0, .int .u16 0, .int .u16 0, .int .u16 0, .string ⟨#[]⟩] 43)).setCells W1.heap.size 0 (itA bI).toList := ⟨_, rfl⟩
  have ZA : Aside (I20 (w.alloc (.cells #[.int .u8 0, .int .i64 0, .int .i64 0, .int .u16 0, .int .u16 0, .int .u16 0, .int .u16 0, .int .u16 0, .int .u16 0, .int .u16 0, .int .u16 0, .int .u16 0, .int .u16 0, .int .u16 0, .int .u16 0, .int .u16 0, .int .u16 0, .int .u16 0, .int .u16 0, .string ⟨#[]⟩] 43)) w.heap.size 43 ⟨0, 0, ⟨0, fun _ => 0, ⟨#[]⟩⟩⟩) := I20.zeroT w 43
  have ZB : Aside (I20 (W1.alloc (.cells #[.int .u8 0, .int .i64 0, .int .i64 0, .int .u16 0, .int .u16 0, .int .u16 0, .int .u16 0, .int .u16 0, .int .u16 0, .int .u16 0, .int .u16 0, .int .u16 0, .int .u16 0, .int .u16 0, .int .u16 0, .int .u16 0, .int .u16 0, .int .u16 0, .int .u16 0, .string ⟨#[]⟩] 43)) W1.heap.size 43 ⟨0, 0, ⟨0, fun _ => 0, ⟨#[]⟩⟩⟩) := I20.zeroT W1 43
  have S2 : Aside (I20 W2 w.heap.size 43 aI ∧ I20 W2 W1.heap.size 43 bI ∧ Below w.heap.size w W2) := by
    have b1 : Below w.heap.size w W1 := by rw [hW1]; exact below_cells _ _ ((Below.refl _ w).alloc (Nat.le_refl _) _) (Nat.le_refl _)
    have b2 : Below W1.heap.size W1 W2 := by rw [hW2]; exact below_cells _ _ ((Below.refl _ W1).alloc (Nat.le_refl _) _) (Nat.le_refl _)
    have i1 : I20 W1 w.heap.size 43 aI := by rw [hW1]; exact ZA.out.whole aI
    exact ⟨i1.later b2, by rw [hW2]; exact ZB.out.whole bI, step_below b1 b2⟩
  go_enter Try.func9, Try.ntmps9
  go_wp2_with (first
    | (with_reducible refine wpList_bld1 rfl 41 0 _ rfl _ _ (ba41 _) rfl ?_)
    | (with_reducible refine wpList_bld1 rfl 43 2 _ rfl _ _ (ba43 _) rfl ?_)
    | (with_reducible refine wpList_bld1 rfl 24 0 _ rfl _ _ (bb24 _) rfl ?_)
    | (with_reducible refine wpList_bld2 rfl 41 0 1 _ _ rfl _ _ _ (bb41 _) rfl rfl ?_)
    | (with_reducible refine wpList_bld2 rfl 43 1 2 _ _ rfl _ _ _ (bb43 _) rfl rfl ?_)
    | (with_reducible refine wpList_bld0 rfl 36 rfl _ (b36 _) ?_)
    | ((with_reducible refine wpList_it_store ZA.out rfl _ _ rfl rfl rfl ?_); rw [← hW1]; clear hW1 ZA)
    | ((with_reducible refine wpList_it_store ZB.out rfl _ _ rfl rfl rfl ?_); rw [← hW2]; clear hW2 ZB)
    | (with_reducible refine wpList_it43 S2.out.2.1 rfl _ rfl rfl ?_)
    | (go_at_call 11; (with_reducible refine (al1 W2).mono ?_); rintro e w3 ⟨a1, c1, a2, c2, rfl, h1, hb⟩; have Z3 : Aside (H17 (w3.alloc (.cells #[.int .u16 0, .int .u16 0, .int .u16 0, .int .u16 0, .int .u16 0, .int .u16 0, .int .u16 0, .int .u16 0, .int .u16 0, .int .u16 0, .int .u16 0, .int .u16 0, .int .u16 0, .int .u16 0, .int .u16 0, .int .u16 0, .slice none 0 0] 36)) w3.heap.size 36 (fun _ => 0) (.slice none 0 0)) := H17.zero w3; obtain ⟨W3, hW3⟩ : ∃ W3, W3 = (w3.alloc (.cells #[.int .u16 0, .int .u16 0, .int .u16 0, .int .u16 0, .int .u16 0, .int .u16 0, .int .u16 0, .int .u16 0, .int .u16 0, .int .u16 0, .int .u16 0, .int .u16 0, .int .u16 0, .int .u16 0, .int .u16 0, .int .u16 0, .slice none 0 0] 36)).setCells w3.heap.size 0 (holdA zF (.slice a1 1 c1)).toList := ⟨_, rfl⟩; have b3 : Below w3.heap.size w3 W3 := (by rw [hW3]; exact below_cells _ _ ((Below.refl _ w3).alloc (Nat.le_refl _) _) (Nat.le_refl _)); have S3 : Aside (I20 W3 w.heap.size 43 aI ∧ I20 W3 W1.heap.size 43 bI ∧ H17 W3 w3.heap.size 36 zF (.slice a1 1 c1) ∧ AtI W3 a1 [bI] ∧ Below w.heap.size w W3) := ⟨(S2.out.1.later hb).later b3, (S2.out.2.1.later hb).later b3, (by rw [hW3]; exact Z3.out.whole), h1.later b3, step_below (step_below S2.out.2.2 hb) b3⟩; clear h1 hb b3)
    | ((with_reducible refine wpList_hold_store Z3.out rfl _ _ rfl rfl rfl ?_); rw [← hW3]; clear hW3 Z3)
    | (with_reducible refine wpList_hold36 S3.out.2.2.1 rfl _ rfl rfl ?_)
    | (with_reducible refine wpList_it43 S3.out.1 rfl _ rfl rfl ?_)
    | (go_at_call 11; (with_reducible refine (al2 W3 a1 c1 S3.out.2.2.2.1).mono ?_); rintro e w4 ⟨a4, c4, a5, c5, rfl, h1, hb⟩; have Z4 : Aside (H17 (w4.alloc (.cells #[.int .u16 0, .int .u16 0, .int .u16 0, .int .u16 0, .int .u16 0, .int .u16 0, .int .u16 0, .int .u16 0, .int .u16 0, .int .u16 0, .int .u16 0, .int .u16 0, .int .u16 0, .int .u16 0, .int .u16 0, .int .u16 0, .slice none 0 0] 36)) w4.heap.size 36 (fun _ => 0) (.slice none 0 0)) := H17.zero w4; obtain ⟨W4, hW4⟩ : ∃ W4, W4 = (w4.alloc (.cells #[.int .u16 0, .int .u16 0, .int .u16 0, .int .u16 0, .int .u16 0, .int .u16 0, .int .u16 0, .int .u16 0, .int .u16 0, .int .u16 0, .int .u16 0, .int .u16 0, .int .u16 0, .int .u16 0, .int .u16 0, .int .u16 0, .slice none 0 0] 36)).setCells w4.heap.size 0 (holdA F2 (.slice a4 0 c4)).toList := ⟨_, rfl⟩; have b3 : Below w4.heap.size w4 W4 := (by rw [hW4]; exact below_cells _ _ ((Below.refl _ w4).alloc (Nat.le_refl _) _) (Nat.le_refl _)); have S4 : Aside (I20 W4 w.heap.size 43 aI ∧ I20 W4 W1.heap.size 43 bI ∧ H17 W4 w3.heap.size 36 zF (.slice a1 1 c1) ∧ AtI W4 a1 [bI] ∧ Below w.heap.size w W4 ∧ H17 W4 w4.heap.size 36 F2 (.slice a4 0 c4) ∧ AtI W4 a5 [aI, bI]) := ⟨(S3.out.1.later hb).later b3, (S3.out.2.1.later hb).later b3, (S3.out.2.2.1.later hb).later b3, (S3.out.2.2.2.1.later hb).later b3, step_below (step_below S3.out.2.2.2.2 hb) b3, (by rw [hW4]; exact Z4.out.whole), h1.later b3⟩; clear h1 hb b3)
    | ((with_reducible refine wpList_hold_store Z4.out rfl _ _ rfl rfl rfl ?_); rw [← hW4]; clear hW4 Z4)
    | (with_reducible refine wpList_hold36 S4.out.2.2.2.2.2.1 rfl _ rfl rfl ?_)
    | (with_reducible refine wpList_it43 S4.out.1 rfl _ rfl rfl ?_)
    | (go_at_call 11; (with_reducible refine (al3 W4 a4 c4).mono ?_); rintro e w5 ⟨a6, c6, a7, c7, rfl, hb⟩; have Z5 : Aside (H17 (w5.alloc (.cells #[.int .u16 0, .int .u16 0, .int .u16 0, .int .u16 0, .int .u16 0, .int .u16 0, .int .u16 0, .int .u16 0, .int .u16 0, .int .u16 0, .int .u16 0, .int .u16 0, .int .u16 0, .int .u16 0, .int .u16 0, .int .u16 0, .slice none 0 0] 36)) w5.heap.size 36 (fun _ => 0) (.slice none 0 0)) := H17.zero w5; obtain ⟨W5, hW5⟩ : ∃ W5, W5 = (w5.alloc (.cells #[.int .u16 0, .int .u16 0, .int .u16 0, .int .u16 0, .int .u16 0, .int .u16 0, .int .u16 0, .int .u16 0, .int .u16 0, .int .u16 0, .int .u16 0, .int .u16 0, .int .u16 0, .int .u16 0, .int .u16 0, .int .u16 0, .slice none 0 0] 36)).setCells w5.heap.size 0 (holdA (putF F2 [] aI) (.slice a6 0 c6)).toList := ⟨_, rfl⟩; have b3 : Below w5.heap.size w5 W5 := (by rw [hW5]; exact below_cells _ _ ((Below.refl _ w5).alloc (Nat.le_refl _) _) (Nat.le_refl _)); have S5 : Aside (I20 W5 w.heap.size 43 aI ∧ I20 W5 W1.heap.size 43 bI ∧ H17 W5 w3.heap.size 36 zF (.slice a1 1 c1) ∧ AtI W5 a1 [bI] ∧ Below w.heap.size w W5 ∧ H17 W5 w4.heap.size 36 F2 (.slice a4 0 c4) ∧ AtI W5 a5 [aI, bI]) := ⟨(S4.out.1.later hb).later b3, (S4.out.2.1.later hb).later b3, (S4.out.2.2.1.later hb).later b3, (S4.out.2.2.2.1.later hb).later b3, step_below (step_below S4.out.2.2.2.2.1 hb) b3, (S4.out.2.2.2.2.2.1.later hb).later b3, (S4.out.2.2.2.2.2.2.later hb).later b3⟩; clear hb b3)
    | ((with_reducible refine wpList_hold_store Z5.out rfl _ _ rfl rfl rfl ?_); rw [← hW5]; clear hW5 Z5))
  have p16 : ∀ p : Bw W5, p.w'.cell? ⟨w3.heap.size, 16, none⟩ = some (.slice a1 1 c1) := fun p => (S5.out.2.2.1.later p.h).wait
  have p70 : ∀ p : Bw W5, p.w'.cell? ⟨w4.heap.size, 0, none⟩ = some (.int .u16 2) := fun p => by
    have h := (S5.out.2.2.2.2.2.1.later p.h).at_ (i := 0) (by omega)
    rw [pu3.2.2.2.1] at h
    exact h
  obtain ⟨b5, off5, xx, rfl, hx5, hcs⟩ := S5.out.2.2.2.2.2.2.get (j := 1) (by decide)
  have exx : xx = bI := (Option.some.inj hx5).symm
  subst exx
  have HC : Aside (∀ i u, (itA bI)[i]? = some u → W5.cell? ⟨b5, off5 + 20 + i, none⟩ = some u) := fun i u hu => by have := hcs i u hu; rwa [Nat.one_mul] at this
  clear hcs hx5
  have hne := Bw.some W5
  refine wp_region_wq (by kernel_rfl) (by kernel_rfl) ?_
  repeat (first
    | (refine wq_row43 HC.out (.tmp 62) rfl rfl ?_ ?_; (focus (go_simp; done)); dsimp only [Act.put, Array.setIfInBounds])
    | (refine wq_it43 S5.out.2.1 (.tmp 2) rfl rfl ?_ ?_; (focus (go_simp; done)); dsimp only [Act.put, Array.setIfInBounds])
    | (refine wq_it43 S5.out.1 (.tmp 1) rfl rfl ?_ ?_; (focus (go_simp; done)); dsimp only [Act.put, Array.setIfInBounds])
    | (refine wq_hold36 S5.out.2.2.1 (.tmp 3) rfl rfl ?_ ?_; (focus (go_simp; done)); dsimp only [Act.put, Array.setIfInBounds])
    | (refine wq_buildN 24 _ rfl b24 ?_ ?_; (focus (go_simp; done)); dsimp only [Act.put, Array.setIfInBounds])
    | (refine wq_eqbb (.tmp 63) (.tmp 64) 43 rfl rfl rfl ?_ ?_; (focus (go_simp; done)); dsimp only [Act.put, Array.setIfInBounds])
    | (refine wq_step (fun K hK => ?_); go_simp; first
      | (refine hK _ ?_; clear hK K)
      | (apply Exists.intro; refine ⟨fun pp => ?_, hK _ ?_⟩; (first | (go_at_call 15; with_reducible exact Calls.bw_of (al15 _)) | (go_at_call 17; with_reducible exact Calls.bw_of (al17 _ a1 c1 (S5.out.2.2.2.1.later pp.h)))); clear hK K)))
  refine wq_nil ?_
  intro _ hw'
  obtain ⟨pq, hw''⟩ := hw'
  subst hw''
  go_wp2
  go_ret
  exact ⟨rfl, step_below S5.out.2.2.2.2.1 pq.h⟩
end Hd
end Go.Proofs.Ytbacnjkookakcaa
