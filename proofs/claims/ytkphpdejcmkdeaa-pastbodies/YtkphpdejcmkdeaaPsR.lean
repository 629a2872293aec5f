/- The law on the order of vectors: what it walks. -/
import Derived.Test.YtkphpdejcmkdeaaPsQ
set_option linter.unusedVariables false
namespace Go.Proofs.Ytkphpdejcmkdeaa
open Go.RowKit Go.Shelf
namespace Ps

set_option maxHeartbeats 8000000 in
set_option maxRecDepth 100000 in
theorem order_walk (f g h : Nat → Nat) (w : World) : Calls Try.prog 8 #[.agg (vecA f), .agg (vecA g), .agg (vecA h)] w fun e w' => e = .returned (.bool true) ∧ Below w.heap.size w w' := by
  have CA : Aside (∀ W, Calls Try.prog 9 #[] W fun e w' => e = .returned (.bool true) ∧ Below W.heap.size W w') := fun W => alive_any W
  have D1 : Aside (∀ W, Calls Try.prog 10 #[.agg (vecA f), .agg (vecA g)] W fun e w' => e = .returned (.bool (belowB f g)) ∧ Below W.heap.size W w') := fun W => below_any f g W
  have D2 : Aside (∀ W, Calls Try.prog 10 #[.agg (vecA g), .agg (vecA h)] W fun e w' => e = .returned (.bool (belowB g h)) ∧ Below W.heap.size W w') := fun W => below_any g h W
  have D3 : Aside (∀ W, Calls Try.prog 10 #[.agg (vecA f), .agg (vecA h)] W fun e w' => e = .returned (.bool (belowB f h)) ∧ Below W.heap.size W w') := fun W => below_any f h W
  have D4 : Aside (∀ W, Calls Try.prog 10 #[.agg (vecA g), .agg (vecA f)] W fun e w' => e = .returned (.bool (belowB g f)) ∧ Below W.heap.size W w') := fun W => below_any g f W
  have F1 : Aside (∀ W, Calls Try.prog 10 #[.agg (vecA f), .agg (vecA f)] W fun e w' => e = .returned (.bool true) ∧ Below W.heap.size W w') := fun W => by
    have := below_any f f W
    rw [belowB_iff.2 (fun _ _ => Nat.le_refl _)] at this; exact this
  have F2 : Aside (∀ W, Calls Try.prog 10 #[.agg #[.int .u16 0, .int .u16 0, .int .u16 0, .int .u16 0, .int .u16 0, .int .u16 0, .int .u16 0, .int .u16 0, .int .u16 0, .int .u16 0, .int .u16 0, .int .u16 0, .int .u16 0, .int .u16 0, .int .u16 0, .int .u16 0], .agg (vecA f)] W fun e w' => e = .returned (.bool true) ∧ Below W.heap.size W w') := fun W => by
    have := below_any (fun _ => 0) f W
    rw [belowB_iff.2 (fun _ _ => Nat.zero_le _)] at this; exact this
  have q1 := fun W => eql_vec f g W
  have g1 := fun x y xs ys W => guard_eql24 x y xs ys W
  have T1 : Aside (belowB f g = true → belowB g h = true → belowB f h = true) := fun a b => belowB_iff.2 fun i hi => Nat.le_trans (belowB_iff.1 a i hi) (belowB_iff.1 b i hi)
  have T2 : Aside (belowB f g = true → belowB g f = eqV f g) := fun a => by
    rw [Bool.eq_iff_iff, belowB_iff, eqV_iff]
    exact ⟨fun b i hi => by have := b i hi; have := belowB_iff.1 a i hi; omega, fun b i hi => by have := b i hi; omega⟩
  generalize eqV f g = re at q1 T2
  generalize belowB f g = r1 at D1 T1 T2
  generalize belowB g h = r2 at D2 T1
  generalize belowB f h = r3 at D3 T1
  generalize belowB g f = r4 at D4 T2
  obtain ⟨V, hV⟩ : ∃ V, V = ((w.alloc (.cells (vecA f) 24)).alloc (.cells (vecA g) 24)).alloc (.cells (vecA h) 24) := ⟨_, rfl⟩
  have X : Aside (V16 V w.heap.size f ∧ V16 V (w.heap.size + 1) g ∧ V16 V (w.heap.size + 1 + 1) h ∧ Below w.heap.size w V) := by
    rw [hV]; exact three_boxes f g h w
  go_enter Try.func8, Try.ntmps8
  go_wp2_with fail
  rw [← hV]
  clear hV
  refine (CA.out V).mono ?_
  rintro e w1 ⟨rfl, hb1⟩
  have X0 : Aside (V16 w1 w.heap.size f) := X.out.1.later hb1
  have X1 : Aside (V16 w1 (w.heap.size + 1) g) := X.out.2.1.later hb1
  have X2 : Aside (V16 w1 (w.heap.size + 1 + 1) h) := X.out.2.2.1.later hb1
  have B1 : Aside (Below w.heap.size w w1) := step_below X.out.2.2.2 hb1
  clear hb1 X CA
  go_wp2_with fail
  cases r1 with
  | false =>
    clear T1 T2
    have hne := Bw.some w1
    refine wp_region_wq (by kernel_rfl) (by kernel_rfl) ?_
    first | (refine wq_vec X0.out (.tmp 3) rfl rfl ?_ ?_; (focus (go_simp; done)); dsimp only [Act.put, Array.setIfInBounds]) | (refine wq_step (fun K hK => ?_); go_simp; refine hK _ ?_; clear hK K)
    first | (refine wq_vec X1.out (.tmp 4) rfl rfl ?_ ?_; (focus (go_simp; done)); dsimp only [Act.put, Array.setIfInBounds]) | (refine wq_step (fun K hK => ?_); go_simp; refine hK _ ?_; clear hK K)
    (refine wq_step (fun K hK => ?_); go_simp; first | (refine hK _ ?_; clear hK K) | (apply Exists.intro; refine ⟨fun _ => ?_, hK _ ?_⟩; (go_at_call 10; exact Calls.bw_of (D1.out _)); clear hK K))
    (refine wq_step (fun K hK => ?_); go_simp; refine hK _ ?_; clear hK K)
    first | (refine wq_vec X1.out (.tmp 4) rfl rfl ?_ ?_; (focus (go_simp; done)); dsimp only [Act.put, Array.setIfInBounds]) | (refine wq_step (fun K hK => ?_); go_simp; refine hK _ ?_; clear hK K)
    first | (refine wq_vec X2.out (.tmp 5) rfl rfl ?_ ?_; (focus (go_simp; done)); dsimp only [Act.put, Array.setIfInBounds]) | (refine wq_step (fun K hK => ?_); go_simp; refine hK _ ?_; clear hK K)
    (refine wq_step (fun K hK => ?_); go_simp; first | (refine hK _ ?_; clear hK K) | (apply Exists.intro; refine ⟨fun _ => ?_, hK _ ?_⟩; (go_at_call 10; exact Calls.bw_of (D2.out _)); clear hK K))
    (refine wq_step (fun K hK => ?_); go_simp; refine hK _ ?_; clear hK K)
    (refine wq_step (fun K hK => ?_); go_simp; refine hK _ ?_; clear hK K)
    first | (refine wq_vec X0.out (.tmp 3) rfl rfl ?_ ?_; (focus (go_simp; done)); dsimp only [Act.put, Array.setIfInBounds]) | (refine wq_step (fun K hK => ?_); go_simp; refine hK _ ?_; clear hK K)
    first | (refine wq_vec X2.out (.tmp 5) rfl rfl ?_ ?_; (focus (go_simp; done)); dsimp only [Act.put, Array.setIfInBounds]) | (refine wq_step (fun K hK => ?_); go_simp; refine hK _ ?_; clear hK K)
    (refine wq_step (fun K hK => ?_); go_simp; first | (refine hK _ ?_; clear hK K) | (apply Exists.intro; refine ⟨fun _ => ?_, hK _ ?_⟩; (go_at_call 10; exact Calls.bw_of (D3.out _)); clear hK K))
    (refine wq_step (fun K hK => ?_); go_simp; refine hK _ ?_; clear hK K)
    (refine wq_step (fun K hK => ?_); go_simp; refine hK _ ?_; clear hK K)
    (refine wq_step (fun K hK => ?_); go_simp; refine hK _ ?_; clear hK K)
    first | (refine wq_vec X0.out (.tmp 3) rfl rfl ?_ ?_; (focus (go_simp; done)); dsimp only [Act.put, Array.setIfInBounds]) | (refine wq_step (fun K hK => ?_); go_simp; refine hK _ ?_; clear hK K)
    first | (refine wq_vec X1.out (.tmp 4) rfl rfl ?_ ?_; (focus (go_simp; done)); dsimp only [Act.put, Array.setIfInBounds]) | (refine wq_step (fun K hK => ?_); go_simp; refine hK _ ?_; clear hK K)
    (refine wq_step (fun K hK => ?_); go_simp; first | (refine hK _ ?_; clear hK K) | (apply Exists.intro; refine ⟨fun _ => ?_, hK _ ?_⟩; (go_at_call 10; exact Calls.bw_of (D1.out _)); clear hK K))
    (refine wq_step (fun K hK => ?_); go_simp; refine hK _ ?_; clear hK K)
    first | (refine wq_vec X1.out (.tmp 4) rfl rfl ?_ ?_; (focus (go_simp; done)); dsimp only [Act.put, Array.setIfInBounds]) | (refine wq_step (fun K hK => ?_); go_simp; refine hK _ ?_; clear hK K)
    first | (refine wq_vec X0.out (.tmp 3) rfl rfl ?_ ?_; (focus (go_simp; done)); dsimp only [Act.put, Array.setIfInBounds]) | (refine wq_step (fun K hK => ?_); go_simp; refine hK _ ?_; clear hK K)
    (refine wq_step (fun K hK => ?_); go_simp; first | (refine hK _ ?_; clear hK K) | (apply Exists.intro; refine ⟨fun _ => ?_, hK _ ?_⟩; (go_at_call 10; exact Calls.bw_of (D4.out _)); clear hK K))
    first | (refine wq_vec X0.out (.tmp 3) rfl rfl ?_ ?_; (focus (go_simp; done)); dsimp only [Act.put, Array.setIfInBounds]) | (refine wq_step (fun K hK => ?_); go_simp; refine hK _ ?_; clear hK K)
    first | (refine wq_vec X1.out (.tmp 4) rfl rfl ?_ ?_; (focus (go_simp; done)); dsimp only [Act.put, Array.setIfInBounds]) | (refine wq_step (fun K hK => ?_); go_simp; refine hK _ ?_; clear hK K)
    (refine wq_step (fun K hK => ?_); go_simp; refine hK _ ?_; clear hK K)
    (refine wq_step (fun K hK => ?_); go_simp; refine hK _ ?_; clear hK K)
    (refine wq_step (fun K hK => ?_); go_simp; refine hK _ ?_; clear hK K)
    (refine wq_step (fun K hK => ?_); go_simp; refine hK _ ?_; clear hK K)
    refine wq_nil ?_
    intro _ hw'
    obtain ⟨pq, hw''⟩ := hw'
    subst hw''
    have U0 : Aside (V16 pq.w' w.heap.size f) := X0.out.later pq.h
    have B4 : Aside (Below w.heap.size w pq.w') := step_below B1.out pq.h
    clear X0 X1 X2 B1 hne
    generalize pq.w' = w4 at U0 B4 ⊢
    go_wp2_with (first
      | (with_reducible refine wpList_vec_g U0.out _ rfl rfl ?_ ?_; focus (go_simp; done))
      | (go_at_call 10; refine (F1.out _).mono ?_; rintro e w5 ⟨rfl, hb5⟩; have U5 : Aside (V16 w5 w.heap.size f) := U0.out.later hb5; have B5 : Aside (Below w.heap.size w w5) := step_below B4.out hb5; clear hb5 U0 B4 F1)
      | (with_reducible refine wpList_vec_g U5.out _ rfl rfl ?_ ?_; focus (go_simp; done))
      | (go_at_call 10; refine (F2.out _).mono ?_; rintro e w6 ⟨rfl, hb6⟩; have B6 : Aside (Below w.heap.size w w6) := step_below B5.out hb6; clear hb6 U5 B5 F2))
    go_ret
    exact ⟨rfl, B6.out⟩
  | true =>
    obtain rfl := T2.out rfl
    cases r2 with
    | false =>
      clear T1 T2
      have hne := Bw.some w1
      refine wp_region_wq (by kernel_rfl) (by kernel_rfl) ?_
      first | (refine wq_vec X0.out (.tmp 3) rfl rfl ?_ ?_; (focus (go_simp; done)); dsimp only [Act.put, Array.setIfInBounds]) | (refine wq_step (fun K hK => ?_); go_simp; refine hK _ ?_; clear hK K)
      first | (refine wq_vec X1.out (.tmp 4) rfl rfl ?_ ?_; (focus (go_simp; done)); dsimp only [Act.put, Array.setIfInBounds]) | (refine wq_step (fun K hK => ?_); go_simp; refine hK _ ?_; clear hK K)
      (refine wq_step (fun K hK => ?_); go_simp; first | (refine hK _ ?_; clear hK K) | (apply Exists.intro; refine ⟨fun _ => ?_, hK _ ?_⟩; (go_at_call 10; exact Calls.bw_of (D1.out _)); clear hK K))
      (refine wq_step (fun K hK => ?_); go_simp; refine hK _ ?_; clear hK K)
      first | (refine wq_vec X1.out (.tmp 4) rfl rfl ?_ ?_; (focus (go_simp; done)); dsimp only [Act.put, Array.setIfInBounds]) | (refine wq_step (fun K hK => ?_); go_simp; refine hK _ ?_; clear hK K)
      first | (refine wq_vec X2.out (.tmp 5) rfl rfl ?_ ?_; (focus (go_simp; done)); dsimp only [Act.put, Array.setIfInBounds]) | (refine wq_step (fun K hK => ?_); go_simp; refine hK _ ?_; clear hK K)
      (refine wq_step (fun K hK => ?_); go_simp; first | (refine hK _ ?_; clear hK K) | (apply Exists.intro; refine ⟨fun _ => ?_, hK _ ?_⟩; (go_at_call 10; exact Calls.bw_of (D2.out _)); clear hK K))
      (refine wq_step (fun K hK => ?_); go_simp; refine hK _ ?_; clear hK K)
      (refine wq_step (fun K hK => ?_); go_simp; refine hK _ ?_; clear hK K)
      first | (refine wq_vec X0.out (.tmp 3) rfl rfl ?_ ?_; (focus (go_simp; done)); dsimp only [Act.put, Array.setIfInBounds]) | (refine wq_step (fun K hK => ?_); go_simp; refine hK _ ?_; clear hK K)
      first | (refine wq_vec X2.out (.tmp 5) rfl rfl ?_ ?_; (focus (go_simp; done)); dsimp only [Act.put, Array.setIfInBounds]) | (refine wq_step (fun K hK => ?_); go_simp; refine hK _ ?_; clear hK K)
      (refine wq_step (fun K hK => ?_); go_simp; first | (refine hK _ ?_; clear hK K) | (apply Exists.intro; refine ⟨fun _ => ?_, hK _ ?_⟩; (go_at_call 10; exact Calls.bw_of (D3.out _)); clear hK K))
      (refine wq_step (fun K hK => ?_); go_simp; refine hK _ ?_; clear hK K)
      (refine wq_step (fun K hK => ?_); go_simp; refine hK _ ?_; clear hK K)
      (refine wq_step (fun K hK => ?_); go_simp; refine hK _ ?_; clear hK K)
      first | (refine wq_vec X0.out (.tmp 3) rfl rfl ?_ ?_; (focus (go_simp; done)); dsimp only [Act.put, Array.setIfInBounds]) | (refine wq_step (fun K hK => ?_); go_simp; refine hK _ ?_; clear hK K)
      first | (refine wq_vec X1.out (.tmp 4) rfl rfl ?_ ?_; (focus (go_simp; done)); dsimp only [Act.put, Array.setIfInBounds]) | (refine wq_step (fun K hK => ?_); go_simp; refine hK _ ?_; clear hK K)
      (refine wq_step (fun K hK => ?_); go_simp; first | (refine hK _ ?_; clear hK K) | (apply Exists.intro; refine ⟨fun _ => ?_, hK _ ?_⟩; (go_at_call 10; exact Calls.bw_of (D1.out _)); clear hK K))
      (refine wq_step (fun K hK => ?_); go_simp; refine hK _ ?_; clear hK K)
      first | (refine wq_vec X1.out (.tmp 4) rfl rfl ?_ ?_; (focus (go_simp; done)); dsimp only [Act.put, Array.setIfInBounds]) | (refine wq_step (fun K hK => ?_); go_simp; refine hK _ ?_; clear hK K)
      first | (refine wq_vec X0.out (.tmp 3) rfl rfl ?_ ?_; (focus (go_simp; done)); dsimp only [Act.put, Array.setIfInBounds]) | (refine wq_step (fun K hK => ?_); go_simp; refine hK _ ?_; clear hK K)
      (refine wq_step (fun K hK => ?_); go_simp; first | (refine hK _ ?_; clear hK K) | (apply Exists.intro; refine ⟨fun _ => ?_, hK _ ?_⟩; (go_at_call 10; exact Calls.bw_of (D4.out _)); clear hK K))
      first | (refine wq_vec X0.out (.tmp 3) rfl rfl ?_ ?_; (focus (go_simp; done)); dsimp only [Act.put, Array.setIfInBounds]) | (refine wq_step (fun K hK => ?_); go_simp; refine hK _ ?_; clear hK K)
      first | (refine wq_vec X1.out (.tmp 4) rfl rfl ?_ ?_; (focus (go_simp; done)); dsimp only [Act.put, Array.setIfInBounds]) | (refine wq_step (fun K hK => ?_); go_simp; refine hK _ ?_; clear hK K)
      (refine wq_step (fun K hK => ?_); go_simp; refine hK _ ?_; clear hK K)
      (refine wq_step (fun K hK => ?_); go_simp; refine hK _ ?_; clear hK K)
      (refine wq_step (fun K hK => ?_); go_simp; refine hK _ ?_; clear hK K)
      (refine wq_step (fun K hK => ?_); go_simp; refine hK _ ?_; clear hK K)
      refine wq_nil ?_
      intro _ hw'
      obtain ⟨pq, hw''⟩ := hw'
      subst hw''
      have U0 : Aside (V16 pq.w' w.heap.size f) := X0.out.later pq.h
      have B4 : Aside (Below w.heap.size w pq.w') := step_below B1.out pq.h
      clear X0 X1 X2 B1 hne
      generalize pq.w' = w4 at U0 B4 ⊢
      go_wp2_with (first
        | (with_reducible refine wpList_vec_g U0.out _ rfl rfl ?_ ?_; focus (go_simp; done))
        | (go_at_call 10; refine (F1.out _).mono ?_; rintro e w5 ⟨rfl, hb5⟩; have U5 : Aside (V16 w5 w.heap.size f) := U0.out.later hb5; have B5 : Aside (Below w.heap.size w w5) := step_below B4.out hb5; clear hb5 U0 B4 F1)
        | (with_reducible refine wpList_vec_g U5.out _ rfl rfl ?_ ?_; focus (go_simp; done))
        | (go_at_call 10; refine (F2.out _).mono ?_; rintro e w6 ⟨rfl, hb6⟩; have B6 : Aside (Below w.heap.size w w6) := step_below B5.out hb6; clear hb6 U5 B5 F2))
      go_ret
      exact ⟨rfl, B6.out⟩
    | true =>
      obtain rfl := T1.out rfl rfl
      clear T1 T2
      have hne := Bw.some w1
      refine wp_region_wq (by kernel_rfl) (by kernel_rfl) ?_
      first | (refine wq_vec X0.out (.tmp 3) rfl rfl ?_ ?_; (focus (go_simp; done)); dsimp only [Act.put, Array.setIfInBounds]) | (refine wq_step (fun K hK => ?_); go_simp; refine hK _ ?_; clear hK K)
      first | (refine wq_vec X1.out (.tmp 4) rfl rfl ?_ ?_; (focus (go_simp; done)); dsimp only [Act.put, Array.setIfInBounds]) | (refine wq_step (fun K hK => ?_); go_simp; refine hK _ ?_; clear hK K)
      (refine wq_step (fun K hK => ?_); go_simp; first | (refine hK _ ?_; clear hK K) | (apply Exists.intro; refine ⟨fun _ => ?_, hK _ ?_⟩; (go_at_call 10; exact Calls.bw_of (D1.out _)); clear hK K))
      (refine wq_step (fun K hK => ?_); go_simp; refine hK _ ?_; clear hK K)
      first | (refine wq_vec X1.out (.tmp 4) rfl rfl ?_ ?_; (focus (go_simp; done)); dsimp only [Act.put, Array.setIfInBounds]) | (refine wq_step (fun K hK => ?_); go_simp; refine hK _ ?_; clear hK K)
      first | (refine wq_vec X2.out (.tmp 5) rfl rfl ?_ ?_; (focus (go_simp; done)); dsimp only [Act.put, Array.setIfInBounds]) | (refine wq_step (fun K hK => ?_); go_simp; refine hK _ ?_; clear hK K)
      (refine wq_step (fun K hK => ?_); go_simp; first | (refine hK _ ?_; clear hK K) | (apply Exists.intro; refine ⟨fun _ => ?_, hK _ ?_⟩; (go_at_call 10; exact Calls.bw_of (D2.out _)); clear hK K))
      (refine wq_step (fun K hK => ?_); go_simp; refine hK _ ?_; clear hK K)
      (refine wq_step (fun K hK => ?_); go_simp; refine hK _ ?_; clear hK K)
      first | (refine wq_vec X0.out (.tmp 3) rfl rfl ?_ ?_; (focus (go_simp; done)); dsimp only [Act.put, Array.setIfInBounds]) | (refine wq_step (fun K hK => ?_); go_simp; refine hK _ ?_; clear hK K)
      first | (refine wq_vec X2.out (.tmp 5) rfl rfl ?_ ?_; (focus (go_simp; done)); dsimp only [Act.put, Array.setIfInBounds]) | (refine wq_step (fun K hK => ?_); go_simp; refine hK _ ?_; clear hK K)
      (refine wq_step (fun K hK => ?_); go_simp; first | (refine hK _ ?_; clear hK K) | (apply Exists.intro; refine ⟨fun _ => ?_, hK _ ?_⟩; (go_at_call 10; exact Calls.bw_of (D3.out _)); clear hK K))
      (refine wq_step (fun K hK => ?_); go_simp; refine hK _ ?_; clear hK K)
      (refine wq_step (fun K hK => ?_); go_simp; refine hK _ ?_; clear hK K)
      (refine wq_step (fun K hK => ?_); go_simp; refine hK _ ?_; clear hK K)
      first | (refine wq_vec X0.out (.tmp 3) rfl rfl ?_ ?_; (focus (go_simp; done)); dsimp only [Act.put, Array.setIfInBounds]) | (refine wq_step (fun K hK => ?_); go_simp; refine hK _ ?_; clear hK K)
      first | (refine wq_vec X1.out (.tmp 4) rfl rfl ?_ ?_; (focus (go_simp; done)); dsimp only [Act.put, Array.setIfInBounds]) | (refine wq_step (fun K hK => ?_); go_simp; refine hK _ ?_; clear hK K)
      (refine wq_step (fun K hK => ?_); go_simp; first | (refine hK _ ?_; clear hK K) | (apply Exists.intro; refine ⟨fun _ => ?_, hK _ ?_⟩; (go_at_call 10; exact Calls.bw_of (D1.out _)); clear hK K))
      (refine wq_step (fun K hK => ?_); go_simp; refine hK _ ?_; clear hK K)
      first | (refine wq_vec X1.out (.tmp 4) rfl rfl ?_ ?_; (focus (go_simp; done)); dsimp only [Act.put, Array.setIfInBounds]) | (refine wq_step (fun K hK => ?_); go_simp; refine hK _ ?_; clear hK K)
      first | (refine wq_vec X0.out (.tmp 3) rfl rfl ?_ ?_; (focus (go_simp; done)); dsimp only [Act.put, Array.setIfInBounds]) | (refine wq_step (fun K hK => ?_); go_simp; refine hK _ ?_; clear hK K)
      (refine wq_step (fun K hK => ?_); go_simp; first | (refine hK _ ?_; clear hK K) | (apply Exists.intro; refine ⟨fun _ => ?_, hK _ ?_⟩; (go_at_call 10; exact Calls.bw_of (D4.out _)); clear hK K))
      first | (refine wq_vec X0.out (.tmp 3) rfl rfl ?_ ?_; (focus (go_simp; done)); dsimp only [Act.put, Array.setIfInBounds]) | (refine wq_step (fun K hK => ?_); go_simp; refine hK _ ?_; clear hK K)
      first | (refine wq_vec X1.out (.tmp 4) rfl rfl ?_ ?_; (focus (go_simp; done)); dsimp only [Act.put, Array.setIfInBounds]) | (refine wq_step (fun K hK => ?_); go_simp; refine hK _ ?_; clear hK K)
      (refine wq_step (fun K hK => ?_); go_simp; refine hK _ ?_; clear hK K)
      (refine wq_step (fun K hK => ?_); go_simp; refine hK _ ?_; clear hK K)
      (refine wq_step (fun K hK => ?_); go_simp; refine hK _ ?_; clear hK K)
      (refine wq_step (fun K hK => ?_); go_simp; refine hK _ ?_; clear hK K)
      refine wq_nil ?_
      intro _ hw'
      obtain ⟨pq, hw''⟩ := hw'
      subst hw''
      have U0 : Aside (V16 pq.w' w.heap.size f) := X0.out.later pq.h
      have B4 : Aside (Below w.heap.size w pq.w') := step_below B1.out pq.h
      clear X0 X1 X2 B1 hne
      generalize pq.w' = w4 at U0 B4 ⊢
      go_wp2_with (first
        | (with_reducible refine wpList_vec_g U0.out _ rfl rfl ?_ ?_; focus (go_simp; done))
        | (go_at_call 10; refine (F1.out _).mono ?_; rintro e w5 ⟨rfl, hb5⟩; have U5 : Aside (V16 w5 w.heap.size f) := U0.out.later hb5; have B5 : Aside (Below w.heap.size w w5) := step_below B4.out hb5; clear hb5 U0 B4 F1)
        | (with_reducible refine wpList_vec_g U5.out _ rfl rfl ?_ ?_; focus (go_simp; done))
        | (go_at_call 10; refine (F2.out _).mono ?_; rintro e w6 ⟨rfl, hb6⟩; have B6 : Aside (Below w.heap.size w w6) := step_below B5.out hb6; clear hb6 U5 B5 F2))
      go_ret
      exact ⟨rfl, B6.out⟩
end Ps
end Go.Proofs.Ytkphpdejcmkdeaa
