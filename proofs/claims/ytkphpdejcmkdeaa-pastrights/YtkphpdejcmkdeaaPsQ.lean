/- The laws on vectors: what they walk. -/
import Derived.Test.YtkphpdejcmkdeaaPsP
set_option linter.unusedVariables false
namespace Go.Proofs.Ytkphpdejcmkdeaa
open Go.RowKit Go.Shelf
namespace Ps

set_option maxHeartbeats 8000000 in
set_option maxRecDepth 100000 in
theorem vecs_walk (f g : Nat → Nat) (w : World) : Calls Try.prog 3 #[.agg (vecA f), .agg (vecA g)] w fun e w' => e = .returned (.bool true) ∧ Below w.heap.size w w' := by
  have CA : Aside (∀ W, Calls Try.prog 9 #[] W fun e w' => e = .returned (.bool true) ∧ Below W.heap.size W w') := fun W => alive_any W
  have C10 : Aside (∀ W, Calls Try.prog 10 #[.agg (vecA f), .agg (vecA g)] W fun e w' => e = .returned (.bool (belowB f g)) ∧ Below W.heap.size W w') := fun W => below_any f g W
  have C11 : Aside (∀ W, Calls Try.prog 11 #[.agg (vecA f), .agg (vecA g)] W fun e w' => e = .returned (.bool (belowB f g)) ∧ Below W.heap.size W w') := fun W => rbelow_any f g W
  have C12 : Aside (∀ W, Calls Try.prog 12 #[.agg (vecA f), .agg (vecA g)] W fun e w' => e = .returned (.agg (vecA (joinV f g))) ∧ Below W.heap.size W w') := fun W => join_any f g W
  have C13 : Aside (∀ W, Calls Try.prog 13 #[.agg (vecA f), .agg (vecA g)] W fun e w' => e = .returned (.agg (vecA (joinV f g))) ∧ Below W.heap.size W w') := fun W => rjoin_any f g W
  have q1 : ∀ W, (binOp .eql 24 (.agg (vecA (joinV f g))) (.agg (vecA (joinV f g)))).run Try.prog W = .ok (.bool true) W := fun W => by
    have := eql_vec (joinV f g) (joinV f g) W
    rw [eqV_iff.2 (fun _ _ => rfl)] at this; exact this
  have g1 := fun x y xs ys W => guard_eql24 x y xs ys W
  generalize joinV f g = J at C12 C13 q1
  generalize belowB f g = r at C10 C11
  obtain ⟨V, hV⟩ : ∃ V, V = ((w.alloc (.cells (vecA f) 24)).alloc (.cells (vecA g) 24)) := ⟨_, rfl⟩
  have X : Aside (V16 V w.heap.size f ∧ V16 V (w.heap.size + 1) g ∧ Below w.heap.size w V) := by
    rw [hV]
    refine ⟨(V16.new w f).alloc _, ?_, ((Below.refl _ w).alloc (Nat.le_refl _) _).alloc (by simp) _⟩
    have := V16.new (w.alloc (.cells (vecA f) 24)) g
    simpa only [World.size_alloc] using this
  go_enter Try.func3, Try.ntmps3
  go_wp2_with fail
  rw [← hV]
  clear hV
  refine (CA.out V).mono ?_
  rintro e w1 ⟨rfl, hb1⟩
  have X0 : Aside (V16 w1 w.heap.size f) := X.out.1.later hb1
  have X1 : Aside (V16 w1 (w.heap.size + 1) g) := X.out.2.1.later hb1
  have B1 : Aside (Below w.heap.size w w1) := step_below X.out.2.2 hb1
  clear hb1 X CA
  go_wp2_with fail
  have hne := Bw.some w1
  refine wp_region_wq (by kernel_rfl) (by kernel_rfl) ?_
  first | (refine wq_vec X0.out (.tmp 2) rfl rfl ?_ ?_; (focus (go_simp; done)); dsimp only [Act.put, Array.setIfInBounds]) | (refine wq_step (fun K hK => ?_); go_simp; refine hK _ ?_; clear hK K)
  first | (refine wq_vec X1.out (.tmp 3) rfl rfl ?_ ?_; (focus (go_simp; done)); dsimp only [Act.put, Array.setIfInBounds]) | (refine wq_step (fun K hK => ?_); go_simp; refine hK _ ?_; clear hK K)
  (refine wq_step (fun K hK => ?_); go_simp; first | (refine hK _ ?_; clear hK K) | (apply Exists.intro; refine ⟨fun _ => ?_, hK _ ?_⟩; (go_at_call 10; exact Calls.bw_of (C10.out _)); clear hK K))
  first | (refine wq_vec X0.out (.tmp 2) rfl rfl ?_ ?_; (focus (go_simp; done)); dsimp only [Act.put, Array.setIfInBounds]) | (refine wq_step (fun K hK => ?_); go_simp; refine hK _ ?_; clear hK K)
  first | (refine wq_vec X1.out (.tmp 3) rfl rfl ?_ ?_; (focus (go_simp; done)); dsimp only [Act.put, Array.setIfInBounds]) | (refine wq_step (fun K hK => ?_); go_simp; refine hK _ ?_; clear hK K)
  (refine wq_step (fun K hK => ?_); go_simp; first | (refine hK _ ?_; clear hK K) | (apply Exists.intro; refine ⟨fun _ => ?_, hK _ ?_⟩; (go_at_call 11; exact Calls.bw_of (C11.out _)); clear hK K))
  (refine wq_step (fun K hK => ?_); go_simp; refine hK _ ?_; clear hK K)
  (refine wq_step (fun K hK => ?_); go_simp; refine hK _ ?_; clear hK K)
  first | (refine wq_vec X0.out (.tmp 2) rfl rfl ?_ ?_; (focus (go_simp; done)); dsimp only [Act.put, Array.setIfInBounds]) | (refine wq_step (fun K hK => ?_); go_simp; refine hK _ ?_; clear hK K)
  first | (refine wq_vec X1.out (.tmp 3) rfl rfl ?_ ?_; (focus (go_simp; done)); dsimp only [Act.put, Array.setIfInBounds]) | (refine wq_step (fun K hK => ?_); go_simp; refine hK _ ?_; clear hK K)
  (refine wq_step (fun K hK => ?_); go_simp; first | (refine hK _ ?_; clear hK K) | (apply Exists.intro; refine ⟨fun _ => ?_, hK _ ?_⟩; (go_at_call 12; exact Calls.bw_of (C12.out _)); clear hK K))
  first | (refine wq_vec X0.out (.tmp 2) rfl rfl ?_ ?_; (focus (go_simp; done)); dsimp only [Act.put, Array.setIfInBounds]) | (refine wq_step (fun K hK => ?_); go_simp; refine hK _ ?_; clear hK K)
  first | (refine wq_vec X1.out (.tmp 3) rfl rfl ?_ ?_; (focus (go_simp; done)); dsimp only [Act.put, Array.setIfInBounds]) | (refine wq_step (fun K hK => ?_); go_simp; refine hK _ ?_; clear hK K)
  (refine wq_step (fun K hK => ?_); go_simp; first | (refine hK _ ?_; clear hK K) | (apply Exists.intro; refine ⟨fun _ => ?_, hK _ ?_⟩; (go_at_call 13; exact Calls.bw_of (C13.out _)); clear hK K))
  (refine wq_step (fun K hK => ?_); go_simp; refine hK _ ?_; clear hK K)
  (refine wq_step (fun K hK => ?_); go_simp; refine hK _ ?_; clear hK K)
  (refine wq_step (fun K hK => ?_); go_simp; refine hK _ ?_; clear hK K)
  refine wq_nil ?_
  intro _ hw'
  obtain ⟨pq, hw''⟩ := hw'
  subst hw''
  go_wp2
  go_ret
  exact ⟨rfl, step_below B1.out pq.h⟩

/-- The world of a law of three vectors. -/
theorem three_boxes (f g h : Nat → Nat) (w : World) : V16 (((w.alloc (.cells (vecA f) 24)).alloc (.cells (vecA g) 24)).alloc (.cells (vecA h) 24)) w.heap.size f ∧ V16 (((w.alloc (.cells (vecA f) 24)).alloc (.cells (vecA g) 24)).alloc (.cells (vecA h) 24)) (w.heap.size + 1) g ∧ V16 (((w.alloc (.cells (vecA f) 24)).alloc (.cells (vecA g) 24)).alloc (.cells (vecA h) 24)) (w.heap.size + 1 + 1) h ∧ Below w.heap.size w (((w.alloc (.cells (vecA f) 24)).alloc (.cells (vecA g) 24)).alloc (.cells (vecA h) 24)) := by
  refine ⟨((V16.new w f).alloc _).alloc _, ?_, ?_, (((Below.refl _ w).alloc (Nat.le_refl _) _).alloc (by simp) _).alloc (by simp; omega) _⟩
  · have := (V16.new (w.alloc (.cells (vecA f) 24)) g).alloc (.cells (vecA h) 24)
    rwa [World.size_alloc] at this
  · have := V16.new ((w.alloc (.cells (vecA f) 24)).alloc (.cells (vecA g) 24)) h
    simpa only [World.size_alloc] using this

set_option maxHeartbeats 8000000 in
set_option maxRecDepth 100000 in
theorem joins_walk (f g h : Nat → Nat) (w : World) : Calls Try.prog 6 #[.agg (vecA f), .agg (vecA g), .agg (vecA h)] w fun e w' => e = .returned (.bool true) ∧ Below w.heap.size w w' := by
  have CA : Aside (∀ W, Calls Try.prog 9 #[] W fun e w' => e = .returned (.bool true) ∧ Below W.heap.size W w') := fun W => alive_any W
  obtain ⟨J, hJ⟩ : ∃ J, J = joinV f g := ⟨_, rfl⟩
  have Jm : ∀ i, J i = max (f i) (g i) := fun i => by rw [hJ]; rfl
  have CJ : Aside (∀ W, Calls Try.prog 12 #[.agg (vecA f), .agg (vecA g)] W fun e w' => e = .returned (.agg (vecA J)) ∧ Below W.heap.size W w') := fun W => by rw [hJ]; exact join_any f g W
  have D1 : Aside (∀ W, Calls Try.prog 10 #[.agg (vecA f), .agg (vecA g)] W fun e w' => e = .returned (.bool (eqV J g)) ∧ Below W.heap.size W w') := fun W => by rw [hJ, eqV_join]; exact below_any f g W
  have D2 : Aside (∀ W, Calls Try.prog 10 #[.agg (vecA f), .agg (vecA J)] W fun e w' => e = .returned (.bool true) ∧ Below W.heap.size W w') := fun W => by
    have := below_any f J W
    rw [belowB_iff.2 (fun i _ => by rw [Jm]; omega)] at this; exact this
  have D3 : Aside (∀ W, Calls Try.prog 10 #[.agg (vecA g), .agg (vecA J)] W fun e w' => e = .returned (.bool true) ∧ Below W.heap.size W w') := fun W => by
    have := below_any g J W
    rw [belowB_iff.2 (fun i _ => by rw [Jm]; omega)] at this; exact this
  have D4 : Aside (∀ W, Calls Try.prog 12 #[.agg (vecA g), .agg (vecA f)] W fun e w' => e = .returned (.agg (vecA J)) ∧ Below W.heap.size W w') := fun W => by
    have := join_any g f W
    rw [show vecA (joinV g f) = vecA J from vecA_congr fun i _ => by rw [Jm]; show max (g i) (f i) = _; omega] at this; exact this
  have D5 : Aside (∀ W, Calls Try.prog 12 #[.agg (vecA f), .agg (vecA f)] W fun e w' => e = .returned (.agg (vecA f)) ∧ Below W.heap.size W w') := fun W => by
    have := join_any f f W
    rw [show vecA (joinV f f) = vecA f from vecA_congr fun i _ => by show max (f i) (f i) = _; omega] at this; exact this
  have E1 : Aside (∀ W, Calls Try.prog 10 #[.agg (vecA J), .agg (vecA h)] W fun e w' => e = .returned (.bool (belowB f h && belowB g h)) ∧ Below W.heap.size W w') := fun W => by
    have := below_any J h W
    rw [show belowB J h = (belowB f h && belowB g h) by
      rw [Bool.eq_iff_iff, Bool.and_eq_true, belowB_iff, belowB_iff, belowB_iff]
      exact ⟨fun a => ⟨fun i hi => by have := a i hi; rw [Jm] at this; omega, fun i hi => by have := a i hi; rw [Jm] at this; omega⟩, fun ⟨a, b⟩ i hi => by have := a i hi; have := b i hi; rw [Jm]; omega⟩] at this
    exact this
  have E2 : Aside (∀ W, Calls Try.prog 10 #[.agg (vecA f), .agg (vecA h)] W fun e w' => e = .returned (.bool (belowB f h)) ∧ Below W.heap.size W w') := fun W => below_any f h W
  have E3 : Aside (∀ W, Calls Try.prog 10 #[.agg (vecA g), .agg (vecA h)] W fun e w' => e = .returned (.bool (belowB g h)) ∧ Below W.heap.size W w') := fun W => below_any g h W
  obtain ⟨K, hK⟩ : ∃ K, K = joinV J h := ⟨_, rfl⟩
  have E4 : Aside (∀ W, Calls Try.prog 12 #[.agg (vecA J), .agg (vecA h)] W fun e w' => e = .returned (.agg (vecA K)) ∧ Below W.heap.size W w') := fun W => by rw [hK]; exact join_any J h W
  obtain ⟨L, hL⟩ : ∃ L, L = joinV g h := ⟨_, rfl⟩
  have E5 : Aside (∀ W, Calls Try.prog 12 #[.agg (vecA g), .agg (vecA h)] W fun e w' => e = .returned (.agg (vecA L)) ∧ Below W.heap.size W w') := fun W => by rw [hL]; exact join_any g h W
  have E6 : Aside (∀ W, Calls Try.prog 12 #[.agg (vecA f), .agg (vecA L)] W fun e w' => e = .returned (.agg (vecA K)) ∧ Below W.heap.size W w') := fun W => by
    have := join_any f L W
    rw [show vecA (joinV f L) = vecA K from vecA_congr fun i _ => by rw [hK, hL]; show max (f i) (max (g i) (h i)) = max (J i) (h i); rw [Jm]; omega] at this; exact this
  have q1 := fun W => eql_vec J g W
  have n1 : ∀ W, (binOp .neq 24 (.agg (vecA J)) (.agg (vecA J))).run Try.prog W = .ok (.bool false) W := fun W => by
    have := neq_vec J J W
    rw [eqV_iff.2 (fun _ _ => rfl)] at this; exact this
  have n2 : ∀ W, (binOp .neq 24 (.agg (vecA f)) (.agg (vecA f))).run Try.prog W = .ok (.bool false) W := fun W => by
    have := neq_vec f f W
    rw [eqV_iff.2 (fun _ _ => rfl)] at this; exact this
  have q2 : ∀ W, (binOp .eql 24 (.agg (vecA K)) (.agg (vecA K))).run Try.prog W = .ok (.bool true) W := fun W => by
    have := eql_vec K K W
    rw [eqV_iff.2 (fun _ _ => rfl)] at this; exact this
  have g1 := fun x y xs ys W => guard_eql24 x y xs ys W
  have g2 := fun x y xs ys W => guard_neq24 x y xs ys W
  generalize eqV J g = r at D1 q1
  generalize belowB f h = rf at E1 E2
  generalize belowB g h = rg at E1 E3
  clear hJ Jm hK hL
  obtain ⟨V, hV⟩ : ∃ V, V = ((w.alloc (.cells (vecA f) 24)).alloc (.cells (vecA g) 24)).alloc (.cells (vecA h) 24) := ⟨_, rfl⟩
  have X : Aside (V16 V w.heap.size f ∧ V16 V (w.heap.size + 1) g ∧ V16 V (w.heap.size + 1 + 1) h ∧ Below w.heap.size w V) := by
    rw [hV]; exact three_boxes f g h w
  go_enter Try.func6, Try.ntmps6
  go_wp2_with fail
  rw [← hV]
  clear hV
  refine (CA.out V).mono ?_
  rintro e w1 ⟨rfl, hb1⟩
  have X0 : Aside (V16 w1 w.heap.size f) := X.out.1.later hb1
  have X1 : Aside (V16 w1 (w.heap.size + 1) g) := X.out.2.1.later hb1
  have X2 : Aside (V16 w1 (w.heap.size + 1 + 1) h) := X.out.2.2.1.later hb1
  have B1 : Aside (Below w.heap.size w w1) := step_below X.out.2.2.2 hb1
  clear hb1 X CA
  go_wp2_with (first
    | (with_reducible refine wpList_vec X0.out rfl _ rfl rfl ?_)
    | (with_reducible refine wpList_vec X1.out rfl _ rfl rfl ?_)
    | (go_at_call 12; refine (CJ.out _).mono ?_; rintro e w2 ⟨rfl, hb2⟩; have Z2 : Aside (V16 (w2.alloc (.cells #[.int .u16 0, .int .u16 0, .int .u16 0, .int .u16 0, .int .u16 0, .int .u16 0, .int .u16 0, .int .u16 0, .int .u16 0, .int .u16 0, .int .u16 0, .int .u16 0, .int .u16 0, .int .u16 0, .int .u16 0, .int .u16 0] 24)) w2.heap.size (fun _ => 0)) := V16.zero w2; have B2 : Aside (Below w1.heap.size w1 w2) := hb2; clear hb2)
    | (with_reducible refine wpList_vec_store Z2.out rfl _ _ rfl rfl rfl ?_))
  have V0 : Aside (V16 ((w2.alloc (.cells #[.int .u16 0, .int .u16 0, .int .u16 0, .int .u16 0, .int .u16 0, .int .u16 0, .int .u16 0, .int .u16 0, .int .u16 0, .int .u16 0, .int .u16 0, .int .u16 0, .int .u16 0, .int .u16 0, .int .u16 0, .int .u16 0] 24)).setCells w2.heap.size 0 (vecA J).toList) w2.heap.size J) := Z2.out.whole J
  have V1 : Aside (Below w1.heap.size w1 ((w2.alloc (.cells #[.int .u16 0, .int .u16 0, .int .u16 0, .int .u16 0, .int .u16 0, .int .u16 0, .int .u16 0, .int .u16 0, .int .u16 0, .int .u16 0, .int .u16 0, .int .u16 0, .int .u16 0, .int .u16 0, .int .u16 0, .int .u16 0] 24)).setCells w2.heap.size 0 (vecA J).toList)) := step_below B2.out (below_cells _ _ ((Below.refl _ w2).alloc (Nat.le_refl _) _) (Nat.le_refl _))
  generalize (w2.alloc (.cells #[.int .u16 0, .int .u16 0, .int .u16 0, .int .u16 0, .int .u16 0, .int .u16 0, .int .u16 0, .int .u16 0, .int .u16 0, .int .u16 0, .int .u16 0, .int .u16 0, .int .u16 0, .int .u16 0, .int .u16 0, .int .u16 0] 24)).setCells w2.heap.size 0 (vecA J).toList = w3 at V0 V1 ⊢
  have Y0 : Aside (V16 w3 w.heap.size f) := X0.out.later V1.out
  have Y1 : Aside (V16 w3 (w.heap.size + 1) g) := X1.out.later V1.out
  have Y2 : Aside (V16 w3 (w.heap.size + 1 + 1) h) := X2.out.later V1.out
  have B3 : Aside (Below w.heap.size w w3) := step_below B1.out V1.out
  clear X0 X1 X2 B1 B2 Z2 V1
  have hne := Bw.some w3
  refine wp_region_wq (by kernel_rfl) (by kernel_rfl) ?_
  first | (refine wq_vec Y0.out (.tmp 3) rfl rfl ?_ ?_; (focus (go_simp; done)); dsimp only [Act.put, Array.setIfInBounds]) | (refine wq_step (fun K hK => ?_); go_simp; refine hK _ ?_; clear hK K)
  first | (refine wq_vec Y1.out (.tmp 4) rfl rfl ?_ ?_; (focus (go_simp; done)); dsimp only [Act.put, Array.setIfInBounds]) | (refine wq_step (fun K hK => ?_); go_simp; refine hK _ ?_; clear hK K)
  (refine wq_step (fun K hK => ?_); go_simp; first | (refine hK _ ?_; clear hK K) | (apply Exists.intro; refine ⟨fun _ => ?_, hK _ ?_⟩; (go_at_call 10; exact Calls.bw_of (D1.out _)); clear hK K))
  first | (refine wq_vec V0.out (.tmp 7) rfl rfl ?_ ?_; (focus (go_simp; done)); dsimp only [Act.put, Array.setIfInBounds]) | (refine wq_step (fun K hK => ?_); go_simp; refine hK _ ?_; clear hK K)
  first | (refine wq_vec Y1.out (.tmp 4) rfl rfl ?_ ?_; (focus (go_simp; done)); dsimp only [Act.put, Array.setIfInBounds]) | (refine wq_step (fun K hK => ?_); go_simp; refine hK _ ?_; clear hK K)
  (refine wq_step (fun K hK => ?_); go_simp; refine hK _ ?_; clear hK K)
  (refine wq_step (fun K hK => ?_); go_simp; refine hK _ ?_; clear hK K)
  (refine wq_step (fun K hK => ?_); go_simp; refine hK _ ?_; clear hK K)
  first | (refine wq_vec Y0.out (.tmp 3) rfl rfl ?_ ?_; (focus (go_simp; done)); dsimp only [Act.put, Array.setIfInBounds]) | (refine wq_step (fun K hK => ?_); go_simp; refine hK _ ?_; clear hK K)
  first | (refine wq_vec V0.out (.tmp 7) rfl rfl ?_ ?_; (focus (go_simp; done)); dsimp only [Act.put, Array.setIfInBounds]) | (refine wq_step (fun K hK => ?_); go_simp; refine hK _ ?_; clear hK K)
  (refine wq_step (fun K hK => ?_); go_simp; first | (refine hK _ ?_; clear hK K) | (apply Exists.intro; refine ⟨fun _ => ?_, hK _ ?_⟩; (go_at_call 10; exact Calls.bw_of (D2.out _)); clear hK K))
  (refine wq_step (fun K hK => ?_); go_simp; refine hK _ ?_; clear hK K)
  (refine wq_step (fun K hK => ?_); go_simp; refine hK _ ?_; clear hK K)
  (refine wq_step (fun K hK => ?_); go_simp; refine hK _ ?_; clear hK K)
  first | (refine wq_vec Y1.out (.tmp 4) rfl rfl ?_ ?_; (focus (go_simp; done)); dsimp only [Act.put, Array.setIfInBounds]) | (refine wq_step (fun K hK => ?_); go_simp; refine hK _ ?_; clear hK K)
  first | (refine wq_vec V0.out (.tmp 7) rfl rfl ?_ ?_; (focus (go_simp; done)); dsimp only [Act.put, Array.setIfInBounds]) | (refine wq_step (fun K hK => ?_); go_simp; refine hK _ ?_; clear hK K)
  (refine wq_step (fun K hK => ?_); go_simp; first | (refine hK _ ?_; clear hK K) | (apply Exists.intro; refine ⟨fun _ => ?_, hK _ ?_⟩; (go_at_call 10; exact Calls.bw_of (D3.out _)); clear hK K))
  (refine wq_step (fun K hK => ?_); go_simp; refine hK _ ?_; clear hK K)
  (refine wq_step (fun K hK => ?_); go_simp; refine hK _ ?_; clear hK K)
  (refine wq_step (fun K hK => ?_); go_simp; refine hK _ ?_; clear hK K)
  first | (refine wq_vec V0.out (.tmp 7) rfl rfl ?_ ?_; (focus (go_simp; done)); dsimp only [Act.put, Array.setIfInBounds]) | (refine wq_step (fun K hK => ?_); go_simp; refine hK _ ?_; clear hK K)
  first | (refine wq_vec Y1.out (.tmp 4) rfl rfl ?_ ?_; (focus (go_simp; done)); dsimp only [Act.put, Array.setIfInBounds]) | (refine wq_step (fun K hK => ?_); go_simp; refine hK _ ?_; clear hK K)
  first | (refine wq_vec Y0.out (.tmp 3) rfl rfl ?_ ?_; (focus (go_simp; done)); dsimp only [Act.put, Array.setIfInBounds]) | (refine wq_step (fun K hK => ?_); go_simp; refine hK _ ?_; clear hK K)
  (refine wq_step (fun K hK => ?_); go_simp; first | (refine hK _ ?_; clear hK K) | (apply Exists.intro; refine ⟨fun _ => ?_, hK _ ?_⟩; (go_at_call 12; exact Calls.bw_of (D4.out _)); clear hK K))
  (refine wq_step (fun K hK => ?_); go_simp; refine hK _ ?_; clear hK K)
  (refine wq_step (fun K hK => ?_); go_simp; refine hK _ ?_; clear hK K)
  (refine wq_step (fun K hK => ?_); go_simp; refine hK _ ?_; clear hK K)
  first | (refine wq_vec Y0.out (.tmp 3) rfl rfl ?_ ?_; (focus (go_simp; done)); dsimp only [Act.put, Array.setIfInBounds]) | (refine wq_step (fun K hK => ?_); go_simp; refine hK _ ?_; clear hK K)
  first | (refine wq_vec Y0.out (.tmp 3) rfl rfl ?_ ?_; (focus (go_simp; done)); dsimp only [Act.put, Array.setIfInBounds]) | (refine wq_step (fun K hK => ?_); go_simp; refine hK _ ?_; clear hK K)
  (refine wq_step (fun K hK => ?_); go_simp; first | (refine hK _ ?_; clear hK K) | (apply Exists.intro; refine ⟨fun _ => ?_, hK _ ?_⟩; (go_at_call 12; exact Calls.bw_of (D5.out _)); clear hK K))
  first | (refine wq_vec Y0.out (.tmp 3) rfl rfl ?_ ?_; (focus (go_simp; done)); dsimp only [Act.put, Array.setIfInBounds]) | (refine wq_step (fun K hK => ?_); go_simp; refine hK _ ?_; clear hK K)
  (refine wq_step (fun K hK => ?_); go_simp; refine hK _ ?_; clear hK K)
  (refine wq_step (fun K hK => ?_); go_simp; refine hK _ ?_; clear hK K)
  refine wq_nil ?_
  intro _ hw'
  obtain ⟨pq, hw''⟩ := hw'
  subst hw''
  have U0 : Aside (V16 pq.w' w.heap.size f) := Y0.out.later pq.h
  have U1 : Aside (V16 pq.w' (w.heap.size + 1) g) := Y1.out.later pq.h
  have U2 : Aside (V16 pq.w' (w.heap.size + 1 + 1) h) := Y2.out.later pq.h
  have U3 : Aside (V16 pq.w' w2.heap.size J) := V0.out.later pq.h
  have B4 : Aside (Below w.heap.size w pq.w') := step_below B3.out pq.h
  clear Y0 Y1 Y2 V0 B3 hne
  generalize pq.w' = w4 at U0 U1 U2 U3 B4 ⊢
  go_wp2_with fail
  cases rf with
  | true =>
    have hne := Bw.some w4
    refine wp_region_wq (by kernel_rfl) (by kernel_rfl) ?_
    first | (refine wq_vec U3.out (.tmp 7) rfl rfl ?_ ?_; (focus (go_simp; done)); dsimp only [Act.put, Array.setIfInBounds]) | (refine wq_step (fun K hK => ?_); go_simp; refine hK _ ?_; clear hK K)
    first | (refine wq_vec U2.out (.tmp 5) rfl rfl ?_ ?_; (focus (go_simp; done)); dsimp only [Act.put, Array.setIfInBounds]) | (refine wq_step (fun K hK => ?_); go_simp; refine hK _ ?_; clear hK K)
    (refine wq_step (fun K hK => ?_); go_simp; first | (refine hK _ ?_; clear hK K) | (apply Exists.intro; refine ⟨fun _ => ?_, hK _ ?_⟩; (go_at_call 10; exact Calls.bw_of (E1.out _)); clear hK K))
    first | (refine wq_vec U0.out (.tmp 3) rfl rfl ?_ ?_; (focus (go_simp; done)); dsimp only [Act.put, Array.setIfInBounds]) | (refine wq_step (fun K hK => ?_); go_simp; refine hK _ ?_; clear hK K)
    first | (refine wq_vec U2.out (.tmp 5) rfl rfl ?_ ?_; (focus (go_simp; done)); dsimp only [Act.put, Array.setIfInBounds]) | (refine wq_step (fun K hK => ?_); go_simp; refine hK _ ?_; clear hK K)
    (refine wq_step (fun K hK => ?_); go_simp; first | (refine hK _ ?_; clear hK K) | (apply Exists.intro; refine ⟨fun _ => ?_, hK _ ?_⟩; (go_at_call 10; exact Calls.bw_of (E2.out _)); clear hK K))
    (refine wq_step (fun K hK => ?_); go_simp; refine hK _ ?_; clear hK K)
    first | (refine wq_vec U1.out (.tmp 4) rfl rfl ?_ ?_; (focus (go_simp; done)); dsimp only [Act.put, Array.setIfInBounds]) | (refine wq_step (fun K hK => ?_); go_simp; refine hK _ ?_; clear hK K)
    first | (refine wq_vec U2.out (.tmp 5) rfl rfl ?_ ?_; (focus (go_simp; done)); dsimp only [Act.put, Array.setIfInBounds]) | (refine wq_step (fun K hK => ?_); go_simp; refine hK _ ?_; clear hK K)
    (refine wq_step (fun K hK => ?_); go_simp; first | (refine hK _ ?_; clear hK K) | (apply Exists.intro; refine ⟨fun _ => ?_, hK _ ?_⟩; (go_at_call 10; exact Calls.bw_of (E3.out _)); clear hK K))
    (refine wq_step (fun K hK => ?_); go_simp; refine hK _ ?_; clear hK K)
    (refine wq_step (fun K hK => ?_); go_simp; refine hK _ ?_; clear hK K)
    (refine wq_step (fun K hK => ?_); go_simp; refine hK _ ?_; clear hK K)
    first | (refine wq_vec U3.out (.tmp 7) rfl rfl ?_ ?_; (focus (go_simp; done)); dsimp only [Act.put, Array.setIfInBounds]) | (refine wq_step (fun K hK => ?_); go_simp; refine hK _ ?_; clear hK K)
    first | (refine wq_vec U2.out (.tmp 5) rfl rfl ?_ ?_; (focus (go_simp; done)); dsimp only [Act.put, Array.setIfInBounds]) | (refine wq_step (fun K hK => ?_); go_simp; refine hK _ ?_; clear hK K)
    (refine wq_step (fun K hK => ?_); go_simp; first | (refine hK _ ?_; clear hK K) | (apply Exists.intro; refine ⟨fun _ => ?_, hK _ ?_⟩; (go_at_call 12; exact Calls.bw_of (E4.out _)); clear hK K))
    first | (refine wq_vec U0.out (.tmp 3) rfl rfl ?_ ?_; (focus (go_simp; done)); dsimp only [Act.put, Array.setIfInBounds]) | (refine wq_step (fun K hK => ?_); go_simp; refine hK _ ?_; clear hK K)
    first | (refine wq_vec U1.out (.tmp 4) rfl rfl ?_ ?_; (focus (go_simp; done)); dsimp only [Act.put, Array.setIfInBounds]) | (refine wq_step (fun K hK => ?_); go_simp; refine hK _ ?_; clear hK K)
    first | (refine wq_vec U2.out (.tmp 5) rfl rfl ?_ ?_; (focus (go_simp; done)); dsimp only [Act.put, Array.setIfInBounds]) | (refine wq_step (fun K hK => ?_); go_simp; refine hK _ ?_; clear hK K)
    (refine wq_step (fun K hK => ?_); go_simp; first | (refine hK _ ?_; clear hK K) | (apply Exists.intro; refine ⟨fun _ => ?_, hK _ ?_⟩; (go_at_call 12; exact Calls.bw_of (E5.out _)); clear hK K))
    (refine wq_step (fun K hK => ?_); go_simp; first | (refine hK _ ?_; clear hK K) | (apply Exists.intro; refine ⟨fun _ => ?_, hK _ ?_⟩; (go_at_call 12; exact Calls.bw_of (E6.out _)); clear hK K))
    (refine wq_step (fun K hK => ?_); go_simp; refine hK _ ?_; clear hK K)
    (refine wq_step (fun K hK => ?_); go_simp; refine hK _ ?_; clear hK K)
    (refine wq_step (fun K hK => ?_); go_simp; refine hK _ ?_; clear hK K)
    refine wq_nil ?_
    intro _ hw'
    obtain ⟨pq, hw''⟩ := hw'
    subst hw''
    go_wp2
    go_ret
    exact ⟨rfl, step_below B4.out pq.h⟩
  | false =>
    have hne := Bw.some w4
    refine wp_region_wq (by kernel_rfl) (by kernel_rfl) ?_
    first | (refine wq_vec U3.out (.tmp 7) rfl rfl ?_ ?_; (focus (go_simp; done)); dsimp only [Act.put, Array.setIfInBounds]) | (refine wq_step (fun K hK => ?_); go_simp; refine hK _ ?_; clear hK K)
    first | (refine wq_vec U2.out (.tmp 5) rfl rfl ?_ ?_; (focus (go_simp; done)); dsimp only [Act.put, Array.setIfInBounds]) | (refine wq_step (fun K hK => ?_); go_simp; refine hK _ ?_; clear hK K)
    (refine wq_step (fun K hK => ?_); go_simp; first | (refine hK _ ?_; clear hK K) | (apply Exists.intro; refine ⟨fun _ => ?_, hK _ ?_⟩; (go_at_call 10; exact Calls.bw_of (E1.out _)); clear hK K))
    first | (refine wq_vec U0.out (.tmp 3) rfl rfl ?_ ?_; (focus (go_simp; done)); dsimp only [Act.put, Array.setIfInBounds]) | (refine wq_step (fun K hK => ?_); go_simp; refine hK _ ?_; clear hK K)
    first | (refine wq_vec U2.out (.tmp 5) rfl rfl ?_ ?_; (focus (go_simp; done)); dsimp only [Act.put, Array.setIfInBounds]) | (refine wq_step (fun K hK => ?_); go_simp; refine hK _ ?_; clear hK K)
    (refine wq_step (fun K hK => ?_); go_simp; first | (refine hK _ ?_; clear hK K) | (apply Exists.intro; refine ⟨fun _ => ?_, hK _ ?_⟩; (go_at_call 10; exact Calls.bw_of (E2.out _)); clear hK K))
    (refine wq_step (fun K hK => ?_); go_simp; refine hK _ ?_; clear hK K)
    first | (refine wq_vec U1.out (.tmp 4) rfl rfl ?_ ?_; (focus (go_simp; done)); dsimp only [Act.put, Array.setIfInBounds]) | (refine wq_step (fun K hK => ?_); go_simp; refine hK _ ?_; clear hK K)
    first | (refine wq_vec U2.out (.tmp 5) rfl rfl ?_ ?_; (focus (go_simp; done)); dsimp only [Act.put, Array.setIfInBounds]) | (refine wq_step (fun K hK => ?_); go_simp; refine hK _ ?_; clear hK K)
    (refine wq_step (fun K hK => ?_); go_simp; first | (refine hK _ ?_; clear hK K) | (apply Exists.intro; refine ⟨fun _ => ?_, hK _ ?_⟩; (go_at_call 10; exact Calls.bw_of (E3.out _)); clear hK K))
    (refine wq_step (fun K hK => ?_); go_simp; refine hK _ ?_; clear hK K)
    (refine wq_step (fun K hK => ?_); go_simp; refine hK _ ?_; clear hK K)
    (refine wq_step (fun K hK => ?_); go_simp; refine hK _ ?_; clear hK K)
    first | (refine wq_vec U3.out (.tmp 7) rfl rfl ?_ ?_; (focus (go_simp; done)); dsimp only [Act.put, Array.setIfInBounds]) | (refine wq_step (fun K hK => ?_); go_simp; refine hK _ ?_; clear hK K)
    first | (refine wq_vec U2.out (.tmp 5) rfl rfl ?_ ?_; (focus (go_simp; done)); dsimp only [Act.put, Array.setIfInBounds]) | (refine wq_step (fun K hK => ?_); go_simp; refine hK _ ?_; clear hK K)
    (refine wq_step (fun K hK => ?_); go_simp; first | (refine hK _ ?_; clear hK K) | (apply Exists.intro; refine ⟨fun _ => ?_, hK _ ?_⟩; (go_at_call 12; exact Calls.bw_of (E4.out _)); clear hK K))
    first | (refine wq_vec U0.out (.tmp 3) rfl rfl ?_ ?_; (focus (go_simp; done)); dsimp only [Act.put, Array.setIfInBounds]) | (refine wq_step (fun K hK => ?_); go_simp; refine hK _ ?_; clear hK K)
    first | (refine wq_vec U1.out (.tmp 4) rfl rfl ?_ ?_; (focus (go_simp; done)); dsimp only [Act.put, Array.setIfInBounds]) | (refine wq_step (fun K hK => ?_); go_simp; refine hK _ ?_; clear hK K)
    first | (refine wq_vec U2.out (.tmp 5) rfl rfl ?_ ?_; (focus (go_simp; done)); dsimp only [Act.put, Array.setIfInBounds]) | (refine wq_step (fun K hK => ?_); go_simp; refine hK _ ?_; clear hK K)
    (refine wq_step (fun K hK => ?_); go_simp; first | (refine hK _ ?_; clear hK K) | (apply Exists.intro; refine ⟨fun _ => ?_, hK _ ?_⟩; (go_at_call 12; exact Calls.bw_of (E5.out _)); clear hK K))
    (refine wq_step (fun K hK => ?_); go_simp; first | (refine hK _ ?_; clear hK K) | (apply Exists.intro; refine ⟨fun _ => ?_, hK _ ?_⟩; (go_at_call 12; exact Calls.bw_of (E6.out _)); clear hK K))
    (refine wq_step (fun K hK => ?_); go_simp; refine hK _ ?_; clear hK K)
    (refine wq_step (fun K hK => ?_); go_simp; refine hK _ ?_; clear hK K)
    (refine wq_step (fun K hK => ?_); go_simp; refine hK _ ?_; clear hK K)
    refine wq_nil ?_
    intro _ hw'
    obtain ⟨pq, hw''⟩ := hw'
    subst hw''
    go_wp2
    go_ret
    exact ⟨rfl, step_below B4.out pq.h⟩
end Ps
end Go.Proofs.Ytkphpdejcmkdeaa
