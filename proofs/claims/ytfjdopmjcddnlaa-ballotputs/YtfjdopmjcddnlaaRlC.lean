/- What the document's Apply gives: the same. -/
import Derived.Test.YtfjdopmjcddnlaaRlB
set_option linter.unusedVariables false
namespace Go.Proofs.Ytfjdopmjcddnlaa
open Go.RowKit
namespace Rl
open Cn

theorem chS_add {s i : Nat} (hi : i < 16) (h : hasS s i = false) : chS s true i ≠ 0 := by
  intro h0
  have := size_with (s := s) (id := i) (by omega) h
  rw [show withS s i = 0 from h0] at this
  have z : sizeS 0 = 0 := by decide
  omega
theorem chS_one {s i : Nat} (hs : s < 65536) (h : hasS s i = true) : sizeS s = 1 ↔ chS s false i = 0 := by
  have h1 := size_without (s := s) (id := i) h
  have h2 := size_zero_iff (without_small (id := i) hs)
  show _ ↔ withoutS s i = 0
  rw [← h2]; omega
theorem P2.far {w : World} {b b' j : Nat} {t : TypeId} {x y : Value} (h : P2 w b t x y) (hne : b ≠ b') (v : Value) : P2 (w.setCell ⟨b', j, none⟩ v) b t x y :=
  (Below.heap_setCell _ _ _ b (by simpa using hne)).trans h
theorem P2.set0 {w : World} {b : Nat} {t : TypeId} {x0 y0 : Value} (h : P2 w b t x0 y0) (x : Value) : P2 (w.setCell ⟨b, 0, none⟩ x) b t x y0 := row_set h x
theorem P2.set1 {w : World} {b : Nat} {t : TypeId} {x0 y0 : Value} (h : P2 w b t x0 y0) (y : Value) : P2 (w.setCell ⟨b, 1, none⟩ y) b t x0 y := row_set h y

set_option maxHeartbeats 4000000 in
set_option maxRecDepth 100000 in
/-- What the document's Apply gives. -/
theorem rapply_any (v : Int) (s : Nat) (a : Bool) (i : Nat) (w : World) (hs : s < 65536) (h8 : i < 256) :
    Calls Try.prog 31 #[rollV v s, chV a i] w fun e w' => e = .returned (.tuple #[rollV (appV v s a i) (appS v s a i), .int .i64 (appE v s a i : Nat)]) ∧ Below w.heap.size w w' := by
  have C13 : Aside (∀ W, Calls Try.prog 46 #[.agg #[.int .i64 v, .int .u16 (s : Int)]] W fun e w' => e = .returned (.bool (rightB v s)) ∧ Below W.heap.size W w') := fun W => rright_any v s W
  have C22 : Aside (∀ W, Calls Try.prog 23 #[.int .u16 (s : Int), .int .u8 (i : Int)] W fun e w' => e = .returned (.bool (hasS s i)) ∧ w' = W) := fun W => rhas_any s i W hs h8
  have C21 : Aside (∀ W, Calls Try.prog 19 #[.int .u16 (s : Int)] W fun e w' => e = .returned (.int .i64 (sizeS s : Nat)) ∧ Below W.heap.size W w') := fun W => rsize_any s W hs
  have C25 : Aside (∀ W, Calls Try.prog 35 #[.int .u16 (s : Int), .int .u8 (i : Int)] W fun e w' => e = .returned (.int .u16 (chS s true i : Nat)) ∧ w' = W) := fun W => rwith_any s i W hs h8
  have C26 : Aside (∀ W, Calls Try.prog 47 #[.int .u16 (s : Int), .int .u8 (i : Int)] W fun e w' => e = .returned (.int .u16 (chS s false i : Nat)) ∧ w' = W) := fun W => rwithout_any s i W hs h8
  obtain ⟨V, hV⟩ : ∃ V, V = ((w.alloc (.cells #[.int .i64 v, .int .u16 (s : Int)] 25)).alloc (.cells #[.bool a, .int .u8 (i : Int)] 30)).alloc (.cells #[.int .i64 0, .int .u16 0] 25) := ⟨_, rfl⟩
  have X : Aside (P2 V w.heap.size 25 (.int .i64 v) (.int .u16 (s : Int)) ∧ P2 V (w.heap.size + 1) 30 (.bool a) (.int .u8 (i : Int)) ∧ P2 V (w.heap.size + 1 + 1) 25 (.int .i64 0) (.int .u16 0) ∧ Below w.heap.size w V) := by
    rw [hV]
    exact ⟨((P2.new w _ _ _).alloc _).alloc _, (P2.new1 w _ _ _ _).alloc _, P2.new2 w _ _ _ _ _, ((below_one w _).alloc (by simp) _).alloc (by simp; omega) _⟩
  unfold rollV chV
  by_cases hr : rightB v s = true
  · by_cases hi : i < 16
    · have hi8 : ¬ ((15 : Int) < (i : Int)) := by omega
      have hv : Aside (0 ≤ v ∧ v ≤ 1000) := by unfold rightB at hr; simp only [Bool.and_eq_true, decide_eq_true_eq] at hr; exact ⟨hr.1, hr.2.1⟩
      rw [hr] at C13
      cases a with
      | true =>
        cases hh : hasS s i with
        | true =>
          have E : appE v s true i = 9 := by unfold appE; rw [if_pos ⟨hr, hi⟩, if_pos ⟨rfl, hh⟩]
          have E1 : appV v s true i = 0 := by unfold appV; rw [E]; rfl
          have E2 : appS v s true i = 0 := by unfold appS; rw [E]; rfl
          rw [E, E1, E2]
          clear E E1 E2
          rw [hh] at C22
          clear hh hr hi
          go_enter Try.func31, Try.ntmps31
          go_wp2_with fail
          rw [← hV]
          clear hV
          have Y := X
          clear X
          obtain ⟨c0, c1⟩ := Y.out.1.cells; obtain ⟨e0, e1⟩ := Y.out.2.1.cells; obtain ⟨d0, d1⟩ := Y.out.2.2.1.cells; have z0 := Y.out.2.2.1.frozen 0; have z1 := Y.out.2.2.1.frozen 1; have y0 := Y.out.1.frozen 0; have y1 := Y.out.1.frozen 1
          go_wp2_with (first | (go_at_call 23; refine (C22.out _).mono ?_; rintro e w' ⟨rfl, rfl⟩) | (go_at_call 46; refine (C13.out _).mono ?_; rintro e w13 ⟨rfl, hb1⟩; replace Y : Aside (P2 w13 _ _ _ _ ∧ P2 w13 _ _ _ _ ∧ P2 w13 _ _ _ _ ∧ Below w.heap.size w w13) := ⟨Y.out.1.later hb1, Y.out.2.1.later hb1, Y.out.2.2.1.later hb1, below_step Y.out.2.2.2 hb1⟩; clear hb1 c0 c1 e0 e1 d0 d1 z0 z1 y0 y1; obtain ⟨c0, c1⟩ := Y.out.1.cells; obtain ⟨e0, e1⟩ := Y.out.2.1.cells; obtain ⟨d0, d1⟩ := Y.out.2.2.1.cells; have z0 := Y.out.2.2.1.frozen 0; have z1 := Y.out.2.2.1.frozen 1; have y0 := Y.out.1.frozen 0; have y1 := Y.out.1.frozen 1) | (go_at_call 19; refine (C21.out _).mono ?_; rintro e w21 ⟨rfl, hb1⟩; replace Y : Aside (P2 w21 _ _ _ _ ∧ P2 w21 _ _ _ _ ∧ P2 w21 _ _ _ _ ∧ Below w.heap.size w w21) := ⟨Y.out.1.later hb1, Y.out.2.1.later hb1, Y.out.2.2.1.later hb1, below_step Y.out.2.2.2 hb1⟩; clear hb1 c0 c1 e0 e1 d0 d1 z0 z1 y0 y1; obtain ⟨c0, c1⟩ := Y.out.1.cells; obtain ⟨e0, e1⟩ := Y.out.2.1.cells; obtain ⟨d0, d1⟩ := Y.out.2.2.1.cells; have z0 := Y.out.2.2.1.frozen 0; have z1 := Y.out.2.2.1.frozen 1; have y0 := Y.out.1.frozen 0; have y1 := Y.out.1.frozen 1) | (go_at_call 35; refine (C25.out _).mono ?_; rintro e w' ⟨rfl, rfl⟩) | (go_at_call 47; refine (C26.out _).mono ?_; rintro e w' ⟨rfl, rfl⟩))
          exact bodyPost_ret (results_cell2 rfl rfl (Try.isAgg25 _) (Try.sizeOf25 _) (load_two (Y.out.2.2.1.put _ _))) rfl ⟨rfl, below_put Y.out.2.2.2 (by omega) _ _⟩
        | false =>
          by_cases h1 : v = 1000
          · subst h1
            have E : appE 1000 s true i = 11 := by unfold appE; rw [if_pos ⟨hr, hi⟩, if_neg (fun h => by rw [hh] at h; exact absurd h.2 (by decide)), if_neg (fun h => absurd h.1 (by decide)), if_pos rfl]
            have E1 : appV 1000 s true i = 0 := by unfold appV; rw [E]; rfl
            have E2 : appS 1000 s true i = 0 := by unfold appS; rw [E]; rfl
            rw [E, E1, E2]
            clear E E1 E2
            rw [hh] at C22
            clear hh hr hi
            go_enter Try.func31, Try.ntmps31
            go_wp2_with fail
            rw [← hV]
            clear hV
            have Y := X
            clear X
            obtain ⟨c0, c1⟩ := Y.out.1.cells; obtain ⟨e0, e1⟩ := Y.out.2.1.cells; obtain ⟨d0, d1⟩ := Y.out.2.2.1.cells; have z0 := Y.out.2.2.1.frozen 0; have z1 := Y.out.2.2.1.frozen 1; have y0 := Y.out.1.frozen 0; have y1 := Y.out.1.frozen 1
            go_wp2_with (first | (go_at_call 23; refine (C22.out _).mono ?_; rintro e w' ⟨rfl, rfl⟩) | (go_at_call 46; refine (C13.out _).mono ?_; rintro e w13 ⟨rfl, hb1⟩; replace Y : Aside (P2 w13 _ _ _ _ ∧ P2 w13 _ _ _ _ ∧ P2 w13 _ _ _ _ ∧ Below w.heap.size w w13) := ⟨Y.out.1.later hb1, Y.out.2.1.later hb1, Y.out.2.2.1.later hb1, below_step Y.out.2.2.2 hb1⟩; clear hb1 c0 c1 e0 e1 d0 d1 z0 z1 y0 y1; obtain ⟨c0, c1⟩ := Y.out.1.cells; obtain ⟨e0, e1⟩ := Y.out.2.1.cells; obtain ⟨d0, d1⟩ := Y.out.2.2.1.cells; have z0 := Y.out.2.2.1.frozen 0; have z1 := Y.out.2.2.1.frozen 1; have y0 := Y.out.1.frozen 0; have y1 := Y.out.1.frozen 1) | (go_at_call 19; refine (C21.out _).mono ?_; rintro e w21 ⟨rfl, hb1⟩; replace Y : Aside (P2 w21 _ _ _ _ ∧ P2 w21 _ _ _ _ ∧ P2 w21 _ _ _ _ ∧ Below w.heap.size w w21) := ⟨Y.out.1.later hb1, Y.out.2.1.later hb1, Y.out.2.2.1.later hb1, below_step Y.out.2.2.2 hb1⟩; clear hb1 c0 c1 e0 e1 d0 d1 z0 z1 y0 y1; obtain ⟨c0, c1⟩ := Y.out.1.cells; obtain ⟨e0, e1⟩ := Y.out.2.1.cells; obtain ⟨d0, d1⟩ := Y.out.2.2.1.cells; have z0 := Y.out.2.2.1.frozen 0; have z1 := Y.out.2.2.1.frozen 1; have y0 := Y.out.1.frozen 0; have y1 := Y.out.1.frozen 1) | (go_at_call 35; refine (C25.out _).mono ?_; rintro e w' ⟨rfl, rfl⟩) | (go_at_call 47; refine (C26.out _).mono ?_; rintro e w' ⟨rfl, rfl⟩))
            exact bodyPost_ret (results_cell2 rfl rfl (Try.isAgg25 _) (Try.sizeOf25 _) (load_two (Y.out.2.2.1.put _ _))) rfl ⟨rfl, below_put Y.out.2.2.2 (by omega) _ _⟩
          · have h1b : (v == 1000) = false := by simp [h1]
            have h2 := chS_add hi hh
            have E : appE v s true i = 0 := by unfold appE; rw [if_pos ⟨hr, hi⟩, if_neg (fun h => by rw [hh] at h; exact absurd h.2 (by decide)), if_neg (fun h => absurd h.1 (by decide)), if_neg h1, if_neg h2]
            have E1 : appV v s true i = v + 1 := by unfold appV; rw [if_pos E]
            have E2 : appS v s true i = chS s true i := by unfold appS; rw [if_pos E]
            rw [E, E1, E2]
            clear E E1 E2
            have hq : wrap64 (v + 1) = v + 1 := IntWalk.wrap64_in _ ⟨by have := hv.out.1; omega, by have := hv.out.2; omega⟩
            clear h2
            generalize chS s true i = r at C25 ⊢
            rw [hh] at C22
            clear hh hr hi
            go_enter Try.func31, Try.ntmps31
            go_wp2_with fail
            rw [← hV]
            clear hV
            have Y := X
            clear X
            obtain ⟨c0, c1⟩ := Y.out.1.cells; obtain ⟨e0, e1⟩ := Y.out.2.1.cells; obtain ⟨d0, d1⟩ := Y.out.2.2.1.cells; have z0 := Y.out.2.2.1.frozen 0; have z1 := Y.out.2.2.1.frozen 1; have y0 := Y.out.1.frozen 0; have y1 := Y.out.1.frozen 1
            go_wp2_with (first | (go_at_call 23; refine (C22.out _).mono ?_; rintro e w' ⟨rfl, rfl⟩) | (go_at_call 46; refine (C13.out _).mono ?_; rintro e w13 ⟨rfl, hb1⟩; replace Y : Aside (P2 w13 _ _ _ _ ∧ P2 w13 _ _ _ _ ∧ P2 w13 _ _ _ _ ∧ Below w.heap.size w w13) := ⟨Y.out.1.later hb1, Y.out.2.1.later hb1, Y.out.2.2.1.later hb1, below_step Y.out.2.2.2 hb1⟩; clear hb1 c0 c1 e0 e1 d0 d1 z0 z1 y0 y1; obtain ⟨c0, c1⟩ := Y.out.1.cells; obtain ⟨e0, e1⟩ := Y.out.2.1.cells; obtain ⟨d0, d1⟩ := Y.out.2.2.1.cells; have z0 := Y.out.2.2.1.frozen 0; have z1 := Y.out.2.2.1.frozen 1; have y0 := Y.out.1.frozen 0; have y1 := Y.out.1.frozen 1) | (go_at_call 19; refine (C21.out _).mono ?_; rintro e w21 ⟨rfl, hb1⟩; replace Y : Aside (P2 w21 _ _ _ _ ∧ P2 w21 _ _ _ _ ∧ P2 w21 _ _ _ _ ∧ Below w.heap.size w w21) := ⟨Y.out.1.later hb1, Y.out.2.1.later hb1, Y.out.2.2.1.later hb1, below_step Y.out.2.2.2 hb1⟩; clear hb1 c0 c1 e0 e1 d0 d1 z0 z1 y0 y1; obtain ⟨c0, c1⟩ := Y.out.1.cells; obtain ⟨e0, e1⟩ := Y.out.2.1.cells; obtain ⟨d0, d1⟩ := Y.out.2.2.1.cells; have z0 := Y.out.2.2.1.frozen 0; have z1 := Y.out.2.2.1.frozen 1; have y0 := Y.out.1.frozen 0; have y1 := Y.out.1.frozen 1) | (go_at_call 35; refine (C25.out _).mono ?_; rintro e w' ⟨rfl, rfl⟩) | (go_at_call 47; refine (C26.out _).mono ?_; rintro e w' ⟨rfl, rfl⟩))
            exact bodyPost_ret (results_cell2 rfl rfl (Try.isAgg25 _) (Try.sizeOf25 _) (load_two (((Y.out.2.2.1.far (b' := w.heap.size) (by omega) _).far (b' := w.heap.size) (by omega) _).put _ _))) rfl ⟨rfl, below_put ((Y.out.2.2.2.setCell (p := ⟨w.heap.size, 0, none⟩) (Nat.le_refl _) _).setCell (p := ⟨w.heap.size, 1, none⟩) (Nat.le_refl _) _) (by omega) _ _⟩
      | false =>
        cases hh : hasS s i with
        | false =>
          have E : appE v s false i = 8 := by unfold appE; rw [if_pos ⟨hr, hi⟩, if_neg (fun h => absurd h.1 (by decide)), if_pos ⟨rfl, hh⟩]
          have E1 : appV v s false i = 0 := by unfold appV; rw [E]; rfl
          have E2 : appS v s false i = 0 := by unfold appS; rw [E]; rfl
          rw [E, E1, E2]
          clear E E1 E2
          rw [hh] at C22
          clear hh hr hi
          go_enter Try.func31, Try.ntmps31
          go_wp2_with fail
          rw [← hV]
          clear hV
          have Y := X
          clear X
          obtain ⟨c0, c1⟩ := Y.out.1.cells; obtain ⟨e0, e1⟩ := Y.out.2.1.cells; obtain ⟨d0, d1⟩ := Y.out.2.2.1.cells; have z0 := Y.out.2.2.1.frozen 0; have z1 := Y.out.2.2.1.frozen 1; have y0 := Y.out.1.frozen 0; have y1 := Y.out.1.frozen 1
          go_wp2_with (first | (go_at_call 23; refine (C22.out _).mono ?_; rintro e w' ⟨rfl, rfl⟩) | (go_at_call 46; refine (C13.out _).mono ?_; rintro e w13 ⟨rfl, hb1⟩; replace Y : Aside (P2 w13 _ _ _ _ ∧ P2 w13 _ _ _ _ ∧ P2 w13 _ _ _ _ ∧ Below w.heap.size w w13) := ⟨Y.out.1.later hb1, Y.out.2.1.later hb1, Y.out.2.2.1.later hb1, below_step Y.out.2.2.2 hb1⟩; clear hb1 c0 c1 e0 e1 d0 d1 z0 z1 y0 y1; obtain ⟨c0, c1⟩ := Y.out.1.cells; obtain ⟨e0, e1⟩ := Y.out.2.1.cells; obtain ⟨d0, d1⟩ := Y.out.2.2.1.cells; have z0 := Y.out.2.2.1.frozen 0; have z1 := Y.out.2.2.1.frozen 1; have y0 := Y.out.1.frozen 0; have y1 := Y.out.1.frozen 1) | (go_at_call 19; refine (C21.out _).mono ?_; rintro e w21 ⟨rfl, hb1⟩; replace Y : Aside (P2 w21 _ _ _ _ ∧ P2 w21 _ _ _ _ ∧ P2 w21 _ _ _ _ ∧ Below w.heap.size w w21) := ⟨Y.out.1.later hb1, Y.out.2.1.later hb1, Y.out.2.2.1.later hb1, below_step Y.out.2.2.2 hb1⟩; clear hb1 c0 c1 e0 e1 d0 d1 z0 z1 y0 y1; obtain ⟨c0, c1⟩ := Y.out.1.cells; obtain ⟨e0, e1⟩ := Y.out.2.1.cells; obtain ⟨d0, d1⟩ := Y.out.2.2.1.cells; have z0 := Y.out.2.2.1.frozen 0; have z1 := Y.out.2.2.1.frozen 1; have y0 := Y.out.1.frozen 0; have y1 := Y.out.1.frozen 1) | (go_at_call 35; refine (C25.out _).mono ?_; rintro e w' ⟨rfl, rfl⟩) | (go_at_call 47; refine (C26.out _).mono ?_; rintro e w' ⟨rfl, rfl⟩))
          exact bodyPost_ret (results_cell2 rfl rfl (Try.isAgg25 _) (Try.sizeOf25 _) (load_two (Y.out.2.2.1.put _ _))) rfl ⟨rfl, below_put Y.out.2.2.2 (by omega) _ _⟩
        | true =>
          by_cases h1 : v = 1000
          · subst h1
            have E : appE 1000 s false i = 11 := by unfold appE; rw [if_pos ⟨hr, hi⟩, if_neg (fun h => absurd h.1 (by decide)), if_neg (fun h => by rw [hh] at h; exact absurd h.2 (by decide)), if_pos rfl]
            have E1 : appV 1000 s false i = 0 := by unfold appV; rw [E]; rfl
            have E2 : appS 1000 s false i = 0 := by unfold appS; rw [E]; rfl
            rw [E, E1, E2]
            clear E E1 E2
            rw [hh] at C22
            clear hh hr hi
            go_enter Try.func31, Try.ntmps31
            go_wp2_with fail
            rw [← hV]
            clear hV
            have Y := X
            clear X
            obtain ⟨c0, c1⟩ := Y.out.1.cells; obtain ⟨e0, e1⟩ := Y.out.2.1.cells; obtain ⟨d0, d1⟩ := Y.out.2.2.1.cells; have z0 := Y.out.2.2.1.frozen 0; have z1 := Y.out.2.2.1.frozen 1; have y0 := Y.out.1.frozen 0; have y1 := Y.out.1.frozen 1
            go_wp2_with (first | (go_at_call 23; refine (C22.out _).mono ?_; rintro e w' ⟨rfl, rfl⟩) | (go_at_call 46; refine (C13.out _).mono ?_; rintro e w13 ⟨rfl, hb1⟩; replace Y : Aside (P2 w13 _ _ _ _ ∧ P2 w13 _ _ _ _ ∧ P2 w13 _ _ _ _ ∧ Below w.heap.size w w13) := ⟨Y.out.1.later hb1, Y.out.2.1.later hb1, Y.out.2.2.1.later hb1, below_step Y.out.2.2.2 hb1⟩; clear hb1 c0 c1 e0 e1 d0 d1 z0 z1 y0 y1; obtain ⟨c0, c1⟩ := Y.out.1.cells; obtain ⟨e0, e1⟩ := Y.out.2.1.cells; obtain ⟨d0, d1⟩ := Y.out.2.2.1.cells; have z0 := Y.out.2.2.1.frozen 0; have z1 := Y.out.2.2.1.frozen 1; have y0 := Y.out.1.frozen 0; have y1 := Y.out.1.frozen 1) | (go_at_call 19; refine (C21.out _).mono ?_; rintro e w21 ⟨rfl, hb1⟩; replace Y : Aside (P2 w21 _ _ _ _ ∧ P2 w21 _ _ _ _ ∧ P2 w21 _ _ _ _ ∧ Below w.heap.size w w21) := ⟨Y.out.1.later hb1, Y.out.2.1.later hb1, Y.out.2.2.1.later hb1, below_step Y.out.2.2.2 hb1⟩; clear hb1 c0 c1 e0 e1 d0 d1 z0 z1 y0 y1; obtain ⟨c0, c1⟩ := Y.out.1.cells; obtain ⟨e0, e1⟩ := Y.out.2.1.cells; obtain ⟨d0, d1⟩ := Y.out.2.2.1.cells; have z0 := Y.out.2.2.1.frozen 0; have z1 := Y.out.2.2.1.frozen 1; have y0 := Y.out.1.frozen 0; have y1 := Y.out.1.frozen 1) | (go_at_call 35; refine (C25.out _).mono ?_; rintro e w' ⟨rfl, rfl⟩) | (go_at_call 47; refine (C26.out _).mono ?_; rintro e w' ⟨rfl, rfl⟩))
            exact bodyPost_ret (results_cell2 rfl rfl (Try.isAgg25 _) (Try.sizeOf25 _) (load_two (Y.out.2.2.1.put _ _))) rfl ⟨rfl, below_put Y.out.2.2.2 (by omega) _ _⟩
          · have h1b : (v == 1000) = false := by simp [h1]
            have h3 := chS_one hs hh
            by_cases h2 : chS s false i = 0
            ·
              have E : appE v s false i = 10 := by unfold appE; rw [if_pos ⟨hr, hi⟩, if_neg (fun h => absurd h.1 (by decide)), if_neg (fun h => by rw [hh] at h; exact absurd h.2 (by decide)), if_neg h1, if_pos h2]
              have E1 : appV v s false i = 0 := by unfold appV; rw [E]; rfl
              have E2 : appS v s false i = 0 := by unfold appS; rw [E]; rfl
              rw [E, E1, E2]
              clear E E1 E2
              have h4 : (((sizeS s : Nat) : Int) == 1) = true := by rw [h3.2 h2]; rfl
              generalize sizeS s = z at C21 h4
              clear h2 h3
              rw [hh] at C22
              clear hh hr hi
              go_enter Try.func31, Try.ntmps31
              go_wp2_with fail
              rw [← hV]
              clear hV
              have Y := X
              clear X
              obtain ⟨c0, c1⟩ := Y.out.1.cells; obtain ⟨e0, e1⟩ := Y.out.2.1.cells; obtain ⟨d0, d1⟩ := Y.out.2.2.1.cells; have z0 := Y.out.2.2.1.frozen 0; have z1 := Y.out.2.2.1.frozen 1; have y0 := Y.out.1.frozen 0; have y1 := Y.out.1.frozen 1
              go_wp2_with (first | (go_at_call 23; refine (C22.out _).mono ?_; rintro e w' ⟨rfl, rfl⟩) | (go_at_call 46; refine (C13.out _).mono ?_; rintro e w13 ⟨rfl, hb1⟩; replace Y : Aside (P2 w13 _ _ _ _ ∧ P2 w13 _ _ _ _ ∧ P2 w13 _ _ _ _ ∧ Below w.heap.size w w13) := ⟨Y.out.1.later hb1, Y.out.2.1.later hb1, Y.out.2.2.1.later hb1, below_step Y.out.2.2.2 hb1⟩; clear hb1 c0 c1 e0 e1 d0 d1 z0 z1 y0 y1; obtain ⟨c0, c1⟩ := Y.out.1.cells; obtain ⟨e0, e1⟩ := Y.out.2.1.cells; obtain ⟨d0, d1⟩ := Y.out.2.2.1.cells; have z0 := Y.out.2.2.1.frozen 0; have z1 := Y.out.2.2.1.frozen 1; have y0 := Y.out.1.frozen 0; have y1 := Y.out.1.frozen 1) | (go_at_call 19; refine (C21.out _).mono ?_; rintro e w21 ⟨rfl, hb1⟩; replace Y : Aside (P2 w21 _ _ _ _ ∧ P2 w21 _ _ _ _ ∧ P2 w21 _ _ _ _ ∧ Below w.heap.size w w21) := ⟨Y.out.1.later hb1, Y.out.2.1.later hb1, Y.out.2.2.1.later hb1, below_step Y.out.2.2.2 hb1⟩; clear hb1 c0 c1 e0 e1 d0 d1 z0 z1 y0 y1; obtain ⟨c0, c1⟩ := Y.out.1.cells; obtain ⟨e0, e1⟩ := Y.out.2.1.cells; obtain ⟨d0, d1⟩ := Y.out.2.2.1.cells; have z0 := Y.out.2.2.1.frozen 0; have z1 := Y.out.2.2.1.frozen 1; have y0 := Y.out.1.frozen 0; have y1 := Y.out.1.frozen 1) | (go_at_call 35; refine (C25.out _).mono ?_; rintro e w' ⟨rfl, rfl⟩) | (go_at_call 47; refine (C26.out _).mono ?_; rintro e w' ⟨rfl, rfl⟩))
              exact bodyPost_ret (results_cell2 rfl rfl (Try.isAgg25 _) (Try.sizeOf25 _) (load_two (Y.out.2.2.1.put _ _))) rfl ⟨rfl, below_put Y.out.2.2.2 (by omega) _ _⟩
            ·
              have E : appE v s false i = 0 := by unfold appE; rw [if_pos ⟨hr, hi⟩, if_neg (fun h => absurd h.1 (by decide)), if_neg (fun h => by rw [hh] at h; exact absurd h.2 (by decide)), if_neg h1, if_neg h2]
              have E1 : appV v s false i = v + 1 := by unfold appV; rw [if_pos E]
              have E2 : appS v s false i = chS s false i := by unfold appS; rw [if_pos E]
              rw [E, E1, E2]
              clear E E1 E2
              have h4 : (((sizeS s : Nat) : Int) == 1) = false := by rw [beq_eq_false_iff_ne]; intro hz; exact h2 (h3.1 (by omega))
              have hq : wrap64 (v + 1) = v + 1 := IntWalk.wrap64_in _ ⟨by have := hv.out.1; omega, by have := hv.out.2; omega⟩
              clear h2 h3
              generalize sizeS s = z at C21 h4
              generalize chS s false i = r at C26 ⊢
              rw [hh] at C22
              clear hh hr hi
              go_enter Try.func31, Try.ntmps31
              go_wp2_with fail
              rw [← hV]
              clear hV
              have Y := X
              clear X
              obtain ⟨c0, c1⟩ := Y.out.1.cells; obtain ⟨e0, e1⟩ := Y.out.2.1.cells; obtain ⟨d0, d1⟩ := Y.out.2.2.1.cells; have z0 := Y.out.2.2.1.frozen 0; have z1 := Y.out.2.2.1.frozen 1; have y0 := Y.out.1.frozen 0; have y1 := Y.out.1.frozen 1
              go_wp2_with (first | (go_at_call 23; refine (C22.out _).mono ?_; rintro e w' ⟨rfl, rfl⟩) | (go_at_call 46; refine (C13.out _).mono ?_; rintro e w13 ⟨rfl, hb1⟩; replace Y : Aside (P2 w13 _ _ _ _ ∧ P2 w13 _ _ _ _ ∧ P2 w13 _ _ _ _ ∧ Below w.heap.size w w13) := ⟨Y.out.1.later hb1, Y.out.2.1.later hb1, Y.out.2.2.1.later hb1, below_step Y.out.2.2.2 hb1⟩; clear hb1 c0 c1 e0 e1 d0 d1 z0 z1 y0 y1; obtain ⟨c0, c1⟩ := Y.out.1.cells; obtain ⟨e0, e1⟩ := Y.out.2.1.cells; obtain ⟨d0, d1⟩ := Y.out.2.2.1.cells; have z0 := Y.out.2.2.1.frozen 0; have z1 := Y.out.2.2.1.frozen 1; have y0 := Y.out.1.frozen 0; have y1 := Y.out.1.frozen 1) | (go_at_call 19; refine (C21.out _).mono ?_; rintro e w21 ⟨rfl, hb1⟩; replace Y : Aside (P2 w21 _ _ _ _ ∧ P2 w21 _ _ _ _ ∧ P2 w21 _ _ _ _ ∧ Below w.heap.size w w21) := ⟨Y.out.1.later hb1, Y.out.2.1.later hb1, Y.out.2.2.1.later hb1, below_step Y.out.2.2.2 hb1⟩; clear hb1 c0 c1 e0 e1 d0 d1 z0 z1 y0 y1; obtain ⟨c0, c1⟩ := Y.out.1.cells; obtain ⟨e0, e1⟩ := Y.out.2.1.cells; obtain ⟨d0, d1⟩ := Y.out.2.2.1.cells; have z0 := Y.out.2.2.1.frozen 0; have z1 := Y.out.2.2.1.frozen 1; have y0 := Y.out.1.frozen 0; have y1 := Y.out.1.frozen 1) | (go_at_call 35; refine (C25.out _).mono ?_; rintro e w' ⟨rfl, rfl⟩) | (go_at_call 47; refine (C26.out _).mono ?_; rintro e w' ⟨rfl, rfl⟩))
              exact bodyPost_ret (results_cell2 rfl rfl (Try.isAgg25 _) (Try.sizeOf25 _) (load_two (((Y.out.2.2.1.far (b' := w.heap.size) (by omega) _).far (b' := w.heap.size) (by omega) _).put _ _))) rfl ⟨rfl, below_put ((Y.out.2.2.2.setCell (p := ⟨w.heap.size, 0, none⟩) (Nat.le_refl _) _).setCell (p := ⟨w.heap.size, 1, none⟩) (Nat.le_refl _) _) (by omega) _ _⟩
    · have hi8 : (15 : Int) < (i : Int) := by omega
      have E : appE v s a i = 2 := by unfold appE; rw [if_neg (fun h => hi h.2)]
      have E1 : appV v s a i = 0 := by unfold appV; rw [E]; rfl
      have E2 : appS v s a i = 0 := by unfold appS; rw [E]; rfl
      rw [E, E1, E2]
      rw [hr] at C13
      generalize hasS s i = hh at C22
      clear hr hi E E1 E2
      go_enter Try.func31, Try.ntmps31
      go_wp2_with fail
      rw [← hV]
      clear hV
      have Y := X
      clear X
      obtain ⟨c0, c1⟩ := Y.out.1.cells; obtain ⟨e0, e1⟩ := Y.out.2.1.cells; obtain ⟨d0, d1⟩ := Y.out.2.2.1.cells; have z0 := Y.out.2.2.1.frozen 0; have z1 := Y.out.2.2.1.frozen 1; have y0 := Y.out.1.frozen 0; have y1 := Y.out.1.frozen 1
      go_wp2_with (first | (go_at_call 23; refine (C22.out _).mono ?_; rintro e w' ⟨rfl, rfl⟩) | (go_at_call 46; refine (C13.out _).mono ?_; rintro e w13 ⟨rfl, hb1⟩; replace Y : Aside (P2 w13 _ _ _ _ ∧ P2 w13 _ _ _ _ ∧ P2 w13 _ _ _ _ ∧ Below w.heap.size w w13) := ⟨Y.out.1.later hb1, Y.out.2.1.later hb1, Y.out.2.2.1.later hb1, below_step Y.out.2.2.2 hb1⟩; clear hb1 c0 c1 e0 e1 d0 d1 z0 z1 y0 y1; obtain ⟨c0, c1⟩ := Y.out.1.cells; obtain ⟨e0, e1⟩ := Y.out.2.1.cells; obtain ⟨d0, d1⟩ := Y.out.2.2.1.cells; have z0 := Y.out.2.2.1.frozen 0; have z1 := Y.out.2.2.1.frozen 1; have y0 := Y.out.1.frozen 0; have y1 := Y.out.1.frozen 1) | (go_at_call 19; refine (C21.out _).mono ?_; rintro e w21 ⟨rfl, hb1⟩; replace Y : Aside (P2 w21 _ _ _ _ ∧ P2 w21 _ _ _ _ ∧ P2 w21 _ _ _ _ ∧ Below w.heap.size w w21) := ⟨Y.out.1.later hb1, Y.out.2.1.later hb1, Y.out.2.2.1.later hb1, below_step Y.out.2.2.2 hb1⟩; clear hb1 c0 c1 e0 e1 d0 d1 z0 z1 y0 y1; obtain ⟨c0, c1⟩ := Y.out.1.cells; obtain ⟨e0, e1⟩ := Y.out.2.1.cells; obtain ⟨d0, d1⟩ := Y.out.2.2.1.cells; have z0 := Y.out.2.2.1.frozen 0; have z1 := Y.out.2.2.1.frozen 1; have y0 := Y.out.1.frozen 0; have y1 := Y.out.1.frozen 1) | (go_at_call 35; refine (C25.out _).mono ?_; rintro e w' ⟨rfl, rfl⟩) | (go_at_call 47; refine (C26.out _).mono ?_; rintro e w' ⟨rfl, rfl⟩))
      exact bodyPost_ret (results_cell2 rfl rfl (Try.isAgg25 _) (Try.sizeOf25 _) (load_two (Y.out.2.2.1.put _ _))) rfl ⟨rfl, below_put Y.out.2.2.2 (by omega) _ _⟩
  · have hr' : rightB v s = false := by simpa using hr
    have E : appE v s a i = 2 := by unfold appE; rw [if_neg (fun h => hr h.1)]
    have E1 : appV v s a i = 0 := by unfold appV; rw [E]; rfl
    have E2 : appS v s a i = 0 := by unfold appS; rw [E]; rfl
    rw [E, E1, E2]
    rw [hr'] at C13
    generalize hasS s i = hh at C22
    clear hr hr' E E1 E2
    go_enter Try.func31, Try.ntmps31
    go_wp2_with fail
    rw [← hV]
    clear hV
    have Y := X
    clear X
    obtain ⟨c0, c1⟩ := Y.out.1.cells; obtain ⟨e0, e1⟩ := Y.out.2.1.cells; obtain ⟨d0, d1⟩ := Y.out.2.2.1.cells; have z0 := Y.out.2.2.1.frozen 0; have z1 := Y.out.2.2.1.frozen 1; have y0 := Y.out.1.frozen 0; have y1 := Y.out.1.frozen 1
    go_wp2_with (first | (go_at_call 23; refine (C22.out _).mono ?_; rintro e w' ⟨rfl, rfl⟩) | (go_at_call 46; refine (C13.out _).mono ?_; rintro e w13 ⟨rfl, hb1⟩; replace Y : Aside (P2 w13 _ _ _ _ ∧ P2 w13 _ _ _ _ ∧ P2 w13 _ _ _ _ ∧ Below w.heap.size w w13) := ⟨Y.out.1.later hb1, Y.out.2.1.later hb1, Y.out.2.2.1.later hb1, below_step Y.out.2.2.2 hb1⟩; clear hb1 c0 c1 e0 e1 d0 d1 z0 z1 y0 y1; obtain ⟨c0, c1⟩ := Y.out.1.cells; obtain ⟨e0, e1⟩ := Y.out.2.1.cells; obtain ⟨d0, d1⟩ := Y.out.2.2.1.cells; have z0 := Y.out.2.2.1.frozen 0; have z1 := Y.out.2.2.1.frozen 1; have y0 := Y.out.1.frozen 0; have y1 := Y.out.1.frozen 1) | (go_at_call 19; refine (C21.out _).mono ?_; rintro e w21 ⟨rfl, hb1⟩; replace Y : Aside (P2 w21 _ _ _ _ ∧ P2 w21 _ _ _ _ ∧ P2 w21 _ _ _ _ ∧ Below w.heap.size w w21) := ⟨Y.out.1.later hb1, Y.out.2.1.later hb1, Y.out.2.2.1.later hb1, below_step Y.out.2.2.2 hb1⟩; clear hb1 c0 c1 e0 e1 d0 d1 z0 z1 y0 y1; obtain ⟨c0, c1⟩ := Y.out.1.cells; obtain ⟨e0, e1⟩ := Y.out.2.1.cells; obtain ⟨d0, d1⟩ := Y.out.2.2.1.cells; have z0 := Y.out.2.2.1.frozen 0; have z1 := Y.out.2.2.1.frozen 1; have y0 := Y.out.1.frozen 0; have y1 := Y.out.1.frozen 1) | (go_at_call 35; refine (C25.out _).mono ?_; rintro e w' ⟨rfl, rfl⟩) | (go_at_call 47; refine (C26.out _).mono ?_; rintro e w' ⟨rfl, rfl⟩))
    exact bodyPost_ret (results_cell2 rfl rfl (Try.isAgg25 _) (Try.sizeOf25 _) (load_two (Y.out.2.2.1.put _ _))) rfl ⟨rfl, below_put Y.out.2.2.2 (by omega) _ _⟩
end Rl
end Go.Proofs.Ytfjdopmjcddnlaa
