/- The walk of RollBack: there and back. -/
import Derived.Test.YtnheikkpnffinaaDoorRlQ
set_option linter.unusedVariables false
namespace Go.Proofs.YtnheikkpnffinaaDoor
open Go.RowKit
namespace Rl
open Cn

set_option maxHeartbeats 16000000 in
set_option maxRecDepth 100000 in
theorem back2 (v : Int) (s : Nat) (a : Option Addr) (n cap m : Nat) (L : List (Value × Value)) (pl : List (Int × Nat)) (ca b z : Bool) (ci : Nat) (w : World) (v1 : Int) (s1 : Nat) (gb of : Nat) (hw2 : wrap64 (v + 2) = v + 2)
    (CB : Aside (∀ W, Calls Tryd.prog 10 #[.agg #[.int .i64 v1, .int .u16 (s1 : Int)], .agg #[.bool (!ca), .int .u8 (ci : Int)]] W fun e w' => e = .returned (.tuple #[.agg #[.int .i64 (v + 2), .int .u16 (s : Int)], .int .i64 0]) ∧ Below W.heap.size W w'))
    (ha : a = some ⟨gb, of, none⟩) (h1 : ¬ (100 : Int) < (n : Int)) (h2 : ((n : Int) == 0) = false) (h2' : ¬ n = 0) (h3 : (0 : Int) < (n : Int)) (h4 : wrap64 ((n : Int) + 1) = (n : Int) + 1) (h5 : ((m : Int) == 0) = z) (h6 : (z == !b) = true) (h7 : (m : Int) ≤ (n : Int) + 1) (hm : m ≤ 101)
    (o0 : w.cell? ⟨gb, of, none⟩ = some (.bool ca)) (o1 : w.cell? ⟨gb, of + 1, none⟩ = some (.int .u8 (ci : Int)))
    (CA : Aside (∀ W, Calls Tryd.prog 10 #[.agg #[.int .i64 v, .int .u16 (s : Int)], .agg #[.bool ca, .int .u8 (ci : Int)]] W fun e w' => e = .returned (.tuple #[.agg #[.int .i64 v1, .int .u16 (s1 : Int)], .int .i64 0]) ∧ Below W.heap.size W w'))
    (C12 : Aside (∀ W, Calls Tryd.prog 12 #[.agg #[.int .i64 v, .int .u16 (s : Int)]] W fun e w' => e = .returned (.bool b) ∧ Below W.heap.size W w'))
    (C19 : Aside (∀ W, Below w.heap.size w W → Calls Tryd.prog 19 #[.slice a n cap] W fun e w' => ∃ a' c', e = .returned (.slice a' n c') ∧ At2 w' a' L ∧ Below W.heap.size W w' ∧ n ≤ c'))
    (C18 : Aside (∀ W g c, At2 W g L → Calls Tryd.prog 18 #[.agg #[.int .i64 v, .int .u16 (s : Int)], .slice g n c] W fun e w' => ∃ a' c', e = .returned (.slice a' m c') ∧ At2 w' a' (pl.map roP) ∧ Below W.heap.size W w' ∧ m ≤ c'))
    (ST : Aside (Steps pl m)) :
    Calls Tryd.prog 6 #[.agg #[.int .i64 v, .int .u16 (s : Int)], .slice a n cap] w fun e w' => e = .returned (.bool true) ∧ Below w.heap.size w w' := by
  subst ha
  have h3n : 0 < n := by omega
  have C9 : Aside (∀ W, _) := alive_any
  have OO : Aside (w.cell? ⟨gb, of, none⟩ = some (.bool ca) ∧ w.cell? ⟨gb, of + 1, none⟩ = some (.int .u8 (ci : Int)) ∧ gb < w.heap.size) := ⟨o0, o1, World.block_lt_of_cell? _ _ o0⟩
  clear o0 o1
  obtain ⟨V, hV⟩ : ∃ V, V = w.alloc (.cells #[.int .i64 v, .int .u16 (s : Int)] 25) := ⟨_, rfl⟩
  have X : Aside (P2 V w.heap.size 25 (.int .i64 v) (.int .u16 (s : Int)) ∧ Below w.heap.size w V) := by
    rw [hV]
    exact ⟨P2.new w _ _ _, below_one w _⟩
  go_enter Tryd.func6, Tryd.ntmps6
  go_wp2_with fail
  rw [← hV]
  clear hV
  go_wp2_with (go_at_call 9; refine (C9.out _).mono ?_; rintro e w1 ⟨rfl, hb1⟩; have Y : Aside (P2 w1 w.heap.size 25 (.int .i64 v) (.int .u16 (s : Int)) ∧ Below w.heap.size w w1 ∧ w.heap.size < w1.heap.size) := ⟨X.out.1.later hb1, below_step X.out.2 hb1, (X.out.1.later hb1).lt⟩; clear hb1)
  obtain ⟨c0, c1⟩ := Y.out.1.cells
  have o0 := cell_later Y.out.2.1 OO.out.1
  have o1 := cell_later Y.out.2.1 OO.out.2.1
  have BD : Aside (Below w1.heap.size w1 w1.drew) := (Below.refl _ w1).drew
  have BA : Aside (Below w1.heap.size w1 (w1.alloc (.cells #[.int .i64 0, .int .u16 0] 29)).drew) := ((Below.refl _ w1).alloc (Nat.le_refl _) _).drew
  go_region_held3 (fun w' => w'.cell? ⟨w.heap.size, 0, none⟩ = some (.int .i64 v) ∧ w'.cell? ⟨w.heap.size, 1, none⟩ = some (.int .u16 (s : Int)) ∧ w'.cell? ⟨gb, of, none⟩ = some (.bool ca) ∧ w'.cell? ⟨gb, of + 1, none⟩ = some (.int .u8 (ci : Int)))
    (first | go_keep)
    (first
      | (go_at_call 10; (with_reducible refine (CA.out w1.drew).mono ?_); rintro e w2 ⟨rfl, hb1⟩; have Z : Aside (P2 w2 w.heap.size 25 (.int .i64 v) (.int .u16 (s : Int)) ∧ Below w.heap.size w w2) := ⟨Y.out.1.later (below_step BD.out hb1), below_step Y.out.2.1 (below_step BD.out hb1)⟩; clear hb1 c0 c1 o0 o1; obtain ⟨c0, c1⟩ := Z.out.1.cells; have o0 := cell_later Z.out.2 OO.out.1; have o1 := cell_later Z.out.2 OO.out.2.1)
      | (go_at_call 10; (with_reducible refine (CA.out (w1.alloc (.cells #[.int .i64 0, .int .u16 0] 29)).drew).mono ?_); rintro e w2 ⟨rfl, hb1⟩; have Z : Aside (P2 w2 w.heap.size 25 (.int .i64 v) (.int .u16 (s : Int)) ∧ Below w.heap.size w w2 ∧ P2 w2 w1.heap.size 29 (.int .i64 0) (.int .u16 0)) := ⟨Y.out.1.later (below_step BA.out hb1), below_step Y.out.2.1 (below_step BA.out hb1), ((P2.new w1 29 (.int .i64 0) (.int .u16 0)).later (Below.refl _ _).drew).later hb1⟩; clear hb1 c0 c1 o0 o1; obtain ⟨c0, c1⟩ := Z.out.1.cells; have o0 := cell_later Z.out.2.1 OO.out.1; have o1 := cell_later Z.out.2.1 OO.out.2.1; obtain ⟨d0, d1⟩ := Z.out.2.2.cells; have z0 := Z.out.2.2.frozen 0; have z1 := Z.out.2.2.frozen 1; have k0 : w.heap.size ≠ w1.heap.size := Nat.ne_of_lt Y.out.2.2; have k1 : gb ≠ w1.heap.size := Nat.ne_of_lt (Nat.lt_of_lt_of_le OO.out.2.2 Y.out.2.1.size); have k2 : w1.heap.size ≠ w.heap.size := fun h => k0 h.symm; have k3 : w1.heap.size ≠ gb := fun h => k1 h.symm)
      | fail)
  · refine (?_ : ∀ W, (P2 W w.heap.size 25 (.int .i64 v) (.int .u16 (s : Int)) ∧ P2 W w2.heap.size 29 (.int .i64 v1) (.int .u16 (s1 : Int)) ∧ Below w.heap.size w W) → Exit.then _ _ _ _ W) _ ⟨Z.out.1.alloc _, P2.new _ _ _ _, Z.out.2.alloc Z.out.2.size _⟩
    intro W hW
    generalize w2.heap.size = nb at hW ⊢
    have FW : Aside (P2 W w.heap.size 25 (.int .i64 v) (.int .u16 (s : Int)) ∧ P2 W nb 29 (.int .i64 v1) (.int .u16 (s1 : Int)) ∧ Below w.heap.size w W) := hW
    clear hW Z c0 c1 o0 o1 BD BA
    obtain ⟨d0, d1⟩ := FW.out.2.1.cells
    have o0 := cell_later FW.out.2.2 OO.out.1
    have o1 := cell_later FW.out.2.2 OO.out.2.1
    have lw : w.heap.size < W.heap.size := FW.out.1.lt
    have lb : nb < W.heap.size := FW.out.2.1.lt
    clear Y CA
    go_wp2_with fail
    have BD : Aside (Below W.heap.size W W.drew) := (Below.refl _ W).drew
    have BA : Aside (Below W.heap.size W (W.alloc (.cells #[.int .i64 0, .int .u16 0] 29)).drew) := ((Below.refl _ W).alloc (Nat.le_refl _) _).drew
    go_region_held3 (fun w' => w'.cell? ⟨nb, 0, none⟩ = some (.int .i64 v1) ∧ w'.cell? ⟨nb, 1, none⟩ = some (.int .u16 (s1 : Int)) ∧ w'.cell? ⟨gb, of, none⟩ = some (.bool ca) ∧ w'.cell? ⟨gb, of + 1, none⟩ = some (.int .u8 (ci : Int)))
      (first | go_keep)
      (first
        | (go_at_call 10; (with_reducible refine (CB.out W.drew).mono ?_); rintro e w2 ⟨rfl, hb1⟩; have Z : Aside (P2 w2 w.heap.size 25 (.int .i64 v) (.int .u16 (s : Int)) ∧ Below w.heap.size w w2 ∧ P2 w2 nb 29 (.int .i64 v1) (.int .u16 (s1 : Int))) := ⟨FW.out.1.later (below_step BD.out hb1), below_step FW.out.2.2 (below_step BD.out hb1), FW.out.2.1.later (below_step BD.out hb1)⟩; clear hb1 d0 d1 o0 o1; obtain ⟨d0, d1⟩ := Z.out.2.2.cells; have o0 := cell_later Z.out.2.1 OO.out.1; have o1 := cell_later Z.out.2.1 OO.out.2.1)
        | (go_at_call 10; (with_reducible refine (CB.out (W.alloc (.cells #[.int .i64 0, .int .u16 0] 29)).drew).mono ?_); rintro e w2 ⟨rfl, hb1⟩; have Z : Aside (P2 w2 w.heap.size 25 (.int .i64 v) (.int .u16 (s : Int)) ∧ Below w.heap.size w w2 ∧ P2 w2 nb 29 (.int .i64 v1) (.int .u16 (s1 : Int)) ∧ P2 w2 W.heap.size 29 (.int .i64 0) (.int .u16 0)) := ⟨FW.out.1.later (below_step BA.out hb1), below_step FW.out.2.2 (below_step BA.out hb1), FW.out.2.1.later (below_step BA.out hb1), ((P2.new W 29 (.int .i64 0) (.int .u16 0)).later (Below.refl _ _).drew).later hb1⟩; clear hb1 d0 d1 o0 o1; obtain ⟨d0, d1⟩ := Z.out.2.2.1.cells; have o0 := cell_later Z.out.2.1 OO.out.1; have o1 := cell_later Z.out.2.1 OO.out.2.1; obtain ⟨f0, f1⟩ := Z.out.2.2.2.cells; have z0 := Z.out.2.2.2.frozen 0; have z1 := Z.out.2.2.2.frozen 1; have k0 : nb ≠ W.heap.size := Nat.ne_of_lt lb; have k1 : gb ≠ W.heap.size := Nat.ne_of_lt (Nat.lt_of_lt_of_le OO.out.2.2 FW.out.2.2.size); have k2 : W.heap.size ≠ nb := fun h => k0 h.symm; have k3 : W.heap.size ≠ gb := fun h => k1 h.symm)
        | fail)
    · refine (?_ : ∀ W1, (P2 W1 w.heap.size 25 (.int .i64 v) (.int .u16 (s : Int)) ∧ P2 W1 w2.heap.size 29 (.int .i64 (v + 2)) (.int .u16 (s : Int)) ∧ Below w.heap.size w W1) → Exit.then _ _ _ _ W1) _ ⟨Z.out.1.alloc _, P2.new _ _ _ _, Z.out.2.1.alloc Z.out.2.1.size _⟩
      intro W1 hW
      generalize w2.heap.size = nb2 at hW ⊢
      have FQ : Aside (P2 W1 w.heap.size 25 (.int .i64 v) (.int .u16 (s : Int)) ∧ P2 W1 nb2 29 (.int .i64 (v + 2)) (.int .u16 (s : Int)) ∧ Below w.heap.size w W1) := hW
      clear hW Z d0 d1 o0 o1 BD BA
      have FW2 := FQ
      clear FQ lw lb
      obtain ⟨c0, c1⟩ := FW2.out.1.cells
      obtain ⟨d0, d1⟩ := FW2.out.2.1.cells
      go_wp2_with fail
      clear c0 c1 d0 d1 FW
      obtain ⟨c0, c1⟩ := FW2.out.1.cells
      have BQ : Aside (Below w.heap.size w W1.drew) := FW2.out.2.2.drew
      go_region_held3 (fun w' => w'.cell? ⟨w.heap.size, 0, none⟩ = some (.int .i64 v) ∧ w'.cell? ⟨w.heap.size, 1, none⟩ = some (.int .u16 (s : Int)))
        (first | go_keep)
        (first
          | (go_at_call 19; (with_reducible refine (C19.out W1.drew BQ.out).mono ?_); rintro e w3 ⟨g1, j1, rfl, hg, hb, -⟩; have Z3 : Aside (At2 w3 g1 L ∧ P2 w3 w.heap.size 25 (.int .i64 v) (.int .u16 (s : Int)) ∧ Below w.heap.size w w3) := ⟨hg, (FW2.out.1.later (Below.refl _ _).drew).later hb, below_step BQ.out hb⟩; clear hg hb c0 c1; obtain ⟨c0, c1⟩ := Z3.out.2.1.cells)
          | (go_at_call 18; (with_reducible refine (C18.out w3 g1 j1 Z3.out.1).mono ?_); rintro e w4 ⟨g2, j2, rfl, hg, hb, -⟩; have Z4 : Aside (At2 w4 g2 (pl.map roP) ∧ P2 w4 w.heap.size 25 (.int .i64 v) (.int .u16 (s : Int)) ∧ Below w.heap.size w w4) := ⟨hg, Z3.out.2.1.later hb, below_step Z3.out.2.2 hb⟩; clear hg hb c0 c1; obtain ⟨c0, c1⟩ := Z4.out.2.1.cells)
          | fail)
      clear c0 c1 BQ
      refine (?_ : ∀ U, (At2 U g2 (pl.map roP) ∧ P2 U w.heap.size 25 (.int .i64 v) (.int .u16 (s : Int)) ∧ Below w.heap.size w U) → Exit.then _ _ _ _ U) _ Z4.out
      intro U hU
      have FU : Aside (At2 U g2 (pl.map roP) ∧ P2 U w.heap.size 25 (.int .i64 v) (.int .u16 (s : Int)) ∧ Below w.heap.size w U) := hU
      clear hU Z4 Z3 FW2 C19 C18 CB
      go_wp2_with fail
      go_loopw [10] (fun i wr => ∃ j : Nat, j ≤ m ∧ i = .int .i64 ((j : Int) + 1) ∧ Aside (At2 wr g2 (pl.map roP) ∧ P2 wr w.heap.size 25 (.int .i64 v) (.int .u16 (s : Int)) ∧ Below w.heap.size w wr)) (fun i _ => m + 1 - (intOf i).toNat)
      case atStart => exact ⟨0, Nat.zero_le _, rfl, FU⟩
      case round =>
        obtain ⟨j, hj, rfl, HC⟩ := hrel
        by_cases hlt : j + 1 < m
        · have t1 : (j : Int) + 1 < (m : Int) := by omega
          have t2 : (j : Int) < (m : Int) := by omega
          have t3 : (0 : Int) ≤ (j : Int) := by omega
          have t4 : (0 : Int) ≤ (j : Int) + 1 := by omega
          obtain ⟨a1, b1, b2, x, h10, h11, k0, k1, k2, k3, k4, k5, k6, k7⟩ := ST.out j hlt
          obtain ⟨gp, fp, rfl, x0, x1⟩ := HC.out.1.cell (k := j) (x := .int .i64 a1) (y := .int .u16 (b1 : Int)) (by rw [List.getElem?_map, h10]; rfl)
          obtain ⟨gp', fp', e', y0, y1⟩ := HC.out.1.cell (k := j + 1) (x := .int .i64 (a1 + 1)) (y := .int .u16 (b2 : Int)) (by rw [List.getElem?_map, h11]; rfl)
          cases e'
          have hx := u16_xor_nat b2 b1 k3 k2
          rw [k5] at hx
          have C21 : Aside (∀ W, Calls Tryd.prog 21 #[.int .u16 (x : Int)] W fun e w' => e = .returned (.int .i64 1) ∧ Below W.heap.size W w') := fun W => by
            have := rsize_any x W k7
            rw [k6] at this
            exact this
          have NN : Aside _ := step_nums (j := j) k0 k1 k4 (by omega)
          have p0 : ∀ p : Bw wr, p.w'.cell? ⟨gp, fp + j * 2, none⟩ = some (.int .i64 a1) := fun p => cell_later p.h x0
          have p1 : ∀ p : Bw wr, p.w'.cell? ⟨gp, fp + j * 2 + 1, none⟩ = some (.int .u16 (b1 : Int)) := fun p => cell_later p.h x1
          have p2 : ∀ p : Bw wr, p.w'.cell? ⟨gp, fp + (j + 1) * 2, none⟩ = some (.int .i64 (a1 + 1)) := fun p => cell_later p.h y0
          have p3 : ∀ p : Bw wr, p.w'.cell? ⟨gp, fp + (j + 1) * 2 + 1, none⟩ = some (.int .u16 (b2 : Int)) := fun p => cell_later p.h y1
          clear x0 x1 y0 y1 h10 h11 k0 k1 k2 k3 k4 k5 k6 k7
          have n1 := NN.out.1
          have n2 := NN.out.2.1
          have n3 := NN.out.2.2.1
          have n4 := NN.out.2.2.2.1
          have n5 := NN.out.2.2.2.2
          go_wp2_with fail
          have hne := Bw.some wr
          refine wp_region_wq (by kernel_rfl) (by kernel_rfl) ?_
          repeat (refine wq_step (fun K hK => ?_); go_simp; first
            | (refine hK _ ?_; clear hK K)
            | (apply Exists.intro; refine ⟨fun _ => ?_, hK _ ?_⟩; (go_at_call 21; with_reducible exact Calls.bw_of (C21.out _)); clear hK K))
          refine wq_nil ?_
          intro _ hw'
          obtain ⟨pq, hw''⟩ := hw'
          subst hw''
          have NX : Aside (At2 pq.w' _ _ ∧ P2 pq.w' _ _ _ _ ∧ Below w.heap.size w pq.w') := ⟨HC.out.1.later pq.h, HC.out.2.1.later pq.h, below_step HC.out.2.2 pq.h⟩
          clear p0 p1 p2 p3 n1 n2 n3 n4 n5 NN hx C21
          go_wp2
          go_roundw
          case rel => exact ⟨j + 1, by omega, by go_num, NX⟩
          case measure => simp [intOf]; omega
        · have t1 : ¬ (j : Int) + 1 < (m : Int) := by omega
          obtain ⟨c0, c1⟩ := HC.out.2.1.cells
          go_wp2_with (go_at_call 12; refine (C12.out _).mono ?_; rintro e w9 ⟨rfl, hb9⟩; have B9 : Aside (Below w.heap.size w w9) := below_step HC.out.2.2 hb9; clear hb9)
          go_ret
          exact ⟨rfl, B9.out⟩

    · refine (?_ : ∀ W1, (P2 W1 w.heap.size 25 (.int .i64 v) (.int .u16 (s : Int)) ∧ P2 W1 W.heap.size 29 (.int .i64 (v + 2)) (.int .u16 (s : Int)) ∧ Below w.heap.size w W1) → Exit.then _ _ _ _ W1) _ ⟨(Z.out.1.far (Nat.ne_of_lt lw) _).far (Nat.ne_of_lt lw) _, Z.out.2.2.2.put _ _, below_put Z.out.2.1 (Nat.le_of_lt lw) _ _⟩
      intro W1 hW
      generalize W.heap.size = nb2 at hW ⊢
      have FQ : Aside (P2 W1 w.heap.size 25 (.int .i64 v) (.int .u16 (s : Int)) ∧ P2 W1 nb2 29 (.int .i64 (v + 2)) (.int .u16 (s : Int)) ∧ Below w.heap.size w W1) := hW
      clear hW Z d0 d1 f0 f1 o0 o1 z0 z1 k0 k1 k2 k3 BD BA
      have FW2 := FQ
      clear FQ lw lb
      obtain ⟨c0, c1⟩ := FW2.out.1.cells
      obtain ⟨d0, d1⟩ := FW2.out.2.1.cells
      go_wp2_with fail
      clear c0 c1 d0 d1 FW
      obtain ⟨c0, c1⟩ := FW2.out.1.cells
      have BQ : Aside (Below w.heap.size w W1.drew) := FW2.out.2.2.drew
      go_region_held3 (fun w' => w'.cell? ⟨w.heap.size, 0, none⟩ = some (.int .i64 v) ∧ w'.cell? ⟨w.heap.size, 1, none⟩ = some (.int .u16 (s : Int)))
        (first | go_keep)
        (first
          | (go_at_call 19; (with_reducible refine (C19.out W1.drew BQ.out).mono ?_); rintro e w3 ⟨g1, j1, rfl, hg, hb, -⟩; have Z3 : Aside (At2 w3 g1 L ∧ P2 w3 w.heap.size 25 (.int .i64 v) (.int .u16 (s : Int)) ∧ Below w.heap.size w w3) := ⟨hg, (FW2.out.1.later (Below.refl _ _).drew).later hb, below_step BQ.out hb⟩; clear hg hb c0 c1; obtain ⟨c0, c1⟩ := Z3.out.2.1.cells)
          | (go_at_call 18; (with_reducible refine (C18.out w3 g1 j1 Z3.out.1).mono ?_); rintro e w4 ⟨g2, j2, rfl, hg, hb, -⟩; have Z4 : Aside (At2 w4 g2 (pl.map roP) ∧ P2 w4 w.heap.size 25 (.int .i64 v) (.int .u16 (s : Int)) ∧ Below w.heap.size w w4) := ⟨hg, Z3.out.2.1.later hb, below_step Z3.out.2.2 hb⟩; clear hg hb c0 c1; obtain ⟨c0, c1⟩ := Z4.out.2.1.cells)
          | fail)
      clear c0 c1 BQ
      refine (?_ : ∀ U, (At2 U g2 (pl.map roP) ∧ P2 U w.heap.size 25 (.int .i64 v) (.int .u16 (s : Int)) ∧ Below w.heap.size w U) → Exit.then _ _ _ _ U) _ Z4.out
      intro U hU
      have FU : Aside (At2 U g2 (pl.map roP) ∧ P2 U w.heap.size 25 (.int .i64 v) (.int .u16 (s : Int)) ∧ Below w.heap.size w U) := hU
      clear hU Z4 Z3 FW2 C19 C18 CB
      go_wp2_with fail
      go_loopw [10] (fun i wr => ∃ j : Nat, j ≤ m ∧ i = .int .i64 ((j : Int) + 1) ∧ Aside (At2 wr g2 (pl.map roP) ∧ P2 wr w.heap.size 25 (.int .i64 v) (.int .u16 (s : Int)) ∧ Below w.heap.size w wr)) (fun i _ => m + 1 - (intOf i).toNat)
      case atStart => exact ⟨0, Nat.zero_le _, rfl, FU⟩
      case round =>
        obtain ⟨j, hj, rfl, HC⟩ := hrel
        by_cases hlt : j + 1 < m
        · have t1 : (j : Int) + 1 < (m : Int) := by omega
          have t2 : (j : Int) < (m : Int) := by omega
          have t3 : (0 : Int) ≤ (j : Int) := by omega
          have t4 : (0 : Int) ≤ (j : Int) + 1 := by omega
          obtain ⟨a1, b1, b2, x, h10, h11, k0, k1, k2, k3, k4, k5, k6, k7⟩ := ST.out j hlt
          obtain ⟨gp, fp, rfl, x0, x1⟩ := HC.out.1.cell (k := j) (x := .int .i64 a1) (y := .int .u16 (b1 : Int)) (by rw [List.getElem?_map, h10]; rfl)
          obtain ⟨gp', fp', e', y0, y1⟩ := HC.out.1.cell (k := j + 1) (x := .int .i64 (a1 + 1)) (y := .int .u16 (b2 : Int)) (by rw [List.getElem?_map, h11]; rfl)
          cases e'
          have hx := u16_xor_nat b2 b1 k3 k2
          rw [k5] at hx
          have C21 : Aside (∀ W, Calls Tryd.prog 21 #[.int .u16 (x : Int)] W fun e w' => e = .returned (.int .i64 1) ∧ Below W.heap.size W w') := fun W => by
            have := rsize_any x W k7
            rw [k6] at this
            exact this
          have NN : Aside _ := step_nums (j := j) k0 k1 k4 (by omega)
          have p0 : ∀ p : Bw wr, p.w'.cell? ⟨gp, fp + j * 2, none⟩ = some (.int .i64 a1) := fun p => cell_later p.h x0
          have p1 : ∀ p : Bw wr, p.w'.cell? ⟨gp, fp + j * 2 + 1, none⟩ = some (.int .u16 (b1 : Int)) := fun p => cell_later p.h x1
          have p2 : ∀ p : Bw wr, p.w'.cell? ⟨gp, fp + (j + 1) * 2, none⟩ = some (.int .i64 (a1 + 1)) := fun p => cell_later p.h y0
          have p3 : ∀ p : Bw wr, p.w'.cell? ⟨gp, fp + (j + 1) * 2 + 1, none⟩ = some (.int .u16 (b2 : Int)) := fun p => cell_later p.h y1
          clear x0 x1 y0 y1 h10 h11 k0 k1 k2 k3 k4 k5 k6 k7
          have n1 := NN.out.1
          have n2 := NN.out.2.1
          have n3 := NN.out.2.2.1
          have n4 := NN.out.2.2.2.1
          have n5 := NN.out.2.2.2.2
          go_wp2_with fail
          have hne := Bw.some wr
          refine wp_region_wq (by kernel_rfl) (by kernel_rfl) ?_
          repeat (refine wq_step (fun K hK => ?_); go_simp; first
            | (refine hK _ ?_; clear hK K)
            | (apply Exists.intro; refine ⟨fun _ => ?_, hK _ ?_⟩; (go_at_call 21; with_reducible exact Calls.bw_of (C21.out _)); clear hK K))
          refine wq_nil ?_
          intro _ hw'
          obtain ⟨pq, hw''⟩ := hw'
          subst hw''
          have NX : Aside (At2 pq.w' _ _ ∧ P2 pq.w' _ _ _ _ ∧ Below w.heap.size w pq.w') := ⟨HC.out.1.later pq.h, HC.out.2.1.later pq.h, below_step HC.out.2.2 pq.h⟩
          clear p0 p1 p2 p3 n1 n2 n3 n4 n5 NN hx C21
          go_wp2
          go_roundw
          case rel => exact ⟨j + 1, by omega, by go_num, NX⟩
          case measure => simp [intOf]; omega
        · have t1 : ¬ (j : Int) + 1 < (m : Int) := by omega
          obtain ⟨c0, c1⟩ := HC.out.2.1.cells
          go_wp2_with (go_at_call 12; refine (C12.out _).mono ?_; rintro e w9 ⟨rfl, hb9⟩; have B9 : Aside (Below w.heap.size w w9) := below_step HC.out.2.2 hb9; clear hb9)
          go_ret
          exact ⟨rfl, B9.out⟩


  · refine (?_ : ∀ W, (P2 W w.heap.size 25 (.int .i64 v) (.int .u16 (s : Int)) ∧ P2 W w1.heap.size 29 (.int .i64 v1) (.int .u16 (s1 : Int)) ∧ Below w.heap.size w W) → Exit.then _ _ _ _ W) _ ⟨(Z.out.1.far k0 _).far k0 _, Z.out.2.2.put _ _, below_put Z.out.2.1 (Nat.le_of_lt Y.out.2.2) _ _⟩
    intro W hW
    generalize w1.heap.size = nb at hW ⊢
    have FW : Aside (P2 W w.heap.size 25 (.int .i64 v) (.int .u16 (s : Int)) ∧ P2 W nb 29 (.int .i64 v1) (.int .u16 (s1 : Int)) ∧ Below w.heap.size w W) := hW
    clear hW Z c0 c1 o0 o1 d0 d1 z0 z1 k0 k1 k2 k3 BD BA
    obtain ⟨d0, d1⟩ := FW.out.2.1.cells
    have o0 := cell_later FW.out.2.2 OO.out.1
    have o1 := cell_later FW.out.2.2 OO.out.2.1
    have lw : w.heap.size < W.heap.size := FW.out.1.lt
    have lb : nb < W.heap.size := FW.out.2.1.lt
    clear Y CA
    go_wp2_with fail
    have BD : Aside (Below W.heap.size W W.drew) := (Below.refl _ W).drew
    have BA : Aside (Below W.heap.size W (W.alloc (.cells #[.int .i64 0, .int .u16 0] 29)).drew) := ((Below.refl _ W).alloc (Nat.le_refl _) _).drew
    go_region_held3 (fun w' => w'.cell? ⟨nb, 0, none⟩ = some (.int .i64 v1) ∧ w'.cell? ⟨nb, 1, none⟩ = some (.int .u16 (s1 : Int)) ∧ w'.cell? ⟨gb, of, none⟩ = some (.bool ca) ∧ w'.cell? ⟨gb, of + 1, none⟩ = some (.int .u8 (ci : Int)))
      (first | go_keep)
      (first
        | (go_at_call 10; (with_reducible refine (CB.out W.drew).mono ?_); rintro e w2 ⟨rfl, hb1⟩; have Z : Aside (P2 w2 w.heap.size 25 (.int .i64 v) (.int .u16 (s : Int)) ∧ Below w.heap.size w w2 ∧ P2 w2 nb 29 (.int .i64 v1) (.int .u16 (s1 : Int))) := ⟨FW.out.1.later (below_step BD.out hb1), below_step FW.out.2.2 (below_step BD.out hb1), FW.out.2.1.later (below_step BD.out hb1)⟩; clear hb1 d0 d1 o0 o1; obtain ⟨d0, d1⟩ := Z.out.2.2.cells; have o0 := cell_later Z.out.2.1 OO.out.1; have o1 := cell_later Z.out.2.1 OO.out.2.1)
        | (go_at_call 10; (with_reducible refine (CB.out (W.alloc (.cells #[.int .i64 0, .int .u16 0] 29)).drew).mono ?_); rintro e w2 ⟨rfl, hb1⟩; have Z : Aside (P2 w2 w.heap.size 25 (.int .i64 v) (.int .u16 (s : Int)) ∧ Below w.heap.size w w2 ∧ P2 w2 nb 29 (.int .i64 v1) (.int .u16 (s1 : Int)) ∧ P2 w2 W.heap.size 29 (.int .i64 0) (.int .u16 0)) := ⟨FW.out.1.later (below_step BA.out hb1), below_step FW.out.2.2 (below_step BA.out hb1), FW.out.2.1.later (below_step BA.out hb1), ((P2.new W 29 (.int .i64 0) (.int .u16 0)).later (Below.refl _ _).drew).later hb1⟩; clear hb1 d0 d1 o0 o1; obtain ⟨d0, d1⟩ := Z.out.2.2.1.cells; have o0 := cell_later Z.out.2.1 OO.out.1; have o1 := cell_later Z.out.2.1 OO.out.2.1; obtain ⟨f0, f1⟩ := Z.out.2.2.2.cells; have z0 := Z.out.2.2.2.frozen 0; have z1 := Z.out.2.2.2.frozen 1; have k0 : nb ≠ W.heap.size := Nat.ne_of_lt lb; have k1 : gb ≠ W.heap.size := Nat.ne_of_lt (Nat.lt_of_lt_of_le OO.out.2.2 FW.out.2.2.size); have k2 : W.heap.size ≠ nb := fun h => k0 h.symm; have k3 : W.heap.size ≠ gb := fun h => k1 h.symm)
        | fail)
    · refine (?_ : ∀ W1, (P2 W1 w.heap.size 25 (.int .i64 v) (.int .u16 (s : Int)) ∧ P2 W1 w2.heap.size 29 (.int .i64 (v + 2)) (.int .u16 (s : Int)) ∧ Below w.heap.size w W1) → Exit.then _ _ _ _ W1) _ ⟨Z.out.1.alloc _, P2.new _ _ _ _, Z.out.2.1.alloc Z.out.2.1.size _⟩
      intro W1 hW
      generalize w2.heap.size = nb2 at hW ⊢
      have FQ : Aside (P2 W1 w.heap.size 25 (.int .i64 v) (.int .u16 (s : Int)) ∧ P2 W1 nb2 29 (.int .i64 (v + 2)) (.int .u16 (s : Int)) ∧ Below w.heap.size w W1) := hW
      clear hW Z d0 d1 o0 o1 BD BA
      have FW2 := FQ
      clear FQ lw lb
      obtain ⟨c0, c1⟩ := FW2.out.1.cells
      obtain ⟨d0, d1⟩ := FW2.out.2.1.cells
      go_wp2_with fail
      clear c0 c1 d0 d1 FW
      obtain ⟨c0, c1⟩ := FW2.out.1.cells
      have BQ : Aside (Below w.heap.size w W1.drew) := FW2.out.2.2.drew
      go_region_held3 (fun w' => w'.cell? ⟨w.heap.size, 0, none⟩ = some (.int .i64 v) ∧ w'.cell? ⟨w.heap.size, 1, none⟩ = some (.int .u16 (s : Int)))
        (first | go_keep)
        (first
          | (go_at_call 19; (with_reducible refine (C19.out W1.drew BQ.out).mono ?_); rintro e w3 ⟨g1, j1, rfl, hg, hb, -⟩; have Z3 : Aside (At2 w3 g1 L ∧ P2 w3 w.heap.size 25 (.int .i64 v) (.int .u16 (s : Int)) ∧ Below w.heap.size w w3) := ⟨hg, (FW2.out.1.later (Below.refl _ _).drew).later hb, below_step BQ.out hb⟩; clear hg hb c0 c1; obtain ⟨c0, c1⟩ := Z3.out.2.1.cells)
          | (go_at_call 18; (with_reducible refine (C18.out w3 g1 j1 Z3.out.1).mono ?_); rintro e w4 ⟨g2, j2, rfl, hg, hb, -⟩; have Z4 : Aside (At2 w4 g2 (pl.map roP) ∧ P2 w4 w.heap.size 25 (.int .i64 v) (.int .u16 (s : Int)) ∧ Below w.heap.size w w4) := ⟨hg, Z3.out.2.1.later hb, below_step Z3.out.2.2 hb⟩; clear hg hb c0 c1; obtain ⟨c0, c1⟩ := Z4.out.2.1.cells)
          | fail)
      clear c0 c1 BQ
      refine (?_ : ∀ U, (At2 U g2 (pl.map roP) ∧ P2 U w.heap.size 25 (.int .i64 v) (.int .u16 (s : Int)) ∧ Below w.heap.size w U) → Exit.then _ _ _ _ U) _ Z4.out
      intro U hU
      have FU : Aside (At2 U g2 (pl.map roP) ∧ P2 U w.heap.size 25 (.int .i64 v) (.int .u16 (s : Int)) ∧ Below w.heap.size w U) := hU
      clear hU Z4 Z3 FW2 C19 C18 CB
      go_wp2_with fail
      go_loopw [10] (fun i wr => ∃ j : Nat, j ≤ m ∧ i = .int .i64 ((j : Int) + 1) ∧ Aside (At2 wr g2 (pl.map roP) ∧ P2 wr w.heap.size 25 (.int .i64 v) (.int .u16 (s : Int)) ∧ Below w.heap.size w wr)) (fun i _ => m + 1 - (intOf i).toNat)
      case atStart => exact ⟨0, Nat.zero_le _, rfl, FU⟩
      case round =>
        obtain ⟨j, hj, rfl, HC⟩ := hrel
        by_cases hlt : j + 1 < m
        · have t1 : (j : Int) + 1 < (m : Int) := by omega
          have t2 : (j : Int) < (m : Int) := by omega
          have t3 : (0 : Int) ≤ (j : Int) := by omega
          have t4 : (0 : Int) ≤ (j : Int) + 1 := by omega
          obtain ⟨a1, b1, b2, x, h10, h11, k0, k1, k2, k3, k4, k5, k6, k7⟩ := ST.out j hlt
          obtain ⟨gp, fp, rfl, x0, x1⟩ := HC.out.1.cell (k := j) (x := .int .i64 a1) (y := .int .u16 (b1 : Int)) (by rw [List.getElem?_map, h10]; rfl)
          obtain ⟨gp', fp', e', y0, y1⟩ := HC.out.1.cell (k := j + 1) (x := .int .i64 (a1 + 1)) (y := .int .u16 (b2 : Int)) (by rw [List.getElem?_map, h11]; rfl)
          cases e'
          have hx := u16_xor_nat b2 b1 k3 k2
          rw [k5] at hx
          have C21 : Aside (∀ W, Calls Tryd.prog 21 #[.int .u16 (x : Int)] W fun e w' => e = .returned (.int .i64 1) ∧ Below W.heap.size W w') := fun W => by
            have := rsize_any x W k7
            rw [k6] at this
            exact this
          have NN : Aside _ := step_nums (j := j) k0 k1 k4 (by omega)
          have p0 : ∀ p : Bw wr, p.w'.cell? ⟨gp, fp + j * 2, none⟩ = some (.int .i64 a1) := fun p => cell_later p.h x0
          have p1 : ∀ p : Bw wr, p.w'.cell? ⟨gp, fp + j * 2 + 1, none⟩ = some (.int .u16 (b1 : Int)) := fun p => cell_later p.h x1
          have p2 : ∀ p : Bw wr, p.w'.cell? ⟨gp, fp + (j + 1) * 2, none⟩ = some (.int .i64 (a1 + 1)) := fun p => cell_later p.h y0
          have p3 : ∀ p : Bw wr, p.w'.cell? ⟨gp, fp + (j + 1) * 2 + 1, none⟩ = some (.int .u16 (b2 : Int)) := fun p => cell_later p.h y1
          clear x0 x1 y0 y1 h10 h11 k0 k1 k2 k3 k4 k5 k6 k7
          have n1 := NN.out.1
          have n2 := NN.out.2.1
          have n3 := NN.out.2.2.1
          have n4 := NN.out.2.2.2.1
          have n5 := NN.out.2.2.2.2
          go_wp2_with fail
          have hne := Bw.some wr
          refine wp_region_wq (by kernel_rfl) (by kernel_rfl) ?_
          repeat (refine wq_step (fun K hK => ?_); go_simp; first
            | (refine hK _ ?_; clear hK K)
            | (apply Exists.intro; refine ⟨fun _ => ?_, hK _ ?_⟩; (go_at_call 21; with_reducible exact Calls.bw_of (C21.out _)); clear hK K))
          refine wq_nil ?_
          intro _ hw'
          obtain ⟨pq, hw''⟩ := hw'
          subst hw''
          have NX : Aside (At2 pq.w' _ _ ∧ P2 pq.w' _ _ _ _ ∧ Below w.heap.size w pq.w') := ⟨HC.out.1.later pq.h, HC.out.2.1.later pq.h, below_step HC.out.2.2 pq.h⟩
          clear p0 p1 p2 p3 n1 n2 n3 n4 n5 NN hx C21
          go_wp2
          go_roundw
          case rel => exact ⟨j + 1, by omega, by go_num, NX⟩
          case measure => simp [intOf]; omega
        · have t1 : ¬ (j : Int) + 1 < (m : Int) := by omega
          obtain ⟨c0, c1⟩ := HC.out.2.1.cells
          go_wp2_with (go_at_call 12; refine (C12.out _).mono ?_; rintro e w9 ⟨rfl, hb9⟩; have B9 : Aside (Below w.heap.size w w9) := below_step HC.out.2.2 hb9; clear hb9)
          go_ret
          exact ⟨rfl, B9.out⟩

    · refine (?_ : ∀ W1, (P2 W1 w.heap.size 25 (.int .i64 v) (.int .u16 (s : Int)) ∧ P2 W1 W.heap.size 29 (.int .i64 (v + 2)) (.int .u16 (s : Int)) ∧ Below w.heap.size w W1) → Exit.then _ _ _ _ W1) _ ⟨(Z.out.1.far (Nat.ne_of_lt lw) _).far (Nat.ne_of_lt lw) _, Z.out.2.2.2.put _ _, below_put Z.out.2.1 (Nat.le_of_lt lw) _ _⟩
      intro W1 hW
      generalize W.heap.size = nb2 at hW ⊢
      have FQ : Aside (P2 W1 w.heap.size 25 (.int .i64 v) (.int .u16 (s : Int)) ∧ P2 W1 nb2 29 (.int .i64 (v + 2)) (.int .u16 (s : Int)) ∧ Below w.heap.size w W1) := hW
      clear hW Z d0 d1 f0 f1 o0 o1 z0 z1 k0 k1 k2 k3 BD BA
      have FW2 := FQ
      clear FQ lw lb
      obtain ⟨c0, c1⟩ := FW2.out.1.cells
      obtain ⟨d0, d1⟩ := FW2.out.2.1.cells
      go_wp2_with fail
      clear c0 c1 d0 d1 FW
      obtain ⟨c0, c1⟩ := FW2.out.1.cells
      have BQ : Aside (Below w.heap.size w W1.drew) := FW2.out.2.2.drew
      go_region_held3 (fun w' => w'.cell? ⟨w.heap.size, 0, none⟩ = some (.int .i64 v) ∧ w'.cell? ⟨w.heap.size, 1, none⟩ = some (.int .u16 (s : Int)))
        (first | go_keep)
        (first
          | (go_at_call 19; (with_reducible refine (C19.out W1.drew BQ.out).mono ?_); rintro e w3 ⟨g1, j1, rfl, hg, hb, -⟩; have Z3 : Aside (At2 w3 g1 L ∧ P2 w3 w.heap.size 25 (.int .i64 v) (.int .u16 (s : Int)) ∧ Below w.heap.size w w3) := ⟨hg, (FW2.out.1.later (Below.refl _ _).drew).later hb, below_step BQ.out hb⟩; clear hg hb c0 c1; obtain ⟨c0, c1⟩ := Z3.out.2.1.cells)
          | (go_at_call 18; (with_reducible refine (C18.out w3 g1 j1 Z3.out.1).mono ?_); rintro e w4 ⟨g2, j2, rfl, hg, hb, -⟩; have Z4 : Aside (At2 w4 g2 (pl.map roP) ∧ P2 w4 w.heap.size 25 (.int .i64 v) (.int .u16 (s : Int)) ∧ Below w.heap.size w w4) := ⟨hg, Z3.out.2.1.later hb, below_step Z3.out.2.2 hb⟩; clear hg hb c0 c1; obtain ⟨c0, c1⟩ := Z4.out.2.1.cells)
          | fail)
      clear c0 c1 BQ
      refine (?_ : ∀ U, (At2 U g2 (pl.map roP) ∧ P2 U w.heap.size 25 (.int .i64 v) (.int .u16 (s : Int)) ∧ Below w.heap.size w U) → Exit.then _ _ _ _ U) _ Z4.out
      intro U hU
      have FU : Aside (At2 U g2 (pl.map roP) ∧ P2 U w.heap.size 25 (.int .i64 v) (.int .u16 (s : Int)) ∧ Below w.heap.size w U) := hU
      clear hU Z4 Z3 FW2 C19 C18 CB
      go_wp2_with fail
      go_loopw [10] (fun i wr => ∃ j : Nat, j ≤ m ∧ i = .int .i64 ((j : Int) + 1) ∧ Aside (At2 wr g2 (pl.map roP) ∧ P2 wr w.heap.size 25 (.int .i64 v) (.int .u16 (s : Int)) ∧ Below w.heap.size w wr)) (fun i _ => m + 1 - (intOf i).toNat)
      case atStart => exact ⟨0, Nat.zero_le _, rfl, FU⟩
      case round =>
        obtain ⟨j, hj, rfl, HC⟩ := hrel
        by_cases hlt : j + 1 < m
        · have t1 : (j : Int) + 1 < (m : Int) := by omega
          have t2 : (j : Int) < (m : Int) := by omega
          have t3 : (0 : Int) ≤ (j : Int) := by omega
          have t4 : (0 : Int) ≤ (j : Int) + 1 := by omega
          obtain ⟨a1, b1, b2, x, h10, h11, k0, k1, k2, k3, k4, k5, k6, k7⟩ := ST.out j hlt
          obtain ⟨gp, fp, rfl, x0, x1⟩ := HC.out.1.cell (k := j) (x := .int .i64 a1) (y := .int .u16 (b1 : Int)) (by rw [List.getElem?_map, h10]; rfl)
          obtain ⟨gp', fp', e', y0, y1⟩ := HC.out.1.cell (k := j + 1) (x := .int .i64 (a1 + 1)) (y := .int .u16 (b2 : Int)) (by rw [List.getElem?_map, h11]; rfl)
          cases e'
          have hx := u16_xor_nat b2 b1 k3 k2
          rw [k5] at hx
          have C21 : Aside (∀ W, Calls Tryd.prog 21 #[.int .u16 (x : Int)] W fun e w' => e = .returned (.int .i64 1) ∧ Below W.heap.size W w') := fun W => by
            have := rsize_any x W k7
            rw [k6] at this
            exact this
          have NN : Aside _ := step_nums (j := j) k0 k1 k4 (by omega)
          have p0 : ∀ p : Bw wr, p.w'.cell? ⟨gp, fp + j * 2, none⟩ = some (.int .i64 a1) := fun p => cell_later p.h x0
          have p1 : ∀ p : Bw wr, p.w'.cell? ⟨gp, fp + j * 2 + 1, none⟩ = some (.int .u16 (b1 : Int)) := fun p => cell_later p.h x1
          have p2 : ∀ p : Bw wr, p.w'.cell? ⟨gp, fp + (j + 1) * 2, none⟩ = some (.int .i64 (a1 + 1)) := fun p => cell_later p.h y0
          have p3 : ∀ p : Bw wr, p.w'.cell? ⟨gp, fp + (j + 1) * 2 + 1, none⟩ = some (.int .u16 (b2 : Int)) := fun p => cell_later p.h y1
          clear x0 x1 y0 y1 h10 h11 k0 k1 k2 k3 k4 k5 k6 k7
          have n1 := NN.out.1
          have n2 := NN.out.2.1
          have n3 := NN.out.2.2.1
          have n4 := NN.out.2.2.2.1
          have n5 := NN.out.2.2.2.2
          go_wp2_with fail
          have hne := Bw.some wr
          refine wp_region_wq (by kernel_rfl) (by kernel_rfl) ?_
          repeat (refine wq_step (fun K hK => ?_); go_simp; first
            | (refine hK _ ?_; clear hK K)
            | (apply Exists.intro; refine ⟨fun _ => ?_, hK _ ?_⟩; (go_at_call 21; with_reducible exact Calls.bw_of (C21.out _)); clear hK K))
          refine wq_nil ?_
          intro _ hw'
          obtain ⟨pq, hw''⟩ := hw'
          subst hw''
          have NX : Aside (At2 pq.w' _ _ ∧ P2 pq.w' _ _ _ _ ∧ Below w.heap.size w pq.w') := ⟨HC.out.1.later pq.h, HC.out.2.1.later pq.h, below_step HC.out.2.2 pq.h⟩
          clear p0 p1 p2 p3 n1 n2 n3 n4 n5 NN hx C21
          go_wp2
          go_roundw
          case rel => exact ⟨j + 1, by omega, by go_num, NX⟩
          case measure => simp [intOf]; omega
        · have t1 : ¬ (j : Int) + 1 < (m : Int) := by omega
          obtain ⟨c0, c1⟩ := HC.out.2.1.cells
          go_wp2_with (go_at_call 12; refine (C12.out _).mono ?_; rintro e w9 ⟨rfl, hb9⟩; have B9 : Aside (Below w.heap.size w w9) := below_step HC.out.2.2 hb9; clear hb9)
          go_ret
          exact ⟨rfl, B9.out⟩


end Rl
end Go.Proofs.YtnheikkpnffinaaDoor
