/- The walk of RollEnds. -/
import Derived.Test.YtnheikkpnffinaaDoorRlP
set_option linter.unusedVariables false
namespace Go.Proofs.YtnheikkpnffinaaDoor
open Go.RowKit
namespace Rl
open Cn

theorem neq29_same (v : Int) (s : Nat) (w : World) : (binOp .neq 29 (.agg #[.int .i64 v, .int .u16 (s : Int)]) (.agg #[.int .i64 v, .int .u16 (s : Int)])).run Tryd.prog w = .ok (.bool false) w := by
  have h := eql29 v v s s w
  rw [decide_eq_true ⟨rfl, rfl⟩, run_eql_struct] at h
  rw [run_neq_struct]
  cases e : (Op.equalIn 10000 29 (.agg #[.int .i64 v, .int .u16 (s : Int)]) (.agg #[.int .i64 v, .int .u16 (s : Int)])).run Tryd.prog w with
  | ok b w1 =>
    rw [e] at h
    simp [Result.andThen] at h ⊢
    exact h
  | halt x w1 => rw [e] at h; simp [Result.andThen] at h
theorem neq29_guard (x y : Operand) (xs ys : Array Value) (w : World) : (eqGuard .neq 29 x y (.agg xs) (.agg ys)).run Tryd.prog w = .ok () w :=
  run_eqGuard_agg w .neq 29 x y xs ys (by kernel_rfl)
theorem slice_hi (a : Option Addr) {n c k : Nat} (hc : k ≤ c) (W : World) : (Instr.slice 49 (.slice a n c) none (some (.int .i64 (k : Int))) none).run Tryd.prog W = .ok (.slice a k c) W := by
  rw [run_slice_h (P := Tryd.prog) (w := W) 49 a n c Tryd.underlying49 .i64 (k : Int) (by omega) (by omega)]
  have hz : (Go.sizeOf (Tryd.prog.elem 49)).run Tryd.prog W = .ok 2 W := Tryd.sizeOf33 W
  rw [hz]
  show Result.ok (sliced a 0 (k : Int).toNat c 2) W = _
  unfold sliced
  cases a <;> split <;> simp [Addr.add]
theorem slice_hi_at (a : Option Addr) {n c k : Nat} (hc : k ≤ c) (W : World) : (Instr.sliceAt 49 (.slice a n c) none (some (.int .i64 (k : Int))) none).run Tryd.prog W = .ok (.slice a k c) W := by
  have : (Instr.sliceAt 49 (.slice a n c) none (some (.int .i64 (k : Int))) none).run Tryd.prog W = (Instr.slice 49 (.slice a n c) none (some (.int .i64 (k : Int))) none).run Tryd.prog W := by simp [Instr.sliceAt, run_underlying Tryd.underlying49]
  rw [this, slice_hi a hc]

theorem pathC_take (v : Int) (s k : Nat) (l : List (Bool × Nat)) : pathC v s (l.take k) = (pathC v s l).take k := by
  induction l generalizing v s k with
  | nil => simp [pathC]
  | cons c l ih =>
    cases k with
    | zero => simp [pathC]
    | succ k =>
      rw [List.take_succ_cons, pathC, pathC]
      split
      · rw [List.take_succ_cons, ih]
      · rfl
/-- Where a path ends ahead of its changes, the next one can't be made. -/
theorem pathC_last (v : Int) (s : Nat) (l : List (Bool × Nat)) (hs : s < 65536) (h : (pathC v s l).length < l.length) :
    ∃ v' s' c, ((v, s) :: pathC v s l)[(pathC v s l).length]? = some (v', s') ∧ l[(pathC v s l).length]? = some c ∧ ¬ appE v' s' c.1 c.2 = 0 ∧ s' < 65536 := by
  induction l generalizing v s with
  | nil => simp at h
  | cons c l ih =>
    unfold pathC at h ⊢
    split
    · rename_i he
      rw [if_pos he] at h
      simp only [List.length_cons] at h ⊢
      obtain ⟨v', s', d, h1, h2, h3, h4⟩ := ih (v + 1) (chS s c.1 c.2) (chS_small _ _ hs) (by omega)
      exact ⟨v', s', d, by simpa using h1, by simpa using h2, h3, h4⟩
    · rename_i he
      exact ⟨v, s, c, rfl, rfl, he, hs⟩
theorem tmod_nat (c n : Nat) : Int.tmod (c : Int) ((n : Int) + 1) = ((c % (n + 1) : Nat) : Int) := by
  rw [Int.tmod_eq_emod_of_nonneg (by omega)]
  simp
theorem ends_nums {q k r u n : Nat} (hn : n ≤ 100) (hk : k ≤ n) (hr : r = min q (k + 1)) (hq : q = u + 1) (hu : u ≤ n) :
    wrap64 ((k : Int) + 1) = (k : Int) + 1 ∧ ((r : Int) == 0) = false ∧ ¬ (q : Int) < (r : Int) ∧ wrap64 ((q : Int) - 1) = (u : Int) ∧ IntKind.i64.wrap ((q : Int) - 1) = (u : Int) ∧ r ≤ k + 1 ∧ r ≤ q := by
  have e : wrap64 ((q : Int) - 1) = (u : Int) := by rw [IntWalk.wrap64_in _ ⟨by omega, by omega⟩]; omega
  refine ⟨IntWalk.wrap64_in _ ⟨by omega, by omega⟩, by rw [beq_eq_false_iff_ne]; omega, by omega, e, ?_, by omega, by omega⟩
  rw [IntKind.wrap_i64]; omega
theorem min_nat {q k r : Nat} (h : r = min q (k + 1)) : min (q : Int) ((k : Int) + 1) = (r : Int) := by omega

set_option maxHeartbeats 8000000 in
set_option maxRecDepth 100000 in
/-- What is left where all is well: a path and the beginning of it lie there. -/
theorem ends_walk (v : Int) (s : Nat) (a : Option Addr) (len cap : Nat) (l : List (Bool × Nat)) (cut : Nat) (w : World) (hs : s < 65536) (h : IsChs w a len l) (hcut : cut < 256) :
    Calls Tryd.prog 8 #[rollV v s, .slice a len cap, .int .u8 (cut : Int)] w fun e w' => e = .returned (.bool true) ∧ Below w.heap.size w w' := by
  obtain ⟨rfl, hA, h8⟩ := h
  have C9 : Aside (∀ W, _) := alive_any
  obtain ⟨V, hV⟩ : ∃ V, V = w.alloc (.cells #[.int .i64 v, .int .u16 (s : Int)] 25) := ⟨_, rfl⟩
  have X : Aside (P2 V w.heap.size 25 (.int .i64 v) (.int .u16 (s : Int)) ∧ Below w.heap.size w V) := by
    rw [hV]
    exact ⟨P2.new w _ _ _, below_one w _⟩
  have C12 : Aside (∀ W, Calls Tryd.prog 12 #[.agg #[.int .i64 v, .int .u16 (s : Int)]] W fun e w' => e = .returned (.bool (rightB v s)) ∧ Below W.heap.size W w') := fun W => right_any v s W
  by_cases hsz : (100 : Int) < (l.length : Int)
  · clear C12
    generalize l.length = n at hsz ⊢
    unfold rollV
    go_enter Tryd.func8, Tryd.ntmps8
    go_wp2_with fail
    rw [← hV]
    clear hV
    go_wp2_with (go_at_call 9; refine (C9.out _).mono ?_; rintro e w1 ⟨rfl, hb1⟩; have B1 : Aside (Below w.heap.size w w1) := below_step X.out.2 hb1; clear hb1)
    go_ret
    exact ⟨rfl, B1.out⟩
  · have hn : l.length ≤ 100 := by omega
    cases hr : rightB v s with
    | false =>
      rw [hr] at C12
      generalize l.length = n at hsz ⊢
      unfold rollV
      go_enter Tryd.func8, Tryd.ntmps8
      go_wp2_with fail
      rw [← hV]
      clear hV
      go_wp2_with (first
        | (go_at_call 9; refine (C9.out _).mono ?_; rintro e w1 ⟨rfl, hb1⟩; have Y : Aside (P2 w1 w.heap.size 25 (.int .i64 v) (.int .u16 (s : Int)) ∧ Below w.heap.size w w1) := ⟨X.out.1.later hb1, below_step X.out.2 hb1⟩; clear hb1; obtain ⟨c0, c1⟩ := Y.out.1.cells)
        | (go_at_call 12; refine (C12.out _).mono ?_; rintro e w2 ⟨rfl, hb1⟩; have B1 : Aside (Below w.heap.size w w2) := below_step Y.out.2 hb1; clear hb1))
      go_ret
      exact ⟨rfl, B1.out⟩
    | true =>
      rw [hr] at C12
      have t0 : wrap64 ((l.length : Int) + 1) = (l.length : Int) + 1 := IntWalk.wrap64_in _ ⟨by omega, by omega⟩
      have t0' : wrap64 (cut : Int) = (cut : Int) := IntWalk.wrap64_in _ ⟨by omega, by omega⟩
      have t1 : ((l.length : Int) + 1 == 0) = false := by rw [beq_eq_false_iff_ne]; omega
      have t1' : ¬ (l.length : Int) + 1 = 0 := by omega
      obtain ⟨k, hkn, hmod⟩ : ∃ k : Nat, k ≤ l.length ∧ Aside (Int.tmod (cut : Int) ((l.length : Int) + 1) = (k : Int)) :=
        ⟨cut % (l.length + 1), Nat.le_of_lt_succ (Nat.mod_lt cut (Nat.succ_pos _)), tmod_nat cut l.length⟩
      have hP : pathR v s l = (v, s) :: pathC v s l := by unfold pathR; rw [if_pos hr]
      have hPt : pathR v s (l.take k) = (pathR v s l).take (k + 1) := by
        rw [hP]; unfold pathR; rw [if_pos hr, pathC_take]; rfl
      have C19 : Aside (∀ W, Below w.heap.size w W → Calls Tryd.prog 19 #[.slice a l.length cap] W (Made W (l.map chP))) := fun W hb => changes_any a cap l W (hA.later hb) hn
      have C18 : Aside (∀ W g c, At2 W g (l.map chP) → Calls Tryd.prog 18 #[rollV v s, .slice g l.length c] W (Made W ((pathR v s l).map roP))) := fun W g c hg => path_any v s g c l W hs hg h8 hn
      have D18 : Aside (∀ W g c, At2 W g (l.map chP) → Calls Tryd.prog 18 #[rollV v s, .slice g k c] W (Made W (((pathR v s l).take (k + 1)).map roP))) := fun W g c hg => by
        have hg' : At2 W g ((l.take k).map chP) := by rw [List.map_take]; exact hg.take k
        have := path_any v s g c (l.take k) W hs hg' (fun x hx => h8 x (List.mem_of_mem_take hx)) (by rw [List.length_take]; omega)
        rw [hPt, show (l.take k).length = k by rw [List.length_take]; omega] at this
        exact this
      have hq : (pathR v s l).length = (pathC v s l).length + 1 := by rw [hP]; rfl
      have LAST : Aside ((pathC v s l).length < l.length → ∃ v' s' c, (pathR v s l)[(pathC v s l).length]? = some (v', s') ∧ l[(pathC v s l).length]? = some c ∧ ¬ appE v' s' c.1 c.2 = 0 ∧ s' < 65536) := fun hlt => by
        rw [hP]; exact pathC_last v s l hs hlt
      have hul := pathC_len v s l
      obtain ⟨u, hu⟩ : ∃ u, u = (pathC v s l).length := ⟨_, rfl⟩
      rw [← hu] at hq hul LAST
      obtain ⟨q, hqu⟩ : ∃ q, q = u + 1 := ⟨_, rfl⟩
      rw [← hqu] at hq
      obtain ⟨r, hr'⟩ : ∃ r, r = ((pathR v s l).take (k + 1)).length := ⟨_, rfl⟩
      have hrm : r = min q (k + 1) := by rw [hr', List.length_take, hq]; omega
      have hmin : Aside (min (q : Int) ((k : Int) + 1) = (r : Int)) := min_nat hrm
      have hml : ((pathR v s l).map roP).length = q := by rw [List.length_map, hq]
      have hmt : (((pathR v s l).take (k + 1)).map roP).length = r := by rw [List.length_map, hr']
      have hcl : (l.map chP).length = l.length := List.length_map _
      have G1 : Aside (∀ x y xs ys W, (eqGuard .neq 29 x y (.agg xs) (.agg ys)).run Tryd.prog W = .ok () W) := fun x y xs ys W => neq29_guard x y xs ys W
      unfold Made at C19 C18 D18
      rw [hml] at C18
      rw [hmt] at D18
      rw [hcl] at C19
      generalize pathR v s l = pl at C18 D18 LAST hr' hq hml hmt
      unfold rollV at C18 D18 ⊢
      obtain ⟨n, hn'⟩ : ∃ n, n = l.length := ⟨_, rfl⟩
      rw [← hn'] at C18 C19 hsz hn hul hkn hmod LAST hcl t0 t1 t1' ⊢
      have HM : Aside (pl.length = q ∧ n = l.length ∧ k ≤ n ∧ r ≤ k + 1 ∧ r ≤ q ∧ q = u + 1) := ⟨hq, hn', hkn, (ends_nums hn hkn hrm hqu hul).2.2.2.2.2.1, (ends_nums hn hkn hrm hqu hul).2.2.2.2.2.2, hqu⟩
      have NU : Aside (wrap64 ((k : Int) + 1) = (k : Int) + 1 ∧ ((r : Int) == 0) = false ∧ ¬ (q : Int) < (r : Int) ∧ wrap64 ((q : Int) - 1) = (u : Int) ∧ IntKind.i64.wrap ((q : Int) - 1) = (u : Int) ∧ r ≤ k + 1 ∧ r ≤ q) := ends_nums hn hkn hrm hqu hul
      have H8 : Aside (∀ x ∈ l, x.2 < 256) := h8
      clear hr' hq hml hmt hcl hn' hA h8 hr hcut hrm hqu hu hP hPt hul
      have hmd := hmod.out
      go_enter Tryd.func8, Tryd.ntmps8
      go_wp2_with fail
      rw [← hV]
      clear hV
      go_wp2_with (first
        | (go_at_call 9; refine (C9.out _).mono ?_; rintro e w1 ⟨rfl, hb1⟩; have Y : Aside (P2 w1 w.heap.size 25 (.int .i64 v) (.int .u16 (s : Int)) ∧ Below w.heap.size w w1) := ⟨X.out.1.later hb1, below_step X.out.2 hb1⟩; clear hb1; obtain ⟨c0, c1⟩ := Y.out.1.cells)
        | (go_at_call 12; refine (C12.out _).mono ?_; rintro e w2 ⟨rfl, hb1⟩; have Y2 : Aside (P2 w2 w.heap.size 25 (.int .i64 v) (.int .u16 (s : Int)) ∧ Below w.heap.size w w2) := ⟨Y.out.1.later hb1, below_step Y.out.2 hb1⟩; clear hb1 c0 c1)
        | (go_at_call 19; (with_reducible refine (C19.out w2 Y2.out.2).mono ?_); rintro e w3 ⟨g1, j1, rfl, hg, hb, hj⟩; have Z : Aside (At2 w3 g1 (l.map chP) ∧ P2 w3 w.heap.size 25 (.int .i64 v) (.int .u16 (s : Int)) ∧ Below w.heap.size w w3 ∧ n ≤ j1) := ⟨hg, Y2.out.1.later hb, below_step Y2.out.2 hb, hj⟩; clear hg hb hj))
      have hkj : k ≤ j1 := Nat.le_trans hkn Z.out.2.2.2
      have sl := fun W => slice_hi g1 (n := n) hkj W
      have sl2 := fun W => slice_hi_at g1 (n := n) hkj W
      clear hmd hmod hkj
      obtain ⟨c0, c1⟩ := Z.out.2.1.cells
      go_region_held3 (fun w' => w'.cell? ⟨w.heap.size, 0, none⟩ = some (.int .i64 v) ∧ w'.cell? ⟨w.heap.size, 1, none⟩ = some (.int .u16 (s : Int)))
        (first | go_keep)
        (first
          | (go_at_call 18; (with_reducible refine (C18.out w3.drew g1 j1 (Z.out.1.later (Below.refl _ _).drew)).mono ?_); rintro e w4 ⟨g2, j2, rfl, hg, hb, -⟩; have Z4 : Aside (At2 w4 g1 (l.map chP) ∧ At2 w4 g2 (pl.map roP) ∧ P2 w4 w.heap.size 25 (.int .i64 v) (.int .u16 (s : Int)) ∧ Below w.heap.size w w4) := ⟨(Z.out.1.later (Below.refl _ _).drew).later hb, hg, (Z.out.2.1.later (Below.refl _ _).drew).later hb, below_step Z.out.2.2.1.drew hb⟩; clear hg hb c0 c1; obtain ⟨c0, c1⟩ := Z4.out.2.2.1.cells)
          | (go_at_call 18; (with_reducible refine (D18.out w4 g1 j1 Z4.out.1).mono ?_); rintro e w5 ⟨g3, j3, rfl, hg, hb, -⟩; have Z5 : Aside (At2 w5 g1 (l.map chP) ∧ At2 w5 g2 (pl.map roP) ∧ At2 w5 g3 ((pl.take (k + 1)).map roP) ∧ P2 w5 w.heap.size 25 (.int .i64 v) (.int .u16 (s : Int)) ∧ Below w.heap.size w w5) := ⟨Z4.out.1.later hb, Z4.out.2.1.later hb, hg, Z4.out.2.2.1.later hb, below_step Z4.out.2.2.2 hb⟩; clear hg hb c0 c1; obtain ⟨c0, c1⟩ := Z5.out.2.2.2.1.cells)
          | fail)
      refine (?_ : ∀ W, (At2 W g1 (l.map chP) ∧ At2 W g2 (pl.map roP) ∧ At2 W g3 ((pl.take (k + 1)).map roP) ∧ Below w.heap.size w W) → Exit.then _ _ _ _ W) _ ⟨Z5.out.1, Z5.out.2.1, Z5.out.2.2.1, Z5.out.2.2.2.2⟩
      intro W hW
      have FW : Aside (At2 W g1 (l.map chP) ∧ At2 W g2 (pl.map roP) ∧ At2 W g3 ((pl.take (k + 1)).map roP) ∧ Below w.heap.size w W) := hW
      have hm := hmin.out
      have t2 := NU.out.1
      have t3 := NU.out.2.1
      have t4 := NU.out.2.2.1
      have t4' : ¬ q < r := by omega
      have t4'' : decide (q < r) = false := decide_eq_false t4'
      have hrk := NU.out.2.2.2.2.2.1
      clear hW Z5 Z4 Z Y2 Y c0 c1 C9 C18 D18 C19 C12 sl sl2 hmin
      go_wp2_with fail
      clear hm t0 t0' t1 t1' t2 t3
      go_loopw [11, 62] (fun _ i wr => ∃ i1 : Nat, i1 ≤ r ∧ i = .int .i64 (i1 : Nat) ∧ Aside (At2 wr g1 (l.map chP) ∧ At2 wr g2 (pl.map roP) ∧ At2 wr g3 ((pl.take (k + 1)).map roP) ∧ Below w.heap.size w wr)) (fun _ i _ => r - (intOf i).toNat)
      case atStart => exact ⟨0, Nat.zero_le _, rfl, FW⟩
      case round =>
        obtain ⟨i1, hi1, rfl, HC⟩ := hrel
        by_cases hlt : i1 < r
        · have e1 : (i1 : Int) < (r : Int) := by omega
          have e2 : (0 : Int) ≤ (i1 : Int) := by omega
          have e3 : i1 < q := by have := HM.out.2.2.2.2.1; omega
          have e4 : (i1 : Int) < (q : Int) := by omega
          obtain ⟨bb, hbb⟩ : ∃ bb, pl[i1]? = some bb := ⟨_, List.getElem?_eq_getElem (by rw [HM.out.1]; exact e3)⟩
          obtain ⟨pv, ps⟩ := bb
          obtain ⟨b2, f2, rfl, x0, x1⟩ := HC.out.2.1.cell (k := i1) (x := .int .i64 pv) (y := .int .u16 (ps : Int)) (by rw [List.getElem?_map, hbb]; rfl)
          obtain ⟨b3, f3, rfl, y0, y1⟩ := HC.out.2.2.1.cell (k := i1) (x := .int .i64 pv) (y := .int .u16 (ps : Int)) (by rw [List.getElem?_map, List.getElem?_take_of_lt (by have := HM.out.2.2.2.1; omega), hbb]; rfl)
          have q1 := fun W => neq29_same pv ps W
          have g1 := G1.out
          have p0 : ∀ p : Bw wr, p.w'.cell? ⟨b2, f2 + i1 * 2, none⟩ = some (.int .i64 pv) := fun p => cell_later p.h x0
          have p1 : ∀ p : Bw wr, p.w'.cell? ⟨b2, f2 + i1 * 2 + 1, none⟩ = some (.int .u16 (ps : Int)) := fun p => cell_later p.h x1
          have p2 : ∀ p : Bw wr, p.w'.cell? ⟨b3, f3 + i1 * 2, none⟩ = some (.int .i64 pv) := fun p => cell_later p.h y0
          have p3 : ∀ p : Bw wr, p.w'.cell? ⟨b3, f3 + i1 * 2 + 1, none⟩ = some (.int .u16 (ps : Int)) := fun p => cell_later p.h y1
          clear x0 x1 y0 y1 hbb
          go_wp2_with fail
          have hne := Bw.some wr
          refine wp_region_wq (by kernel_rfl) (by kernel_rfl) ?_
          repeat (refine wq_step (fun K hK => ?_); go_simp; first
            | (refine hK _ ?_; clear hK K)
            | (apply Exists.intro; refine ⟨fun _ => ?_, hK _ ?_⟩; fail; clear hK K))
          refine wq_nil ?_
          intro _ hw'
          obtain ⟨pq, hw''⟩ := hw'
          subst hw''
          have NX : Aside (At2 pq.w' _ _ ∧ At2 pq.w' _ _ ∧ At2 pq.w' _ _ ∧ Below w.heap.size w pq.w') := ⟨HC.out.1.later pq.h, HC.out.2.1.later pq.h, HC.out.2.2.1.later pq.h, below_step HC.out.2.2.2 pq.h⟩
          clear p0 p1 p2 p3 q1 g1
          go_wp2
          go_roundw
          case rel => exact ⟨i1 + 1, by omega, by go_num, NX⟩
          case measure => simp [intOf]; omega
        · obtain rfl : i1 = r := by omega
          by_cases hqn : q ≤ n
          · have e5 : (q : Int) ≤ (n : Int) := by omega
            have hu1 : u < n := by have := HM.out.2.2.2.2.2; omega
            have hu2 : u < q := by have := HM.out.2.2.2.2.2; omega
            have e6 : (u : Int) < (n : Int) := by omega
            have e7 : (u : Int) < (q : Int) := by omega
            have e8 : (0 : Int) ≤ (u : Int) := by omega
            obtain ⟨v1, s1, ⟨ca, ci⟩, h1, h2, h3, h4⟩ := LAST.out hu1
            obtain ⟨b2, f2, rfl, x0, x1⟩ := HC.out.2.1.cell (k := u) (x := .int .i64 v1) (y := .int .u16 (s1 : Int)) (by rw [List.getElem?_map, h1]; rfl)
            obtain ⟨b3, f3, rfl, y0, y1⟩ := HC.out.1.cell (k := u) (x := .bool ca) (y := .int .u8 (ci : Int)) (by rw [List.getElem?_map, h2]; rfl)
            have h3' : ¬ appE v1 s1 ca ci = 0 := h3
            have hneq : (((appE v1 s1 ca ci : Nat) : Int) == 0) = false := by rw [beq_eq_false_iff_ne]; omega
            have CB : Aside (∀ W, Calls Tryd.prog 10 #[.agg #[.int .i64 v1, .int .u16 (s1 : Int)], .agg #[.bool ca, .int .u8 (ci : Int)]] W fun e w' => e = .returned (.tuple #[.agg #[.int .i64 (appV v1 s1 ca ci), .int .u16 (appS v1 s1 ca ci : Nat)], .int .i64 (appE v1 s1 ca ci : Nat)]) ∧ Below W.heap.size W w') := fun W => apply_any v1 s1 ca ci W h4
            generalize appV v1 s1 ca ci = v2 at CB
            generalize appS v1 s1 ca ci = s2 at CB
            generalize appE v1 s1 ca ci = e9 at CB hneq
            have ol2 := World.block_lt_of_cell? _ _ x0
            have ol3 := World.block_lt_of_cell? _ _ y0
            dsimp only at ol2 ol3
            have BD : Aside (Below wr.heap.size wr wr.drew) := (Below.refl _ wr).drew
            have BA : Aside (Below wr.heap.size wr (wr.alloc (.cells #[.int .i64 0, .int .u16 0] 29)).drew) := ((Below.refl _ wr).alloc (Nat.le_refl _) _).drew
            have OO : Aside (_ ∧ _ ∧ _ ∧ _) := ⟨x0, x1, y0, y1⟩
            have BW : Aside (Below w.heap.size w wr) := HC.out.2.2.2
            have t5 := NU.out.2.2.2.1
            have t6 := NU.out.2.2.2.2.1
            clear h1 h2 h3 h3' h4 HC FW
            go_wp2_with fail
            go_region_held3 (fun w' => w'.cell? ⟨b2, f2 + u * 2, none⟩ = some (.int .i64 v1) ∧ w'.cell? ⟨b2, f2 + u * 2 + 1, none⟩ = some (.int .u16 (s1 : Int)) ∧ w'.cell? ⟨b3, f3 + u * 2, none⟩ = some (.bool ca) ∧ w'.cell? ⟨b3, f3 + u * 2 + 1, none⟩ = some (.int .u8 (ci : Int)))
              (first | go_keep)
              (first
                | (go_at_call 10; (with_reducible refine (CB.out wr.drew).mono ?_); rintro e w6 ⟨rfl, hb1⟩; have Z6 : Aside (Below wr.heap.size wr w6) := below_step BD.out hb1; clear hb1 x0 x1 y0 y1; have x0 := cell_later Z6.out OO.out.1; have x1 := cell_later Z6.out OO.out.2.1; have y0 := cell_later Z6.out OO.out.2.2.1; have y1 := cell_later Z6.out OO.out.2.2.2)
                | (go_at_call 10; (with_reducible refine (CB.out (wr.alloc (.cells #[.int .i64 0, .int .u16 0] 29)).drew).mono ?_); rintro e w6 ⟨rfl, hb1⟩; have Z6 : Aside (Below wr.heap.size wr w6 ∧ P2 w6 wr.heap.size 29 (.int .i64 0) (.int .u16 0)) := ⟨below_step BA.out hb1, ((P2.new wr 29 (.int .i64 0) (.int .u16 0)).later (Below.refl _ _).drew).later hb1⟩; clear hb1 x0 x1 y0 y1; have x0 := cell_later Z6.out.1 OO.out.1; have x1 := cell_later Z6.out.1 OO.out.2.1; have y0 := cell_later Z6.out.1 OO.out.2.2.1; have y1 := cell_later Z6.out.1 OO.out.2.2.2; obtain ⟨d0, d1⟩ := Z6.out.2.cells; have z0 := Z6.out.2.frozen 0; have z1 := Z6.out.2.frozen 1; have k0 : b2 ≠ wr.heap.size := Nat.ne_of_lt ol2; have k1 : b3 ≠ wr.heap.size := Nat.ne_of_lt ol3; have k2 : wr.heap.size ≠ b2 := fun h => k0 h.symm; have k3 : wr.heap.size ≠ b3 := fun h => k1 h.symm)
                | fail)
            · refine (?_ : ∀ W, Aside (Below w.heap.size w W) → Exit.then _ _ _ _ W) _ ((below_step BW.out Z6.out).alloc (below_step BW.out Z6.out).size _)
              intro W B
              clear Z6 x0 x1 y0 y1 BD BA OO CB
              go_wp2
              go_ret
              exact ⟨rfl, B.out⟩
            · refine (?_ : ∀ W, Aside (Below w.heap.size w W) → Exit.then _ _ _ _ W) _ (below_put (below_step BW.out Z6.out.1) BW.out.size _ _)
              intro W B
              clear Z6 x0 x1 y0 y1 d0 d1 z0 z1 BD BA OO CB
              go_wp2
              go_ret
              exact ⟨rfl, B.out⟩
          · have e5 : ¬ (q : Int) ≤ (n : Int) := by omega
            have B : Aside (Below w.heap.size w wr) := HC.out.2.2.2
            go_wp2
            go_ret
            exact ⟨rfl, B.out⟩
end Rl
end Go.Proofs.YtnheikkpnffinaaDoor
