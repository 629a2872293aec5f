/- The walk of RollPaths. -/
import Derived.Test.YtnheikkpnffinaaDoorPrD
import Derived.Test.YtnheikkpnffinaaDoorRlH
set_option linter.unusedVariables false
namespace Go.Proofs.YtnheikkpnffinaaDoor
open Go.RowKit
namespace Rl
open Cn

/-- Changes that were handed over. -/
def IsChs (w : World) (a : Option Addr) (len : Nat) (l : List (Bool × Nat)) : Prop := l.length = len ∧ At2 w a (l.map chP) ∧ ∀ x ∈ l, x.2 < 256
theorem neq25_same (v : Int) (s : Nat) (w : World) : (binOp .neq 25 (.agg #[.int .i64 v, .int .u16 (s : Int)]) (.agg #[.int .i64 v, .int .u16 (s : Int)])).run Tryd.prog w = .ok (.bool false) w := by
  have h := eql25 v v s s w
  rw [decide_eq_true ⟨rfl, rfl⟩, run_eql_struct] at h
  rw [run_neq_struct]
  cases e : (Op.equalIn 10000 25 (.agg #[.int .i64 v, .int .u16 (s : Int)]) (.agg #[.int .i64 v, .int .u16 (s : Int)])).run Tryd.prog w with
  | ok b w1 =>
    rw [e] at h
    simp [Result.andThen] at h ⊢
    exact h
  | halt x w1 => rw [e] at h; simp [Result.andThen] at h
theorem neq25_guard (x y : Operand) (xs ys : Array Value) (w : World) : (eqGuard .neq 25 x y (.agg xs) (.agg ys)).run Tryd.prog w = .ok () w :=
  run_eqGuard_agg w .neq 25 x y xs ys (by kernel_rfl)

theorem pathC_len (v : Int) (s : Nat) (l : List (Bool × Nat)) : (pathC v s l).length ≤ l.length := by
  induction l generalizing v s with
  | nil => exact Nat.le_refl _
  | cons c l ih =>
    unfold pathC
    split
    · simp only [List.length_cons]; have := ih (v + 1) (chS s c.1 c.2); omega
    · simp
theorem pathR_len (v : Int) (s : Nat) (l : List (Bool × Nat)) : (pathR v s l).length ≤ l.length + 1 := by
  unfold pathR
  split
  · simp only [List.length_cons]; have := pathC_len v s l; omega
  · simp

set_option maxHeartbeats 8000000 in
set_option maxRecDepth 100000 in
theorem paths_walk (v : Int) (s : Nat) (a : Option Addr) (len cap : Nat) (l : List (Bool × Nat)) (w : World) (hs : s < 65536) (h : IsChs w a len l) :
    Calls Tryd.prog 5 #[rollV v s, .slice a len cap] w fun e w' => e = .returned (.bool true) ∧ Below w.heap.size w w' := by
  obtain ⟨rfl, hA, h8⟩ := h
  have C9 : Aside (∀ W, _) := alive_any
  obtain ⟨V, hV⟩ : ∃ V, V = w.alloc (.cells #[.int .i64 v, .int .u16 (s : Int)] 25) := ⟨_, rfl⟩
  have X : Aside (P2 V w.heap.size 25 (.int .i64 v) (.int .u16 (s : Int)) ∧ Below w.heap.size w V) := by
    rw [hV]
    exact ⟨P2.new w _ _ _, below_one w _⟩
  by_cases hsz : (100 : Int) < (l.length : Int)
  · generalize l.length = n at hsz ⊢
    unfold rollV
    go_enter Tryd.func5, Tryd.ntmps5
    go_wp2_with fail
    rw [← hV]
    clear hV
    go_wp2_with (go_at_call 9; refine (C9.out _).mono ?_; rintro e w1 ⟨rfl, hb1⟩; have B1 : Aside (Below w.heap.size w w1) := below_step X.out.2 hb1; clear hb1)
    go_ret
    exact ⟨rfl, B1.out⟩
  · have hn : l.length ≤ 100 := by omega
    have C19 : Aside (∀ W, Below w.heap.size w W → Calls Tryd.prog 19 #[.slice a l.length cap] W (Made W (l.map chP))) := fun W hb => changes_any a cap l W (hA.later hb) hn
    have C18 : Aside (∀ W g c, At2 W g (l.map chP) → Calls Tryd.prog 18 #[rollV v s, .slice g l.length c] W (Made W ((pathR v s l).map roP))) := fun W g c hg => path_any v s g c l W hs hg h8 hn
    have C20 : Aside (∀ W, Below w.heap.size w W → Calls Tryd.prog 20 #[rollV v s, .slice a l.length cap] W (Made W ((pathR v s l).map roP))) := fun W hb => rpath_any v s a cap l W hs (hA.later hb) h8 hn
    have hpl : (pathR v s l).length ≤ l.length + 1 := pathR_len v s l
    have hml : ((pathR v s l).map roP).length = (pathR v s l).length := List.length_map _
    generalize pathR v s l = pl at C18 C20 hpl hml
    have hcl : (l.map chP).length = l.length := List.length_map _
    have G1 : Aside (∀ x y xs ys W, (eqGuard .neq 25 x y (.agg xs) (.agg ys)).run Tryd.prog W = .ok () W) := fun x y xs ys W => neq25_guard x y xs ys W
    unfold Made at C19 C18 C20
    rw [hml] at C18 C20
    rw [hcl] at C19
    unfold rollV at C18 C20 ⊢
    obtain ⟨n, hn'⟩ : ∃ n, n = l.length := ⟨_, rfl⟩
    obtain ⟨m, hm'⟩ : ∃ m, m = pl.length := ⟨_, rfl⟩
    rw [← hn'] at C18 C19 C20 hsz hn hpl ⊢
    rw [← hm'] at C18 C20 hpl
    have HM : Aside (m = pl.length) := hm'
    clear hm' hn' hml hcl hA h8
    go_enter Tryd.func5, Tryd.ntmps5
    go_wp2_with fail
    rw [← hV]
    clear hV
    go_wp2_with (go_at_call 9; refine (C9.out _).mono ?_; rintro e w1 ⟨rfl, hb1⟩; have Y : Aside (P2 w1 w.heap.size 25 (.int .i64 v) (.int .u16 (s : Int)) ∧ Below w.heap.size w w1 ∧ Below w.heap.size w w1.drew) := ⟨X.out.1.later hb1, below_step X.out.2 hb1, (below_step X.out.2 hb1).drew⟩; clear hb1; obtain ⟨c0, c1⟩ := Y.out.1.cells)
    go_region_held3 (fun w' => w'.cell? ⟨w.heap.size, 0, none⟩ = some (.int .i64 v) ∧ w'.cell? ⟨w.heap.size, 1, none⟩ = some (.int .u16 (s : Int)))
      (first | go_keep)
      (first
        | (go_at_call 19; (with_reducible refine (C19.out w1.drew Y.out.2.2).mono ?_); rintro e w2 ⟨g1, j1, rfl, hg, hb, -⟩; have Z2 : Aside (At2 w2 g1 (l.map chP) ∧ P2 w2 w.heap.size 25 (.int .i64 v) (.int .u16 (s : Int)) ∧ Below w.heap.size w w2) := ⟨hg, (Y.out.1.later (Below.refl _ _).drew).later hb, below_step Y.out.2.2 hb⟩; clear hg hb c0 c1; obtain ⟨c0, c1⟩ := Z2.out.2.1.cells)
        | (go_at_call 18; (with_reducible refine (C18.out w2 g1 j1 Z2.out.1).mono ?_); rintro e w3 ⟨g2, j2, rfl, hg, hb, -⟩; have Z3 : Aside (At2 w3 g2 (pl.map roP) ∧ P2 w3 w.heap.size 25 (.int .i64 v) (.int .u16 (s : Int)) ∧ Below w.heap.size w w3) := ⟨hg, Z2.out.2.1.later hb, below_step Z2.out.2.2 hb⟩; clear hg hb c0 c1; obtain ⟨c0, c1⟩ := Z3.out.2.1.cells)
        | (go_at_call 20; (with_reducible refine (C20.out w3 Z3.out.2.2).mono ?_); rintro e w4 ⟨g3, j3, rfl, hg, hb, -⟩; have Z4 : Aside (At2 w4 g2 (pl.map roP) ∧ At2 w4 g3 (pl.map roP) ∧ P2 w4 w.heap.size 25 (.int .i64 v) (.int .u16 (s : Int)) ∧ Below w.heap.size w w4) := ⟨Z3.out.1.later hb, hg, Z3.out.2.1.later hb, below_step Z3.out.2.2 hb⟩; clear hg hb c0 c1; obtain ⟨c0, c1⟩ := Z4.out.2.2.1.cells)
        | fail)
    refine (?_ : ∀ W, (At2 W g2 (pl.map roP) ∧ At2 W g3 (pl.map roP) ∧ Below w.heap.size w W) → Exit.then _ _ _ _ W) _ ⟨Z4.out.1, Z4.out.2.1, Z4.out.2.2.2⟩
    intro W hW
    have FW : Aside (At2 W g2 (pl.map roP) ∧ At2 W g3 (pl.map roP) ∧ Below w.heap.size w W) := hW
    clear hW Z4 Z3 Z2 Y c0 c1 C9 C18 C19 C20
    go_wp2_with fail
    go_loopw [7, 27] (fun _ i wr => ∃ k : Nat, k ≤ m ∧ i = .int .i64 (k : Nat) ∧ Aside (At2 wr g2 (pl.map roP) ∧ At2 wr g3 (pl.map roP) ∧ Below w.heap.size w wr)) (fun _ i _ => m - (intOf i).toNat)
    case atStart => exact ⟨0, Nat.zero_le _, rfl, FW⟩
    case round =>
      obtain ⟨k, hk, rfl, HC⟩ := hrel
      by_cases hlt : k < m
      · have t1 : (k : Int) < (m : Int) := by omega
        have t2 : (0 : Int) ≤ (k : Int) := by omega
        obtain ⟨bb, hbb⟩ : ∃ bb, pl[k]? = some bb := ⟨_, List.getElem?_eq_getElem (HM.out ▸ hlt)⟩
        obtain ⟨pv, ps⟩ := bb
        obtain ⟨b2, f2, rfl, x0, x1⟩ := HC.out.1.cell (k := k) (x := .int .i64 pv) (y := .int .u16 (ps : Int)) (by rw [List.getElem?_map, hbb]; rfl)
        obtain ⟨b3, f3, rfl, y0, y1⟩ := HC.out.2.1.cell (k := k) (x := .int .i64 pv) (y := .int .u16 (ps : Int)) (by rw [List.getElem?_map, hbb]; rfl)
        have q1 := fun W => neq25_same pv ps W
        have g1 := G1.out
        have p0 : ∀ p : Bw wr, p.w'.cell? ⟨b2, f2 + k * 2, none⟩ = some (.int .i64 pv) := fun p => cell_later p.h x0
        have p1 : ∀ p : Bw wr, p.w'.cell? ⟨b2, f2 + k * 2 + 1, none⟩ = some (.int .u16 (ps : Int)) := fun p => cell_later p.h x1
        have p2 : ∀ p : Bw wr, p.w'.cell? ⟨b3, f3 + k * 2, none⟩ = some (.int .i64 pv) := fun p => cell_later p.h y0
        have p3 : ∀ p : Bw wr, p.w'.cell? ⟨b3, f3 + k * 2 + 1, none⟩ = some (.int .u16 (ps : Int)) := fun p => cell_later p.h y1
        clear x0 x1 y0 y1 hbb
        go_wp2_with fail
        have hne := Bw.some wr
        refine wp_region_wq (by kernel_rfl) (by kernel_rfl) ?_
        repeat (refine wq_step (fun K hK => ?_); go_simp; first
          | (refine hK _ ?_; clear hK K)
          | (apply Exists.intro; refine ⟨fun _ => ?_, hK _ ?_⟩; fail; clear hK K))
        refine wq_nil ?_
        intro _ hw'
        obtain ⟨pq, hw''⟩ := hw'
        subst hw''
        have NX : Aside (At2 pq.w' _ _ ∧ At2 pq.w' _ _ ∧ Below w.heap.size w pq.w') := ⟨HC.out.1.later pq.h, HC.out.2.1.later pq.h, below_step HC.out.2.2 pq.h⟩
        clear p0 p1 p2 p3 q1 g1
        go_wp2
        go_roundw
        case rel => exact ⟨k + 1, by omega, by go_num, NX⟩
        case measure => simp [intOf]; omega
      · obtain rfl : k = m := by omega
        have R1 : Aside (Below w.heap.size w wr) := HC.out.2.2
        go_wp2
        go_ret
        exact ⟨rfl, R1.out⟩
end Rl
end Go.Proofs.YtnheikkpnffinaaDoor
