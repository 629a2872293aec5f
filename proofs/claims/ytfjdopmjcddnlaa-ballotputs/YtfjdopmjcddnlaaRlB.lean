/- What Apply gives, the program's and the document's own. -/
import Derived.Test.YtfjdopmjcddnlaaRlA
set_option linter.unusedVariables false
namespace Go.Proofs.Ytfjdopmjcddnlaa
open Go.RowKit
namespace Rl
open Cn

structure Bw (w : World) where
  w' : World
  h : Below w.heap.size w w'
theorem Bw.some (w : World) : Nonempty (Bw w) := ⟨⟨w, Below.refl _ _⟩⟩
theorem wp_region_bw {P : Program} {id : Nat} {Q : Exit → Act → World → Prop} {a : Act} {w : World} {l : List Oper} (hm : P.follows .mixedOrders = true) (hB : Region.lexB .any l.toArray = true)
    (h : wpQuiet P l.toArray (fun w' => ∃ p : Bw w, w' = p.w') (fun a' => ∀ w', (∃ p : Bw w, w' = p.w') → Q .normal a' w') l a) : (Code.region id l.toArray true).wp P Q a w :=
  wp_region_quiet (C := fun w' => ∃ p : Bw w, w' = p.w') hm hB ⟨⟨w.drew, (Below.refl _ w).drew⟩, rfl⟩ (by simpa using h)
/-- The lexical walk behind a word that is not laid open. -/
structure WQ (P : Program) (ops : Array Oper) (C : World → Prop) (Q : Act → Prop) (l : List Oper) (a : Act) : Prop where
  out : wpQuiet P ops C Q l a
theorem wq_nil {P : Program} {ops : Array Oper} {C : World → Prop} {Q : Act → Prop} {a : Act} (h : Q a) : WQ P ops C Q [] a := ⟨h⟩
theorem wq_step {P : Program} {ops : Array Oper} {C : World → Prop} {Q : Act → Prop} {a : Act} {o : Oper} {rest : List Oper}
    (h : ∀ K : Act → Prop, (∀ a, WQ P ops C Q rest a → K a) → if Region.wanted o (yielded ops a.tmps) then o.quiet P a C K else K (a.put o.dst undef)) : WQ P ops C Q (o :: rest) a :=
  ⟨h _ (fun _ h => h.out)⟩
theorem wp_region_wq {P : Program} {id : Nat} {Q : Exit → Act → World → Prop} {a : Act} {w : World} {l : List Oper} (hm : P.follows .mixedOrders = true) (hB : Region.lexB .any l.toArray = true)
    (h : WQ P l.toArray (fun w' => ∃ p : Bw w, w' = p.w') (fun a' => ∀ w', (∃ p : Bw w, w' = p.w') → Q .normal a' w') l a) : (Code.region id l.toArray true).wp P Q a w := wp_region_bw hm hB h.out
theorem Calls.bw_of {P : Program} {f : FuncId} {args : Array Value} {w : World} {p : Bw w} {v : Value} (h : Calls P f args p.w' fun e w' => e = .returned v ∧ Below p.w'.heap.size p.w' w') :
    Calls P f args p.w' fun e w'' => e = .returned v ∧ ∃ q : Bw w, w'' = q.w' :=
  h.mono fun _ w'' ⟨he, hb⟩ => ⟨he, ⟨w'', below_step p.h hb⟩, rfl⟩
theorem Calls.bw_same {P : Program} {f : FuncId} {args : Array Value} {w : World} {p : Bw w} {v : Value} (h : Calls P f args p.w' fun e w' => e = .returned v ∧ w' = p.w') :
    Calls P f args p.w' fun e w'' => e = .returned v ∧ ∃ q : Bw w, w'' = q.w' :=
  h.mono fun _ w'' ⟨he, hb⟩ => ⟨he, p, hb⟩
theorem wq_run {P : Program} {ops : Array Oper} {C : World → Prop} {Q : Act → Prop} {a : Act} {o : Oper} {rest : List Oper} (v : Value) (hw : Region.wanted o (yielded ops a.tmps) = true)
    (hr : ∀ w, C w → (execOp a.eval o).run P w = .ok (.value v) w) (h : WQ P ops C Q rest (a.put o.dst v)) : WQ P ops C Q (o :: rest) a :=
  ⟨by unfold wpQuiet; rw [if_pos hw]; exact ⟨v, fun w hC => by unfold Oper.quietAt; rw [hr w hC]; exact ⟨rfl, rfl⟩, h.out⟩⟩
theorem exec_load {P : Program} (T k : Nat) (w : World) (aE : (isAgg T).run P w = .ok true w) (zE : (Go.sizeOf T).run P w = .ok k w) (arr : Array Value) (a : Addr) (hl : Sem.run P (loadCellsFrom a 0 k #[]) w = .ok arr w)
    (ac : Act) (o : Oper) (p : Operand) (ho : o.op = .load T p) (hp : ac.eval p = .pointer (some a)) : (execOp ac.eval o).run P w = .ok (.value (.agg arr)) w := by
  generalize ac.eval = ev at hp ⊢
  simp [execOp, ho, hp, aE, zE, hl, go_sem]
theorem load_two {w : World} {b : Nat} {t : TypeId} {x y : Value} (h : P2 w b t x y) : Sem.run Try.prog (loadCellsFrom ⟨b, 0, none⟩ 0 2 #[]) w = .ok #[x, y] w := by
  obtain ⟨c0, c1⟩ := h.cells
  simp [loadCellsFrom, c0, c1, go_sem]
theorem wq_ch {ops : Array Oper} {Q : Act → Prop} {a : Act} {o : Oper} {rest : List Oper} {W : World} {b : Nat} {x y : Value} (h : P2 W b 42 x y) (p : Operand) (ho : o.op = .load 42 p) (hp : a.eval p = .pointer (some ⟨b, 0, none⟩)) (hw : Region.wanted o (yielded ops a.tmps) = true)
    (hn : WQ Try.prog ops (fun w' => ∃ p : Bw W, w' = p.w') Q rest (a.put o.dst (.agg #[x, y]))) : WQ Try.prog ops (fun w' => ∃ p : Bw W, w' = p.w') Q (o :: rest) a := by
  refine wq_run (.agg #[x, y]) hw (fun w' hw' => ?_) hn
  obtain ⟨q, rfl⟩ := hw'
  exact exec_load 42 2 q.w' (Try.isAgg42 _) (Try.sizeOf42 _) #[x, y] _ (load_two (h.later q.h)) a o p ho hp

theorem row_set {w : World} {b j : Nat} {cs : Array Value} {t : TypeId} (h : w.heap[b]? = some (.cells cs t (0, 0))) (v : Value) : (w.setCell ⟨b, j, none⟩ v).heap[b]? = some (.cells (cs.setIfInBounds j v) t (0, 0)) := by
  obtain ⟨hlt, hk⟩ := Array.getElem?_eq_some_iff.1 h
  show (w.heap.modify b _)[b]? = _
  rw [Array.getElem?_eq_getElem (by rw [Array.size_modify]; exact hlt), Array.getElem_modify_self, hk]
  rfl
theorem P2.put {w : World} {b : Nat} {t : TypeId} {x0 y0 : Value} (h : P2 w b t x0 y0) (x y : Value) : P2 ((w.setCell ⟨b, 0, none⟩ x).setCell ⟨b, 1, none⟩ y) b t x y := row_set (row_set h x) y
theorem below_put {B b : Nat} {w w' : World} (h : Below B w w') (hb : B ≤ b) (x y : Value) : Below B w ((w'.setCell ⟨b, 0, none⟩ x).setCell ⟨b, 1, none⟩ y) :=
  (h.setCell (p := ⟨b, 0, none⟩) hb _).setCell (p := ⟨b, 1, none⟩) hb _

/-- The error of a change, and the view behind it. -/
def appE (v : Int) (s : Nat) (a : Bool) (i : Nat) : Nat :=
  if rightB v s = true ∧ i < 16 then (if a = true ∧ hasS s i = true then 9 else if a = false ∧ hasS s i = false then 8 else if v = 1000 then 11 else if chS s a i = 0 then 10 else 0) else 2
def appV (v : Int) (s : Nat) (a : Bool) (i : Nat) : Int := if appE v s a i = 0 then v + 1 else 0
def appS (v : Int) (s : Nat) (a : Bool) (i : Nat) : Nat := if appE v s a i = 0 then chS s a i else 0

theorem results_cell2 {P : Program} {fn : Func} {tmps : Array Value} {w : World} {a u : Tmp} {t k b : Nat} {arr : Array Value} (h : fn.results = #[.cell a t, .tmp u]) (hp : tmps.getD a undef = .pointer (some ⟨b, 0, none⟩))
    (aE : (isAgg t).run P w = .ok true w) (zE : (Go.sizeOf t).run P w = .ok k w) (hl : Sem.run P (loadCellsFrom ⟨b, 0, none⟩ 0 k #[]) w = .ok arr w) : (results fn tmps).run P w = .ok (.tuple #[.agg arr, tmps.getD u undef]) w := by
  have e : (loadVar t ⟨b, 0, none⟩).run P w = .ok (.agg arr) w := by simp [loadVar, aE, zE, loadCells, hl]
  generalize (⟨b, 0, none⟩ : Addr) = q at *
  have hp2 : tmps[a]?.getD undef = .pointer (some q) := by simpa using hp
  simp [results, h, hp2, asAddr, e]



set_option maxHeartbeats 4000000 in
set_option maxRecDepth 100000 in
/-- What Apply gives. -/
theorem apply_any (v : Int) (s : Nat) (a : Bool) (i : Nat) (w : World) (hs : s < 65536) :
    Calls Try.prog 20 #[rollV v s, chV a i] w fun e w' => e = .returned (.tuple #[rollV (appV v s a i) (appS v s a i), .int .i64 (appE v s a i : Nat)]) ∧ Below w.heap.size w w' := by
  have C12 : Aside (∀ W, Calls Try.prog 37 #[.agg #[.int .i64 v, .int .u16 (s : Int)]] W fun e w' => e = .returned (.bool (rightB v s)) ∧ Below W.heap.size W w') := fun W => right_any v s W
  have C23 : Aside (∀ W, Calls Try.prog 26 #[.int .u16 (s : Int), .int .u8 (i : Int)] W fun e w' => e = .returned (.bool (hasS s i)) ∧ w' = W) := fun W => has_any s i W hs
  have C24 : Aside (∀ W, Calls Try.prog 38 #[.int .u16 (s : Int), .agg #[.bool a, .int .u8 (i : Int)]] W fun e w' => e = .returned (.int .u16 (chS s a i : Nat)) ∧ Below W.heap.size W w') := fun W => changed_any s a i W hs
  obtain ⟨V, hV⟩ : ∃ V, V = ((w.alloc (.cells #[.int .i64 v, .int .u16 (s : Int)] 34)).alloc (.cells #[.bool a, .int .u8 (i : Int)] 42)).alloc (.cells #[.int .i64 0, .int .u16 0] 34) := ⟨_, rfl⟩
  have X : Aside (P2 V w.heap.size 34 (.int .i64 v) (.int .u16 (s : Int)) ∧ P2 V (w.heap.size + 1) 42 (.bool a) (.int .u8 (i : Int)) ∧ P2 V (w.heap.size + 1 + 1) 34 (.int .i64 0) (.int .u16 0) ∧ Below w.heap.size w V) := by
    rw [hV]
    exact ⟨((P2.new w _ _ _).alloc _).alloc _, (P2.new1 w _ _ _ _).alloc _, P2.new2 w _ _ _ _ _, ((below_one w _).alloc (by simp) _).alloc (by simp; omega) _⟩
  unfold rollV chV
  by_cases hr : rightB v s = true
  · by_cases hi : i < 16
    · have hi8 : ¬ ((16 : Int) ≤ (i : Int)) := by omega
      have hv : Aside (v ≤ 1000) := by unfold rightB at hr; simp only [Bool.and_eq_true, decide_eq_true_eq] at hr; exact hr.2.1
      rw [hr] at C12
      cases a with
      | true =>
        cases hh : hasS s i with
        | true =>
          have E : appE v s true i = 9 := by unfold appE; rw [if_pos ⟨hr, hi⟩, if_pos ⟨rfl, hh⟩]
          have E1 : appV v s true i = 0 := by unfold appV; rw [E]; rfl
          have E2 : appS v s true i = 0 := by unfold appS; rw [E]; rfl
          rw [E, E1, E2]
          clear E E1 E2
          rw [hh] at C23
          generalize chS s true i = r at C24 ⊢
          clear hh hr hi
          go_enter Try.func20, Try.ntmps20
          go_wp2_with fail
          rw [← hV]
          clear hV
          obtain ⟨c0, c1⟩ := X.out.1.cells
          obtain ⟨e0, e1⟩ := X.out.2.1.cells
          go_wp2_with (go_at_call 37; refine (C12.out _).mono ?_; rintro e w1 ⟨rfl, hb1⟩; have Y : Aside (P2 w1 _ _ _ _ ∧ P2 w1 _ _ _ _ ∧ P2 w1 _ _ _ _ ∧ Below w.heap.size w w1) := ⟨X.out.1.later hb1, X.out.2.1.later hb1, X.out.2.2.1.later hb1, below_step X.out.2.2.2 hb1⟩; clear hb1 c0 c1 e0 e1; obtain ⟨d0, d1⟩ := Y.out.2.2.1.cells; have z0 := Y.out.2.2.1.frozen 0; have z1 := Y.out.2.2.1.frozen 1; obtain ⟨e0, e1⟩ := Y.out.2.1.cells)
          have hne := Bw.some w1
          have p0 : ∀ p : Bw w1, p.w'.cell? ⟨w.heap.size, 1, none⟩ = some (.int .u16 (s : Int)) := fun p => (Y.out.1.later p.h).cells.2
          have p1 : ∀ p : Bw w1, p.w'.cell? ⟨w.heap.size + 1, 1, none⟩ = some (.int .u8 (i : Int)) := fun p => (Y.out.2.1.later p.h).cells.2
          refine wp_region_wq (by kernel_rfl) (by kernel_rfl) ?_
          repeat (first
            | (refine wq_ch Y.out.2.1 (.tmp 3) rfl rfl (by go_simp) ?_; dsimp only [Act.put, Array.setIfInBounds])
            | (refine wq_step (fun K hK => ?_); go_simp; first
              | (refine hK _ ?_; clear hK K)
              | (apply Exists.intro; refine ⟨fun _ => ?_, hK _ ?_⟩; (first | (go_at_call 26; exact Calls.bw_same (C23.out _)) | (go_at_call 38; exact Calls.bw_of (C24.out _))); clear hK K)))
          refine wq_nil ?_
          intro _ hw'
          obtain ⟨pq, hw''⟩ := hw'
          subst hw''
          have Z : Aside (P2 pq.w' _ _ _ _ ∧ P2 pq.w' _ _ _ _ ∧ P2 pq.w' _ _ _ _ ∧ Below w.heap.size w pq.w') := ⟨Y.out.1.later pq.h, Y.out.2.1.later pq.h, Y.out.2.2.1.later pq.h, below_step Y.out.2.2.2 pq.h⟩
          clear p0 p1 d0 d1 z0 z1 e0 e1 hne
          obtain ⟨c0, c1⟩ := Z.out.1.cells
          obtain ⟨e0, e1⟩ := Z.out.2.1.cells
          obtain ⟨d0, d1⟩ := Z.out.2.2.1.cells
          have z0 := Z.out.2.2.1.frozen 0
          have z1 := Z.out.2.2.1.frozen 1
          clear Y
          generalize pq.w' = w2 at *
          go_wp2
          exact bodyPost_ret (results_cell2 rfl rfl (Try.isAgg34 _) (Try.sizeOf34 _) (load_two (Z.out.2.2.1.put _ _))) rfl ⟨rfl, below_put Z.out.2.2.2 (by omega) _ _⟩
        | false =>
          by_cases h1 : v = 1000
          · subst h1
            have E : appE 1000 s true i = 11 := by unfold appE; rw [if_pos ⟨hr, hi⟩, if_neg (fun h => by rw [hh] at h; exact absurd h.2 (by decide)), if_neg (fun h => absurd h.1 (by decide)), if_pos rfl]
            have E1 : appV 1000 s true i = 0 := by unfold appV; rw [E]; rfl
            have E2 : appS 1000 s true i = 0 := by unfold appS; rw [E]; rfl
            rw [E, E1, E2]
            clear E E1 E2
            rw [hh] at C23
            generalize chS s true i = r at C24 ⊢
            clear hh hr hi
            go_enter Try.func20, Try.ntmps20
            go_wp2_with fail
            rw [← hV]
            clear hV
            obtain ⟨c0, c1⟩ := X.out.1.cells
            obtain ⟨e0, e1⟩ := X.out.2.1.cells
            go_wp2_with (go_at_call 37; refine (C12.out _).mono ?_; rintro e w1 ⟨rfl, hb1⟩; have Y : Aside (P2 w1 _ _ _ _ ∧ P2 w1 _ _ _ _ ∧ P2 w1 _ _ _ _ ∧ Below w.heap.size w w1) := ⟨X.out.1.later hb1, X.out.2.1.later hb1, X.out.2.2.1.later hb1, below_step X.out.2.2.2 hb1⟩; clear hb1 c0 c1 e0 e1; obtain ⟨d0, d1⟩ := Y.out.2.2.1.cells; have z0 := Y.out.2.2.1.frozen 0; have z1 := Y.out.2.2.1.frozen 1; obtain ⟨e0, e1⟩ := Y.out.2.1.cells)
            have hne := Bw.some w1
            have p0 : ∀ p : Bw w1, p.w'.cell? ⟨w.heap.size, 1, none⟩ = some (.int .u16 (s : Int)) := fun p => (Y.out.1.later p.h).cells.2
            have p1 : ∀ p : Bw w1, p.w'.cell? ⟨w.heap.size + 1, 1, none⟩ = some (.int .u8 (i : Int)) := fun p => (Y.out.2.1.later p.h).cells.2
            refine wp_region_wq (by kernel_rfl) (by kernel_rfl) ?_
            repeat (first
              | (refine wq_ch Y.out.2.1 (.tmp 3) rfl rfl (by go_simp) ?_; dsimp only [Act.put, Array.setIfInBounds])
              | (refine wq_step (fun K hK => ?_); go_simp; first
                | (refine hK _ ?_; clear hK K)
                | (apply Exists.intro; refine ⟨fun _ => ?_, hK _ ?_⟩; (first | (go_at_call 26; exact Calls.bw_same (C23.out _)) | (go_at_call 38; exact Calls.bw_of (C24.out _))); clear hK K)))
            refine wq_nil ?_
            intro _ hw'
            obtain ⟨pq, hw''⟩ := hw'
            subst hw''
            have Z : Aside (P2 pq.w' _ _ _ _ ∧ P2 pq.w' _ _ _ _ ∧ P2 pq.w' _ _ _ _ ∧ Below w.heap.size w pq.w') := ⟨Y.out.1.later pq.h, Y.out.2.1.later pq.h, Y.out.2.2.1.later pq.h, below_step Y.out.2.2.2 pq.h⟩
            clear p0 p1 d0 d1 z0 z1 e0 e1 hne
            obtain ⟨c0, c1⟩ := Z.out.1.cells
            obtain ⟨e0, e1⟩ := Z.out.2.1.cells
            obtain ⟨d0, d1⟩ := Z.out.2.2.1.cells
            have z0 := Z.out.2.2.1.frozen 0
            have z1 := Z.out.2.2.1.frozen 1
            clear Y
            generalize pq.w' = w2 at *
            go_wp2
            exact bodyPost_ret (results_cell2 rfl rfl (Try.isAgg34 _) (Try.sizeOf34 _) (load_two (Z.out.2.2.1.put _ _))) rfl ⟨rfl, below_put Z.out.2.2.2 (by omega) _ _⟩
          · have h1b : (v == 1000) = false := by simp [h1]
            have hp : Aside (wrap64 (v + 1) = v + 1) := by have := hv.out; unfold rightB at hr; simp only [Bool.and_eq_true, decide_eq_true_eq] at hr; have h0 := hr.1; have h9 := hr.2.1; exact IntWalk.wrap64_in _ ⟨by omega, by omega⟩
            by_cases h2 : chS s true i = 0
            · rw [h2] at C24
              have E : appE v s true i = 10 := by unfold appE; rw [if_pos ⟨hr, hi⟩, if_neg (fun h => by rw [hh] at h; exact absurd h.2 (by decide)), if_neg (fun h => absurd h.1 (by decide)), if_neg h1, if_pos h2]
              have E1 : appV v s true i = 0 := by unfold appV; rw [E]; rfl
              have E2 : appS v s true i = 0 := by unfold appS; rw [E]; rfl
              rw [E, E1, E2]
              clear E E1 E2
              rw [hh] at C23
              clear h2
              clear hh hr hi
              go_enter Try.func20, Try.ntmps20
              go_wp2_with fail
              rw [← hV]
              clear hV
              obtain ⟨c0, c1⟩ := X.out.1.cells
              obtain ⟨e0, e1⟩ := X.out.2.1.cells
              go_wp2_with (go_at_call 37; refine (C12.out _).mono ?_; rintro e w1 ⟨rfl, hb1⟩; have Y : Aside (P2 w1 _ _ _ _ ∧ P2 w1 _ _ _ _ ∧ P2 w1 _ _ _ _ ∧ Below w.heap.size w w1) := ⟨X.out.1.later hb1, X.out.2.1.later hb1, X.out.2.2.1.later hb1, below_step X.out.2.2.2 hb1⟩; clear hb1 c0 c1 e0 e1; obtain ⟨d0, d1⟩ := Y.out.2.2.1.cells; have z0 := Y.out.2.2.1.frozen 0; have z1 := Y.out.2.2.1.frozen 1; obtain ⟨e0, e1⟩ := Y.out.2.1.cells)
              have hne := Bw.some w1
              have p0 : ∀ p : Bw w1, p.w'.cell? ⟨w.heap.size, 1, none⟩ = some (.int .u16 (s : Int)) := fun p => (Y.out.1.later p.h).cells.2
              have p1 : ∀ p : Bw w1, p.w'.cell? ⟨w.heap.size + 1, 1, none⟩ = some (.int .u8 (i : Int)) := fun p => (Y.out.2.1.later p.h).cells.2
              refine wp_region_wq (by kernel_rfl) (by kernel_rfl) ?_
              repeat (first
                | (refine wq_ch Y.out.2.1 (.tmp 3) rfl rfl (by go_simp) ?_; dsimp only [Act.put, Array.setIfInBounds])
                | (refine wq_step (fun K hK => ?_); go_simp; first
                  | (refine hK _ ?_; clear hK K)
                  | (apply Exists.intro; refine ⟨fun _ => ?_, hK _ ?_⟩; (first | (go_at_call 26; exact Calls.bw_same (C23.out _)) | (go_at_call 38; exact Calls.bw_of (C24.out _))); clear hK K)))
              refine wq_nil ?_
              intro _ hw'
              obtain ⟨pq, hw''⟩ := hw'
              subst hw''
              have Z : Aside (P2 pq.w' _ _ _ _ ∧ P2 pq.w' _ _ _ _ ∧ P2 pq.w' _ _ _ _ ∧ Below w.heap.size w pq.w') := ⟨Y.out.1.later pq.h, Y.out.2.1.later pq.h, Y.out.2.2.1.later pq.h, below_step Y.out.2.2.2 pq.h⟩
              clear p0 p1 d0 d1 z0 z1 e0 e1 hne
              obtain ⟨c0, c1⟩ := Z.out.1.cells
              obtain ⟨e0, e1⟩ := Z.out.2.1.cells
              obtain ⟨d0, d1⟩ := Z.out.2.2.1.cells
              have z0 := Z.out.2.2.1.frozen 0
              have z1 := Z.out.2.2.1.frozen 1
              clear Y
              generalize pq.w' = w2 at *
              go_wp2
              exact bodyPost_ret (results_cell2 rfl rfl (Try.isAgg34 _) (Try.sizeOf34 _) (load_two (Z.out.2.2.1.put _ _))) rfl ⟨rfl, below_put Z.out.2.2.2 (by omega) _ _⟩
            · have h2b : (((chS s true i : Nat) : Int) == 0) = false := by rw [beq_eq_false_iff_ne]; omega
              have E : appE v s true i = 0 := by unfold appE; rw [if_pos ⟨hr, hi⟩, if_neg (fun h => by rw [hh] at h; exact absurd h.2 (by decide)), if_neg (fun h => absurd h.1 (by decide)), if_neg h1, if_neg h2]
              have E1 : appV v s true i = v + 1 := by unfold appV; rw [if_pos E]
              have E2 : appS v s true i = chS s true i := by unfold appS; rw [if_pos E]
              rw [E, E1, E2]
              clear E E1 E2
              rw [hh] at C23
              clear h2
              generalize chS s true i = r at C24 h2b ⊢
              have hq := hp.out
              clear hh hr hi
              go_enter Try.func20, Try.ntmps20
              go_wp2_with fail
              rw [← hV]
              clear hV
              obtain ⟨c0, c1⟩ := X.out.1.cells
              obtain ⟨e0, e1⟩ := X.out.2.1.cells
              go_wp2_with (go_at_call 37; refine (C12.out _).mono ?_; rintro e w1 ⟨rfl, hb1⟩; have Y : Aside (P2 w1 _ _ _ _ ∧ P2 w1 _ _ _ _ ∧ P2 w1 _ _ _ _ ∧ Below w.heap.size w w1) := ⟨X.out.1.later hb1, X.out.2.1.later hb1, X.out.2.2.1.later hb1, below_step X.out.2.2.2 hb1⟩; clear hb1 c0 c1 e0 e1; obtain ⟨d0, d1⟩ := Y.out.2.2.1.cells; have z0 := Y.out.2.2.1.frozen 0; have z1 := Y.out.2.2.1.frozen 1; obtain ⟨e0, e1⟩ := Y.out.2.1.cells)
              have hne := Bw.some w1
              have p0 : ∀ p : Bw w1, p.w'.cell? ⟨w.heap.size, 1, none⟩ = some (.int .u16 (s : Int)) := fun p => (Y.out.1.later p.h).cells.2
              have p1 : ∀ p : Bw w1, p.w'.cell? ⟨w.heap.size + 1, 1, none⟩ = some (.int .u8 (i : Int)) := fun p => (Y.out.2.1.later p.h).cells.2
              refine wp_region_wq (by kernel_rfl) (by kernel_rfl) ?_
              repeat (first
                | (refine wq_ch Y.out.2.1 (.tmp 3) rfl rfl (by go_simp) ?_; dsimp only [Act.put, Array.setIfInBounds])
                | (refine wq_step (fun K hK => ?_); go_simp; first
                  | (refine hK _ ?_; clear hK K)
                  | (apply Exists.intro; refine ⟨fun _ => ?_, hK _ ?_⟩; (first | (go_at_call 26; exact Calls.bw_same (C23.out _)) | (go_at_call 38; exact Calls.bw_of (C24.out _))); clear hK K)))
              refine wq_nil ?_
              intro _ hw'
              obtain ⟨pq, hw''⟩ := hw'
              subst hw''
              have Z : Aside (P2 pq.w' _ _ _ _ ∧ P2 pq.w' _ _ _ _ ∧ P2 pq.w' _ _ _ _ ∧ Below w.heap.size w pq.w') := ⟨Y.out.1.later pq.h, Y.out.2.1.later pq.h, Y.out.2.2.1.later pq.h, below_step Y.out.2.2.2 pq.h⟩
              clear p0 p1 d0 d1 z0 z1 e0 e1 hne
              obtain ⟨c0, c1⟩ := Z.out.1.cells
              obtain ⟨e0, e1⟩ := Z.out.2.1.cells
              obtain ⟨d0, d1⟩ := Z.out.2.2.1.cells
              have z0 := Z.out.2.2.1.frozen 0
              have z1 := Z.out.2.2.1.frozen 1
              clear Y
              generalize pq.w' = w2 at *
              go_wp2
              exact bodyPost_ret (results_cell2 rfl rfl (Try.isAgg34 _) (Try.sizeOf34 _) (load_two (Z.out.2.2.1.put _ _))) rfl ⟨rfl, below_put Z.out.2.2.2 (by omega) _ _⟩
      | false =>
        cases hh : hasS s i with
        | false =>
          have E : appE v s false i = 8 := by unfold appE; rw [if_pos ⟨hr, hi⟩, if_neg (fun h => absurd h.1 (by decide)), if_pos ⟨rfl, hh⟩]
          have E1 : appV v s false i = 0 := by unfold appV; rw [E]; rfl
          have E2 : appS v s false i = 0 := by unfold appS; rw [E]; rfl
          rw [E, E1, E2]
          clear E E1 E2
          rw [hh] at C23
          generalize chS s false i = r at C24 ⊢
          clear hh hr hi
          go_enter Try.func20, Try.ntmps20
          go_wp2_with fail
          rw [← hV]
          clear hV
          obtain ⟨c0, c1⟩ := X.out.1.cells
          obtain ⟨e0, e1⟩ := X.out.2.1.cells
          go_wp2_with (go_at_call 37; refine (C12.out _).mono ?_; rintro e w1 ⟨rfl, hb1⟩; have Y : Aside (P2 w1 _ _ _ _ ∧ P2 w1 _ _ _ _ ∧ P2 w1 _ _ _ _ ∧ Below w.heap.size w w1) := ⟨X.out.1.later hb1, X.out.2.1.later hb1, X.out.2.2.1.later hb1, below_step X.out.2.2.2 hb1⟩; clear hb1 c0 c1 e0 e1; obtain ⟨d0, d1⟩ := Y.out.2.2.1.cells; have z0 := Y.out.2.2.1.frozen 0; have z1 := Y.out.2.2.1.frozen 1; obtain ⟨e0, e1⟩ := Y.out.2.1.cells)
          have hne := Bw.some w1
          have p0 : ∀ p : Bw w1, p.w'.cell? ⟨w.heap.size, 1, none⟩ = some (.int .u16 (s : Int)) := fun p => (Y.out.1.later p.h).cells.2
          have p1 : ∀ p : Bw w1, p.w'.cell? ⟨w.heap.size + 1, 1, none⟩ = some (.int .u8 (i : Int)) := fun p => (Y.out.2.1.later p.h).cells.2
          refine wp_region_wq (by kernel_rfl) (by kernel_rfl) ?_
          repeat (first
            | (refine wq_ch Y.out.2.1 (.tmp 3) rfl rfl (by go_simp) ?_; dsimp only [Act.put, Array.setIfInBounds])
            | (refine wq_step (fun K hK => ?_); go_simp; first
              | (refine hK _ ?_; clear hK K)
              | (apply Exists.intro; refine ⟨fun _ => ?_, hK _ ?_⟩; (first | (go_at_call 26; exact Calls.bw_same (C23.out _)) | (go_at_call 38; exact Calls.bw_of (C24.out _))); clear hK K)))
          refine wq_nil ?_
          intro _ hw'
          obtain ⟨pq, hw''⟩ := hw'
          subst hw''
          have Z : Aside (P2 pq.w' _ _ _ _ ∧ P2 pq.w' _ _ _ _ ∧ P2 pq.w' _ _ _ _ ∧ Below w.heap.size w pq.w') := ⟨Y.out.1.later pq.h, Y.out.2.1.later pq.h, Y.out.2.2.1.later pq.h, below_step Y.out.2.2.2 pq.h⟩
          clear p0 p1 d0 d1 z0 z1 e0 e1 hne
          obtain ⟨c0, c1⟩ := Z.out.1.cells
          obtain ⟨e0, e1⟩ := Z.out.2.1.cells
          obtain ⟨d0, d1⟩ := Z.out.2.2.1.cells
          have z0 := Z.out.2.2.1.frozen 0
          have z1 := Z.out.2.2.1.frozen 1
          clear Y
          generalize pq.w' = w2 at *
          go_wp2
          exact bodyPost_ret (results_cell2 rfl rfl (Try.isAgg34 _) (Try.sizeOf34 _) (load_two (Z.out.2.2.1.put _ _))) rfl ⟨rfl, below_put Z.out.2.2.2 (by omega) _ _⟩
        | true =>
          by_cases h1 : v = 1000
          · subst h1
            have E : appE 1000 s false i = 11 := by unfold appE; rw [if_pos ⟨hr, hi⟩, if_neg (fun h => absurd h.1 (by decide)), if_neg (fun h => by rw [hh] at h; exact absurd h.2 (by decide)), if_pos rfl]
            have E1 : appV 1000 s false i = 0 := by unfold appV; rw [E]; rfl
            have E2 : appS 1000 s false i = 0 := by unfold appS; rw [E]; rfl
            rw [E, E1, E2]
            clear E E1 E2
            rw [hh] at C23
            generalize chS s false i = r at C24 ⊢
            clear hh hr hi
            go_enter Try.func20, Try.ntmps20
            go_wp2_with fail
            rw [← hV]
            clear hV
            obtain ⟨c0, c1⟩ := X.out.1.cells
            obtain ⟨e0, e1⟩ := X.out.2.1.cells
            go_wp2_with (go_at_call 37; refine (C12.out _).mono ?_; rintro e w1 ⟨rfl, hb1⟩; have Y : Aside (P2 w1 _ _ _ _ ∧ P2 w1 _ _ _ _ ∧ P2 w1 _ _ _ _ ∧ Below w.heap.size w w1) := ⟨X.out.1.later hb1, X.out.2.1.later hb1, X.out.2.2.1.later hb1, below_step X.out.2.2.2 hb1⟩; clear hb1 c0 c1 e0 e1; obtain ⟨d0, d1⟩ := Y.out.2.2.1.cells; have z0 := Y.out.2.2.1.frozen 0; have z1 := Y.out.2.2.1.frozen 1; obtain ⟨e0, e1⟩ := Y.out.2.1.cells)
            have hne := Bw.some w1
            have p0 : ∀ p : Bw w1, p.w'.cell? ⟨w.heap.size, 1, none⟩ = some (.int .u16 (s : Int)) := fun p => (Y.out.1.later p.h).cells.2
            have p1 : ∀ p : Bw w1, p.w'.cell? ⟨w.heap.size + 1, 1, none⟩ = some (.int .u8 (i : Int)) := fun p => (Y.out.2.1.later p.h).cells.2
            refine wp_region_wq (by kernel_rfl) (by kernel_rfl) ?_
            repeat (first
              | (refine wq_ch Y.out.2.1 (.tmp 3) rfl rfl (by go_simp) ?_; dsimp only [Act.put, Array.setIfInBounds])
              | (refine wq_step (fun K hK => ?_); go_simp; first
                | (refine hK _ ?_; clear hK K)
                | (apply Exists.intro; refine ⟨fun _ => ?_, hK _ ?_⟩; (first | (go_at_call 26; exact Calls.bw_same (C23.out _)) | (go_at_call 38; exact Calls.bw_of (C24.out _))); clear hK K)))
            refine wq_nil ?_
            intro _ hw'
            obtain ⟨pq, hw''⟩ := hw'
            subst hw''
            have Z : Aside (P2 pq.w' _ _ _ _ ∧ P2 pq.w' _ _ _ _ ∧ P2 pq.w' _ _ _ _ ∧ Below w.heap.size w pq.w') := ⟨Y.out.1.later pq.h, Y.out.2.1.later pq.h, Y.out.2.2.1.later pq.h, below_step Y.out.2.2.2 pq.h⟩
            clear p0 p1 d0 d1 z0 z1 e0 e1 hne
            obtain ⟨c0, c1⟩ := Z.out.1.cells
            obtain ⟨e0, e1⟩ := Z.out.2.1.cells
            obtain ⟨d0, d1⟩ := Z.out.2.2.1.cells
            have z0 := Z.out.2.2.1.frozen 0
            have z1 := Z.out.2.2.1.frozen 1
            clear Y
            generalize pq.w' = w2 at *
            go_wp2
            exact bodyPost_ret (results_cell2 rfl rfl (Try.isAgg34 _) (Try.sizeOf34 _) (load_two (Z.out.2.2.1.put _ _))) rfl ⟨rfl, below_put Z.out.2.2.2 (by omega) _ _⟩
          · have h1b : (v == 1000) = false := by simp [h1]
            have hp : Aside (wrap64 (v + 1) = v + 1) := by have := hv.out; unfold rightB at hr; simp only [Bool.and_eq_true, decide_eq_true_eq] at hr; have h0 := hr.1; have h9 := hr.2.1; exact IntWalk.wrap64_in _ ⟨by omega, by omega⟩
            by_cases h2 : chS s false i = 0
            · rw [h2] at C24
              have E : appE v s false i = 10 := by unfold appE; rw [if_pos ⟨hr, hi⟩, if_neg (fun h => absurd h.1 (by decide)), if_neg (fun h => by rw [hh] at h; exact absurd h.2 (by decide)), if_neg h1, if_pos h2]
              have E1 : appV v s false i = 0 := by unfold appV; rw [E]; rfl
              have E2 : appS v s false i = 0 := by unfold appS; rw [E]; rfl
              rw [E, E1, E2]
              clear E E1 E2
              rw [hh] at C23
              clear h2
              clear hh hr hi
              go_enter Try.func20, Try.ntmps20
              go_wp2_with fail
              rw [← hV]
              clear hV
              obtain ⟨c0, c1⟩ := X.out.1.cells
              obtain ⟨e0, e1⟩ := X.out.2.1.cells
              go_wp2_with (go_at_call 37; refine (C12.out _).mono ?_; rintro e w1 ⟨rfl, hb1⟩; have Y : Aside (P2 w1 _ _ _ _ ∧ P2 w1 _ _ _ _ ∧ P2 w1 _ _ _ _ ∧ Below w.heap.size w w1) := ⟨X.out.1.later hb1, X.out.2.1.later hb1, X.out.2.2.1.later hb1, below_step X.out.2.2.2 hb1⟩; clear hb1 c0 c1 e0 e1; obtain ⟨d0, d1⟩ := Y.out.2.2.1.cells; have z0 := Y.out.2.2.1.frozen 0; have z1 := Y.out.2.2.1.frozen 1; obtain ⟨e0, e1⟩ := Y.out.2.1.cells)
              have hne := Bw.some w1
              have p0 : ∀ p : Bw w1, p.w'.cell? ⟨w.heap.size, 1, none⟩ = some (.int .u16 (s : Int)) := fun p => (Y.out.1.later p.h).cells.2
              have p1 : ∀ p : Bw w1, p.w'.cell? ⟨w.heap.size + 1, 1, none⟩ = some (.int .u8 (i : Int)) := fun p => (Y.out.2.1.later p.h).cells.2
              refine wp_region_wq (by kernel_rfl) (by kernel_rfl) ?_
              repeat (first
                | (refine wq_ch Y.out.2.1 (.tmp 3) rfl rfl (by go_simp) ?_; dsimp only [Act.put, Array.setIfInBounds])
                | (refine wq_step (fun K hK => ?_); go_simp; first
                  | (refine hK _ ?_; clear hK K)
                  | (apply Exists.intro; refine ⟨fun _ => ?_, hK _ ?_⟩; (first | (go_at_call 26; exact Calls.bw_same (C23.out _)) | (go_at_call 38; exact Calls.bw_of (C24.out _))); clear hK K)))
              refine wq_nil ?_
              intro _ hw'
              obtain ⟨pq, hw''⟩ := hw'
              subst hw''
              have Z : Aside (P2 pq.w' _ _ _ _ ∧ P2 pq.w' _ _ _ _ ∧ P2 pq.w' _ _ _ _ ∧ Below w.heap.size w pq.w') := ⟨Y.out.1.later pq.h, Y.out.2.1.later pq.h, Y.out.2.2.1.later pq.h, below_step Y.out.2.2.2 pq.h⟩
              clear p0 p1 d0 d1 z0 z1 e0 e1 hne
              obtain ⟨c0, c1⟩ := Z.out.1.cells
              obtain ⟨e0, e1⟩ := Z.out.2.1.cells
              obtain ⟨d0, d1⟩ := Z.out.2.2.1.cells
              have z0 := Z.out.2.2.1.frozen 0
              have z1 := Z.out.2.2.1.frozen 1
              clear Y
              generalize pq.w' = w2 at *
              go_wp2
              exact bodyPost_ret (results_cell2 rfl rfl (Try.isAgg34 _) (Try.sizeOf34 _) (load_two (Z.out.2.2.1.put _ _))) rfl ⟨rfl, below_put Z.out.2.2.2 (by omega) _ _⟩
            · have h2b : (((chS s false i : Nat) : Int) == 0) = false := by rw [beq_eq_false_iff_ne]; omega
              have E : appE v s false i = 0 := by unfold appE; rw [if_pos ⟨hr, hi⟩, if_neg (fun h => absurd h.1 (by decide)), if_neg (fun h => by rw [hh] at h; exact absurd h.2 (by decide)), if_neg h1, if_neg h2]
              have E1 : appV v s false i = v + 1 := by unfold appV; rw [if_pos E]
              have E2 : appS v s false i = chS s false i := by unfold appS; rw [if_pos E]
              rw [E, E1, E2]
              clear E E1 E2
              rw [hh] at C23
              clear h2
              generalize chS s false i = r at C24 h2b ⊢
              have hq := hp.out
              clear hh hr hi
              go_enter Try.func20, Try.ntmps20
              go_wp2_with fail
              rw [← hV]
              clear hV
              obtain ⟨c0, c1⟩ := X.out.1.cells
              obtain ⟨e0, e1⟩ := X.out.2.1.cells
              go_wp2_with (go_at_call 37; refine (C12.out _).mono ?_; rintro e w1 ⟨rfl, hb1⟩; have Y : Aside (P2 w1 _ _ _ _ ∧ P2 w1 _ _ _ _ ∧ P2 w1 _ _ _ _ ∧ Below w.heap.size w w1) := ⟨X.out.1.later hb1, X.out.2.1.later hb1, X.out.2.2.1.later hb1, below_step X.out.2.2.2 hb1⟩; clear hb1 c0 c1 e0 e1; obtain ⟨d0, d1⟩ := Y.out.2.2.1.cells; have z0 := Y.out.2.2.1.frozen 0; have z1 := Y.out.2.2.1.frozen 1; obtain ⟨e0, e1⟩ := Y.out.2.1.cells)
              have hne := Bw.some w1
              have p0 : ∀ p : Bw w1, p.w'.cell? ⟨w.heap.size, 1, none⟩ = some (.int .u16 (s : Int)) := fun p => (Y.out.1.later p.h).cells.2
              have p1 : ∀ p : Bw w1, p.w'.cell? ⟨w.heap.size + 1, 1, none⟩ = some (.int .u8 (i : Int)) := fun p => (Y.out.2.1.later p.h).cells.2
              refine wp_region_wq (by kernel_rfl) (by kernel_rfl) ?_
              repeat (first
                | (refine wq_ch Y.out.2.1 (.tmp 3) rfl rfl (by go_simp) ?_; dsimp only [Act.put, Array.setIfInBounds])
                | (refine wq_step (fun K hK => ?_); go_simp; first
                  | (refine hK _ ?_; clear hK K)
                  | (apply Exists.intro; refine ⟨fun _ => ?_, hK _ ?_⟩; (first | (go_at_call 26; exact Calls.bw_same (C23.out _)) | (go_at_call 38; exact Calls.bw_of (C24.out _))); clear hK K)))
              refine wq_nil ?_
              intro _ hw'
              obtain ⟨pq, hw''⟩ := hw'
              subst hw''
              have Z : Aside (P2 pq.w' _ _ _ _ ∧ P2 pq.w' _ _ _ _ ∧ P2 pq.w' _ _ _ _ ∧ Below w.heap.size w pq.w') := ⟨Y.out.1.later pq.h, Y.out.2.1.later pq.h, Y.out.2.2.1.later pq.h, below_step Y.out.2.2.2 pq.h⟩
              clear p0 p1 d0 d1 z0 z1 e0 e1 hne
              obtain ⟨c0, c1⟩ := Z.out.1.cells
              obtain ⟨e0, e1⟩ := Z.out.2.1.cells
              obtain ⟨d0, d1⟩ := Z.out.2.2.1.cells
              have z0 := Z.out.2.2.1.frozen 0
              have z1 := Z.out.2.2.1.frozen 1
              clear Y
              generalize pq.w' = w2 at *
              go_wp2
              exact bodyPost_ret (results_cell2 rfl rfl (Try.isAgg34 _) (Try.sizeOf34 _) (load_two (Z.out.2.2.1.put _ _))) rfl ⟨rfl, below_put Z.out.2.2.2 (by omega) _ _⟩
    · have hi8 : (16 : Int) ≤ (i : Int) := by omega
      have E : appE v s a i = 2 := by unfold appE; rw [if_neg (fun h => hi h.2)]
      have E1 : appV v s a i = 0 := by unfold appV; rw [E]; rfl
      have E2 : appS v s a i = 0 := by unfold appS; rw [E]; rfl
      rw [E, E1, E2]
      rw [hr] at C12
      clear hr hi E E1 E2
      go_enter Try.func20, Try.ntmps20
      go_wp2_with fail
      rw [← hV]
      clear hV
      obtain ⟨c0, c1⟩ := X.out.1.cells
      obtain ⟨e0, e1⟩ := X.out.2.1.cells
      go_wp2_with (go_at_call 37; refine (C12.out _).mono ?_; rintro e w1 ⟨rfl, hb1⟩; have Y : Aside (P2 w1 _ _ _ _ ∧ P2 w1 _ _ _ _ ∧ P2 w1 _ _ _ _ ∧ Below w.heap.size w w1) := ⟨X.out.1.later hb1, X.out.2.1.later hb1, X.out.2.2.1.later hb1, below_step X.out.2.2.2 hb1⟩; clear hb1 c0 c1 e0 e1; obtain ⟨d0, d1⟩ := Y.out.2.2.1.cells; have z0 := Y.out.2.2.1.frozen 0; have z1 := Y.out.2.2.1.frozen 1; obtain ⟨e0, e1⟩ := Y.out.2.1.cells)
      exact bodyPost_ret (results_cell2 rfl rfl (Try.isAgg34 _) (Try.sizeOf34 _) (load_two (Y.out.2.2.1.put _ _))) rfl ⟨rfl, below_put Y.out.2.2.2 (by omega) _ _⟩
  · have hr' : rightB v s = false := by simpa using hr
    have E : appE v s a i = 2 := by unfold appE; rw [if_neg (fun h => hr h.1)]
    have E1 : appV v s a i = 0 := by unfold appV; rw [E]; rfl
    have E2 : appS v s a i = 0 := by unfold appS; rw [E]; rfl
    rw [E, E1, E2]
    rw [hr'] at C12
    clear hr hr' E E1 E2
    go_enter Try.func20, Try.ntmps20
    go_wp2_with fail
    rw [← hV]
    clear hV
    obtain ⟨c0, c1⟩ := X.out.1.cells
    obtain ⟨e0, e1⟩ := X.out.2.1.cells
    go_wp2_with (go_at_call 37; refine (C12.out _).mono ?_; rintro e w1 ⟨rfl, hb1⟩; have Y : Aside (P2 w1 _ _ _ _ ∧ P2 w1 _ _ _ _ ∧ P2 w1 _ _ _ _ ∧ Below w.heap.size w w1) := ⟨X.out.1.later hb1, X.out.2.1.later hb1, X.out.2.2.1.later hb1, below_step X.out.2.2.2 hb1⟩; clear hb1 c0 c1 e0 e1; obtain ⟨d0, d1⟩ := Y.out.2.2.1.cells; have z0 := Y.out.2.2.1.frozen 0; have z1 := Y.out.2.2.1.frozen 1; obtain ⟨e0, e1⟩ := Y.out.2.1.cells)
    exact bodyPost_ret (results_cell2 rfl rfl (Try.isAgg34 _) (Try.sizeOf34 _) (load_two (Y.out.2.2.1.put _ _))) rfl ⟨rfl, below_put Y.out.2.2.2 (by omega) _ _⟩
end Rl
end Go.Proofs.Ytfjdopmjcddnlaa
