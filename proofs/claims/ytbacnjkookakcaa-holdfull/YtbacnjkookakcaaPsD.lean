/- Vectors compared; regions that only read, whose callees leave what lay there alone; what Below, most and the document's own Join and Below give. -/
import Derived.Test.YtbacnjkookakcaaPsC
import Derived.ChangeKeysEq
import Derived.Deep.RegionHeld3
set_option linter.unusedVariables false
namespace Go.Proofs.Ytbacnjkookakcaa
open Go.RowKit
namespace Ps

theorem step_below {w w1 w2 : World} (h : Below w.heap.size w w1) (k : Below w1.heap.size w1 w2) : Below w.heap.size w w2 := h.trans (k.mono h.size)
/-- A world in which all that lay in w lies as it lay. -/
structure Bw (w : World) where
  w' : World
  h : Below w.heap.size w w'
theorem Bw.some (w : World) : Nonempty (Bw w) := ⟨⟨w, Below.refl _ _⟩⟩
theorem wp_region_bw {P : Program} {id : Nat} {Q : Exit → Act → World → Prop} {a : Act} {w : World} {l : List Oper} (hm : P.follows .mixedOrders = true) (hB : Region.lexB .any l.toArray = true)
    (h : wpQuiet P l.toArray (fun w' => ∃ p : Bw w, w' = p.w') (fun a' => ∀ w', (∃ p : Bw w, w' = p.w') → Q .normal a' w') l a) : (Code.region id l.toArray true).wp P Q a w :=
  wp_region_quiet (C := fun w' => ∃ p : Bw w, w' = p.w') hm hB ⟨⟨w.drew, (Below.refl _ w).drew⟩, rfl⟩ (by simpa using h)
/-- The lexical walk behind a word that is not laid open. -/
structure WQ (P : Program) (ops : Array Oper) (C : World → Prop) (Q : Act → Prop) (l : List Oper) (a : Act) : Prop where
  out : wpQuiet P ops C Q l a
theorem wq_nil {P : Program} {ops : Array Oper} {C : World → Prop} {Q : Act → Prop} {a : Act} (h : Q a) : WQ P ops C Q [] a := ⟨h⟩
theorem wq_step {P : Program} {ops : Array Oper} {C : World → Prop} {Q : Act → Prop} {a : Act} {o : Oper} {rest : List Oper}
    (h : ∀ K : Act → Prop, (∀ a, WQ P ops C Q rest a → K a) → if Region.wanted o (yielded ops a.tmps) then o.quiet P a C K else K (a.put o.dst undef)) : WQ P ops C Q (o :: rest) a :=
  ⟨h _ (fun _ h => h.out)⟩
theorem wp_region_wq {P : Program} {id : Nat} {Q : Exit → Act → World → Prop} {a : Act} {w : World} {l : List Oper} (hm : P.follows .mixedOrders = true) (hB : Region.lexB .any l.toArray = true)
    (h : WQ P l.toArray (fun w' => ∃ p : Bw w, w' = p.w') (fun a' => ∀ w', (∃ p : Bw w, w' = p.w') → Q .normal a' w') l a) : (Code.region id l.toArray true).wp P Q a w := wp_region_bw hm hB h.out
theorem Calls.bw_of {P : Program} {f : FuncId} {args : Array Value} {w : World} {p : Bw w} {v : Value} (h : Calls P f args p.w' fun e w' => e = .returned v ∧ Below p.w'.heap.size p.w' w') :
    Calls P f args p.w' fun e w'' => e = .returned v ∧ ∃ q : Bw w, w'' = q.w' :=
  h.mono fun _ w'' ⟨he, hb⟩ => ⟨he, ⟨w'', step_below p.h hb⟩, rfl⟩
theorem wq_run {P : Program} {ops : Array Oper} {C : World → Prop} {Q : Act → Prop} {a : Act} {o : Oper} {rest : List Oper} (v : Value) (hw : Region.wanted o (yielded ops a.tmps) = true)
    (hr : ∀ w, C w → (execOp a.eval o).run P w = .ok (.value v) w) (h : WQ P ops C Q rest (a.put o.dst v)) : WQ P ops C Q (o :: rest) a :=
  ⟨by unfold wpQuiet; rw [if_pos hw]; exact ⟨v, fun w hC => by unfold Oper.quietAt; rw [hr w hC]; exact ⟨rfl, rfl⟩, h.out⟩⟩
theorem exec_load {P : Program} (T k : Nat) (w : World) (aE : (isAgg T).run P w = .ok true w) (zE : (Go.sizeOf T).run P w = .ok k w) (arr : Array Value) (a : Addr) (hl : Sem.run P (loadCellsFrom a 0 k #[]) w = .ok arr w)
    (ac : Act) (o : Oper) (p : Operand) (ho : o.op = .load T p) (hp : ac.eval p = .pointer (some a)) : (execOp ac.eval o).run P w = .ok (.value (.agg arr)) w := by
  generalize ac.eval = ev at hp ⊢
  simp [execOp, ho, hp, aE, zE, hl, go_sem]
/-- A vector loaded whole, in every world in which all that lay in W lies as it lay. -/
theorem wq_vec {ops : Array Oper} {Q : Act → Prop} {a : Act} {o : Oper} {rest : List Oper} {W : World} {b : Nat} {f : Nat → Nat} (h : V16 W b f) (p : Operand) (ho : o.op = .load 24 p) (hp : a.eval p = .pointer (some ⟨b, 0, none⟩)) (hw : Region.wanted o (yielded ops a.tmps) = true)
    (hn : WQ Try.prog ops (fun w' => ∃ p : Bw W, w' = p.w') Q rest (a.put o.dst (.agg (vecA f)))) : WQ Try.prog ops (fun w' => ∃ p : Bw W, w' = p.w') Q (o :: rest) a := by
  refine wq_run (.agg (vecA f)) hw (fun w' hw' => ?_) hn
  obtain ⟨q, rfl⟩ := hw'
  exact exec_load 24 16 q.w' (Try.isAgg24 _) (Try.sizeOf24 _) (vecA f) _ (load_vec (h.later q.h)) a o p ho hp

theorem below_drew_n (w : World) (q : Nat) : Below w.heap.size w (w.drewN q) := by
  have h := Below.refl w.heap.size w
  exact ⟨h.os, h.tape, h.output, h.size, h.block⟩
theorem info22 : ∃ i, Try.prog.info? 22 = some i := Option.isSome_iff_exists.1 (by kernel_rfl)
theorem part_vec (f : Nat → Nat) {i : Nat} (hi : i < 16) (w : World) : (Go.part 22 (vecA f) i).run Try.prog w = .ok (.int .u16 ((f i : Nat) : Int)) w := by
  have h := vecA_get f hi
  have h1 := Try.isAgg22 (w := w)
  generalize vecA f = A at h
  simp [Go.part, h1, h]
theorem eqItems_vec (f g : Nat → Nat) (w : World) (d : Nat) : ∀ is : List Nat, (∀ i ∈ is, i < 16) → (Op.eqItems (d + 1) 22 1 (vecA f) (vecA g) is).run Try.prog w = .ok (is.all fun i => decide (f i = g i)) w
  | [], _ => by simp [Op.eqItems]
  | i :: is, h => by
    have hi := h i (List.mem_cons_self ..)
    have ih := eqItems_vec f g w d is fun j hj => h j (List.mem_cons_of_mem _ hj)
    have h1 := part_vec f hi w
    have h2 := part_vec g hi w
    have h3 := run_equalIn_int (P := Try.prog) w d 22 .u16 .u16 ((f i : Nat) : Int) ((g i : Nat) : Int) Try.underlying22
    simp only [Op.eqItems, Sem.run_bind, Nat.mul_one, h1, h2, h3, Result.andThen_ok, List.all_cons]
    by_cases e : f i = g i
    · simp [e, ih]
    · have e2 : ((((f i : Nat) : Int) == ((g i : Nat) : Int))) = false := by rw [beq_eq_false_iff_ne]; omega
      simp [e, e2]
theorem equalIn_vec (f g : Nat → Nat) (w : World) (d : Nat) : (Op.equalIn (d + 1 + 1) 24 (.agg (vecA f)) (.agg (vecA g))).run Try.prog w = .ok (eqV f g) w := by
  obtain ⟨i, hi⟩ := info22
  rw [run_equalIn_array w (d + 1) _ _ Try.underlying24 hi, show Try.prog.cellsOf 22 = 1 from by kernel_rfl]
  exact eqItems_vec f g w d _ fun i hi => List.mem_range.1 hi
theorem eql_vec (f g : Nat → Nat) (w : World) : (binOp .eql 24 (.agg (vecA f)) (.agg (vecA g))).run Try.prog w = .ok (.bool (eqV f g)) w := by
  rw [run_eql_struct, show (10000 : Nat) = 9998 + 1 + 1 from rfl, equalIn_vec]; rfl
theorem eql_vec_guard (f g : Nat → Nat) (x y : Operand) (w : World) : (eqGuard .eql 24 x y (.agg (vecA f)) (.agg (vecA g))).run Try.prog w = .ok () w :=
  run_eqGuard_agg w .eql 24 x y _ _ (by kernel_rfl)

set_option maxHeartbeats 2000000 in
set_option maxRecDepth 100000 in
theorem below_any (f g : Nat → Nat) (w : World) :
    Calls Try.prog 35 #[.agg (vecA f), .agg (vecA g)] w fun e w' => e = .returned (.bool (belowB f g)) ∧ Below w.heap.size w w' := by
  rw [← eqV_join]
  have J : Aside (∀ W, Calls Try.prog 43 #[.agg (vecA f), .agg (vecA g)] W fun e w' => e = .returned (.agg (vecA (joinV f g))) ∧ Below W.heap.size W w') := fun W => join_any f g W
  have q1 := fun W => eql_vec (joinV f g) g W
  have q2 := fun x y W => eql_vec_guard (joinV f g) g x y W
  generalize eqV (joinV f g) g = r at q1 ⊢
  generalize joinV f g = h at J q1 q2
  obtain ⟨V, hV⟩ : ∃ V, V = (w.alloc (.cells (vecA f) 24)).alloc (.cells (vecA g) 24) := ⟨_, rfl⟩
  have X : Aside (V16 V w.heap.size f ∧ V16 V (w.heap.size + 1) g ∧ Below w.heap.size w V) := by
    rw [hV]
    refine ⟨(V16.new w f).alloc _, ?_, ((Below.refl _ w).alloc (Nat.le_refl _) _).alloc (by simp) _⟩
    have := V16.new (w.alloc (.cells (vecA f) 24)) g
    simpa only [World.size_alloc] using this
  go_enter Try.func35, Try.ntmps35
  go_wp2_with fail
  rw [← hV]
  clear hV
  have hne := Bw.some V
  refine wp_region_wq (by kernel_rfl) (by kernel_rfl) ?_
  repeat (first | (refine wq_vec X.out.1 (.tmp 2) rfl rfl (by go_simp) ?_; dsimp only [Act.put, Array.setIfInBounds]) | (refine wq_vec X.out.2.1 (.tmp 3) rfl rfl (by go_simp) ?_; dsimp only [Act.put, Array.setIfInBounds]) | (refine wq_step (fun K hK => ?_); go_simp; first | (refine hK _ ?_; clear hK K) | (apply Exists.intro; refine ⟨fun _ => ?_, hK _ ?_⟩; (first | (go_at_call 43; exact Calls.bw_of (J.out _))); clear hK K)))
  refine wq_nil ?_
  intro _ hw'
  obtain ⟨pq, hw''⟩ := hw'
  subst hw''
  go_wp2
  go_ret
  exact ⟨rfl, step_below X.out.2.2 pq.h⟩
/-- The vector of a thousands. -/
def thou : Nat → Nat := fun _ => 1000
def partM (k : Nat) : Nat → Nat := fun i => if i < k then 1000 else 0
theorem partM_upd (k : Nat) : upd (partM k) k 1000 = partM (k + 1) := by
  funext i
  unfold upd partM
  by_cases h : i = k
  · subst h; rw [if_pos rfl, if_pos (by omega)]
  · rw [if_neg h]
    by_cases h2 : i < k
    · rw [if_pos h2, if_pos (by omega)]
    · rw [if_neg h2, if_neg (by omega)]
theorem partM_all : vecA (partM 16) = vecA thou := vecA_congr fun i hi => by simp [partM, thou, hi]
set_option maxHeartbeats 2000000 in
set_option maxRecDepth 100000 in
theorem most_any (w : World) : Calls Try.prog 44 #[] w fun e w' => e = .returned (.agg (vecA thou)) ∧ Below w.heap.size w w' := by
  obtain ⟨V, hV⟩ : ∃ V, V = (w.alloc (.cells #[.int .u16 0, .int .u16 0, .int .u16 0, .int .u16 0, .int .u16 0, .int .u16 0, .int .u16 0, .int .u16 0, .int .u16 0, .int .u16 0, .int .u16 0, .int .u16 0, .int .u16 0, .int .u16 0, .int .u16 0, .int .u16 0] 24)).alloc (.cells #[.int .u16 0, .int .u16 0, .int .u16 0, .int .u16 0, .int .u16 0, .int .u16 0, .int .u16 0, .int .u16 0, .int .u16 0, .int .u16 0, .int .u16 0, .int .u16 0, .int .u16 0, .int .u16 0, .int .u16 0, .int .u16 0] 24) := ⟨_, rfl⟩
  have XV : Aside (V16 V w.heap.size (fun _ => 0) ∧ V16 V (w.heap.size + 1) (partM 0) ∧ Below w.heap.size w V) := by
    rw [hV]
    refine ⟨(V16.zero w).alloc _, ?_, ((Below.refl _ w).alloc (Nat.le_refl _) _).alloc (by simp) _⟩
    have := V16.zero (w.alloc (.cells #[.int .u16 0, .int .u16 0, .int .u16 0, .int .u16 0, .int .u16 0, .int .u16 0, .int .u16 0, .int .u16 0, .int .u16 0, .int .u16 0, .int .u16 0, .int .u16 0, .int .u16 0, .int .u16 0, .int .u16 0, .int .u16 0] 24))
    simp only [World.size_alloc] at this
    have e : partM 0 = fun _ => 0 := by funext i; simp [partM]
    rw [e]; exact this
  go_enter Try.func44, Try.ntmps44
  go_wp2_with fail
  rw [← hV]
  clear hV
  go_loopw [2, 3] (fun _ i wr => ∃ k : Nat, k ≤ 16 ∧ i = .int .i64 k ∧ V16 wr w.heap.size (fun _ => 0) ∧ V16 wr (w.heap.size + 1) (partM k) ∧ Below w.heap.size w wr) (fun _ i _ => 16 - (intOf i).toNat)
  case atStart => exact ⟨0, by omega, rfl, XV.out⟩
  case round =>
    obtain ⟨k, hk, rfl, X0, X3, hb⟩ := hrel
    by_cases hlt : k < 16
    · have c0 := X3.at_ hlt
      have z0 := X3.frozen k
      have XX : Aside (V16 wr w.heap.size (fun _ => 0) ∧ V16 wr (w.heap.size + 1) (partM k) ∧ Below w.heap.size w wr) := ⟨X0, X3, hb⟩
      clear X0 X3 hb
      go_wp2
      go_roundw
      case rel =>
        refine ⟨k + 1, by omega, by go_num, XX.out.1.far (by omega) _, ?_, XX.out.2.2.setCell (by simp) _⟩
        have := XX.out.2.1.set 1000 hlt
        rw [partM_upd] at this
        exact this
      case measure => simp [intOf]; omega
    · obtain rfl : k = 16 := by omega
      have XX : Aside (V16 wr w.heap.size (fun _ => 0) ∧ V16 wr (w.heap.size + 1) (partM 16) ∧ Below w.heap.size w wr) := ⟨X0, X3, hb⟩
      clear X0 X3 hb
      go_wp2_with (first
        | (with_reducible refine wpList_vec XX.out.2.1 rfl _ rfl rfl ?_)
        | (with_reducible refine wpList_vec_store XX.out.1 rfl _ _ rfl rfl rfl ?_))
      have Z := XX.out.1.whole (partM 16)
      rw [partM_all] at Z ⊢
      exact bodyPost_ret (results_cell rfl rfl (Try.isAgg24 _) (Try.sizeOf24 _) (load_vec Z)) rfl ⟨rfl, below_cells _ _ XX.out.2.2 (by omega)⟩

set_option maxHeartbeats 2000000 in
set_option maxRecDepth 100000 in
/-- The document's own Below. -/
theorem rbelow_any (f g : Nat → Nat) (w : World) :
    Calls Try.prog 23 #[.agg (vecA f), .agg (vecA g)] w fun e w' => e = .returned (.bool (belowB f g)) ∧ Below w.heap.size w w' := by
  have R : Aside ((∀ i, i < 16 → f i ≤ g i) → belowB f g = true) := fun h => belowB_iff.2 h
  have R2 : Aside (∀ i, i < 16 → ¬ f i ≤ g i → belowB f g = false) := fun i hi h => by
    rcases hb : belowB f g with _ | _
    · rfl
    · exact absurd (belowB_iff.1 hb i hi) h
  generalize belowB f g = r at R R2 ⊢
  obtain ⟨V, hV⟩ : ∃ V, V = (w.alloc (.cells (vecA f) 24)).alloc (.cells (vecA g) 24) := ⟨_, rfl⟩
  have XV : Aside (V16 V w.heap.size f ∧ V16 V (w.heap.size + 1) g ∧ Below w.heap.size w V) := by
    rw [hV]
    refine ⟨(V16.new w f).alloc _, ?_, ((Below.refl _ w).alloc (Nat.le_refl _) _).alloc (by simp) _⟩
    have := V16.new (w.alloc (.cells (vecA f) 24)) g
    simpa only [World.size_alloc] using this
  go_enter Try.func23, Try.ntmps23
  go_wp2_with fail
  rw [← hV]
  clear hV
  go_loopw [5] (fun i wr => ∃ k : Nat, k ≤ 16 ∧ i = .int .i64 k ∧ (∀ j, j < k → f j ≤ g j) ∧ V16 wr w.heap.size f ∧ V16 wr (w.heap.size + 1) g ∧ Below w.heap.size w wr) (fun i _ => 16 - (intOf i).toNat)
  case atStart => exact ⟨0, by omega, rfl, fun j h => by omega, XV.out⟩
  case round =>
    obtain ⟨k, hk, rfl, hall, X0, X3, hb⟩ := hrel
    have AL : Aside (∀ j, j < k → f j ≤ g j) := hall
    clear hall
    by_cases hlt : k < 16
    · have c0 := X0.at_ hlt
      have c1 := X3.at_ hlt
      have XX : Aside (V16 wr w.heap.size f ∧ V16 wr (w.heap.size + 1) g ∧ Below w.heap.size w wr) := ⟨X0, X3, hb⟩
      clear X0 X3 hb
      by_cases hc : f k ≤ g k
      · have hc2 : ¬ ((g k : Nat) : Int) < ((f k : Nat) : Int) := by omega
        go_wp2
        go_quiet (fail)
        go_wp2
        go_roundw
        case rel =>
          refine ⟨k + 1, by omega, by go_num, fun j hj => ?_, ?_⟩
          · by_cases h : j = k
            · subst h; exact hc
            · exact AL.out j (by omega)
          · exact ⟨XX.out.1.later (below_drew_n _ _), XX.out.2.1.later (below_drew_n _ _), step_below XX.out.2.2 (below_drew_n _ _)⟩
        case measure => simp [intOf]; omega
      · have hc2 : ((g k : Nat) : Int) < ((f k : Nat) : Int) := by omega
        have rf := R2.out k hlt hc
        go_wp2
        go_quiet (fail)
        go_wp2
        go_ret
        rw [rf]
        exact ⟨rfl, step_below XX.out.2.2 (below_drew_n _ _)⟩
    · obtain rfl : k = 16 := by omega
      have rt := R.out AL.out
      have XX : Aside (Below w.heap.size w wr) := hb
      clear X0 X3 hb
      go_wp2
      go_ret
      rw [rt]
      exact ⟨rfl, XX.out⟩
end Ps
end Go.Proofs.Ytbacnjkookakcaa
