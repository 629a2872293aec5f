/- Bodies in memory: eighteen cells; which bodies may be, the program's own answer and the document's. -/
import Derived.Test.YtbacnjkookakcaaPsE
set_option linter.unusedVariables false
namespace Go.Proofs.Ytbacnjkookakcaa
open Go.RowKit
namespace Ps

/-- The cells of a body. -/
def bdA (b : Bd) : Array Value := #[.int .i64 b.kind, .int .u16 ((b.past 0 : Nat) : Int), .int .u16 ((b.past 1 : Nat) : Int), .int .u16 ((b.past 2 : Nat) : Int), .int .u16 ((b.past 3 : Nat) : Int), .int .u16 ((b.past 4 : Nat) : Int), .int .u16 ((b.past 5 : Nat) : Int), .int .u16 ((b.past 6 : Nat) : Int), .int .u16 ((b.past 7 : Nat) : Int), .int .u16 ((b.past 8 : Nat) : Int), .int .u16 ((b.past 9 : Nat) : Int), .int .u16 ((b.past 10 : Nat) : Int), .int .u16 ((b.past 11 : Nat) : Int), .int .u16 ((b.past 12 : Nat) : Int), .int .u16 ((b.past 13 : Nat) : Int), .int .u16 ((b.past 14 : Nat) : Int), .int .u16 ((b.past 15 : Nat) : Int), .string b.text]
theorem bdA_size (b : Bd) : (bdA b).size = 18 := rfl
theorem bdA_kind (b : Bd) : (bdA b)[0]? = some (.int .i64 b.kind) := rfl
theorem bdA_text (b : Bd) : (bdA b)[17]? = some (.string b.text) := rfl
theorem bdA_past (b : Bd) {i : Nat} (hi : i < 16) : (bdA b)[1 + i]? = some (.int .u16 ((b.past i : Nat) : Int)) := by
  have : i = 0 ∨ i = 1 ∨ i = 2 ∨ i = 3 ∨ i = 4 ∨ i = 5 ∨ i = 6 ∨ i = 7 ∨ i = 8 ∨ i = 9 ∨ i = 10 ∨ i = 11 ∨ i = 12 ∨ i = 13 ∨ i = 14 ∨ i = 15 := by omega
  rcases this with rfl | rfl | rfl | rfl | rfl | rfl | rfl | rfl | rfl | rfl | rfl | rfl | rfl | rfl | rfl | rfl <;> rfl
theorem bdA_alike {a b : Bd} (h : Alike a b) : bdA a = bdA b := by
  obtain ⟨h1, h2, h3⟩ := h
  unfold bdA
  rw [h1, h3, h2 0 (by decide), h2 1 (by decide), h2 2 (by decide), h2 3 (by decide), h2 4 (by decide), h2 5 (by decide), h2 6 (by decide), h2 7 (by decide), h2 8 (by decide), h2 9 (by decide), h2 10 (by decide), h2 11 (by decide), h2 12 (by decide), h2 13 (by decide), h2 14 (by decide), h2 15 (by decide)]
theorem bdA_one (b : Bd) : ∀ v ∈ (bdA b).toList, v.oneCell' = true := by
  intro v hv
  simp only [bdA, List.mem_cons, List.not_mem_nil, or_false] at hv
  rcases hv with rfl | rfl | rfl | rfl | rfl | rfl | rfl | rfl | rfl | rfl | rfl | rfl | rfl | rfl | rfl | rfl | rfl | rfl <;> rfl

/-- A body in memory. -/
def B18 (w : World) (b : Nat) (t : TypeId) (x : Bd) : Prop := w.heap[b]? = some (.cells (bdA x) t (0, 0))
theorem B18.lt {w : World} {b : Nat} {t : TypeId} {x : Bd} (h : B18 w b t x) : b < w.heap.size := (Array.getElem?_eq_some_iff.1 h).1
theorem B18.later {w w' : World} {b : Nat} {t : TypeId} {x : Bd} (h : B18 w b t x) (hb : Below w.heap.size w w') : B18 w' b t x := (hb.block b h.lt).trans h
theorem B18.new (w : World) (t : TypeId) (x : Bd) : B18 (w.alloc (.cells (bdA x) t)) w.heap.size t x := heap_alloc_new w _
theorem B18.alloc {w : World} {b : Nat} {t : TypeId} {x : Bd} (h : B18 w b t x) (o : Obj) : B18 (w.alloc o) b t x := h.later ((Below.refl _ w).alloc (Nat.le_refl _) o)
theorem B18.far {w : World} {b b' j : Nat} {t : TypeId} {x : Bd} (h : B18 w b t x) (hne : b ≠ b') (u : Value) : B18 (w.setCell ⟨b', j, none⟩ u) b t x := (row_far hne u).trans h
theorem B18.frozen {w : World} {b : Nat} {t : TypeId} {x : Bd} (h : B18 w b t x) (i : Nat) : w.frozen? ⟨b, i, none⟩ = false := frozen_of_row w b i _ t h
theorem B18.kind {w : World} {b : Nat} {t : TypeId} {x : Bd} (h : B18 w b t x) : w.cell? ⟨b, 0, none⟩ = some (.int .i64 x.kind) := cell_of_row w b 0 _ t _ h
theorem B18.text {w : World} {b : Nat} {t : TypeId} {x : Bd} (h : B18 w b t x) : w.cell? ⟨b, 17, none⟩ = some (.string x.text) := cell_of_row w b 17 _ t _ h
theorem B18.past {w : World} {b : Nat} {t : TypeId} {x : Bd} (h : B18 w b t x) {i : Nat} (hi : i < 16) : w.cell? ⟨b, 1 + i, none⟩ = some (.int .u16 ((x.past i : Nat) : Int)) := by
  rw [cell_of_row w b (1 + i) _ t _ h, bdA_past x hi]
theorem B18.whole {w : World} {b : Nat} {t : TypeId} {x : Bd} (h : B18 w b t x) (y : Bd) : B18 (w.setCells b 0 (bdA y).toList) b t y := row_whole h rfl
theorem load_bd {w : World} {b : Nat} {t : TypeId} {x : Bd} (h : B18 w b t x) : Sem.run Try.prog (loadCellsFrom ⟨b, 0, none⟩ 0 18 #[]) w = .ok (bdA x) w := by
  have := run_loadCellsFrom_list Try.prog w ⟨b, 0, none⟩ (bdA x).toList 18 rfl (fun j v hj => by
    rw [Addr.add_lit, Nat.zero_add, cell_of_row w b j _ t _ h]; simpa using hj)
  simpa using this
theorem load_sub {w : World} {b : Nat} {t : TypeId} {x : Bd} (h : B18 w b t x) : Sem.run Try.prog (loadCellsFrom ⟨b, 1, none⟩ 0 16 #[]) w = .ok (vecA x.past) w := by
  have := run_loadCellsFrom_list Try.prog w ⟨b, 1, none⟩ (vecA x.past).toList 16 rfl (fun j v hj => by
    have hlt : j < 16 := by have := (List.getElem?_eq_some_iff.1 hj).1; exact this
    rw [Addr.add_lit, h.past hlt]
    have e := vecA_get x.past hlt
    rw [← Array.getElem?_toList] at e
    exact e.symm.trans hj)
  simpa using this

/-- A load of a plain region, its cells' run known. -/
theorem wpList_loadr {P : Program} {w : World} {ops : Array Oper} {rest : List Oper} {o : Oper} {a : Act} {Q : Exit → Act → World → Prop} (hg : o.guard = none) (T k : Nat) (p : Operand) (ho : o.op = .load T p)
    (aE : (isAgg T).run P w = .ok true w) (zE : (Go.sizeOf T).run P w = .ok k w) (arr : Array Value) (ad : Addr) (hp : a.eval p = .pointer (some ad)) (hl : Sem.run P (loadCellsFrom ad 0 k #[]) w = .ok arr w)
    (h : wpList P ops Q rest (a.put o.dst (.agg arr)) w) : wpList P ops Q (o :: rest) a w := by
  refine wpList_plain hg fun K hK => ?_
  unfold Oper.wp
  rw [exec_load T k w aE zE arr ad hl a o p ho hp]
  exact hK _ _ h
theorem wpList_bd35 {w : World} {ops : Array Oper} {rest : List Oper} {o : Oper} {a : Act} {Q : Exit → Act → World → Prop} {b : Nat} {t : TypeId} {x : Bd} (h : B18 w b t x) (hg : o.guard = none) (p : Operand) (ho : o.op = .load 41 p)
    (hp : a.eval p = .pointer (some ⟨b, 0, none⟩)) (hn : wpList Try.prog ops Q rest (a.put o.dst (.agg (bdA x))) w) : wpList Try.prog ops Q (o :: rest) a w :=
  wpList_loadr hg 41 18 p ho (Try.isAgg41 _) (Try.sizeOf41 _) _ _ hp (load_bd h) hn
theorem wpList_bd29 {w : World} {ops : Array Oper} {rest : List Oper} {o : Oper} {a : Act} {Q : Exit → Act → World → Prop} {b : Nat} {t : TypeId} {x : Bd} (h : B18 w b t x) (hg : o.guard = none) (p : Operand) (ho : o.op = .load 29 p)
    (hp : a.eval p = .pointer (some ⟨b, 0, none⟩)) (hn : wpList Try.prog ops Q rest (a.put o.dst (.agg (bdA x))) w) : wpList Try.prog ops Q (o :: rest) a w :=
  wpList_loadr hg 29 18 p ho (Try.isAgg29 _) (Try.sizeOf29 _) _ _ hp (load_bd h) hn
theorem wpList_sub {w : World} {ops : Array Oper} {rest : List Oper} {o : Oper} {a : Act} {Q : Exit → Act → World → Prop} {b : Nat} {t : TypeId} {x : Bd} (h : B18 w b t x) (hg : o.guard = none) (p : Operand) (ho : o.op = .load 24 p)
    (hp : a.eval p = .pointer (some ⟨b, 1, none⟩)) (hn : wpList Try.prog ops Q rest (a.put o.dst (.agg (vecA x.past))) w) : wpList Try.prog ops Q (o :: rest) a w :=
  wpList_loadr hg 24 16 p ho (Try.isAgg24 _) (Try.sizeOf24 _) _ _ hp (load_sub h) hn
theorem wq_sub {ops : Array Oper} {Q : Act → Prop} {a : Act} {o : Oper} {rest : List Oper} {W : World} {b : Nat} {t : TypeId} {x : Bd} (h : B18 W b t x) (p : Operand) (ho : o.op = .load 24 p) (hp : a.eval p = .pointer (some ⟨b, 1, none⟩)) (hw : Region.wanted o (yielded ops a.tmps) = true)
    (hn : WQ Try.prog ops (fun w' => ∃ p : Bw W, w' = p.w') Q rest (a.put o.dst (.agg (vecA x.past)))) : WQ Try.prog ops (fun w' => ∃ p : Bw W, w' = p.w') Q (o :: rest) a := by
  refine wq_run (.agg (vecA x.past)) hw (fun w' hw' => ?_) hn
  obtain ⟨q, rfl⟩ := hw'
  exact exec_load 24 16 q.w' (Try.isAgg24 _) (Try.sizeOf24 _) (vecA x.past) _ (load_sub (h.later q.h)) a o p ho hp
theorem wq_bd35 {ops : Array Oper} {Q : Act → Prop} {a : Act} {o : Oper} {rest : List Oper} {W : World} {b : Nat} {t : TypeId} {x : Bd} (h : B18 W b t x) (p : Operand) (ho : o.op = .load 41 p) (hp : a.eval p = .pointer (some ⟨b, 0, none⟩)) (hw : Region.wanted o (yielded ops a.tmps) = true)
    (hn : WQ Try.prog ops (fun w' => ∃ p : Bw W, w' = p.w') Q rest (a.put o.dst (.agg (bdA x)))) : WQ Try.prog ops (fun w' => ∃ p : Bw W, w' = p.w') Q (o :: rest) a := by
  refine wq_run (.agg (bdA x)) hw (fun w' hw' => ?_) hn
  obtain ⟨q, rfl⟩ := hw'
  exact exec_load 41 18 q.w' (Try.isAgg41 _) (Try.sizeOf41 _) (bdA x) _ (load_bd (h.later q.h)) a o p ho hp
theorem wq_bd29 {ops : Array Oper} {Q : Act → Prop} {a : Act} {o : Oper} {rest : List Oper} {W : World} {b : Nat} {t : TypeId} {x : Bd} (h : B18 W b t x) (p : Operand) (ho : o.op = .load 29 p) (hp : a.eval p = .pointer (some ⟨b, 0, none⟩)) (hw : Region.wanted o (yielded ops a.tmps) = true)
    (hn : WQ Try.prog ops (fun w' => ∃ p : Bw W, w' = p.w') Q rest (a.put o.dst (.agg (bdA x)))) : WQ Try.prog ops (fun w' => ∃ p : Bw W, w' = p.w') Q (o :: rest) a := by
  refine wq_run (.agg (bdA x)) hw (fun w' hw' => ?_) hn
  obtain ⟨q, rfl⟩ := hw'
  exact exec_load 29 18 q.w' (Try.isAgg29 _) (Try.sizeOf29 _) (bdA x) _ (load_bd (h.later q.h)) a o p ho hp

theorem may_eq (b : Bd) : may b = (decide (1 ≤ b.kind) && decide (b.kind ≤ 3) && belowB b.past thou && decide (b.text.size ≤ 400)) := rfl
set_option maxHeartbeats 4000000 in
set_option maxRecDepth 100000 in
theorem mayBe_any (b : Bd) (w : World) :
    Calls Try.prog 38 #[.agg (bdA b)] w fun e w' => e = .returned (.bool (may b)) ∧ Below w.heap.size w w' := by
  have CM : Aside (∀ W, Calls Try.prog 44 #[] W fun e w' => e = .returned (.agg (vecA thou)) ∧ Below W.heap.size W w') := fun W => most_any W
  have CB : Aside (∀ W, Calls Try.prog 35 #[.agg (vecA b.past), .agg (vecA thou)] W fun e w' => e = .returned (.bool (belowB b.past thou)) ∧ Below W.heap.size W w') := fun W => below_any b.past thou W
  have ME := may_eq b
  obtain ⟨V, hV⟩ : ∃ V, V = w.alloc (.cells (bdA b) 41) := ⟨_, rfl⟩
  have X : Aside (B18 V w.heap.size 41 b) := by rw [hV]; exact B18.new w 41 b
  have BB : Aside (∀ p : Bw V, Below w.heap.size w p.w') := fun p => step_below (by rw [hV]; exact (Below.refl _ w).alloc (Nat.le_refl _) _) p.h
  have p0 : ∀ p : Bw V, p.w'.cell? ⟨w.heap.size, 0, none⟩ = some (.int .i64 b.kind) := fun p => (X.out.later p.h).kind
  have p17 : ∀ p : Bw V, p.w'.cell? ⟨w.heap.size, 17, none⟩ = some (.string b.text) := fun p => (X.out.later p.h).text
  generalize hK : b.kind = K at ME p0
  generalize hT : b.text = T at ME p17
  generalize belowB b.past thou = r at ME CB
  generalize may b = m at ME ⊢
  clear hK hT
  go_enter Try.func38, Try.ntmps38
  go_wp2_with fail
  rw [← hV]
  clear hV
  by_cases h1 : 1 ≤ K
  · have d1 : decide (1 ≤ K) = true := decide_eq_true h1
    by_cases h2 : K ≤ 3
    · have d2 : decide (K ≤ 3) = true := decide_eq_true h2
      cases r with
      | true =>
        have ME2 : m = decide (T.size ≤ 400) := by rw [ME, d1, d2]; simp
        have e4 : decide ((T.size : Int) ≤ 400) = m := by rw [ME2]; congr 1; simp; omega
        clear ME ME2
        have hne := Bw.some V
        refine wp_region_wq (by kernel_rfl) (by kernel_rfl) ?_
        repeat (first | (refine wq_sub X.out (.tmp 12) rfl rfl (by go_simp) ?_; dsimp only [Act.put, Array.setIfInBounds]) | (refine wq_step (fun K hK => ?_); go_simp; first | (refine hK _ ?_; clear hK K) | (apply Exists.intro; refine ⟨fun _ => ?_, hK _ ?_⟩; (first | (go_at_call 44; exact Calls.bw_of (CM.out _)) | (go_at_call 35; exact Calls.bw_of (CB.out _))); clear hK K)))
        refine wq_nil ?_
        intro _ hw'
        obtain ⟨pq, hw''⟩ := hw'
        subst hw''
        go_wp2
        go_ret
        exact ⟨rfl, BB.out _⟩
      | false =>
        have ME2 : m = false := by rw [ME, d1, d2]; simp
        clear ME
        subst ME2
        have hne := Bw.some V
        refine wp_region_wq (by kernel_rfl) (by kernel_rfl) ?_
        repeat (first | (refine wq_sub X.out (.tmp 12) rfl rfl (by go_simp) ?_; dsimp only [Act.put, Array.setIfInBounds]) | (refine wq_step (fun K hK => ?_); go_simp; first | (refine hK _ ?_; clear hK K) | (apply Exists.intro; refine ⟨fun _ => ?_, hK _ ?_⟩; (first | (go_at_call 44; exact Calls.bw_of (CM.out _)) | (go_at_call 35; exact Calls.bw_of (CB.out _))); clear hK K)))
        refine wq_nil ?_
        intro _ hw'
        obtain ⟨pq, hw''⟩ := hw'
        subst hw''
        go_wp2
        go_ret
        exact ⟨rfl, BB.out _⟩
    · have d2 : decide (K ≤ 3) = false := decide_eq_false h2
      have ME2 : m = false := by rw [ME, d1, d2]; simp
      clear ME
      subst ME2
      have hne := Bw.some V
      refine wp_region_wq (by kernel_rfl) (by kernel_rfl) ?_
      repeat (first | (refine wq_sub X.out (.tmp 12) rfl rfl (by go_simp) ?_; dsimp only [Act.put, Array.setIfInBounds]) | (refine wq_step (fun K hK => ?_); go_simp; first | (refine hK _ ?_; clear hK K) | (apply Exists.intro; refine ⟨fun _ => ?_, hK _ ?_⟩; (first | (go_at_call 44; exact Calls.bw_of (CM.out _)) | (go_at_call 35; exact Calls.bw_of (CB.out _))); clear hK K)))
      refine wq_nil ?_
      intro _ hw'
      obtain ⟨pq, hw''⟩ := hw'
      subst hw''
      go_wp2
      go_ret
      exact ⟨rfl, BB.out _⟩
  · have d1 : decide (1 ≤ K) = false := decide_eq_false h1
    have ME2 : m = false := by rw [ME, d1]; simp
    clear ME
    subst ME2
    have hne := Bw.some V
    refine wp_region_wq (by kernel_rfl) (by kernel_rfl) ?_
    repeat (first | (refine wq_sub X.out (.tmp 12) rfl rfl (by go_simp) ?_; dsimp only [Act.put, Array.setIfInBounds]) | (refine wq_step (fun K hK => ?_); go_simp; first | (refine hK _ ?_; clear hK K) | (apply Exists.intro; refine ⟨fun _ => ?_, hK _ ?_⟩; (first | (go_at_call 44; exact Calls.bw_of (CM.out _)) | (go_at_call 35; exact Calls.bw_of (CB.out _))); clear hK K)))
    refine wq_nil ?_
    intro _ hw'
    obtain ⟨pq, hw''⟩ := hw'
    subst hw''
    go_wp2
    go_ret
    exact ⟨rfl, BB.out _⟩
end Ps
end Go.Proofs.Ytbacnjkookakcaa
