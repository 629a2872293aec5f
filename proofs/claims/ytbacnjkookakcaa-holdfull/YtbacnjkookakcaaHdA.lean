/- Items in memory: twenty cells; which may be, which are ready, which are old: the program's answers and the document's. -/
import Derived.Test.YtbacnjkookakcaaPsH
set_option linter.unusedVariables false
namespace Go.Proofs.Ytbacnjkookakcaa
open Go.RowKit
namespace Hd
open Ps

structure It where
  frm : Nat
  seq : Int
  body : Bd
/-- The cells of an item. -/
def itA (x : It) : Array Value := #[.int .u8 (x.frm : Int), .int .i64 x.seq, .int .i64 x.body.kind, .int .u16 ((x.body.past 0 : Nat) : Int), .int .u16 ((x.body.past 1 : Nat) : Int), .int .u16 ((x.body.past 2 : Nat) : Int), .int .u16 ((x.body.past 3 : Nat) : Int), .int .u16 ((x.body.past 4 : Nat) : Int), .int .u16 ((x.body.past 5 : Nat) : Int), .int .u16 ((x.body.past 6 : Nat) : Int), .int .u16 ((x.body.past 7 : Nat) : Int), .int .u16 ((x.body.past 8 : Nat) : Int), .int .u16 ((x.body.past 9 : Nat) : Int), .int .u16 ((x.body.past 10 : Nat) : Int), .int .u16 ((x.body.past 11 : Nat) : Int), .int .u16 ((x.body.past 12 : Nat) : Int), .int .u16 ((x.body.past 13 : Nat) : Int), .int .u16 ((x.body.past 14 : Nat) : Int), .int .u16 ((x.body.past 15 : Nat) : Int), .string x.body.text]
theorem itA_size (x : It) : (itA x).size = 20 := rfl
theorem itA_bd (x : It) {i : Nat} (hi : i < 18) : (itA x)[2 + i]? = (bdA x.body)[i]? := by
  have : i = 0 ∨ i = 1 ∨ i = 2 ∨ i = 3 ∨ i = 4 ∨ i = 5 ∨ i = 6 ∨ i = 7 ∨ i = 8 ∨ i = 9 ∨ i = 10 ∨ i = 11 ∨ i = 12 ∨ i = 13 ∨ i = 14 ∨ i = 15 ∨ i = 16 ∨ i = 17 := by omega
  rcases this with rfl | rfl | rfl | rfl | rfl | rfl | rfl | rfl | rfl | rfl | rfl | rfl | rfl | rfl | rfl | rfl | rfl | rfl <;> rfl
theorem itA_past (x : It) {i : Nat} (hi : i < 16) : (itA x)[3 + i]? = some (.int .u16 ((x.body.past i : Nat) : Int)) := by
  rw [show 3 + i = 2 + (1 + i) by omega, itA_bd x (by omega), bdA_past x.body hi]
theorem itA_one (x : It) : ∀ v ∈ (itA x).toList, v.oneCell' = true := by
  intro v hv
  simp only [itA, List.mem_cons, List.not_mem_nil, or_false] at hv
  rcases hv with rfl | rfl | rfl | rfl | rfl | rfl | rfl | rfl | rfl | rfl | rfl | rfl | rfl | rfl | rfl | rfl | rfl | rfl | rfl | rfl <;> rfl

/-- An item in memory. -/
def I20 (w : World) (b : Nat) (t : TypeId) (x : It) : Prop := w.heap[b]? = some (.cells (itA x) t (0, 0))
theorem I20.lt {w : World} {b : Nat} {t : TypeId} {x : It} (h : I20 w b t x) : b < w.heap.size := (Array.getElem?_eq_some_iff.1 h).1
theorem I20.later {w w' : World} {b : Nat} {t : TypeId} {x : It} (h : I20 w b t x) (hb : Below w.heap.size w w') : I20 w' b t x := (hb.block b h.lt).trans h
theorem I20.new (w : World) (t : TypeId) (x : It) : I20 (w.alloc (.cells (itA x) t)) w.heap.size t x := heap_alloc_new w _
theorem I20.alloc {w : World} {b : Nat} {t : TypeId} {x : It} (h : I20 w b t x) (o : Obj) : I20 (w.alloc o) b t x := h.later ((Below.refl _ w).alloc (Nat.le_refl _) o)
theorem I20.far {w : World} {b b' j : Nat} {t : TypeId} {x : It} (h : I20 w b t x) (hne : b ≠ b') (u : Value) : I20 (w.setCell ⟨b', j, none⟩ u) b t x := (row_far hne u).trans h
theorem I20.frozen {w : World} {b : Nat} {t : TypeId} {x : It} (h : I20 w b t x) (i : Nat) : w.frozen? ⟨b, i, none⟩ = false := frozen_of_row w b i _ t h
theorem I20.frm {w : World} {b : Nat} {t : TypeId} {x : It} (h : I20 w b t x) : w.cell? ⟨b, 0, none⟩ = some (.int .u8 (x.frm : Int)) := cell_of_row w b 0 _ t _ h
theorem I20.seq {w : World} {b : Nat} {t : TypeId} {x : It} (h : I20 w b t x) : w.cell? ⟨b, 1, none⟩ = some (.int .i64 x.seq) := cell_of_row w b 1 _ t _ h
theorem I20.text {w : World} {b : Nat} {t : TypeId} {x : It} (h : I20 w b t x) : w.cell? ⟨b, 19, none⟩ = some (.string x.body.text) := cell_of_row w b 19 _ t _ h
theorem I20.past {w : World} {b : Nat} {t : TypeId} {x : It} (h : I20 w b t x) {i : Nat} (hi : i < 16) : w.cell? ⟨b, 3 + i, none⟩ = some (.int .u16 ((x.body.past i : Nat) : Int)) := by
  rw [cell_of_row w b (3 + i) _ t _ h, itA_past x hi]
theorem I20.whole {w : World} {b : Nat} {t : TypeId} {x : It} (h : I20 w b t x) (y : It) : I20 (w.setCells b 0 (itA y).toList) b t y := row_whole h rfl
theorem load_it {w : World} {b : Nat} {t : TypeId} {x : It} (h : I20 w b t x) : Sem.run Try.prog (loadCellsFrom ⟨b, 0, none⟩ 0 20 #[]) w = .ok (itA x) w := by
  have := run_loadCellsFrom_list Try.prog w ⟨b, 0, none⟩ (itA x).toList 20 rfl (fun j v hj => by
    rw [Addr.add_lit, Nat.zero_add, cell_of_row w b j _ t _ h]; simpa using hj)
  simpa using this
theorem load_body {w : World} {b : Nat} {t : TypeId} {x : It} (h : I20 w b t x) : Sem.run Try.prog (loadCellsFrom ⟨b, 2, none⟩ 0 18 #[]) w = .ok (bdA x.body) w := by
  have := run_loadCellsFrom_list Try.prog w ⟨b, 2, none⟩ (bdA x.body).toList 18 rfl (fun j v hj => by
    have hlt : j < 18 := by have := (List.getElem?_eq_some_iff.1 hj).1; exact this
    rw [Addr.add_lit, cell_of_row w b (2 + j) _ t _ h, itA_bd x hlt]; simpa using hj)
  simpa using this
theorem load_vec3 {w : World} {b : Nat} {t : TypeId} {x : It} (h : I20 w b t x) : Sem.run Try.prog (loadCellsFrom ⟨b, 3, none⟩ 0 16 #[]) w = .ok (vecA x.body.past) w := by
  have := run_loadCellsFrom_list Try.prog w ⟨b, 3, none⟩ (vecA x.body.past).toList 16 rfl (fun j v hj => by
    have hlt : j < 16 := by have := (List.getElem?_eq_some_iff.1 hj).1; exact this
    rw [Addr.add_lit, h.past hlt]
    have e := vecA_get x.body.past hlt
    rw [← Array.getElem?_toList] at e
    exact e.symm.trans hj)
  simpa using this
theorem wpList_it43 {w : World} {ops : Array Oper} {rest : List Oper} {o : Oper} {a : Act} {Q : Exit → Act → World → Prop} {b : Nat} {t : TypeId} {x : It} (h : I20 w b t x) (hg : o.guard = none) (p : Operand) (ho : o.op = .load 43 p)
    (hp : a.eval p = .pointer (some ⟨b, 0, none⟩)) (hn : wpList Try.prog ops Q rest (a.put o.dst (.agg (itA x))) w) : wpList Try.prog ops Q (o :: rest) a w :=
  wpList_loadr hg 43 20 p ho (Try.isAgg43 _) (Try.sizeOf43 _) _ _ hp (load_it h) hn
theorem wq_it43 {ops : Array Oper} {Q : Act → Prop} {a : Act} {o : Oper} {rest : List Oper} {W : World} {b : Nat} {t : TypeId} {x : It} (h : I20 W b t x) (p : Operand) (ho : o.op = .load 43 p) (hp : a.eval p = .pointer (some ⟨b, 0, none⟩)) (hw : Region.wanted o (yielded ops a.tmps) = true)
    (hn : WQ Try.prog ops (fun w' => ∃ p : Bw W, w' = p.w') Q rest (a.put o.dst (.agg (itA x)))) : WQ Try.prog ops (fun w' => ∃ p : Bw W, w' = p.w') Q (o :: rest) a := by
  refine wq_run (.agg (itA x)) hw (fun w' hw' => ?_) hn
  obtain ⟨q, rfl⟩ := hw'
  exact exec_load 43 20 q.w' (Try.isAgg43 _) (Try.sizeOf43 _) (itA x) _ (load_it (h.later q.h)) a o p ho hp
theorem wpList_it31 {w : World} {ops : Array Oper} {rest : List Oper} {o : Oper} {a : Act} {Q : Exit → Act → World → Prop} {b : Nat} {t : TypeId} {x : It} (h : I20 w b t x) (hg : o.guard = none) (p : Operand) (ho : o.op = .load 31 p)
    (hp : a.eval p = .pointer (some ⟨b, 0, none⟩)) (hn : wpList Try.prog ops Q rest (a.put o.dst (.agg (itA x))) w) : wpList Try.prog ops Q (o :: rest) a w :=
  wpList_loadr hg 31 20 p ho (Try.isAgg31 _) (Try.sizeOf31 _) _ _ hp (load_it h) hn
theorem wq_it31 {ops : Array Oper} {Q : Act → Prop} {a : Act} {o : Oper} {rest : List Oper} {W : World} {b : Nat} {t : TypeId} {x : It} (h : I20 W b t x) (p : Operand) (ho : o.op = .load 31 p) (hp : a.eval p = .pointer (some ⟨b, 0, none⟩)) (hw : Region.wanted o (yielded ops a.tmps) = true)
    (hn : WQ Try.prog ops (fun w' => ∃ p : Bw W, w' = p.w') Q rest (a.put o.dst (.agg (itA x)))) : WQ Try.prog ops (fun w' => ∃ p : Bw W, w' = p.w') Q (o :: rest) a := by
  refine wq_run (.agg (itA x)) hw (fun w' hw' => ?_) hn
  obtain ⟨q, rfl⟩ := hw'
  exact exec_load 31 20 q.w' (Try.isAgg31 _) (Try.sizeOf31 _) (itA x) _ (load_it (h.later q.h)) a o p ho hp
theorem wpList_body41 {w : World} {ops : Array Oper} {rest : List Oper} {o : Oper} {a : Act} {Q : Exit → Act → World → Prop} {b : Nat} {t : TypeId} {x : It} (h : I20 w b t x) (hg : o.guard = none) (p : Operand) (ho : o.op = .load 41 p)
    (hp : a.eval p = .pointer (some ⟨b, 2, none⟩)) (hn : wpList Try.prog ops Q rest (a.put o.dst (.agg (bdA x.body))) w) : wpList Try.prog ops Q (o :: rest) a w :=
  wpList_loadr hg 41 18 p ho (Try.isAgg41 _) (Try.sizeOf41 _) _ _ hp (load_body h) hn
theorem wpList_body29 {w : World} {ops : Array Oper} {rest : List Oper} {o : Oper} {a : Act} {Q : Exit → Act → World → Prop} {b : Nat} {t : TypeId} {x : It} (h : I20 w b t x) (hg : o.guard = none) (p : Operand) (ho : o.op = .load 29 p)
    (hp : a.eval p = .pointer (some ⟨b, 2, none⟩)) (hn : wpList Try.prog ops Q rest (a.put o.dst (.agg (bdA x.body))) w) : wpList Try.prog ops Q (o :: rest) a w :=
  wpList_loadr hg 29 18 p ho (Try.isAgg29 _) (Try.sizeOf29 _) _ _ hp (load_body h) hn
theorem wq_vec3 {ops : Array Oper} {Q : Act → Prop} {a : Act} {o : Oper} {rest : List Oper} {W : World} {b : Nat} {t : TypeId} {x : It} (h : I20 W b t x) (p : Operand) (ho : o.op = .load 24 p) (hp : a.eval p = .pointer (some ⟨b, 3, none⟩)) (hw : Region.wanted o (yielded ops a.tmps) = true)
    (hn : WQ Try.prog ops (fun w' => ∃ p : Bw W, w' = p.w') Q rest (a.put o.dst (.agg (vecA x.body.past)))) : WQ Try.prog ops (fun w' => ∃ p : Bw W, w' = p.w') Q (o :: rest) a := by
  refine wq_run (.agg (vecA x.body.past)) hw (fun w' hw' => ?_) hn
  obtain ⟨q, rfl⟩ := hw'
  exact exec_load 24 16 q.w' (Try.isAgg24 _) (Try.sizeOf24 _) (vecA x.body.past) _ (load_vec3 (h.later q.h)) a o p ho hp

def mayI (x : It) : Bool := rightB x.body x.frm x.seq
theorem may_frm {x : It} (h : mayI x = true) : x.frm < 16 := by
  unfold mayI rightB at h
  simp only [Bool.and_eq_true, decide_eq_true_eq] at h; exact h.1.2

set_option maxHeartbeats 2000000 in
set_option maxRecDepth 100000 in
/-- What the program's mayBe gives. -/
theorem may27_any (x : It) (w : World) (hv : Small x.body) :
    Calls Try.prog 27 #[.agg (itA x)] w fun e w' => e = .returned (.bool (mayI x)) ∧ Below w.heap.size w w' := by
  have C : Aside (∀ W, Calls Try.prog 25 #[.agg (bdA x.body), .int .u8 (x.frm : Int), .int .i64 x.seq] W fun e w' => e = .returned (.bool (mayI x)) ∧ Below W.heap.size W w') := fun W => right_any x.body x.frm x.seq W hv
  have X : Aside (I20 (w.alloc (.cells (itA x) 43)) w.heap.size 43 x) := I20.new w 43 x
  have c0 := X.out.frm
  have c1 := X.out.seq
  generalize mayI x = m at C ⊢
  go_enter Try.func27, Try.ntmps27
  go_wp2_with (first
    | (with_reducible refine wpList_body41 X.out rfl _ rfl rfl ?_)
    | (go_at_call 25; refine (C.out _).mono ?_; rintro e w1 ⟨rfl, hb1⟩; have B1 : Aside (Below w.heap.size w w1) := step_below ((Below.refl _ w).alloc (Nat.le_refl _) _) hb1; clear hb1))
  go_ret
  exact ⟨rfl, B1.out⟩

set_option maxHeartbeats 2000000 in
set_option maxRecDepth 100000 in
/-- What the document's may gives. -/
theorem may31_any (x : It) (w : World) (hv : Small x.body) :
    Calls Try.prog 31 #[.agg (itA x)] w fun e w' => e = .returned (.bool (mayI x)) ∧ Below w.heap.size w w' := by
  have C : Aside (∀ W, Calls Try.prog 42 #[.agg (bdA x.body), .int .u8 (x.frm : Int), .int .i64 x.seq] W fun e w' => e = .returned (.bool (mayI x)) ∧ Below W.heap.size W w') := fun W => rright_any x.body x.frm x.seq W hv
  have X : Aside (I20 (w.alloc (.cells (itA x) 31)) w.heap.size 31 x) := I20.new w 31 x
  have c0 := X.out.frm
  have c1 := X.out.seq
  generalize mayI x = m at C ⊢
  go_enter Try.func31, Try.ntmps31
  go_wp2_with (first
    | (with_reducible refine wpList_body29 X.out rfl _ rfl rfl ?_)
    | (go_at_call 42; refine (C.out _).mono ?_; rintro e w1 ⟨rfl, hb1⟩; have B1 : Aside (Below w.heap.size w w1) := step_below ((Below.refl _ w).alloc (Nat.le_refl _) _) hb1; clear hb1))
  go_ret
  exact ⟨rfl, B1.out⟩

def oldI (f : Nat → Nat) (x : It) : Bool := decide (x.seq < (f x.frm : Int))
set_option maxHeartbeats 2000000 in
set_option maxRecDepth 100000 in
/-- What isOld gives. -/
theorem old_any (f : Nat → Nat) (x : It) (w : World) (hf : f x.frm < 65536) (hx : x.frm < 16) :
    Calls Try.prog 29 #[.agg (vecA f), .agg (itA x)] w fun e w' => e = .returned (.bool (oldI f x)) ∧ Below w.heap.size w w' := by
  obtain ⟨V, hV⟩ : ∃ V, V = (w.alloc (.cells (vecA f) 24)).alloc (.cells (itA x) 43) := ⟨_, rfl⟩
  have X : V16 V w.heap.size f ∧ I20 V (w.heap.size + 1) 43 x ∧ Below w.heap.size w V := by
    rw [hV]
    refine ⟨(V16.new w f).alloc _, ?_, ((Below.refl _ w).alloc (Nat.le_refl _) _).alloc (by simp) _⟩
    have := I20.new (w.alloc (.cells (vecA f) 24)) 43 x
    simpa only [World.size_alloc] using this
  obtain ⟨X1, X2, XB⟩ := X
  have BB : Aside (Below w.heap.size w V) := XB
  have c0 := X2.frm
  have c1 := X2.seq
  have c2 := X1.at_ hx
  have h0 : (0 : Int) ≤ (x.frm : Int) := by omega
  have h1 : (x.frm : Int) < 16 := by omega
  have hw : wrap64 ((f x.frm : Nat) : Int) = ((f x.frm : Nat) : Int) := by unfold wrap64; omega
  have hw2 : IntKind.i64.wrap ((f x.frm : Nat) : Int) = ((f x.frm : Nat) : Int) := by rw [IntKind.wrap_i64]; omega
  have RR : Aside (oldI f x = decide (x.seq < ((f x.frm : Nat) : Int))) := rfl
  generalize oldI f x = r at RR ⊢
  generalize f x.frm = q at c2 hw hw2 RR hf
  generalize x.frm = fr at c0 c2 h0 h1 hx
  generalize x.seq = sq at c1 RR
  clear X1 X2 XB hf
  go_enter Try.func29, Try.ntmps29
  go_wp2_with fail
  rw [← hV]
  clear hV
  go_quiet (fail)
  go_wp2
  go_ret
  rw [RR.out]
  exact ⟨rfl, step_below BB.out (below_drew_n _ _)⟩

set_option maxHeartbeats 2000000 in
set_option maxRecDepth 100000 in
/-- What few gives. -/
theorem few_any (x : It) (w : World) :
    Calls Try.prog 10 #[.agg (itA x)] w fun e w' => e = .returned (.bool (decide ((x.body.text.size : Int) ≤ 500))) ∧ Below w.heap.size w w' := by
  have X : Aside (I20 (w.alloc (.cells (itA x) 31)) w.heap.size 31 x) := I20.new w 31 x
  have c1 := X.out.text
  generalize x.body.text = T at c1 ⊢
  go_enter Try.func10, Try.ntmps10
  go_wp2
  go_ret
  exact ⟨rfl, (Below.refl _ w).alloc (Nat.le_refl _) _⟩
end Hd
end Go.Proofs.Ytbacnjkookakcaa
