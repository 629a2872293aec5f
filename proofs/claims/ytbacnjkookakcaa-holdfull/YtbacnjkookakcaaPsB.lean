/- Vectors in memory: sixteen cells; what Join, Below and most give. -/
import Derived.Test.YtbacnjkookakcaaPsA
import Derived.Deep.QuietTactic
import Derived.Deep.LoopGhost
import Derived.Deep.RegionHeld3
import Derived.BigQuiet
import Derived.OwnWalk
import Derived.Below
import Derived.WalkSpells
import Derived.Laws.StructEq
import Derived.Shelf.SlicesQ.Load
import Derived.Laws.IdiomCopy
import Derived.Laws.CopyOwn
import Derived.Test.YtbacnjkookakcaaRows
set_option linter.unusedVariables false
namespace Go.Proofs.Ytbacnjkookakcaa
open Go.RowKit
namespace Ps

/-- The cells of a vector. -/
def vecA (f : Nat → Nat) : Array Value := #[.int .u16 ((f 0 : Nat) : Int), .int .u16 ((f 1 : Nat) : Int), .int .u16 ((f 2 : Nat) : Int), .int .u16 ((f 3 : Nat) : Int), .int .u16 ((f 4 : Nat) : Int), .int .u16 ((f 5 : Nat) : Int), .int .u16 ((f 6 : Nat) : Int), .int .u16 ((f 7 : Nat) : Int), .int .u16 ((f 8 : Nat) : Int), .int .u16 ((f 9 : Nat) : Int), .int .u16 ((f 10 : Nat) : Int), .int .u16 ((f 11 : Nat) : Int), .int .u16 ((f 12 : Nat) : Int), .int .u16 ((f 13 : Nat) : Int), .int .u16 ((f 14 : Nat) : Int), .int .u16 ((f 15 : Nat) : Int)]
theorem vecA_get (f : Nat → Nat) {i : Nat} (hi : i < 16) : (vecA f)[i]? = some (.int .u16 ((f i : Nat) : Int)) := by
  have : i = 0 ∨ i = 1 ∨ i = 2 ∨ i = 3 ∨ i = 4 ∨ i = 5 ∨ i = 6 ∨ i = 7 ∨ i = 8 ∨ i = 9 ∨ i = 10 ∨ i = 11 ∨ i = 12 ∨ i = 13 ∨ i = 14 ∨ i = 15 := by omega
  rcases this with rfl | rfl | rfl | rfl | rfl | rfl | rfl | rfl | rfl | rfl | rfl | rfl | rfl | rfl | rfl | rfl <;> rfl
theorem vecA_size (f : Nat → Nat) : (vecA f).size = 16 := rfl
theorem vecA_congr {f g : Nat → Nat} (h : ∀ i, i < 16 → f i = g i) : vecA f = vecA g := by
  unfold vecA
  rw [h 0 (by decide), h 1 (by decide), h 2 (by decide), h 3 (by decide), h 4 (by decide), h 5 (by decide), h 6 (by decide), h 7 (by decide), h 8 (by decide), h 9 (by decide), h 10 (by decide), h 11 (by decide), h 12 (by decide), h 13 (by decide), h 14 (by decide), h 15 (by decide)]
def upd (f : Nat → Nat) (k n : Nat) : Nat → Nat := fun i => if i = k then n else f i
theorem vecA_upd (f : Nat → Nat) {k : Nat} (n : Nat) (hk : k < 16) : (vecA f).setIfInBounds k (.int .u16 (n : Int)) = vecA (upd f k n) := by
  apply Array.ext_getElem?
  intro i
  rw [Array.getElem?_setIfInBounds]
  by_cases hi : i < 16
  · rw [vecA_get f hi, vecA_get _ hi]
    unfold upd
    by_cases h : i = k
    · subst h; simp [vecA_size, hi]
    · rw [if_neg h, if_neg (fun e => h e.symm)]
  · have h1 : (vecA f)[i]? = none := Array.getElem?_eq_none (by rw [vecA_size]; omega)
    have h2 : (vecA (upd f k n))[i]? = none := Array.getElem?_eq_none (by rw [vecA_size]; omega)
    rw [h1, h2, if_neg (by omega)]

theorem row_set {w : World} {b j : Nat} {cs : Array Value} {t : TypeId} (h : w.heap[b]? = some (.cells cs t (0, 0))) (v : Value) : (w.setCell ⟨b, j, none⟩ v).heap[b]? = some (.cells (cs.setIfInBounds j v) t (0, 0)) := by
  obtain ⟨hlt, hk⟩ := Array.getElem?_eq_some_iff.1 h
  show (w.heap.modify b _)[b]? = _
  rw [Array.getElem?_eq_getElem (by rw [Array.size_modify]; exact hlt), Array.getElem_modify_self, hk]
  rfl
theorem row_far {w : World} {b b' j : Nat} (h : b ≠ b') (v : Value) : (w.setCell ⟨b', j, none⟩ v).heap[b]? = w.heap[b]? := Below.heap_setCell _ _ _ b (by simpa using h)

/-- A vector in memory. -/
def V16 (w : World) (b : Nat) (f : Nat → Nat) : Prop := w.heap[b]? = some (.cells (vecA f) 24 (0, 0))
theorem V16.lt {w : World} {b : Nat} {f : Nat → Nat} (h : V16 w b f) : b < w.heap.size := (Array.getElem?_eq_some_iff.1 h).1
theorem V16.later {w w' : World} {b : Nat} {f : Nat → Nat} (h : V16 w b f) (hb : Below w.heap.size w w') : V16 w' b f := (hb.block b h.lt).trans h
theorem V16.new (w : World) (f : Nat → Nat) : V16 (w.alloc (.cells (vecA f) 24)) w.heap.size f := heap_alloc_new w _
theorem V16.alloc {w : World} {b : Nat} {f : Nat → Nat} (h : V16 w b f) (o : Obj) : V16 (w.alloc o) b f := h.later ((Below.refl _ w).alloc (Nat.le_refl _) o)
theorem V16.far {w : World} {b b' j : Nat} {f : Nat → Nat} (h : V16 w b f) (hne : b ≠ b') (u : Value) : V16 (w.setCell ⟨b', j, none⟩ u) b f := (row_far hne u).trans h
theorem V16.set {w : World} {b k : Nat} {f : Nat → Nat} (h : V16 w b f) (n : Nat) (hk : k < 16) : V16 (w.setCell ⟨b, k, none⟩ (.int .u16 (n : Int))) b (upd f k n) := by
  have := row_set h (j := k) (.int .u16 (n : Int))
  rw [vecA_upd f n hk] at this; exact this
theorem V16.frozen {w : World} {b : Nat} {f : Nat → Nat} (h : V16 w b f) (i : Nat) : w.frozen? ⟨b, i, none⟩ = false := frozen_of_row w b i _ 24 h
theorem V16.at_ {w : World} {b : Nat} {f : Nat → Nat} (h : V16 w b f) {i : Nat} (hi : i < 16) : w.cell? ⟨b, i, none⟩ = some (.int .u16 ((f i : Nat) : Int)) := by
  rw [cell_of_row w b i _ 24 _ h, vecA_get f hi]
theorem V16.cells {w : World} {b : Nat} {f : Nat → Nat} (h : V16 w b f) :
    w.cell? ⟨b, 0, none⟩ = some (.int .u16 ((f 0 : Nat) : Int)) ∧ w.cell? ⟨b, 1, none⟩ = some (.int .u16 ((f 1 : Nat) : Int)) ∧ w.cell? ⟨b, 2, none⟩ = some (.int .u16 ((f 2 : Nat) : Int)) ∧ w.cell? ⟨b, 3, none⟩ = some (.int .u16 ((f 3 : Nat) : Int)) ∧ w.cell? ⟨b, 4, none⟩ = some (.int .u16 ((f 4 : Nat) : Int)) ∧ w.cell? ⟨b, 5, none⟩ = some (.int .u16 ((f 5 : Nat) : Int)) ∧ w.cell? ⟨b, 6, none⟩ = some (.int .u16 ((f 6 : Nat) : Int)) ∧ w.cell? ⟨b, 7, none⟩ = some (.int .u16 ((f 7 : Nat) : Int)) ∧ w.cell? ⟨b, 8, none⟩ = some (.int .u16 ((f 8 : Nat) : Int)) ∧ w.cell? ⟨b, 9, none⟩ = some (.int .u16 ((f 9 : Nat) : Int)) ∧ w.cell? ⟨b, 10, none⟩ = some (.int .u16 ((f 10 : Nat) : Int)) ∧ w.cell? ⟨b, 11, none⟩ = some (.int .u16 ((f 11 : Nat) : Int)) ∧ w.cell? ⟨b, 12, none⟩ = some (.int .u16 ((f 12 : Nat) : Int)) ∧ w.cell? ⟨b, 13, none⟩ = some (.int .u16 ((f 13 : Nat) : Int)) ∧ w.cell? ⟨b, 14, none⟩ = some (.int .u16 ((f 14 : Nat) : Int)) ∧ w.cell? ⟨b, 15, none⟩ = some (.int .u16 ((f 15 : Nat) : Int)) :=
  ⟨h.at_ (by decide), h.at_ (by decide), h.at_ (by decide), h.at_ (by decide), h.at_ (by decide), h.at_ (by decide), h.at_ (by decide), h.at_ (by decide), h.at_ (by decide), h.at_ (by decide), h.at_ (by decide), h.at_ (by decide), h.at_ (by decide), h.at_ (by decide), h.at_ (by decide), h.at_ (by decide)⟩

/-- One operation of a plain region: a load whose value is known. -/
theorem wpList_load {P : Program} {w : World} {ops : Array Oper} {rest : List Oper} {o : Oper} {a : Act} {Q : Exit → Act → World → Prop} (hg : o.guard = none) (T k : Nat) (p : Operand) (ho : o.op = .load T p)
    (aE : (isAgg T).run P w = .ok true w) (zE : (Go.sizeOf T).run P w = .ok k w) (cs : List Value) (hk : cs.length = k) (b off : Nat) (hp : a.eval p = .pointer (some ⟨b, off, none⟩))
    (hc : ∀ j v, cs[j]? = some v → w.cell? ⟨b, off + j, none⟩ = some v) (h : wpList P ops Q rest (a.put o.dst (.agg cs.toArray)) w) : wpList P ops Q (o :: rest) a w := by
  refine wpList_plain hg fun K hK => ?_
  have hl : Sem.run P (loadCellsFrom ⟨b, off, none⟩ 0 k #[]) w = .ok cs.toArray w := run_loadCellsFrom_list P w ⟨b, off, none⟩ cs k hk (fun j v hj => by rw [Addr.add_lit]; exact hc j v hj)
  unfold Oper.wp
  have : (execOp a.eval o).run P w = .ok (.value (.agg cs.toArray)) w := by
    generalize a.eval = ev at hp ⊢
    simp [execOp, ho, hp, aE, zE, hl, go_sem]
  rw [this]
  exact hK _ _ h
theorem wpList_vec {w : World} {ops : Array Oper} {rest : List Oper} {o : Oper} {a : Act} {Q : Exit → Act → World → Prop} {b : Nat} {f : Nat → Nat} (h : V16 w b f) (hg : o.guard = none) (p : Operand) (ho : o.op = .load 24 p)
    (hp : a.eval p = .pointer (some ⟨b, 0, none⟩)) (hn : wpList Try.prog ops Q rest (a.put o.dst (.agg (vecA f))) w) : wpList Try.prog ops Q (o :: rest) a w := by
  refine wpList_load hg 24 16 p ho (Try.isAgg24 w) (Try.sizeOf24 w) (vecA f).toList rfl b 0 hp (fun j v hj => ?_) (by simpa using hn)
  rw [Nat.zero_add, cell_of_row w b j _ 24 _ h]; simpa using hj

theorem wpList_store {P : Program} {w : World} {ops : Array Oper} {rest : List Oper} {o : Oper} {a : Act} {Q : Exit → Act → World → Prop} (hg : o.guard = none) (T k : Nat) (p x : Operand) (ho : o.op = .store T p x)
    (zE : (Go.sizeOf T).run P w = .ok k w) (cs : List Value) (hk : cs.length = k) (b off : Nat) (hp : a.eval p = .pointer (some ⟨b, off, none⟩)) (hx : a.eval x = .agg cs.toArray)
    (hc : ∀ j, j < cs.length → (w.cell? ⟨b, off + j, none⟩).isSome = true) (hf : ∀ j, j < cs.length → w.frozen? ⟨b, off + j, none⟩ = false) (h1 : ∀ v ∈ cs, v.oneCell' = true)
    (h : wpList P ops Q rest (a.put o.dst undef) (w.setCells b off cs)) : wpList P ops Q (o :: rest) a w := by
  refine wpList_plain hg fun K hK => ?_
  have hst := run_storeCells_cells (P := P) b off cs 0 w (by simpa using hc) (by simpa using hf) h1
  simp only [Nat.add_zero] at hst
  unfold Oper.wp
  have : (execOp a.eval o).run P w = .ok .skip (w.setCells b off cs) := by
    generalize a.eval = ev at hp hx ⊢
    simp [execOp, ho, hp, hx, Instr.storeAt, Instr.sureAddr, storeVar, zE, hk, hst, go_sem]
  rw [this]
  exact hK _ _ h
theorem row_cells {t : TypeId} {b : Nat} : ∀ (vs : List Value) (o : Nat) (w : World) (cur : Array Value), w.heap[b]? = some (.cells cur t (0, 0)) → o + vs.length ≤ cur.size →
    ∃ cur', (w.setCells b o vs).heap[b]? = some (.cells cur' t (0, 0)) ∧ cur'.toList = splice cur.toList o vs
  | [], o, w, cur, h, hl => ⟨cur, h, by simp [splice]⟩
  | v :: r, o, w, cur, h, hl => by
    simp only [List.length_cons] at hl
    obtain ⟨cur', h1, h2⟩ := row_cells r (o + 1) (w.setCell ⟨b, o, none⟩ v) (cur.setIfInBounds o v) (row_set h v) (by rw [Array.size_setIfInBounds]; omega)
    refine ⟨cur', h1, h2.trans ?_⟩
    rw [Array.toList_setIfInBounds]
    have hlen : cur.toList.length = cur.size := by simp
    generalize cur.toList = L at hlen
    have e : L.set o v = L.take o ++ (v :: L.drop (o + 1)) := by rw [List.set_eq_take_append_cons_drop, if_pos (by omega)]
    have hx : (L.take o).length = o := by rw [List.length_take]; omega
    unfold splice
    rw [e]
    generalize L.take o = A at hx
    rw [show o + 1 + r.length = A.length + (1 + r.length) by omega, show o + 1 = A.length + 1 by omega, List.take_length_add_append, List.drop_length_add_append, show 1 + r.length = r.length + 1 by omega, List.drop_succ_cons, List.drop_drop, hx]
    simp only [List.take_succ_cons, List.take_zero, List.append_assoc, List.cons_append, List.nil_append, List.length_cons]
    rw [show o + 1 + r.length = o + (r.length + 1) by omega]
theorem row_whole {t : TypeId} {b : Nat} {w : World} {cur cs : Array Value} (h : w.heap[b]? = some (.cells cur t (0, 0))) (hs : cs.size = cur.size) : (w.setCells b 0 cs.toList).heap[b]? = some (.cells cs t (0, 0)) := by
  obtain ⟨cur', h1, h2⟩ := row_cells cs.toList 0 w cur h (by simp [hs])
  have : cur' = cs := by
    apply Array.toList_inj.1
    rw [h2]
    unfold splice
    rw [List.take_zero, List.nil_append, Nat.zero_add, List.drop_of_length_le (by simp [hs]), List.append_nil]
  rw [this] at h1; exact h1
theorem heap_cells_far {b k : Nat} : ∀ (vs : List Value) (o : Nat) (w : World), k ≠ b → (w.setCells b o vs).heap[k]? = w.heap[k]?
  | [], o, w, h => rfl
  | v :: r, o, w, h => (heap_cells_far r (o + 1) (w.setCell ⟨b, o, none⟩ v) h).trans (row_far h v)
theorem below_cells {B b : Nat} : ∀ (vs : List Value) (o : Nat) {w w' : World}, Below B w w' → B ≤ b → Below B w (w'.setCells b o vs)
  | [], _, _, _, h, _ => h
  | v :: r, o, w, w', h, hb => below_cells r (o + 1) (h.setCell (p := ⟨b, o, none⟩) hb v) hb
theorem vecA_one (f : Nat → Nat) : ∀ v ∈ (vecA f).toList, v.oneCell' = true := by
  intro v hv
  simp only [vecA, List.mem_cons, List.not_mem_nil, or_false] at hv
  rcases hv with rfl | rfl | rfl | rfl | rfl | rfl | rfl | rfl | rfl | rfl | rfl | rfl | rfl | rfl | rfl | rfl <;> rfl
/-- A vector stored whole. -/
theorem wpList_vec_store {w : World} {ops : Array Oper} {rest : List Oper} {o : Oper} {a : Act} {Q : Exit → Act → World → Prop} {b : Nat} {f g : Nat → Nat} (h : V16 w b f) (hg : o.guard = none) (p x : Operand) (ho : o.op = .store 24 p x)
    (hp : a.eval p = .pointer (some ⟨b, 0, none⟩)) (hx : a.eval x = .agg (vecA g)) (hn : wpList Try.prog ops Q rest (a.put o.dst undef) (w.setCells b 0 (vecA g).toList)) : wpList Try.prog ops Q (o :: rest) a w := by
  refine wpList_store hg 24 16 p x ho (Try.sizeOf24 w) (vecA g).toList rfl b 0 hp (by simpa using hx) (fun j hj => ?_) (fun j _ => h.frozen _) (vecA_one g) hn
  rw [Nat.zero_add, h.at_ (show j < 16 from hj)]; rfl
theorem V16.whole {w : World} {b : Nat} {f : Nat → Nat} (h : V16 w b f) (g : Nat → Nat) : V16 (w.setCells b 0 (vecA g).toList) b g := row_whole h rfl

theorem index_vec (f : Nat → Nat) {k : Nat} (hk : k < 16) (W : World) : (Instr.index 24 (.agg (vecA f)) (.int .i64 (k : Int))).run Try.prog W = .ok (.int .u16 ((f k : Nat) : Int)) W := by
  have h := vecA_get f hk
  have h2 : (vecA f).size = 16 := rfl
  generalize vecA f = A at h h2
  simp [Instr.index, run_underlying Try.underlying24, asIntOf, go_sem, h]
  omega

end Ps
end Go.Proofs.Ytbacnjkookakcaa
