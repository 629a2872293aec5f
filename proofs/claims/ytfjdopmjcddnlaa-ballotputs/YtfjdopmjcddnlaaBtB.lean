/- Casts in memory: a row of three cells each; boxes of three cells; results. -/
import Derived.Test.YtfjdopmjcddnlaaBtA
import Derived.Test.YtfjdopmjcddnlaaPrA
set_option linter.unusedVariables false
namespace Go.Proofs.Ytfjdopmjcddnlaa
open Go.RowKit Cn Rl Bt

def encC (c : Ct) : List Value := [.int .u8 (c.1 : Int), .bool c.2.1, .int .u8 (c.2.2 : Int)]
def castV (c : Ct) : Value := .agg #[.int .u8 (c.1 : Int), .bool c.2.1, .int .u8 (c.2.2 : Int)]
def rowC : List Ct → List Value
  | [] => []
  | e :: l => encC e ++ rowC l
theorem encC_len (e : Ct) : (encC e).length = 3 := rfl
theorem rowC_len (l : List Ct) : (rowC l).length = l.length * 3 := by
  induction l with
  | nil => rfl
  | cons b l ih => simp only [rowC, List.length_append, List.length_cons, ih, encC_len]; omega
theorem rowC_append (l m : List Ct) : rowC (l ++ m) = rowC l ++ rowC m := by
  induction l with
  | nil => rfl
  | cons b l ih => simp only [rowC, List.cons_append, ih, List.append_assoc]
theorem encC_one (e : Ct) : ∀ u ∈ encC e, u.oneCell' = true := by
  intro u h
  simp only [encC, List.mem_cons, List.not_mem_nil, or_false] at h
  rcases h with rfl | rfl | rfl <;> rfl
theorem rowC_one (l : List Ct) : ∀ u ∈ rowC l, u.oneCell' = true := by
  induction l with
  | nil => intro u h; simp [rowC] at h
  | cons b l ih =>
    intro u h
    simp only [rowC, List.mem_append] at h
    rcases h with h | h
    · exact encC_one b u h
    · exact ih u h
theorem rowC_get {l : List Ct} : ∀ {j i : Nat} {e : Ct}, l[j]? = some e → i < 3 → (rowC l)[j * 3 + i]? = (encC e)[i]? := by
  induction l with
  | nil => intro j i e h; simp at h
  | cons b l ih =>
    intro j i e h hi
    cases j with
    | zero =>
      simp at h; subst h
      rw [Nat.zero_mul, Nat.zero_add]
      show (encC b ++ rowC l)[i]? = _
      rw [List.getElem?_append_left (by rw [encC_len]; exact hi)]
    | succ j =>
      have h' : l[j]? = some e := by simpa using h
      rw [show (j + 1) * 3 + i = 3 + (j * 3 + i) by omega]
      show (encC b ++ rowC l)[3 + (j * 3 + i)]? = _
      rw [List.getElem?_append_right (by rw [encC_len]; omega), encC_len, Nat.add_sub_cancel_left]
      exact ih h' hi
theorem rowC_take (l : List Ct) (k : Nat) : rowC (l.take k) = (rowC l).take (k * 3) := by
  by_cases h : k ≤ l.length
  · have e : rowC l = rowC (l.take k) ++ rowC (l.drop k) := by rw [← rowC_append, List.take_append_drop]
    have hk : k * 3 = (rowC (l.take k)).length := by rw [rowC_len, List.length_take]; omega
    rw [e, hk, List.take_left]
  · rw [List.take_of_length_le (by omega), List.take_of_length_le (by rw [rowC_len]; omega)]
theorem rowC_drop (l : List Ct) (k : Nat) : rowC (l.drop k) = (rowC l).drop (k * 3) := by
  by_cases h : k ≤ l.length
  · have e : rowC l = rowC (l.take k) ++ rowC (l.drop k) := by rw [← rowC_append, List.take_append_drop]
    have hk : k * 3 = (rowC (l.take k)).length := by rw [rowC_len, List.length_take]; omega
    rw [e, hk, List.drop_left]
  · rw [List.drop_of_length_le (by omega), List.drop_of_length_le (by rw [rowC_len]; omega)]; rfl

/-- A row of casts lies behind an address. -/
def AtC (w : World) (a : Option Addr) (l : List Ct) : Prop :=
  l = [] ∨ ∃ b off, a = some ⟨b, off, none⟩ ∧ ∀ j u, (rowC l)[j]? = some u → w.cell? ⟨b, off + j, none⟩ = some u
theorem AtC.nil (w : World) (a : Option Addr) : AtC w a [] := .inl rfl
theorem AtC.later {w w' : World} {a : Option Addr} {l : List Ct} (h : AtC w a l) (hb : Below w.heap.size w w') : AtC w' a l := by
  rcases h with rfl | ⟨b, off, rfl, hc⟩
  · exact .inl rfl
  · exact .inr ⟨b, off, rfl, fun j u hu => cell_later hb (hc j u hu)⟩
theorem AtC.take {w : World} {a : Option Addr} {l : List Ct} (h : AtC w a l) (k : Nat) : AtC w a (l.take k) := by
  rcases h with rfl | ⟨b, off, rfl, hc⟩
  · exact .inl (by simp)
  · refine .inr ⟨b, off, rfl, fun j u hu => hc j u ?_⟩
    have e : rowC l = rowC (l.take k) ++ rowC (l.drop k) := by rw [← rowC_append, List.take_append_drop]
    rw [e, List.getElem?_append_left (List.getElem?_eq_some_iff.1 hu).1]; exact hu
theorem AtC.get {w : World} {a : Option Addr} {l : List Ct} {k : Nat} {e : Ct} (h : AtC w a l) (hk : l[k]? = some e) : ∃ b off, a = some ⟨b, off, none⟩ ∧
    w.cell? ⟨b, off + k * 3, none⟩ = some (.int .u8 (e.1 : Int)) ∧ w.cell? ⟨b, off + k * 3 + 1, none⟩ = some (.bool e.2.1) ∧ w.cell? ⟨b, off + k * 3 + 2, none⟩ = some (.int .u8 (e.2.2 : Int)) := by
  rcases h with rfl | ⟨b, off, rfl, hc⟩
  · simp at hk
  · have g : ∀ i v, i < 3 → (encC e)[i]? = some v → w.cell? ⟨b, off + k * 3 + i, none⟩ = some v := fun i v hi hv => by
      rw [Nat.add_assoc]; exact hc _ _ ((rowC_get hk hi).trans hv)
    exact ⟨b, off, rfl, g 0 _ (by decide) rfl, g 1 _ (by decide) rfl, g 2 _ (by decide) rfl⟩
theorem own_row {w : World} {B n c : Nat} {t : TypeId} {a : Option Addr} {l : List Ct} (h : w.ownsRow B t 3 (.slice a n c) l.length (rowC l)) : l.length = n ∧ AtC w a l ∧ n ≤ c ∧ (a = none → l = []) := by
  rcases h.2 with ⟨e, hn⟩ | ⟨g, cap, cur, e, _, hg, hcap, _, hsz, ht⟩
  · cases e; exact ⟨hn, .inl (List.length_eq_zero_iff.1 hn), Nat.zero_le _, fun _ => List.length_eq_zero_iff.1 hn⟩
  · cases e
    refine ⟨rfl, .inr ⟨g, 0, rfl, fun j u hu => ?_⟩, hcap, fun e => nomatch e⟩
    have hj := (List.getElem?_eq_some_iff.1 hu).1
    rw [rowC_len] at hj
    rw [Nat.zero_add, h.cellAt j (by omega)]
    exact hu
theorem own_any {w : World} {B n : Nat} {t : TypeId} {v : Value} {l : List Ct} (h : w.ownsRow B t 3 v n (rowC l)) : ∃ a c, v = .slice a l.length c ∧ AtC w a l ∧ l.length ≤ c := by
  have hl : l.length = n := by have := h.1; rw [rowC_len] at this; omega
  subst hl
  rcases h.2 with ⟨e, hn⟩ | ⟨g, cap, cur, e, _⟩
  · subst e; rw [List.length_eq_zero_iff] at hn; subst hn; exact ⟨none, 0, rfl, .inl rfl, Nat.le_refl _⟩
  · subst e
    obtain ⟨-, h1, h2, -⟩ := own_row h
    exact ⟨_, cap, rfl, h1, h2⟩
theorem row_far {w : World} {b b' j : Nat} (h : b ≠ b') (v : Value) : (w.setCell ⟨b', j, none⟩ v).heap[b]? = w.heap[b]? := Below.heap_setCell _ _ _ b (by simpa using h)
theorem grown_of_below {w w' : World} (h : Below w.heap.size w w') (row : Option Nat) : w.grownBy w' row := ⟨h.os, h.tape, h.output, h.size, fun k hk _ => h.block k hk⟩
theorem grown_trans {a b c : World} {row : Option Nat} (h : a.grownBy b row) (k : b.grownBy c row) : a.grownBy c row :=
  ⟨k.os.trans h.os, k.tape.trans h.tape, k.output.trans h.output, Nat.le_trans h.size k.size, fun i hi hr => (k.block i (Nat.lt_of_lt_of_le hi h.size) hr).trans (h.block i hi hr)⟩
theorem own_later {w w' : World} {B n s : Nat} {t : TypeId} {v : Value} {xs : List Value} (h : w.ownsRow B t s v n xs) (hb : Below w.heap.size w w') : w'.ownsRow B t s v n xs :=
  h.kept (row := none) ⟨hb.os, hb.tape, hb.output, hb.size, fun k hk _ => hb.block k hk⟩ (by cases v.ownBlock <;> simp)

/-- A box of three cells. -/
def X3 (w : World) (b : Nat) (t : TypeId) (v0 v1 v2 : Value) : Prop := w.heap[b]? = some (.cells #[v0, v1, v2] t (0, 0))
theorem X3.lt {w : World} {b : Nat} {t : TypeId} {v0 v1 v2 : Value} (h : X3 w b t v0 v1 v2) : b < w.heap.size := (Array.getElem?_eq_some_iff.1 h).1
theorem X3.later {w w' : World} {b : Nat} {t : TypeId} {v0 v1 v2 : Value} (h : X3 w b t v0 v1 v2) (hb : Below w.heap.size w w') : X3 w' b t v0 v1 v2 := (hb.block b h.lt).trans h
theorem X3.alloc {w : World} {b : Nat} {t : TypeId} {v0 v1 v2 : Value} (h : X3 w b t v0 v1 v2) (o : Obj) : X3 (w.alloc o) b t v0 v1 v2 := h.later (below_one w o)
theorem X3.new (w : World) (t : TypeId) (v0 v1 v2 : Value) : X3 (w.alloc (.cells #[v0, v1, v2] t)) w.heap.size t v0 v1 v2 := heap_alloc_new w _
theorem X3.new1 (w : World) (o : Obj) (t : TypeId) (v0 v1 v2 : Value) : X3 ((w.alloc o).alloc (.cells #[v0, v1, v2] t)) (w.heap.size + 1) t v0 v1 v2 := by
  have := X3.new (w.alloc o) t v0 v1 v2
  rwa [World.size_alloc] at this
theorem X3.new2 (w : World) (o o' : Obj) (t : TypeId) (v0 v1 v2 : Value) : X3 (((w.alloc o).alloc o').alloc (.cells #[v0, v1, v2] t)) (w.heap.size + 1 + 1) t v0 v1 v2 := by
  have := X3.new1 (w.alloc o) o' t v0 v1 v2
  rwa [World.size_alloc] at this
theorem X3.cells {w : World} {b : Nat} {t : TypeId} {v0 v1 v2 : Value} (h : X3 w b t v0 v1 v2) : w.cell? ⟨b, 0, none⟩ = some v0 ∧ w.cell? ⟨b, 1, none⟩ = some v1 ∧ w.cell? ⟨b, 2, none⟩ = some v2 :=
  ⟨cell_of_row w b 0 _ t _ h, cell_of_row w b 1 _ t _ h, cell_of_row w b 2 _ t _ h⟩
theorem X3.frozen {w : World} {b : Nat} {t : TypeId} {v0 v1 v2 : Value} (h : X3 w b t v0 v1 v2) (i : Nat) : w.frozen? ⟨b, i, none⟩ = false := frozen_of_row w b i _ t h
theorem X3.far {w : World} {b b' j : Nat} {t : TypeId} {v0 v1 v2 : Value} (h : X3 w b t v0 v1 v2) (hne : b ≠ b') (v : Value) : X3 (w.setCell ⟨b', j, none⟩ v) b t v0 v1 v2 := (row_far hne v).trans h
theorem X3.set {w : World} {b : Nat} {t : TypeId} {v0 v1 v2 : Value} (h : X3 w b t v0 v1 v2) (u0 u1 u2 : Value) : X3 (((w.setCell ⟨b, 0, none⟩ u0).setCell ⟨b, 1, none⟩ u1).setCell ⟨b, 2, none⟩ u2) b t u0 u1 u2 := row_set (row_set (row_set h _) _) _
theorem X3.set2 {w : World} {b : Nat} {t : TypeId} {v0 v1 v2 : Value} (h : X3 w b t v0 v1 v2) (u2 : Value) : X3 (w.setCell ⟨b, 2, none⟩ u2) b t v0 v1 u2 := row_set h _
theorem below_set1 {B b j : Nat} {w w' : World} (h : Below B w w') (hb : B ≤ b) (v : Value) : Below B w (w'.setCell ⟨b, j, none⟩ v) := h.setCell (p := ⟨b, j, none⟩) hb v
theorem below_set3 {B b : Nat} {w w' : World} (h : Below B w w') (hb : B ≤ b) (u0 u1 u2 : Value) : Below B w (((w'.setCell ⟨b, 0, none⟩ u0).setCell ⟨b, 1, none⟩ u1).setCell ⟨b, 2, none⟩ u2) :=
  below_set1 (below_set1 (below_set1 h hb _) hb _) hb _
theorem load_three {w : World} {b : Nat} {t : TypeId} {x y z : Value} (h : X3 w b t x y z) : Sem.run Try.prog (loadCellsFrom ⟨b, 0, none⟩ 0 3 #[]) w = .ok #[x, y, z] w := by
  obtain ⟨c0, c1, c2⟩ := h.cells
  simp [loadCellsFrom, go_sem, c0, c1, c2, Addr.add]
def boxV (v : Int) (s : Nat) (sl : Value) : Value := .agg #[.int .i64 v, .int .u16 (s : Int), sl]
end Go.Proofs.Ytfjdopmjcddnlaa
