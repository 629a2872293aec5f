/- Open broadcasts in memory: a row of seven cells each; regions that only read, whose callees leave what lay there alone. -/
import Derived.Test.YtmhjmeedoajkjaaTbB
import Derived.Test.YtmhjmeedoajkjaaTbC
import Derived.Test.YtmhjmeedoajkjaaVtO
import Derived.BigQuiet
set_option linter.unusedVariables false
namespace Go.Proofs.Ytmhjmeedoajkjaa
open Go.RowKit Go.Shelf

/-- An open broadcast, and where its ballots lie. -/
structure En where
  o : Tb.Op
  a1 : Option Addr
  k1 : Nat
  a2 : Option Addr
  k2 : Nat
def encE (e : En) : List Value := [.int .u8 (e.o.frm : Int), .int .i64 e.o.seq, .bool e.o.c.echoed, .bool e.o.c.readied, .bool e.o.c.done, .slice e.a1 e.o.c.echoes.length e.k1, .slice e.a2 e.o.c.readies.length e.k2]
def rowC : List En → List Value
  | [] => []
  | e :: l => encE e ++ rowC l
theorem encE_len (e : En) : (encE e).length = 7 := rfl
theorem rowC_len (l : List En) : (rowC l).length = l.length * 7 := by
  induction l with
  | nil => rfl
  | cons b l ih => simp only [rowC, List.length_append, List.length_cons, ih, encE_len]; omega
theorem rowC_append (l m : List En) : rowC (l ++ m) = rowC l ++ rowC m := by
  induction l with
  | nil => rfl
  | cons b l ih => simp only [rowC, List.cons_append, ih, List.append_assoc]
theorem rowC_one (l : List En) : ∀ u ∈ rowC l, u.oneCell' = true := by
  induction l with
  | nil => intro u h; simp [rowC] at h
  | cons b l ih =>
    intro u h
    simp only [rowC, List.mem_append] at h
    rcases h with h | h
    · simp only [encE, List.mem_cons, List.not_mem_nil, or_false] at h
      rcases h with rfl | rfl | rfl | rfl | rfl | rfl | rfl <;> rfl
    · exact ih u h
theorem rowC_get {l : List En} : ∀ {j i : Nat} {e : En}, l[j]? = some e → i < 7 → (rowC l)[j * 7 + i]? = (encE e)[i]? := by
  induction l with
  | nil => intro j i e h; simp at h
  | cons b l ih =>
    intro j i e h hi
    cases j with
    | zero =>
      simp at h; subst h
      rw [Nat.zero_mul, Nat.zero_add]
      show (encE b ++ rowC l)[i]? = _
      rw [List.getElem?_append_left (by rw [encE_len]; exact hi)]
    | succ j =>
      have h' : l[j]? = some e := by simpa using h
      rw [show (j + 1) * 7 + i = 7 + (j * 7 + i) by omega]
      show (encE b ++ rowC l)[7 + (j * 7 + i)]? = _
      rw [List.getElem?_append_right (by rw [encE_len]; omega), encE_len, Nat.add_sub_cancel_left]
      exact ih h' hi
theorem rowC_take (l : List En) (k : Nat) : rowC (l.take k) = (rowC l).take (k * 7) := by
  by_cases h : k ≤ l.length
  · have e : rowC l = rowC (l.take k) ++ rowC (l.drop k) := by rw [← rowC_append, List.take_append_drop]
    have hk : k * 7 = (rowC (l.take k)).length := by rw [rowC_len, List.length_take]; omega
    rw [e, hk, List.take_left]
  · rw [List.take_of_length_le (by omega), List.take_of_length_le (by rw [rowC_len]; omega)]
theorem rowC_drop (l : List En) (k : Nat) : rowC (l.drop k) = (rowC l).drop (k * 7) := by
  by_cases h : k ≤ l.length
  · have e : rowC l = rowC (l.take k) ++ rowC (l.drop k) := by rw [← rowC_append, List.take_append_drop]
    have hk : k * 7 = (rowC (l.take k)).length := by rw [rowC_len, List.length_take]; omega
    rw [e, hk, List.drop_left]
  · rw [List.drop_of_length_le (by omega), List.drop_of_length_le (by rw [rowC_len]; omega)]; rfl

/-- A row of open broadcasts lies behind an address. -/
def AtR (w : World) (a : Option Addr) (l : List En) : Prop :=
  l = [] ∨ ∃ b off, a = some ⟨b, off, none⟩ ∧ ∀ j u, (rowC l)[j]? = some u → w.cell? ⟨b, off + j, none⟩ = some u
theorem AtR.later {w w' : World} {a : Option Addr} {l : List En} (h : AtR w a l) (hb : Below w.heap.size w w') : AtR w' a l := by
  rcases h with rfl | ⟨b, off, rfl, hc⟩
  · exact .inl rfl
  · exact .inr ⟨b, off, rfl, fun j u hu => cell_later hb (hc j u hu)⟩
theorem AtR.get {w : World} {a : Option Addr} {l : List En} {k : Nat} {e : En} (h : AtR w a l) (hk : l[k]? = some e) : ∃ b off, a = some ⟨b, off, none⟩ ∧
    w.cell? ⟨b, off + k * 7, none⟩ = some (.int .u8 (e.o.frm : Int)) ∧ w.cell? ⟨b, off + k * 7 + 1, none⟩ = some (.int .i64 e.o.seq) ∧ w.cell? ⟨b, off + k * 7 + 2, none⟩ = some (.bool e.o.c.echoed) ∧
    w.cell? ⟨b, off + k * 7 + 3, none⟩ = some (.bool e.o.c.readied) ∧ w.cell? ⟨b, off + k * 7 + 4, none⟩ = some (.bool e.o.c.done) ∧ w.cell? ⟨b, off + k * 7 + 5, none⟩ = some (.slice e.a1 e.o.c.echoes.length e.k1) ∧ w.cell? ⟨b, off + k * 7 + 6, none⟩ = some (.slice e.a2 e.o.c.readies.length e.k2) := by
  rcases h with rfl | ⟨b, off, rfl, hc⟩
  · simp at hk
  · have g : ∀ i v, i < 7 → (encE e)[i]? = some v → w.cell? ⟨b, off + k * 7 + i, none⟩ = some v := fun i v hi hv => by
      rw [Nat.add_assoc]; exact hc _ _ ((rowC_get hk hi).trans hv)
    exact ⟨b, off, rfl, g 0 _ (by decide) rfl, g 1 _ (by decide) rfl, g 2 _ (by decide) rfl, g 3 _ (by decide) rfl, g 4 _ (by decide) rfl, g 5 _ (by decide) rfl, g 6 _ (by decide) rfl⟩
theorem own_row {w : World} {B n c : Nat} {t : TypeId} {a : Option Addr} {l : List En} (h : w.ownsRow B t 7 (.slice a n c) l.length (rowC l)) : l.length = n ∧ AtR w a l ∧ n ≤ c ∧ (a = none → l = []) := by
  rcases h.2 with ⟨e, hn⟩ | ⟨g, cap, cur, e, _, hg, hcap, _, hsz, ht⟩
  · cases e; exact ⟨hn, .inl (List.length_eq_zero_iff.1 hn), Nat.zero_le _, fun _ => List.length_eq_zero_iff.1 hn⟩
  · cases e
    refine ⟨rfl, .inr ⟨g, 0, rfl, fun j u hu => ?_⟩, hcap, fun e => nomatch e⟩
    have hj := (List.getElem?_eq_some_iff.1 hu).1
    rw [rowC_len] at hj
    rw [Nat.zero_add, h.cellAt j (by omega)]
    exact hu

/-- A world in which all that lay in w lies as it lay. -/
structure Bw (w : World) where
  w' : World
  h : Below w.heap.size w w'
theorem Bw.some (w : World) : Nonempty (Bw w) := ⟨⟨w, Below.refl _ _⟩⟩
theorem wp_region_bw {P : Program} {id : Nat} {Q : Exit → Act → World → Prop} {a : Act} {w : World} {l : List Oper} (hm : P.follows .mixedOrders = true) (hB : Region.lexB .any l.toArray = true)
    (h : wpQuiet P l.toArray (fun w' => ∃ p : Bw w, w' = p.w') (fun a' => ∀ w', (∃ p : Bw w, w' = p.w') → Q .normal a' w') l a) : (Code.region id l.toArray true).wp P Q a w :=
  wp_region_quiet (C := fun w' => ∃ p : Bw w, w' = p.w') hm hB ⟨⟨w.drew, (Below.refl _ w).drew⟩, rfl⟩ (by simpa using h)
/-- The lexical walk behind a word that is not laid open: a guard that is false would otherwise be followed by every tactic that looks at the goal. -/
structure WQ (P : Program) (ops : Array Oper) (C : World → Prop) (Q : Act → Prop) (l : List Oper) (a : Act) : Prop where
  out : wpQuiet P ops C Q l a
theorem wq_nil {P : Program} {ops : Array Oper} {C : World → Prop} {Q : Act → Prop} {a : Act} (h : Q a) : WQ P ops C Q [] a := ⟨h⟩
theorem wq_step {P : Program} {ops : Array Oper} {C : World → Prop} {Q : Act → Prop} {a : Act} {o : Oper} {rest : List Oper}
    (h : ∀ K : Act → Prop, (∀ a, WQ P ops C Q rest a → K a) → if Region.wanted o (yielded ops a.tmps) then o.quiet P a C K else K (a.put o.dst undef)) : WQ P ops C Q (o :: rest) a :=
  ⟨h _ (fun _ h => h.out)⟩
theorem wp_region_wq {P : Program} {id : Nat} {Q : Exit → Act → World → Prop} {a : Act} {w : World} {l : List Oper} (hm : P.follows .mixedOrders = true) (hB : Region.lexB .any l.toArray = true)
    (h : WQ P l.toArray (fun w' => ∃ p : Bw w, w' = p.w') (fun a' => ∀ w', (∃ p : Bw w, w' = p.w') → Q .normal a' w') l a) : (Code.region id l.toArray true).wp P Q a w := wp_region_bw hm hB h.out
theorem Calls.bw_of {P : Program} {f : FuncId} {args : Array Value} {w : World} {p : Bw w} {v : Value} (h : Calls P f args p.w' fun e w' => e = .returned v ∧ Below p.w'.heap.size p.w' w') :
    Calls P f args p.w' fun e w'' => e = .returned v ∧ ∃ q : Bw w, w'' = q.w' :=
  h.mono fun _ w'' ⟨he, hb⟩ => ⟨he, ⟨w'', below_step p.h hb⟩, rfl⟩
end Go.Proofs.Ytmhjmeedoajkjaa
