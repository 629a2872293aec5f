/- A whole struct loaded as one step of a region that only reads. -/
import Derived.Test.YtmhjmeedoajkjaaTbK
import Derived.Shelf.SlicesQ.Load
set_option linter.unusedVariables false
namespace Go.Proofs.Ytmhjmeedoajkjaa
open Go.RowKit Go.Shelf

theorem wq_run {P : Program} {ops : Array Oper} {C : World → Prop} {Q : Act → Prop} {a : Act} {o : Oper} {rest : List Oper} (v : Value) (hw : Region.wanted o (yielded ops a.tmps) = true)
    (hr : ∀ w, C w → (execOp a.eval o).run P w = .ok (.value v) w) (h : WQ P ops C Q rest (a.put o.dst v)) : WQ P ops C Q (o :: rest) a :=
  ⟨by unfold wpQuiet; rw [if_pos hw]; exact ⟨v, fun w hC => by unfold Oper.quietAt; rw [hr w hC]; exact ⟨rfl, rfl⟩, h.out⟩⟩
theorem exec_load {P : Program} (T k : Nat) (aE : ∀ w, (isAgg T).run P w = .ok true w) (zE : ∀ w, (Go.sizeOf T).run P w = .ok k w) (cs : List Value) (hk : cs.length = k) (b off : Nat) (w : World) (hc : ∀ j v, cs[j]? = some v → w.cell? ⟨b, off + j, none⟩ = some v)
    (a : Act) (o : Oper) (p : Operand) (ho : o.op = .load T p) (hp : a.eval p = .pointer (some ⟨b, off, none⟩)) : (execOp a.eval o).run P w = .ok (.value (.agg cs.toArray)) w := by
  have hl : Sem.run P (loadCellsFrom ⟨b, off, none⟩ 0 k #[]) w = .ok cs.toArray w := run_loadCellsFrom_list P w ⟨b, off, none⟩ cs k hk (fun j v hj => by rw [Addr.add_lit]; exact hc j v hj)
  generalize a.eval = ev at hp ⊢
  simp [execOp, ho, hp, aE, zE, hl, go_sem]
theorem tabL_cells {w : World} {b : Nat} {t : TypeId} {v : Int} {ms : Nat} {bs : Nat → Nat} {s : Value} (h : X19 w b t v ms bs s) : ∀ j u, (tabL v ms bs s).toList[j]? = some u → w.cell? ⟨b, 0 + j, none⟩ = some u := fun j u hj => by
  rw [Nat.zero_add, cell_of_row w b j _ t _ h]; simpa using hj
/-- A table loaded whole, in every world in which all that lay in W lies as it lay. -/
theorem wq_tab {ops : Array Oper} {Q : Act → Prop} {a : Act} {o : Oper} {rest : List Oper} {W : World} {b : Nat} {v : Int} {ms : Nat} {bs : Nat → Nat} {s : Value} (h : X19 W b 30 v ms bs s) (p : Operand) (ho : o.op = .load 30 p) (hp : a.eval p = .pointer (some ⟨b, 0, none⟩)) (hw : Region.wanted o (yielded ops a.tmps) = true)
    (hn : WQ Try.prog ops (fun w' => ∃ p : Bw W, w' = p.w') Q rest (a.put o.dst (.agg (tabL v ms bs s)))) : WQ Try.prog ops (fun w' => ∃ p : Bw W, w' = p.w') Q (o :: rest) a := by
  refine wq_run (.agg (tabL v ms bs s)) hw (fun w' hw' => ?_) hn
  obtain ⟨q, rfl⟩ := hw'
  have := exec_load (P := Try.prog) 30 19 Try.isAgg30 Try.sizeOf30 (tabL v ms bs s).toList rfl b 0 q.w' (tabL_cells (h.later q.h)) a o p ho hp
  simpa using this
end Go.Proofs.Ytmhjmeedoajkjaa
