/- A vote in a table (Take): what its walk needs. -/
import Derived.Test.YtmhjmeedoajkjaaTbR
import Derived.Test.YtmhjmeedoajkjaaTbN
set_option linter.unusedVariables false
namespace Go.Proofs.Ytmhjmeedoajkjaa
open Go.RowKit Go.Shelf

theorem results_cell5 {P : Program} {fn : Func} {tmps : Array Value} {w : World} {a u1 u2 u3 u4 : Tmp} {t k b : Nat} {arr : Array Value} (h : fn.results = #[.cell a t, .tmp u1, .tmp u2, .tmp u3, .tmp u4]) (hp : tmps.getD a undef = .pointer (some ⟨b, 0, none⟩))
    (aE : (isAgg t).run P w = .ok true w) (zE : (Go.sizeOf t).run P w = .ok k w) (hl : Sem.run P (loadCellsFrom ⟨b, 0, none⟩ 0 k #[]) w = .ok arr w) : (results fn tmps).run P w = .ok (.tuple #[.agg arr, tmps.getD u1 undef, tmps.getD u2 undef, tmps.getD u3 undef, tmps.getD u4 undef]) w := by
  have e : (loadVar t ⟨b, 0, none⟩).run P w = .ok (.agg arr) w := by simp [loadVar, aE, zE, loadCells, hl]
  generalize (⟨b, 0, none⟩ : Addr) = q at *
  have hp2 : tmps[a]?.getD undef = .pointer (some q) := by simpa using hp
  simp [results, h, hp2, asAddr, e]
theorem own_from {w : World} {B B' t s n : Nat} {v : Value} {xs : List Value} (h : w.ownsRow B t s v n xs) (hb : B' ≤ B) : w.ownsRow B' t s v n xs := by
  refine ⟨h.1, ?_⟩
  rcases h.2 with h | ⟨g, c, cur, e, hg, r⟩
  · exact .inl h
  · exact .inr ⟨g, c, cur, e, Nat.le_trans hb hg, r⟩
theorem OwnT.from_ {w : World} {B B' : Nat} {v : Value} {es : List En} (h : OwnT w B v es) (hb : B' ≤ B) : OwnT w B' v es := ⟨own_from h.row hb, h.ats, h.off⟩
theorem FrE.from_ {B B' : Nat} {e : En} (h : FrE B e) (hb : B' ≤ B) : FrE B' e := ⟨fun a b c => Nat.le_trans hb (h.1 a b c), fun a b c => Nat.le_trans hb (h.2 a b c)⟩
/-- What Take answers. -/
def TkPost (w : World) (t : Tb.TTold) (x : Ending) (w' : World) : Prop :=
  ∃ (p : Option Addr) (q : Nat) (es : List En) (ao : Option Addr) (co : Nat), x = .returned (.tuple #[.agg (tabL t.t.view t.t.ms t.t.base (.slice p es.length q)), .slice ao t.outs.length co, .string t.body, .bool t.is, .int .i64 (t.e : Int)]) ∧
    ops es = t.t.opn ∧ OwnT w' w.heap.size (.slice p es.length q) es ∧ (∀ e ∈ es, FrE w.heap.size e) ∧ AtO w' ao t.outs ∧ Fr w.heap.size ao ∧ Below w.heap.size w w'
theorem tk_err {w w' : World} {T : Tb.Tab} {e : Nat} {p : Option Addr} {q : Nat} {es : List En} (h1 : ops es = T.opn) (h2 : OwnT w' w.heap.size (.slice p es.length q) es) (h3 : ∀ e ∈ es, FrE w.heap.size e) (h4 : Below w.heap.size w w') :
    TkPost w (Tb.errT T e) (.returned (.tuple #[.agg (tabL T.view T.ms T.base (.slice p es.length q)), .slice none 0 0, .string Vt.none, .bool false, .int .i64 (e : Int)])) w' :=
  ⟨p, q, es, none, 0, rfl, h1, h2, h3, .inl rfl, (fun _ h => nomatch h), h4⟩
end Go.Proofs.Ytmhjmeedoajkjaa
