/- Rows of one's own: cells stored into one; the library's copy and clear at elements of more cells than one. -/
import Derived.Test.YtfjdopmjcddnlaaBtB
import Derived.Laws.IdiomCopy
import Derived.Laws.CopyOwn
import Derived.Lib.SliceRun
set_option linter.unusedVariables false
namespace Go.Proofs.Ytfjdopmjcddnlaa
open Go.RowKit Cn Rl Bt

theorem row_cells {t : TypeId} {b : Nat} : ∀ (vs : List Value) (o : Nat) (w : World) (cur : Array Value), w.heap[b]? = some (.cells cur t (0, 0)) → o + vs.length ≤ cur.size →
    ∃ cur', (w.setCells b o vs).heap[b]? = some (.cells cur' t (0, 0)) ∧ cur'.toList = splice cur.toList o vs
  | [], o, w, cur, h, hl => ⟨cur, h, by simp [splice]⟩
  | v :: r, o, w, cur, h, hl => by
    simp only [List.length_cons] at hl
    obtain ⟨cur', h1, h2⟩ := row_cells r (o + 1) (w.setCell ⟨b, o, none⟩ v) (cur.setIfInBounds o v) (row_set h v) (by rw [Array.size_setIfInBounds]; omega)
    refine ⟨cur', h1, h2.trans ?_⟩
    rw [Array.toList_setIfInBounds]
    have hlen : cur.toList.length = cur.size := by simp
    generalize cur.toList = L at hlen
    have e : L.set o v = L.take o ++ (v :: L.drop (o + 1)) := by rw [List.set_eq_take_append_cons_drop, if_pos (by omega)]
    have hx : (L.take o).length = o := by rw [List.length_take]; omega
    unfold splice
    rw [e]
    generalize L.take o = A at hx
    rw [show o + 1 + r.length = A.length + (1 + r.length) by omega, show o + 1 = A.length + 1 by omega, List.take_length_add_append, List.drop_length_add_append, show 1 + r.length = r.length + 1 by omega, List.drop_succ_cons, List.drop_drop, hx]
    simp only [List.take_succ_cons, List.take_zero, List.append_assoc, List.cons_append, List.nil_append, List.length_cons]
    rw [show o + 1 + r.length = o + (r.length + 1) by omega]
theorem heap_cells_far {b k : Nat} : ∀ (vs : List Value) (o : Nat) (w : World), k ≠ b → (w.setCells b o vs).heap[k]? = w.heap[k]?
  | [], o, w, h => rfl
  | v :: r, o, w, h => (heap_cells_far r (o + 1) (w.setCell ⟨b, o, none⟩ v) h).trans (row_far h v)
theorem grown_cells {b : Nat} : ∀ (vs : List Value) (o : Nat) (w : World), w.grownBy (w.setCells b o vs) (some b)
  | [], o, w => ⟨rfl, rfl, rfl, Nat.le_refl _, fun _ _ _ => rfl⟩
  | v :: r, o, w => grown_trans (⟨rfl, rfl, rfl, by simp, fun k _ hk => heap_setCell_other w ⟨b, o, none⟩ k v (fun e => hk (by simp [e]))⟩ : w.grownBy (w.setCell ⟨b, o, none⟩ v) (some b)) (grown_cells r (o + 1) (w.setCell ⟨b, o, none⟩ v))
theorem run_copy_k {P : Program} (w : World) (dT sT ty elem : TypeId) (size : Nat) (b o dLen dCap : Nat) (a : Addr) (sLen sCap : Nat) (cs : List Value)
    (hu : P.underlying dT = some (.slice elem)) (hs : (P.info? elem).map (·.size) = some size) (hn : cs.length = Nat.min sLen dLen * size)
    (hsrc : ∀ j v, cs[j]? = some v → w.cell? (a.add j) = some v) (hc : ∀ j, j < cs.length → (w.cell? ⟨b, o + j, none⟩).isSome = true) (hf : ∀ j, j < cs.length → w.frozen? ⟨b, o + j, none⟩ = false) (h1 : ∀ v ∈ cs, v.oneCell' = true) :
    (Builtin.copy_ #[dT, sT] ty #[.slice (some ⟨b, o, none⟩) dLen dCap, .slice (some a) sLen sCap]).run P w = .ok (goInt (Nat.min sLen dLen)) (w.setCells b o cs) := by
  have hl := run_loadCells_list (P := P) w a cs hsrc
  have hst := run_storeCells_cells (P := P) b o cs 0 w (by simpa using hc) (by simpa using hf) h1
  cases hq : P.info? elem with
  | none => simp [hq] at hs
  | some i =>
    have hi : i.size = size := by simpa [hq] using hs
    rw [hn] at hl
    simp [Builtin.copy_, run_underlying hu, Builtin.lenOf, Builtin.firstCells, sizeOf, typeInfo, hq, hi, hl]
    rw [hst]
    rfl
end Go.Proofs.Ytfjdopmjcddnlaa
