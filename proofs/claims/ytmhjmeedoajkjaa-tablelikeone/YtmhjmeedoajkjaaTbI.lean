/- Plain mathematics: ballots are sound just if all sets are apart and no two bodies, sorted, stand side by side alike. -/
import Derived.Test.YtmhjmeedoajkjaaCtA
import Derived.Lib.SlicesCompact
import Derived.Sort.EncStr
namespace Go.Proofs.Ytmhjmeedoajkjaa
namespace Tb

/-- All members that voted. -/
def orS : Vt.Bal → Nat
  | [] => 0
  | b :: l => b.2 ||| orS l
theorem orS_app (l : Vt.Bal) (b : ByteArray × Nat) : orS (l ++ [b]) = orS l ||| b.2 := by
  induction l with
  | nil => simp [orS]
  | cons a l ih => simp only [List.cons_append, orS, ih, Nat.or_assoc]
theorem orS_small {l : Vt.Bal} (h : Vt.Small l) : orS l < 65536 := by
  induction l with
  | nil => decide
  | cons a l ih =>
    have h1 := h a (by simp)
    have h2 := ih fun b hb => h b (by simp [hb])
    exact Nat.or_lt_two_pow (n := 16) h1 h2
theorem orS_and (l : Vt.Bal) (t : Nat) : orS l &&& t = 0 ↔ ∀ b ∈ l, b.2 &&& t = 0 := by
  induction l with
  | nil => simp [orS]
  | cons a l ih =>
    rw [orS, Nat.and_or_distrib_right, Nat.or_eq_zero_iff, ih]
    simp
def Dis (l : Vt.Bal) : Prop := l.Pairwise fun a b => a.2 &&& b.2 = 0
theorem ap_iff (l : Vt.Bal) : l.Pairwise Vt.Ap ↔ Dis l ∧ (l.map Prod.fst).Nodup := by
  unfold Dis List.Nodup
  rw [List.pairwise_map, ← List.pairwise_and_iff]
  constructor
  · intro h; exact h.imp fun h => ⟨h.2, h.1⟩
  · intro h; exact h.imp fun h => ⟨h.2, h.1⟩
theorem dis_next {l : Vt.Bal} {k : Nat} {b : ByteArray × Nat} (h : l[k]? = some b) (hd : Dis (l.take k)) : (orS (l.take k) &&& b.2 = 0 → Dis (l.take (k + 1))) ∧ (Dis l → orS (l.take k) &&& b.2 = 0) ∧ orS (l.take (k + 1)) = orS (l.take k) ||| b.2 := by
  have e : l.take (k + 1) = l.take k ++ [b] := by rw [List.take_add_one, h]; rfl
  refine ⟨fun h0 => ?_, fun hl => ?_, by rw [e, orS_app]⟩
  · rw [e]
    unfold Dis
    rw [List.pairwise_append]
    refine ⟨hd, List.pairwise_singleton _ _, fun a ha c hc => ?_⟩
    rw [List.mem_singleton] at hc; subst hc
    exact (orS_and _ _).1 h0 a ha
  · rw [orS_and]
    have h2 : Dis (l.take (k + 1)) := hl.sublist (List.take_sublist _ _)
    rw [e] at h2
    unfold Dis at h2
    rw [List.pairwise_append] at h2
    exact fun a ha => h2.2.2 a ha b (by simp)
/-- A body as a list of bytes. -/
def txt (x : ByteArray) : List UInt8 := x.data.toList
theorem txt_inj {x y : ByteArray} (h : txt x = txt y) : x = y := by
  cases x; cases y; unfold txt at h; congr 1; exact Array.toList_inj.1 h

theorem strict_of {zs : List (List UInt8)} (hs : zs.Pairwise (fun x y => x ≤ y)) : (Lib.compact zs).length = zs.length ↔ zs.Nodup := by
  have hle : ∀ a b : List UInt8, a ≤ b → b ≤ a → a = b := fun a b h1 h2 => List.le_antisymm h1 h2
  unfold Lib.compact Lib.compactUpTo
  rw [List.length_map]
  have hall : ((List.range zs.length).filter (Lib.keeps zs.toArray)).length = zs.length ↔ ∀ j, j < zs.length → Lib.keeps zs.toArray j = true := by
    constructor
    · intro h j hj
      have h2 : ((List.range zs.length).filter (Lib.keeps zs.toArray)) = List.range zs.length := by
        apply List.filter_eq_self.2
        have := List.length_filter_eq_length_iff.1 (h.trans (List.length_range).symm)
        exact this
      exact List.filter_eq_self.1 h2 j (List.mem_range.2 hj)
    · intro h
      rw [List.filter_eq_self.2 fun j hj => h j (List.mem_range.1 hj), List.length_range]
  rw [hall]
  have get : ∀ j, (hj : j < zs.length) → zs.toArray[j]! = zs[j] := fun j hj => by simp [hj]
  constructor
  · intro h
    have adj : ∀ j, (hj : j + 1 < zs.length) → zs[j]'(by omega) ≠ zs[j + 1] := fun j hj e => by
      have := h (j + 1) hj
      unfold Lib.keeps at this
      rw [decide_eq_true_iff] at this
      rcases this with h0 | h0
      · omega
      · rw [Nat.add_sub_cancel, get _ hj, get _ (by omega)] at h0
        exact h0 e.symm
    unfold List.Nodup
    rw [List.pairwise_iff_getElem]
    intro i j hi hj hij e
    have p1 := List.pairwise_iff_getElem.1 hs
    have h1 : zs[i] ≤ zs[i + 1]'(by omega) := p1 i (i + 1) hi (by omega) (by omega)
    have h2 : zs[i + 1]'(by omega) ≤ zs[i] := by
      by_cases e2 : i + 1 = j
      · subst e2; rw [e]; exact List.le_refl _
      · have := p1 (i + 1) j (by omega) hj (by omega)
        rw [e]; exact this
    exact adj i (by omega) (hle _ _ h1 h2)
  · intro h j hj
    unfold Lib.keeps
    rw [decide_eq_true_iff]
    by_cases h0 : j = 0
    · exact .inl h0
    · right
      rw [get _ hj, get _ (by omega)]
      exact fun e => List.pairwise_iff_getElem.1 h (j - 1) j (by omega) hj (by omega) e.symm
theorem sorted_txt (l : Vt.Bal) : (Lib.compact ((l.map fun b => txt b.1).mergeSort fun x y => decide (x ≤ y))).length = l.length ↔ (l.map Prod.fst).Nodup := by
  have hp := List.mergeSort_perm (l.map fun b => txt b.1) (fun x y => decide (x ≤ y))
  have hl : ((l.map fun b => txt b.1).mergeSort fun x y => decide (x ≤ y)).length = l.length := by rw [hp.length_eq, List.length_map]
  have hs : ((l.map fun b => txt b.1).mergeSort fun x y => decide (x ≤ y)).Pairwise (fun x y => x ≤ y) := by
    have := List.pairwise_mergeSort (le := fun (x y : List UInt8) => decide (x ≤ y)) (fun a b c h1 h2 => by simp only [decide_eq_true_eq] at *; exact List.le_trans h1 h2) (fun a b => by simp only [Bool.or_eq_true, decide_eq_true_eq]; exact List.le_total a b) (l.map fun b => txt b.1)
    exact this.imp fun h => by simpa using h
  rw [← hl, strict_of hs, hp.nodup_iff]
  unfold List.Nodup
  rw [List.pairwise_map, List.pairwise_map]
  constructor
  · intro h; exact h.imp fun h e => h (by rw [e])
  · intro h; exact h.imp fun h e => h (txt_inj e)
end Tb
end Go.Proofs.Ytmhjmeedoajkjaa
