/- Items stored into a row of one's own, and its end cleared. -/
import Derived.Test.YtbacnjkookakcaaHdJ
set_option linter.unusedVariables false
namespace Go.Proofs.Ytbacnjkookakcaa
open Go.RowKit
namespace Hd
open Ps

theorem rowI_take (l : List It) (k : Nat) : rowI (l.take k) = (rowI l).take (k * 20) := by
  by_cases h : k ≤ l.length
  · have e : rowI l = rowI (l.take k) ++ rowI (l.drop k) := by rw [← rowI_append, List.take_append_drop]
    have hk : k * 20 = (rowI (l.take k)).length := by rw [rowI_len, List.length_take]; omega
    rw [e, hk, List.take_left]
  · rw [List.take_of_length_le (by omega), List.take_of_length_le (by rw [rowI_len]; omega)]
theorem rowI_drop (l : List It) (k : Nat) : rowI (l.drop k) = (rowI l).drop (k * 20) := by
  by_cases h : k ≤ l.length
  · have e : rowI l = rowI (l.take k) ++ rowI (l.drop k) := by rw [← rowI_append, List.take_append_drop]
    have hk : k * 20 = (rowI (l.take k)).length := by rw [rowI_len, List.length_take]; omega
    rw [e, hk, List.drop_left]
  · rw [List.drop_of_length_le (by omega), List.drop_of_length_le (by rw [rowI_len]; omega)]; rfl
theorem rowI_set (l : List It) {k : Nat} (hk : k < l.length) (x : It) : rowI (l.set k x) = splice (rowI l) (k * 20) (itA x).toList := by
  unfold splice
  rw [List.set_eq_take_append_cons_drop, if_pos hk, rowI_append, rowI_take]
  simp only [rowI]
  rw [rowI_drop, itA_len, show (k + 1) * 20 = k * 20 + 20 by omega]
theorem take_splice {α : Type} [Inhabited α] (L vs : List Value) (o m : Nat) (h : o + vs.length ≤ m) (hm : m ≤ L.length) : (splice L o vs).take m = splice (L.take m) o vs := by
  unfold splice
  have h1 : (L.take o).length = o := by rw [List.length_take]; omega
  rw [List.take_take, Nat.min_eq_left (by omega)]
  apply List.ext_getElem?
  intro i
  by_cases hi : i < m
  · rw [List.getElem?_take_of_lt hi]
    by_cases h2 : i < o
    · simp [List.getElem?_append, h1, h2]
    · by_cases h3 : i < o + vs.length
      · simp [List.getElem?_append, h1, h2, show i - o < vs.length by omega]
      · simp [List.getElem?_append, h1, h2, show ¬ (i - o < vs.length) by omega, List.getElem?_drop, show o + vs.length + (i - o - vs.length) < m by omega]
  · rw [List.getElem?_eq_none (by rw [List.length_take]; omega)]
    symm
    apply List.getElem?_eq_none
    simp only [List.length_append, List.length_take, List.length_drop]; omega
/-- One item of a row of one's own stored anew. -/
theorem own_put20 {w : World} {B g n c k : Nat} {l : List It} (h : w.ownsRow B 43 20 (.slice (some ⟨g, 0, none⟩) n c) n (rowI l)) (hk : k < n) (x : It) :
    (w.setCells g (k * 20) (itA x).toList).ownsRow B 43 20 (.slice (some ⟨g, 0, none⟩) n c) n (rowI (l.set k x)) := by
  have hl : l.length = n := by have := h.1; rw [rowI_len] at this; omega
  refine ⟨by rw [rowI_len, List.length_set, hl], .inr ?_⟩
  rcases h.2 with ⟨e, _⟩ | ⟨g', cap, cur, e, hge, hh, hcap, hmax, hsz, ht⟩
  · cases e
  · cases e
    have h20 : (itA x).toList.length = 20 := rfl
    obtain ⟨cur', h1, h2⟩ := row_cells (itA x).toList (k * 20) w cur hh (by rw [h20, hsz]; omega)
    have hcl : cur.toList.length = cur.size := by simp
    have hs : cur'.size = cur.size := by
      have := congrArg List.length h2
      rw [Array.length_toList] at this
      rw [this]; unfold splice
      simp only [List.length_append, List.length_take, List.length_drop, h20, hcl]; omega
    refine ⟨g, c, cur', rfl, hge, h1, hcap, hmax, by rw [hs]; exact hsz, ?_⟩
    rw [h2, take_splice (α := Nat) _ _ _ _ (by rw [h20]; omega) (by rw [hcl, hsz]; omega), ht, rowI_set l (by omega)]
/-- A row of one's own whose end is written over, shorter by that. -/
theorem own_cut {w : World} {B g n c k : Nat} {l : List It} {zs : List Value} (h : w.ownsRow B 43 20 (.slice (some ⟨g, 0, none⟩) n c) n (rowI l)) (hk : k ≤ n) (hz : k * 20 + zs.length ≤ n * 20) :
    (w.setCells g (k * 20) zs).ownsRow B 43 20 (.slice (some ⟨g, 0, none⟩) k c) k (rowI (l.take k)) := by
  have hl : l.length = n := by have := h.1; rw [rowI_len] at this; omega
  refine ⟨by rw [rowI_len, List.length_take]; omega, .inr ?_⟩
  rcases h.2 with ⟨e, _⟩ | ⟨g', cap, cur, e, hge, hh, hcap, hmax, hsz, ht⟩
  · cases e
  · cases e
    obtain ⟨cur', h1, h2⟩ := row_cells zs (k * 20) w cur hh (by rw [hsz]; omega)
    have hcl : cur.toList.length = cur.size := by simp
    have hs : cur'.size = cur.size := by
      have := congrArg List.length h2
      rw [Array.length_toList] at this
      rw [this]; unfold splice
      simp only [List.length_append, List.length_take, List.length_drop, hcl]; omega
    refine ⟨g, c, cur', rfl, hge, h1, by omega, hmax, by rw [hs]; exact hsz, ?_⟩
    rw [h2, rowI_take, ← ht, List.take_take, Nat.min_eq_left (by omega)]
    unfold splice
    rw [List.take_append_of_le_length (by rw [List.length_take]; omega), List.take_take, Nat.min_self]
theorem zero20_one (n : Nat) : ∀ v ∈ (Builtin.zeroCells (.agg #[.int .u8 0, .int .i64 0, .int .i64 0, .int .u16 0, .int .u16 0, .int .u16 0, .int .u16 0, .int .u16 0, .int .u16 0, .int .u16 0, .int .u16 0, .int .u16 0, .int .u16 0, .int .u16 0, .int .u16 0, .int .u16 0, .int .u16 0, .int .u16 0, .int .u16 0, .string ⟨#[]⟩] : Value).cells n).toList, v.oneCell' = true := by
  intro v hv
  have h20 : (.agg #[.int .u8 0, .int .i64 0, .int .i64 0, .int .u16 0, .int .u16 0, .int .u16 0, .int .u16 0, .int .u16 0, .int .u16 0, .int .u16 0, .int .u16 0, .int .u16 0, .int .u16 0, .int .u16 0, .int .u16 0, .int .u16 0, .int .u16 0, .int .u16 0, .int .u16 0, .string ⟨#[]⟩] : Value).cells.size = 20 := rfl
  unfold Builtin.zeroCells at hv
  rw [Array.toList_map, List.mem_map] at hv
  obtain ⟨i, _, rfl⟩ := hv
  have hi : i % (.agg #[.int .u8 0, .int .i64 0, .int .i64 0, .int .u16 0, .int .u16 0, .int .u16 0, .int .u16 0, .int .u16 0, .int .u16 0, .int .u16 0, .int .u16 0, .int .u16 0, .int .u16 0, .int .u16 0, .int .u16 0, .int .u16 0, .int .u16 0, .int .u16 0, .int .u16 0, .string ⟨#[]⟩] : Value).cells.size < 20 := by rw [h20]; exact Nat.mod_lt _ (by decide)
  generalize i % (.agg #[.int .u8 0, .int .i64 0, .int .i64 0, .int .u16 0, .int .u16 0, .int .u16 0, .int .u16 0, .int .u16 0, .int .u16 0, .int .u16 0, .int .u16 0, .int .u16 0, .int .u16 0, .int .u16 0, .int .u16 0, .int .u16 0, .int .u16 0, .int .u16 0, .int .u16 0, .string ⟨#[]⟩] : Value).cells.size = j at hi
  have : j = 0 ∨ j = 1 ∨ j = 2 ∨ j = 3 ∨ j = 4 ∨ j = 5 ∨ j = 6 ∨ j = 7 ∨ j = 8 ∨ j = 9 ∨ j = 10 ∨ j = 11 ∨ j = 12 ∨ j = 13 ∨ j = 14 ∨ j = 15 ∨ j = 16 ∨ j = 17 ∨ j = 18 ∨ j = 19 := by omega
  rcases this with rfl | rfl | rfl | rfl | rfl | rfl | rfl | rfl | rfl | rfl | rfl | rfl | rfl | rfl | rfl | rfl | rfl | rfl | rfl | rfl <;> rfl
theorem run_clear20 (w : World) (ty : TypeId) (b o n c : Nat) (hc : ∀ j, j < n * 20 → (w.cell? ⟨b, o + j, none⟩).isSome = true) (hf : ∀ j, j < n * 20 → w.frozen? ⟨b, o + j, none⟩ = false) (hn : 0 < n) :
    ∃ zs : List Value, zs.length = n * 20 ∧ (Builtin.clear_ #[34] ty #[.slice (some ⟨b, o, none⟩) n c]).run Try.prog w = .ok (.tuple #[]) (w.setCells b o zs) := by
  obtain ⟨k, rfl⟩ : ∃ k, n = k + 1 := ⟨n - 1, by omega⟩
  obtain ⟨zs, hZ⟩ : ∃ zs, (Builtin.zeroCells (.agg #[.int .u8 0, .int .i64 0, .int .i64 0, .int .u16 0, .int .u16 0, .int .u16 0, .int .u16 0, .int .u16 0, .int .u16 0, .int .u16 0, .int .u16 0, .int .u16 0, .int .u16 0, .int .u16 0, .int .u16 0, .int .u16 0, .int .u16 0, .int .u16 0, .int .u16 0, .string ⟨#[]⟩] : Value).cells (k + 1)).toList = zs := ⟨_, rfl⟩
  have hlen : zs.length = (k + 1) * 20 := by rw [← hZ, Array.length_toList, size_zeroCells]; rfl
  have hone : ∀ v ∈ zs, v.oneCell' = true := by rw [← hZ]; exact zero20_one (k + 1)
  refine ⟨zs, hlen, ?_⟩
  have hst := run_storeCells_cells (P := Try.prog) b o zs 0 w (by intro j hj; rw [hlen] at hj; first | exact hc j hj | simpa using hc j hj) (by intro j hj; rw [hlen] at hj; first | exact hf j hj | simpa using hf j hj) hone
  simp only [Nat.add_zero] at hst
  have hv := Try.zeroValue43
  simp [Builtin.clear_, run_underlying Try.underlying34, hv, hZ, hst]
end Hd
end Go.Proofs.Ytbacnjkookakcaa
