/- The kinds of a body's fields: what the library's Repeat gives at seventeen ones, and kinds. -/
import Derived.Test.YtkphpdejcmkdeaaPsJ
import Derived.Shelf.Spec.SlicesInsert
import Derived.Shelf.RegionOpenPlain
set_option linter.unusedVariables false
namespace Go.Proofs.Ytkphpdejcmkdeaa
open Go.RowKit Go.Shelf
namespace Ps
set_option maxHeartbeats 2000000 in
set_option maxRecDepth 100000 in
theorem mul64_any (w : World) : Calls Try.prog 66 #[.int .u64 1, .int .u64 17] w fun e w' => e = .returned (.tuple #[.int .u64 0, .int .u64 17]) ∧ w' = w := by
  go_enter Try.func66, Try.ntmps66
  go_wp2
  go_ret2
  exact ⟨by kernel_rfl, rfl⟩
set_option maxHeartbeats 2000000 in
set_option maxRecDepth 100000 in
theorem mul_any (w : World) : Calls Try.prog 53 #[.int .u64 1, .int .u64 17] w fun e w' => e = .returned (.tuple #[.int .u64 0, .int .u64 17]) ∧ w' = w := by
  have h := mul64_any w
  go_enter Try.func53, Try.ntmps53
  go_wp2_with fail
  refine h.mono ?_; rintro e w' ⟨rfl, hw⟩
  replace hw := hw.symm; subst hw
  go_wp2
  go_ret2
  exact ⟨rfl, rfl⟩

/-- So many ones. -/
def onesL (m : Nat) : List Value := List.replicate m (.int .i64 1)
theorem onesL_len (m : Nat) : (onesL m).length = m := List.length_replicate
theorem onesL_get {m j : Nat} (h : j < m) : (onesL m)[j]? = some (.int .i64 1) := by unfold onesL; rw [List.getElem?_replicate, if_pos h]
theorem onesL_one {m : Nat} : ∀ v ∈ onesL m, v.oneCell' = true := fun v hv => by rw [List.eq_of_mem_replicate hv]; rfl
/-- Seventeen cells, ones as far as the n-th. -/
def Ones (w : World) (g n : Nat) : Prop := ∃ cur : Array Value, w.heap[g]? = some (.cells cur 3 (0, 0)) ∧ cur.size = 17 ∧ ∀ j, j < n → cur[j]? = some (.int .i64 1)
theorem Ones.cell {w : World} {g n : Nat} (h : Ones w g n) {j : Nat} (hj : j < n) : w.cell? ⟨g, j, none⟩ = some (.int .i64 1) := by
  obtain ⟨cur, h1, h2, h3⟩ := h
  rw [cell_of_row w g j _ 3 _ h1, h3 j hj]
theorem Ones.some_ {w : World} {g n : Nat} (h : Ones w g n) {j : Nat} (hj : j < 17) : (w.cell? ⟨g, j, none⟩).isSome = true := by
  obtain ⟨cur, h1, h2, h3⟩ := h
  rw [cell_of_row w g j _ 3 _ h1, Array.getElem?_eq_getElem (by omega)]; rfl
theorem Ones.frozen {w : World} {g n : Nat} (h : Ones w g n) (j : Nat) : w.frozen? ⟨g, j, none⟩ = false := by
  obtain ⟨cur, h1, h2, h3⟩ := h
  exact frozen_of_row w g j _ 3 h1
theorem Ones.more {w : World} {g n m : Nat} (h : Ones w g n) (hm : n + m ≤ 17) : Ones (w.setCells g n (onesL m)) g (n + m) := by
  obtain ⟨cur, h1, h2, h3⟩ := h
  obtain ⟨cur', k1, k2⟩ := row_cells (onesL m) n w cur h1 (by rw [onesL_len]; omega)
  have hl : cur.toList.length = 17 := by simp [h2]
  have hs : cur'.toList.length = 17 := by
    rw [k2, length_splice _ _ _ (by rw [onesL_len]; omega)]; exact hl
  refine ⟨cur', k1, by simpa using hs, fun j hj => ?_⟩
  rw [← Array.getElem?_toList, k2]
  unfold splice
  have ht : (cur.toList.take n).length = n := by rw [List.length_take]; omega
  by_cases hjn : j < n
  · rw [List.getElem?_append_left (by omega), List.getElem?_take_of_lt hjn, Array.getElem?_toList, h3 j hjn]
  · rw [List.getElem?_append_right (by omega), ht, List.getElem?_append_left (by rw [onesL_len]; omega), onesL_get (by omega)]
theorem Ones.drew {w : World} {g n : Nat} (h : Ones w g n) : Ones w.drew g n := h

/-- How far Repeat's loop came. -/
def Doubled (w : World) (i : Value) (wr : World) : Prop := ∃ n : Nat, (n = 1 ∨ n = 2 ∨ n = 4 ∨ n = 8 ∨ n = 16 ∨ n = 17) ∧ i = .int .i64 n ∧ Ones wr w.heap.size n ∧ Below w.heap.size w wr
theorem size3 : (Try.prog.info? 3).map (·.size) = some 1 := by
  obtain ⟨i0, hi, hz0, hz1, hz2⟩ := info_parts info3
  rw [hi]; simp [hz1]
/-- A copy of ones behind ones. -/
theorem copy_ones {W : World} {g n m k : Nat} (h : Ones W g n) (hm : Nat.min n k = m) (hn : n + k = 17) (ty : TypeId) (dc sc : Nat) :
    (Builtin.copy_ #[68, 68] ty #[.slice (some ⟨g, n, none⟩) k dc, .slice (some ⟨g, 0, none⟩) n sc]).run Try.prog W = .ok (goInt m) (W.setCells g n (onesL m)) := by
  have hmn : m ≤ n ∧ m ≤ k := by rw [← hm]; exact ⟨Nat.min_le_left _ _, Nat.min_le_right _ _⟩
  have := run_copy_cells (P := Try.prog) W 68 68 ty 3 g n k dc ⟨g, 0, none⟩ n sc (onesL m) Try.underlying68 size3 (by rw [onesL_len, hm])
    (fun j v hj => by
      have hjm : j < m := by have := (List.getElem?_eq_some_iff.1 hj).1; rwa [onesL_len] at this
      rw [onesL_get hjm] at hj
      rw [Addr.add_lit, Nat.zero_add, h.cell (by omega)]; exact hj)
    (fun j hj => h.some_ (by rw [onesL_len] at hj; omega)) (fun j _ => h.frozen _) onesL_one
  rw [onesL_len] at this
  exact this
set_option maxHeartbeats 4000000 in
set_option maxRecDepth 100000 in
theorem repeat_any (b c : Nat) (w : World) (hc : w.cell? ⟨b, 0, none⟩ = some (.int .i64 1)) :
    Calls Try.prog 40 #[.slice (some ⟨b, 0, none⟩) 1 c, .int .i64 17] w fun e w' => e = .returned (.slice (some ⟨w.heap.size, 0, none⟩) 17 17) ∧ Ones w' w.heap.size 17 ∧ Below w.heap.size w w' := by
  have M : Aside (∀ W, Calls Try.prog 53 #[.int .u64 1, .int .u64 17] W fun e w' => e = .returned (.tuple #[.int .u64 0, .int .u64 17]) ∧ w' = W) := fun W => mul_any W
  have hbl : b < w.heap.size := World.block_lt_of_cell? w ⟨b, 0, none⟩ hc
  have mixed : Try.prog.follows .mixedOrders = true := by kernel_rfl
  obtain ⟨i0, hi, hz0, hz1, hz2⟩ := info_parts info3
  have I : Aside (Try.prog.info? 3 = some i0 ∧ i0.zero = some (.int .i64 0) ∧ i0.size = 1 ∧ i0.bytes = 8) := ⟨hi, hz0, hz1, hz2⟩
  clear hi hz0 hz1 hz2
  go_enter Try.func40, Try.ntmps40
  go_wp2_with (first | (go_at_call 53; refine (M.out _).mono ?_; rintro e w1 ⟨rfl, hw⟩; replace hw := hw.symm; subst hw) | (at_make; refine wpList_make_full _ rfl _ _ 68 rfl w.heap.size 3 i0 (.int .i64 0) 1 Try.underlying68 I.out.1 I.out.2.1 I.out.2.2.1 .i64 .i64 17 17 17 rfl rfl rfl rfl ?b2 ?b3 (Nat.le_refl _) ?_))
  case b2 => rw [I.out.2.2.2]; decide
  case b3 => unfold maxLen; decide
  intro w2 hown hgrow
  have B2 : Below w.heap.size w w2 := ⟨hgrow.os, hgrow.tape, hgrow.output, hgrow.size, fun k hk => hgrow.block k hk (by simp)⟩
  have O2 : Ones w2 w.heap.size 0 := by
    rcases hown.2 with ⟨h, _⟩ | ⟨g, cap, cur, e, _, hg, hcap, _, hsz, ht⟩
    · cases h
    · cases e
      exact ⟨cur, hg, by omega, fun j hj => by omega⟩
  have hc2 : w2.cell? ⟨b, 0, none⟩ = some (.int .i64 1) := cell_later B2 hc
  have cp : ∀ ty, (Builtin.copy_ #[68, 68] ty #[.slice (some ⟨w.heap.size, 0, none⟩) 17 17, .slice (some ⟨b, 0, none⟩) 1 c]).run Try.prog w2 = .ok (goInt 1) (w2.setCells w.heap.size 0 (onesL 1)) := fun ty =>
    run_copy_cells (P := Try.prog) w2 68 68 ty 3 w.heap.size 0 17 17 ⟨b, 0, none⟩ 1 c (onesL 1) Try.underlying68 size3 rfl
      (fun j v hj => by
        have hjm : j < 1 := by have := (List.getElem?_eq_some_iff.1 hj).1; rwa [onesL_len] at this
        obtain rfl : j = 0 := by omega
        rw [Addr.add_lit, Nat.zero_add, hc2]; exact hj)
      (fun j hj => O2.some_ (by rw [onesL_len] at hj; omega)) (fun j _ => O2.frozen _) onesL_one
  have O3 : Ones (w2.setCells w.heap.size 0 (onesL 1)) w.heap.size 1 := O2.more (m := 1) (by omega)
  have B3 : Below w.heap.size w (w2.setCells w.heap.size 0 (onesL 1)) := below_cells _ _ B2 (Nat.le_refl _)
  have CP : Aside (∀ ty, _) := cp
  have OB : Aside (_ ∧ _) := ⟨O3, B3⟩
  clear O2 O3 B2 B3 cp hown hgrow hc2
  go_wp2_with (refine wpList_copy_runI _ rfl _ _ 68 68 rfl _ _ rfl rfl (CP.out _) ?_)
  generalize w2.setCells w.heap.size 0 (onesL 1) = w3 at OB ⊢
  clear CP
  go_loopw [8] (fun i wr => Doubled w i wr) (fun i _ => 17 - (intOf i).toNat)
  case atStart => exact ⟨1, .inl rfl, rfl, OB.out⟩
  case round =>
    obtain ⟨n, hn, rfl, ho, hb⟩ := hrel
    have OW : Aside (Ones wr w.heap.size n ∧ Below w.heap.size w wr) := ⟨ho, hb⟩
    clear ho hb
    rcases hn with rfl | rfl | rfl | rfl | rfl | rfl
    · have cp := fun ty => copy_ones (n := 1) (m := 1) (k := 16) OW.out.1.drew rfl rfl ty 16 17
      have CP : Aside (∀ ty, _) := cp
      have ON : Aside (_ ∧ _) := ⟨OW.out.1.drew.more (n := 1) (m := 1) (by omega), below_cells (b := w.heap.size) (onesL 1) 1 OW.out.2.drew (Nat.le_refl _)⟩
      clear cp
      go_wp2
      go_region_law_o (refine step_copy_runI rfl _ _ 68 68 rfl (.slice (some ⟨w.heap.size, 1, none⟩) 16 16) (.slice (some ⟨w.heap.size, 0, none⟩) 1 17) (by simp [Act.eval, Act.put]) (by simp [Act.eval, Act.put]) (CP.out _) ?_)
      simp only [List.getElem_toArray, List.getElem_cons_succ, List.getElem_cons_zero, Act.put, List.setIfInBounds_toArray, List.set_cons_succ, List.set_cons_zero]
      go_wp2
      go_roundw
      case rel => exact ⟨2, by decide, rfl, ON.out⟩
      case measure => simp [intOf, IntKind.wrap_i64]
    · have cp := fun ty => copy_ones (n := 2) (m := 2) (k := 15) OW.out.1.drew rfl rfl ty 15 17
      have CP : Aside (∀ ty, _) := cp
      have ON : Aside (_ ∧ _) := ⟨OW.out.1.drew.more (n := 2) (m := 2) (by omega), below_cells (b := w.heap.size) (onesL 2) 2 OW.out.2.drew (Nat.le_refl _)⟩
      clear cp
      go_wp2
      go_region_law_o (refine step_copy_runI rfl _ _ 68 68 rfl (.slice (some ⟨w.heap.size, 2, none⟩) 15 15) (.slice (some ⟨w.heap.size, 0, none⟩) 2 17) (by simp [Act.eval, Act.put]) (by simp [Act.eval, Act.put]) (CP.out _) ?_)
      simp only [List.getElem_toArray, List.getElem_cons_succ, List.getElem_cons_zero, Act.put, List.setIfInBounds_toArray, List.set_cons_succ, List.set_cons_zero]
      go_wp2
      go_roundw
      case rel => exact ⟨4, by decide, rfl, ON.out⟩
      case measure => simp [intOf, IntKind.wrap_i64]
    · have cp := fun ty => copy_ones (n := 4) (m := 4) (k := 13) OW.out.1.drew rfl rfl ty 13 17
      have CP : Aside (∀ ty, _) := cp
      have ON : Aside (_ ∧ _) := ⟨OW.out.1.drew.more (n := 4) (m := 4) (by omega), below_cells (b := w.heap.size) (onesL 4) 4 OW.out.2.drew (Nat.le_refl _)⟩
      clear cp
      go_wp2
      go_region_law_o (refine step_copy_runI rfl _ _ 68 68 rfl (.slice (some ⟨w.heap.size, 4, none⟩) 13 13) (.slice (some ⟨w.heap.size, 0, none⟩) 4 17) (by simp [Act.eval, Act.put]) (by simp [Act.eval, Act.put]) (CP.out _) ?_)
      simp only [List.getElem_toArray, List.getElem_cons_succ, List.getElem_cons_zero, Act.put, List.setIfInBounds_toArray, List.set_cons_succ, List.set_cons_zero]
      go_wp2
      go_roundw
      case rel => exact ⟨8, by decide, rfl, ON.out⟩
      case measure => simp [intOf, IntKind.wrap_i64]
    · have cp := fun ty => copy_ones (n := 8) (m := 8) (k := 9) OW.out.1.drew rfl rfl ty 9 17
      have CP : Aside (∀ ty, _) := cp
      have ON : Aside (_ ∧ _) := ⟨OW.out.1.drew.more (n := 8) (m := 8) (by omega), below_cells (b := w.heap.size) (onesL 8) 8 OW.out.2.drew (Nat.le_refl _)⟩
      clear cp
      go_wp2
      go_region_law_o (refine step_copy_runI rfl _ _ 68 68 rfl (.slice (some ⟨w.heap.size, 8, none⟩) 9 9) (.slice (some ⟨w.heap.size, 0, none⟩) 8 17) (by simp [Act.eval, Act.put]) (by simp [Act.eval, Act.put]) (CP.out _) ?_)
      simp only [List.getElem_toArray, List.getElem_cons_succ, List.getElem_cons_zero, Act.put, List.setIfInBounds_toArray, List.set_cons_succ, List.set_cons_zero]
      go_wp2
      go_roundw
      case rel => exact ⟨16, by decide, rfl, ON.out⟩
      case measure => simp [intOf, IntKind.wrap_i64]
    · have cp := fun ty => copy_ones (n := 16) (m := 1) (k := 1) OW.out.1.drew rfl rfl ty 1 17
      have CP : Aside (∀ ty, _) := cp
      have ON : Aside (_ ∧ _) := ⟨OW.out.1.drew.more (n := 16) (m := 1) (by omega), below_cells (b := w.heap.size) (onesL 1) 16 OW.out.2.drew (Nat.le_refl _)⟩
      clear cp
      go_wp2
      go_region_law_o (refine step_copy_runI rfl _ _ 68 68 rfl (.slice (some ⟨w.heap.size, 16, none⟩) 1 1) (.slice (some ⟨w.heap.size, 0, none⟩) 16 17) (by simp [Act.eval, Act.put]) (by simp [Act.eval, Act.put]) (CP.out _) ?_)
      simp only [List.getElem_toArray, List.getElem_cons_succ, List.getElem_cons_zero, Act.put, List.setIfInBounds_toArray, List.set_cons_succ, List.set_cons_zero]
      go_wp2
      go_roundw
      case rel => exact ⟨17, by decide, rfl, ON.out⟩
      case measure => simp [intOf, IntKind.wrap_i64]
    · go_wp2
      go_ret
      exact ⟨rfl, OW.out⟩
end Ps
end Go.Proofs.Ytkphpdejcmkdeaa
