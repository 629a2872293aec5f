/- What readWhole and Check give: what is wrong with a text. -/
import Derived.Test.YtimeggbjmcnnoaaCatch
namespace Go.Proofs.Ytimeggbjmcnnoaa
open Go.RowKit

/-- The world when the reader is made. -/
def W2 (w : World) (s : ByteArray) : World := (w.alloc (.cells #[.int .i64 0] 29)).alloc (.cells #[.string s, .int .i64 0] 100)

theorem w2_size (w : World) (s : ByteArray) : (W2 w s).heap.size = w.heap.size + 1 + 1 := by simp [W2]
theorem w2_below (w : World) (s : ByteArray) : Below w.heap.size w (W2 w s) := ((Below.refl _ w).alloc (Nat.le_refl _) _).alloc (by simp) _
theorem w2_cell {w w' : World} {s : ByteArray} (hg : (W2 w s).grownBy w' (some (w.heap.size + 1))) :
    w'.cell? ⟨w.heap.size, 0, none⟩ = some (.int .i64 0) ∧ w'.frozen? ⟨w.heap.size, 0, none⟩ = false := by
  have e0 := hg.block w.heap.size (by rw [w2_size]; omega) (by simp)
  refine ⟨?_, ?_⟩
  · rw [World.cell?_of_block (w := W2 w s) e0]; simp [W2, go_sem]
  · rw [World.frozen?_of_block (w := W2 w s) e0]; simp [W2, go_sem]
theorem w2_grown {w w' : World} {s : ByteArray} (hg : (W2 w s).grownBy w' (some (w.heap.size + 1))) : Below w.heap.size w w' :=
  (w2_below w s).grown hg (by rw [w2_size]; omega) (fun k hk => by simp at hk; omega)
theorem w2_rd (w : World) (s : ByteArray) (hs : s.size ≤ 2000) : Rd (W2 w s) (w.heap.size + 1) s 0 := by
  refine ⟨?_, ?_, ?_, Nat.zero_le _, hs⟩ <;> simp [W2, go_sem]

/-- What comes of the closure behind a panic. -/
theorem caught {w w' : World} {s : ByteArray} (n : Int) (hg : (W2 w s).grownBy w' (some (w.heap.size + 1))) :
    ((w'.alloc (.cells #[.int .i64 n] 97)).setCell ⟨w.heap.size, 0, none⟩ (.int .i64 n)).cell? ⟨w.heap.size, 0, none⟩ = some (.int .i64 n) ∧
    Below w.heap.size w ((w'.alloc (.cells #[.int .i64 n] 97)).setCell ⟨w.heap.size, 0, none⟩ (.int .i64 n)) := by
  have hlt : w.heap.size + 1 < w'.heap.size := by have := hg.size; rw [w2_size] at this; omega
  refine ⟨?_, ((w2_grown hg).alloc (by omega) _).setCell (Nat.le_refl _) _⟩
  refine World.cell?_setCell_same _ _ _ (u := .int .i64 0) ?_
  rw [World.cell?_alloc_old _ _ _ (by simp; omega)]
  exact (w2_cell hg).1

set_option maxHeartbeats 2000000 in
theorem read_panics (s : ByteArray) (w : World) 
    (hF : Calls Try.prog 53 #[.pointer (some ⟨w.heap.size + 1, 0, none⟩)] (W2 w s) fun e w' => e = .panicked (gave 4) ∧ (W2 w s).grownBy w' (some (w.heap.size + 1))) :
    Calls Try.prog 49 #[.string s] w fun e w' => e = .returned (.int .i64 4) ∧ Below w.heap.size w w' := by
  have hmf : ∀ (fn : Fn) (first cap : Array Value) (w : World), (Instr.makeFunc fn first cap).run Try.prog w = .ok (.func fn first cap) w := fun _ _ _ _ => rfl
  unfold W2 at hF
  go_enter_defers Try.func49, Try.ntmps49
  go_wp2_with fail
  refine hF.mono ?_
  rintro e w1 ⟨rfl, hg⟩
  have D : Aside (_ ∧ _) := caught 4 hg
  obtain ⟨c0, z0⟩ := w2_cell hg
  clear hF hg
  go_wp2
  refine leaves_cons (f := 52) (args := #[.pointer (some ⟨w.heap.size, 0, none⟩)]) (by simp) (by simp [go_sem]) ?_
  refine (catch_panicking ⟨w.heap.size, 0, none⟩ _ 4 [] _ c0 z0).mono ?_
  rintro e u' w'' ⟨rfl, rfl, rfl⟩
  simp [Leaves, settle, results, Try.results49, go_sem, D.out.1]
  exact D.out.2

set_option maxHeartbeats 2000000 in
theorem read_more (s : ByteArray) (w : World) (d p : Nat) (hp : p < s.size)
    (hF : Calls Try.prog 53 #[.pointer (some ⟨w.heap.size + 1, 0, none⟩)] (W2 w s) fun e w' => (e = .returned (.int .i64 (d : Nat)) ∧ Rd w' (w.heap.size + 1) s p) ∧ (W2 w s).grownBy w' (some (w.heap.size + 1))) :
    Calls Try.prog 49 #[.string s] w fun e w' => e = .returned (.int .i64 4) ∧ Below w.heap.size w w' := by
  have hmf : ∀ (fn : Fn) (first cap : Array Value) (w : World), (Instr.makeFunc fn first cap).run Try.prog w = .ok (.func fn first cap) w := fun _ _ _ _ => rfl
  unfold W2 at hF
  have t1 : (p : Int) < (s.size : Int) := by omega
  go_enter_defers Try.func49, Try.ntmps49
  go_wp2_with fail
  refine hF.mono ?_
  rintro e w1 ⟨⟨rfl, hr⟩, hg⟩
  have D : Aside (_ ∧ _) := caught 4 hg
  obtain ⟨c0, z0⟩ := w2_cell hg
  obtain ⟨r0, r1, r2, r3, r4⟩ := hr
  clear hF hg
  go_wp2
  refine leaves_cons (f := 52) (args := #[.pointer (some ⟨w.heap.size, 0, none⟩)]) (by simp) (by simp [go_sem]) ?_
  refine (catch_panicking ⟨w.heap.size, 0, none⟩ _ 4 [] _ c0 z0).mono ?_
  rintro e u' w'' ⟨rfl, rfl, rfl⟩
  simp [Leaves, settle, results, Try.results49, go_sem, D.out.1]
  exact D.out.2

set_option maxHeartbeats 2000000 in
theorem read_deep (s : ByteArray) (w : World) (d : Nat) (hd : 60 < d) 
    (hF : Calls Try.prog 53 #[.pointer (some ⟨w.heap.size + 1, 0, none⟩)] (W2 w s) fun e w' => (e = .returned (.int .i64 (d : Nat)) ∧ Rd w' (w.heap.size + 1) s s.size) ∧ (W2 w s).grownBy w' (some (w.heap.size + 1))) :
    Calls Try.prog 49 #[.string s] w fun e w' => e = .returned (.int .i64 3) ∧ Below w.heap.size w w' := by
  have hmf : ∀ (fn : Fn) (first cap : Array Value) (w : World), (Instr.makeFunc fn first cap).run Try.prog w = .ok (.func fn first cap) w := fun _ _ _ _ => rfl
  unfold W2 at hF
  have t1 : (60 : Int) < (d : Int) := by omega
  go_enter_defers Try.func49, Try.ntmps49
  go_wp2_with fail
  refine hF.mono ?_
  rintro e w1 ⟨⟨rfl, hr⟩, hg⟩
  have D : Aside (_ ∧ _) := caught 3 hg
  obtain ⟨c0, z0⟩ := w2_cell hg
  obtain ⟨r0, r1, r2, r3, r4⟩ := hr
  clear hF hg
  go_wp2
  refine leaves_cons (f := 52) (args := #[.pointer (some ⟨w.heap.size, 0, none⟩)]) (by simp) (by simp [go_sem]) ?_
  refine (catch_panicking ⟨w.heap.size, 0, none⟩ _ 3 [] _ c0 z0).mono ?_
  rintro e u' w'' ⟨rfl, rfl, rfl⟩
  simp [Leaves, settle, results, Try.results49, go_sem, D.out.1]
  exact D.out.2

set_option maxHeartbeats 2000000 in
theorem read_ok (s : ByteArray) (w : World) (d : Nat) (hd : d ≤ 60) 
    (hF : Calls Try.prog 53 #[.pointer (some ⟨w.heap.size + 1, 0, none⟩)] (W2 w s) fun e w' => (e = .returned (.int .i64 (d : Nat)) ∧ Rd w' (w.heap.size + 1) s s.size) ∧ (W2 w s).grownBy w' (some (w.heap.size + 1))) :
    Calls Try.prog 49 #[.string s] w fun e w' => e = .returned (.int .i64 0) ∧ Below w.heap.size w w' := by
  have hmf : ∀ (fn : Fn) (first cap : Array Value) (w : World), (Instr.makeFunc fn first cap).run Try.prog w = .ok (.func fn first cap) w := fun _ _ _ _ => rfl
  unfold W2 at hF
  have t1 : ¬ (60 : Int) < (d : Int) := by omega
  go_enter_defers Try.func49, Try.ntmps49
  go_wp2_with fail
  refine hF.mono ?_
  rintro e w1 ⟨⟨rfl, hr⟩, hg⟩
  obtain ⟨c0, z0⟩ := w2_cell hg
  have D : Aside ((w1.setCell ⟨w.heap.size, 0, none⟩ (.int .i64 0)).cell? ⟨w.heap.size, 0, none⟩ = some (.int .i64 0) ∧ Below w.heap.size w (w1.setCell ⟨w.heap.size, 0, none⟩ (.int .i64 0))) :=
    ⟨World.cell?_setCell_same _ _ _ c0, (w2_grown hg).setCell (Nat.le_refl _) _⟩
  obtain ⟨r0, r1, r2, r3, r4⟩ := hr
  clear hF hg
  go_wp2
  refine leaves_cons (f := 52) (args := #[.pointer (some ⟨w.heap.size, 0, none⟩)]) (by simp) (by simp [go_sem]) ?_
  refine (catch_idle _ _).mono ?_
  rintro e u' w'' ⟨rfl, rfl, rfl⟩
  simp [Leaves, settle, results, Try.results49, go_sem, D.out.1]
  exact D.out.2

namespace Tm
theorem tree_of_first {bs : List UInt8} {t : T} (h : first bs = some t) : tree bs = if (text t).length = bs.length then some t else none := by
  obtain ⟨ht, r, e⟩ := first_some.1 h
  by_cases hl : (text t).length = bs.length
  · rw [if_pos hl]
    refine tree_some.2 ⟨ht, ?_⟩
    rw [e, List.length_append] at hl
    rw [e, List.eq_nil_of_length_eq_zero (by omega : r.length = 0), List.append_nil]
  · rw [if_neg hl]
    rcases hu : tree bs with _ | u
    · rfl
    · obtain ⟨hu1, hu2⟩ := tree_some.1 hu
      have := uniq1 ht hu1 (r := r) (q := []) (by rw [hu2, ← e, List.append_nil])
      rw [this.1] at hl
      exact absurd (congrArg List.length hu2) hl
theorem tree_of_none {bs : List UInt8} (h : first bs = none) : tree bs = none := by
  rcases hu : tree bs with _ | u
  · rfl
  · obtain ⟨hu1, hu2⟩ := tree_some.1 hu
    exact absurd (show bs = text u ++ [] by rw [hu2, List.append_nil]) (first_none h u [] hu1)
end Tm

theorem readWhole_any (s : ByteArray) (w : World) (hs : s.size ≤ 2000) :
    Calls Try.prog 49 #[.string s] w fun e w' => e = .returned (.int .i64 (Tm.chk s.data.toList : Nat)) ∧ Below w.heap.size w w' := by
  have hT := term_any (w.heap.size + 1) 0 s s.data.toList (W2 w s) (w2_rd w s hs) rfl
  unfold TermPost at hT
  have hl : s.data.toList.length = s.size := by simp
  unfold Tm.chk
  rw [if_neg (by omega)]
  rcases hf : Tm.first s.data.toList with _ | t
  · rw [hf] at hT
    rw [Tm.tree_of_none hf]
    exact read_panics s w hT
  · rw [hf] at hT
    obtain ⟨ht, r, e⟩ := Tm.first_some.1 hf
    have hle : (Tm.text t).length ≤ s.size := by rw [← hl, e, List.length_append]; omega
    rw [Tm.tree_of_first hf]
    simp only [Nat.zero_add] at hT
    by_cases h1 : (Tm.text t).length = s.data.toList.length
    · rw [if_pos h1]
      rw [h1, hl] at hT
      by_cases h2 : 60 < Tm.depth t
      · simp only [if_pos h2]
        exact read_deep s w _ h2 hT
      · simp only [if_neg h2]
        exact read_ok s w _ (by omega) hT
    · rw [if_neg h1]
      exact read_more s w _ _ (by omega) hT

set_option maxHeartbeats 1000000 in
theorem check_any (s : ByteArray) (w : World) :
    Calls Try.prog 44 #[.string s] w fun e w' => e = .returned (.int .i64 (Tm.chk s.data.toList : Nat)) ∧ Below w.heap.size w w' := by
  have hl : s.data.toList.length = s.size := by simp
  by_cases h : 2000 < s.size
  · have e : Tm.chk s.data.toList = 3 := by unfold Tm.chk; rw [if_pos (by omega)]
    rw [e]
    have t1 : (2000 : Int) < (s.size : Int) := by omega
    clear hl e
    go_enter Try.func44, Try.ntmps44
    go_wp2
    go_ret
    exact ⟨rfl, Below.refl _ _⟩
  · have hR := readWhole_any s w (by omega)
    have t1 : ¬ (2000 : Int) < (s.size : Int) := by omega
    generalize Tm.chk s.data.toList = c at *
    clear hl
    go_enter Try.func44, Try.ntmps44
    go_wp2_with fail
    refine hR.mono ?_
    rintro e w1 ⟨rfl, hb⟩
    go_wp2
    go_ret
    exact ⟨rfl, hb⟩

end Go.Proofs.Ytimeggbjmcnnoaa
