/- What field gives, of whatever bytes are left: the field at their front, or it gives up. -/
import Derived.Test.YtkphpdejcmkdeaaRdC
import Derived.Laws.ResultCell
namespace Go.Proofs.Ytkphpdejcmkdeaa
open Go.RowKit

/-- A field's cells, as the program's own. -/
def cellsP (f : Pk.Fld) : List Value := [.int .i64 f.kind, .int .u64 (f.num.toNat : Int), .string f.text, .float .f64 f.real.toNat]
def encP (f : Pk.Fld) : Value := .agg (cellsP f).toArray

theorem rest_of {w w' : World} {pb : Nat} {bs : List UInt8} (h : Rest w pb bs) (hk : ∀ k, k ≤ pb → w'.heap[k]? = w.heap[k]?) : Rest w' pb bs := by
  obtain ⟨hz, a, cap, hc, hn, hat⟩ := h
  refine ⟨by rw [World.frozen?_of_block (w := w) (hk pb (Nat.le_refl _))]; exact hz, a, cap, by rw [World.cell?_of_block (w := w) (hk pb (Nat.le_refl _))]; exact hc, hn, ?_⟩
  rcases hat with rfl | ⟨b, off, rfl, hb, hcs⟩
  · exact .inl rfl
  · exact .inr ⟨b, off, rfl, hb, fun j hj => by rw [World.cell?_of_block (w := w) (hk b (by omega))]; exact hcs j hj⟩

theorem rest_lt {w : World} {pb : Nat} {bs : List UInt8} (h : Rest w pb bs) : pb < w.heap.size := by
  obtain ⟨hz, a, cap, hc, _⟩ := h
  exact World.block_lt_of_cell? w ⟨pb, 0, none⟩ hc

theorem rest_alloc {w : World} {pb : Nat} {bs : List UInt8} (h : Rest w pb bs) (o : Obj) : Rest (w.alloc o) pb bs :=
  rest_of h fun k hk => Below.heap_alloc _ _ _ (by have := rest_lt h; omega)

theorem grown_set_far {a w : World} {row : Option Nat} (h : a.grownBy w row) {g : Nat} (hg : a.heap.size ≤ g) (i : Nat) (v : Value) : a.grownBy (w.setCell ⟨g, i, none⟩ v) row :=
  ⟨h.os, h.tape, h.output, by rw [World.size_setCell]; exact h.size, fun k hk hr => by rw [Below.heap_setCell _ _ _ _ (show k ≠ g by omega)]; exact h.block k hk hr⟩

theorem rest_set_far {w : World} {pb : Nat} {bs : List UInt8} (h : Rest w pb bs) {g : Nat} (hg : pb < g) (i : Nat) (v : Value) : Rest (w.setCell ⟨g, i, none⟩ v) pb bs :=
  rest_of h fun k hk => Below.heap_setCell _ _ _ _ (show k ≠ g by omega)

theorem grown_of_alloc {w w' : World} {o : Obj} {row : Option Nat} (h : (w.alloc o).grownBy w' row) : w.grownBy w' row := Lib.grownBy_trans (World.grownBy_alloc w o row) h

theorem store_float (a : Addr) (m : Mode) (b : Nat) (w : World) : (store a (.float .f64 b) m).run Try.prog w = stored Try.prog w a (.float .f64 b) m := run_store Try.prog w a _ m rfl

theorem set4 (w : World) (g : Nat) (v0 v1 v2 v3 : Value) {u0 u1 u2 u3 : Value} (h0 : w.cell? ⟨g, 0, none⟩ = some u0) (h1 : w.cell? ⟨g, 1, none⟩ = some u1) (h2 : w.cell? ⟨g, 2, none⟩ = some u2) (h3 : w.cell? ⟨g, 3, none⟩ = some u3) :
    (((w.setCell ⟨g, 0, none⟩ v0).setCell ⟨g, 1, none⟩ v1).setCell ⟨g, 2, none⟩ v2).cell? ⟨g, 3, none⟩ = some u3 ∧
    ((((w.setCell ⟨g, 0, none⟩ v0).setCell ⟨g, 1, none⟩ v1).setCell ⟨g, 2, none⟩ v2).setCell ⟨g, 3, none⟩ v3).cell? ⟨g, 0, none⟩ = some v0 ∧
    ((((w.setCell ⟨g, 0, none⟩ v0).setCell ⟨g, 1, none⟩ v1).setCell ⟨g, 2, none⟩ v2).setCell ⟨g, 3, none⟩ v3).cell? ⟨g, 1, none⟩ = some v1 ∧
    ((((w.setCell ⟨g, 0, none⟩ v0).setCell ⟨g, 1, none⟩ v1).setCell ⟨g, 2, none⟩ v2).setCell ⟨g, 3, none⟩ v3).cell? ⟨g, 2, none⟩ = some v2 ∧
    ((((w.setCell ⟨g, 0, none⟩ v0).setCell ⟨g, 1, none⟩ v1).setCell ⟨g, 2, none⟩ v2).setCell ⟨g, 3, none⟩ v3).cell? ⟨g, 3, none⟩ = some v3 := by
  have ne : ∀ i j : Nat, i ≠ j → (⟨g, i, none⟩ : Addr) ≠ ⟨g, j, none⟩ := fun i j h e => h (by injection e)
  have far : ∀ (w : World) (i j : Nat) (v : Value), i ≠ j → (w.setCell ⟨g, i, none⟩ v).cell? ⟨g, j, none⟩ = w.cell? ⟨g, j, none⟩ := fun w i j v h => World.cell?_setCell_other w _ _ _ (ne i j h)
  have e3 : (((w.setCell ⟨g, 0, none⟩ v0).setCell ⟨g, 1, none⟩ v1).setCell ⟨g, 2, none⟩ v2).cell? ⟨g, 3, none⟩ = some u3 := by
    rw [far _ _ _ _ (by decide), far _ _ _ _ (by decide), far _ _ _ _ (by decide)]; exact h3
  refine ⟨e3, ?_, ?_, ?_, ?_⟩
  · rw [far _ _ _ _ (by decide), far _ _ _ _ (by decide), far _ _ _ _ (by decide)]; exact World.cell?_setCell_same w _ _ h0
  · rw [far _ _ _ _ (by decide), far _ _ _ _ (by decide)]; exact World.cell?_setCell_same _ _ _ (by rw [far _ _ _ _ (by decide)]; exact h1)
  · rw [far _ _ _ _ (by decide)]; exact World.cell?_setCell_same _ _ _ (by rw [far _ _ _ _ (by decide), far _ _ _ _ (by decide)]; exact h2)
  · exact World.cell?_setCell_same _ _ _ e3

set_option maxHeartbeats 1000000 in
theorem field_num (pb : Nat) (r q : List UInt8) (x : Nat) (w : World) (h : Rest w pb (1 :: r)) (hP : Pk.numP r = some (x, q)) :
    Calls Try.prog 52 #[.pointer (some ⟨pb, 0, none⟩)] w fun e w' => e = .returned (.agg #[.int .i64 1, .int .u64 (x : Int), .string ⟨#[]⟩, .float .f64 0]) ∧ Rest w' pb q ∧ w.grownBy w' (some pb) := by
  have ho := one_ok pb 1 r (w.alloc (.cells #[.int .i64 0, .int .u64 0, .string ⟨#[]⟩, .float .f64 0] 51)) (rest_alloc h _)
  have hN : Aside (∀ w1, Rest w1 pb r → _) := fun w1 hr => number_any pb r w1 hr
  rw [hP] at hN
  have hlt := rest_lt h
  clear h hP
  have hsf := fun a m b W => store_float a m b W
  go_enter Try.func52, Try.ntmps52
  go_wp2_with fail
  refine ho.mono ?_
  rintro e w1 ⟨rfl, hg1, hr1⟩
  have hN1 := hN.out w1 hr1
  clear hN ho hr1
  go_wp2_with fail
  refine hN1.mono ?_
  rintro e w2 ⟨⟨rfl, hr2⟩, hg2⟩
  have hg : Aside ((w.alloc (.cells #[.int .i64 0, .int .u64 0, .string ⟨#[]⟩, .float .f64 0] 51)).grownBy w2 (some pb)) := Lib.grownBy_trans hg1 hg2
  have R : Aside (Rest w2 pb q) := hr2
  clear hg1 hg2 hr2 hN1
  unfold encN
  have hne : ∀ i, some (⟨w.heap.size, i, none⟩ : Addr).block ≠ some pb := fun i e => by simp at e; omega
  have c0 : w2.cell? ⟨w.heap.size, 0, none⟩ = some (.int .i64 0) := hg.out.cell (by simp [go_sem]) (hne 0)
  have c1 : w2.cell? ⟨w.heap.size, 1, none⟩ = some (.int .u64 0) := hg.out.cell (by simp [go_sem]) (hne 1)
  have c2 : w2.cell? ⟨w.heap.size, 2, none⟩ = some (.string ⟨#[]⟩) := hg.out.cell (by simp [go_sem]) (hne 2)
  have c3 : w2.cell? ⟨w.heap.size, 3, none⟩ = some (.float .f64 0) := hg.out.cell (by simp [go_sem]) (hne 3)
  have z : ∀ i, w2.frozen? ⟨w.heap.size, i, none⟩ = false := fun i => by rw [World.frozen?_of_block (w := w.alloc _) (hg.out.block w.heap.size (by simp) (hne 0))]; simp [go_sem]
  obtain ⟨s3, d0, d1, d2, d3⟩ := set4 w2 w.heap.size (.int .i64 1) (.int .u64 (x : Int)) (.string ⟨#[]⟩) (.float .f64 0) c0 c1 c2 c3
  have D : Aside (_ ∧ _ ∧ _ ∧ _) := ⟨d0, d1, d2, d3⟩
  clear d0 d1 d2 d3
  go_wp2
  obtain ⟨d0, d1, d2, d3⟩ := D.out
  refine ⟨rfl, .agg #[.int .i64 1, .int .u64 (x : Int), .string ⟨#[]⟩, .float .f64 0], ?_, rfl, ?_, ?_⟩
  · simp [results, Try.results52, go_sem, d0, d1, d2, d3]
  · exact rest_set_far (rest_set_far (rest_set_far (rest_set_far R.out hlt _ _) hlt _ _) hlt _ _) hlt _ _
  · exact grown_set_far (grown_set_far (grown_set_far (grown_set_far (grown_of_alloc hg.out) (Nat.le_refl _) _ _) (Nat.le_refl _) _ _) (Nat.le_refl _) _ _) (Nat.le_refl _) _ _

set_option maxHeartbeats 1000000 in
theorem field_text (pb : Nat) (r q : List UInt8) (x : List UInt8) (w : World) (h : Rest w pb (2 :: r)) (hP : Pk.textP r = some (x, q)) :
    Calls Try.prog 52 #[.pointer (some ⟨pb, 0, none⟩)] w fun e w' => e = .returned (.agg #[.int .i64 2, .int .u64 0, .string ⟨x.toArray⟩, .float .f64 0]) ∧ Rest w' pb q ∧ w.grownBy w' (some pb) := by
  have ho := one_ok pb 2 r (w.alloc (.cells #[.int .i64 0, .int .u64 0, .string ⟨#[]⟩, .float .f64 0] 51)) (rest_alloc h _)
  have hN : Aside (∀ w1, Rest w1 pb r → _) := fun w1 hr => text_any pb r w1 hr
  rw [hP] at hN
  have hlt := rest_lt h
  clear h hP
  have hsf := fun a m b W => store_float a m b W
  go_enter Try.func52, Try.ntmps52
  go_wp2_with fail
  refine ho.mono ?_
  rintro e w1 ⟨rfl, hg1, hr1⟩
  have hN1 := hN.out w1 hr1
  clear hN ho hr1
  go_wp2_with fail
  refine hN1.mono ?_
  rintro e w2 ⟨⟨rfl, hr2⟩, hg2⟩
  have hg : Aside ((w.alloc (.cells #[.int .i64 0, .int .u64 0, .string ⟨#[]⟩, .float .f64 0] 51)).grownBy w2 (some pb)) := Lib.grownBy_trans hg1 hg2
  have R : Aside (Rest w2 pb q) := hr2
  clear hg1 hg2 hr2 hN1
  unfold encS
  have hne : ∀ i, some (⟨w.heap.size, i, none⟩ : Addr).block ≠ some pb := fun i e => by simp at e; omega
  have c0 : w2.cell? ⟨w.heap.size, 0, none⟩ = some (.int .i64 0) := hg.out.cell (by simp [go_sem]) (hne 0)
  have c1 : w2.cell? ⟨w.heap.size, 1, none⟩ = some (.int .u64 0) := hg.out.cell (by simp [go_sem]) (hne 1)
  have c2 : w2.cell? ⟨w.heap.size, 2, none⟩ = some (.string ⟨#[]⟩) := hg.out.cell (by simp [go_sem]) (hne 2)
  have c3 : w2.cell? ⟨w.heap.size, 3, none⟩ = some (.float .f64 0) := hg.out.cell (by simp [go_sem]) (hne 3)
  have z : ∀ i, w2.frozen? ⟨w.heap.size, i, none⟩ = false := fun i => by rw [World.frozen?_of_block (w := w.alloc _) (hg.out.block w.heap.size (by simp) (hne 0))]; simp [go_sem]
  obtain ⟨s3, d0, d1, d2, d3⟩ := set4 w2 w.heap.size (.int .i64 2) (.int .u64 0) (.string ⟨x.toArray⟩) (.float .f64 0) c0 c1 c2 c3
  have D : Aside (_ ∧ _ ∧ _ ∧ _) := ⟨d0, d1, d2, d3⟩
  clear d0 d1 d2 d3
  go_wp2
  obtain ⟨d0, d1, d2, d3⟩ := D.out
  refine ⟨rfl, .agg #[.int .i64 2, .int .u64 0, .string ⟨x.toArray⟩, .float .f64 0], ?_, rfl, ?_, ?_⟩
  · simp [results, Try.results52, go_sem, d0, d1, d2, d3]
  · exact rest_set_far (rest_set_far (rest_set_far (rest_set_far R.out hlt _ _) hlt _ _) hlt _ _) hlt _ _
  · exact grown_set_far (grown_set_far (grown_set_far (grown_set_far (grown_of_alloc hg.out) (Nat.le_refl _) _ _) (Nat.le_refl _) _ _) (Nat.le_refl _) _ _) (Nat.le_refl _) _ _

set_option maxHeartbeats 1000000 in
theorem field_real (pb : Nat) (r q : List UInt8) (x : Nat) (w : World) (h : Rest w pb (3 :: r)) (hP : Pk.realP r = some (x, q)) :
    Calls Try.prog 52 #[.pointer (some ⟨pb, 0, none⟩)] w fun e w' => e = .returned (.agg #[.int .i64 3, .int .u64 0, .string ⟨#[]⟩, .float .f64 x]) ∧ Rest w' pb q ∧ w.grownBy w' (some pb) := by
  have ho := one_ok pb 3 r (w.alloc (.cells #[.int .i64 0, .int .u64 0, .string ⟨#[]⟩, .float .f64 0] 51)) (rest_alloc h _)
  have hN : Aside (∀ w1, Rest w1 pb r → _) := fun w1 hr => float_any pb r w1 hr
  rw [hP] at hN
  have hlt := rest_lt h
  clear h hP
  have hsf := fun a m b W => store_float a m b W
  go_enter Try.func52, Try.ntmps52
  go_wp2_with fail
  refine ho.mono ?_
  rintro e w1 ⟨rfl, hg1, hr1⟩
  have hN1 := hN.out w1 hr1
  clear hN ho hr1
  go_wp2_with fail
  refine hN1.mono ?_
  rintro e w2 ⟨⟨rfl, hr2⟩, hg2⟩
  have hg : Aside ((w.alloc (.cells #[.int .i64 0, .int .u64 0, .string ⟨#[]⟩, .float .f64 0] 51)).grownBy w2 (some pb)) := Lib.grownBy_trans hg1 hg2
  have R : Aside (Rest w2 pb q) := hr2
  clear hg1 hg2 hr2 hN1
  unfold encF
  have hne : ∀ i, some (⟨w.heap.size, i, none⟩ : Addr).block ≠ some pb := fun i e => by simp at e; omega
  have c0 : w2.cell? ⟨w.heap.size, 0, none⟩ = some (.int .i64 0) := hg.out.cell (by simp [go_sem]) (hne 0)
  have c1 : w2.cell? ⟨w.heap.size, 1, none⟩ = some (.int .u64 0) := hg.out.cell (by simp [go_sem]) (hne 1)
  have c2 : w2.cell? ⟨w.heap.size, 2, none⟩ = some (.string ⟨#[]⟩) := hg.out.cell (by simp [go_sem]) (hne 2)
  have c3 : w2.cell? ⟨w.heap.size, 3, none⟩ = some (.float .f64 0) := hg.out.cell (by simp [go_sem]) (hne 3)
  have z : ∀ i, w2.frozen? ⟨w.heap.size, i, none⟩ = false := fun i => by rw [World.frozen?_of_block (w := w.alloc _) (hg.out.block w.heap.size (by simp) (hne 0))]; simp [go_sem]
  obtain ⟨s3, d0, d1, d2, d3⟩ := set4 w2 w.heap.size (.int .i64 3) (.int .u64 0) (.string ⟨#[]⟩) (.float .f64 x) c0 c1 c2 c3
  have D : Aside (_ ∧ _ ∧ _ ∧ _) := ⟨d0, d1, d2, d3⟩
  clear d0 d1 d2 d3
  go_wp2
  obtain ⟨d0, d1, d2, d3⟩ := D.out
  refine ⟨rfl, .agg #[.int .i64 3, .int .u64 0, .string ⟨#[]⟩, .float .f64 x], ?_, rfl, ?_, ?_⟩
  · simp [results, Try.results52, go_sem, d0, d1, d2, d3]
  · exact rest_set_far (rest_set_far (rest_set_far (rest_set_far R.out hlt _ _) hlt _ _) hlt _ _) hlt _ _
  · exact grown_set_far (grown_set_far (grown_set_far (grown_set_far (grown_of_alloc hg.out) (Nat.le_refl _) _ _) (Nat.le_refl _) _ _) (Nat.le_refl _) _ _) (Nat.le_refl _) _ _

set_option maxHeartbeats 1000000 in
theorem field_num_end (pb : Nat) (r : List UInt8) (w : World) (h : Rest w pb (1 :: r)) (hP : Pk.numP r = none) :
    Calls Try.prog 52 #[.pointer (some ⟨pb, 0, none⟩)] w fun e w' => e = .panicked gave ∧ w.grownBy w' (some pb) := by
  have ho := one_ok pb 1 r (w.alloc (.cells #[.int .i64 0, .int .u64 0, .string ⟨#[]⟩, .float .f64 0] 51)) (rest_alloc h _)
  have hN : Aside (∀ w1, Rest w1 pb r → _) := fun w1 hr => number_any pb r w1 hr
  rw [hP] at hN
  clear h hP
  go_enter Try.func52, Try.ntmps52
  go_wp2_with fail
  refine ho.mono ?_
  rintro e w1 ⟨rfl, hg1, hr1⟩
  have hN1 := hN.out w1 hr1
  clear hN ho hr1
  go_wp2_with fail
  refine hN1.mono ?_
  rintro e w2 ⟨rfl, hg2⟩
  have hg : Aside (w.grownBy w2 (some pb)) := grown_of_alloc (Lib.grownBy_trans hg1 hg2)
  clear hg1 hg2 hN1
  go_wp2
  exact ⟨rfl, rfl, hg.out⟩

set_option maxHeartbeats 1000000 in
theorem field_text_end (pb : Nat) (r : List UInt8) (w : World) (h : Rest w pb (2 :: r)) (hP : Pk.textP r = none) :
    Calls Try.prog 52 #[.pointer (some ⟨pb, 0, none⟩)] w fun e w' => e = .panicked gave ∧ w.grownBy w' (some pb) := by
  have ho := one_ok pb 2 r (w.alloc (.cells #[.int .i64 0, .int .u64 0, .string ⟨#[]⟩, .float .f64 0] 51)) (rest_alloc h _)
  have hN : Aside (∀ w1, Rest w1 pb r → _) := fun w1 hr => text_any pb r w1 hr
  rw [hP] at hN
  clear h hP
  go_enter Try.func52, Try.ntmps52
  go_wp2_with fail
  refine ho.mono ?_
  rintro e w1 ⟨rfl, hg1, hr1⟩
  have hN1 := hN.out w1 hr1
  clear hN ho hr1
  go_wp2_with fail
  refine hN1.mono ?_
  rintro e w2 ⟨rfl, hg2⟩
  have hg : Aside (w.grownBy w2 (some pb)) := grown_of_alloc (Lib.grownBy_trans hg1 hg2)
  clear hg1 hg2 hN1
  go_wp2
  exact ⟨rfl, rfl, hg.out⟩

set_option maxHeartbeats 1000000 in
theorem field_real_end (pb : Nat) (r : List UInt8) (w : World) (h : Rest w pb (3 :: r)) (hP : Pk.realP r = none) :
    Calls Try.prog 52 #[.pointer (some ⟨pb, 0, none⟩)] w fun e w' => e = .panicked gave ∧ w.grownBy w' (some pb) := by
  have ho := one_ok pb 3 r (w.alloc (.cells #[.int .i64 0, .int .u64 0, .string ⟨#[]⟩, .float .f64 0] 51)) (rest_alloc h _)
  have hN : Aside (∀ w1, Rest w1 pb r → _) := fun w1 hr => float_any pb r w1 hr
  rw [hP] at hN
  clear h hP
  go_enter Try.func52, Try.ntmps52
  go_wp2_with fail
  refine ho.mono ?_
  rintro e w1 ⟨rfl, hg1, hr1⟩
  have hN1 := hN.out w1 hr1
  clear hN ho hr1
  go_wp2_with fail
  refine hN1.mono ?_
  rintro e w2 ⟨rfl, hg2⟩
  have hg : Aside (w.grownBy w2 (some pb)) := grown_of_alloc (Lib.grownBy_trans hg1 hg2)
  clear hg1 hg2 hN1
  go_wp2
  exact ⟨rfl, rfl, hg.out⟩

set_option maxHeartbeats 1000000 in
theorem field_none (pb : Nat) (w : World) (h : Rest w pb []) :
    Calls Try.prog 52 #[.pointer (some ⟨pb, 0, none⟩)] w fun e w' => e = .panicked gave ∧ w.grownBy w' (some pb) := by
  have ho := one_end pb (w.alloc (.cells #[.int .i64 0, .int .u64 0, .string ⟨#[]⟩, .float .f64 0] 51)) (rest_alloc h _)
  clear h
  go_enter Try.func52, Try.ntmps52
  go_wp2_with fail
  refine ho.mono ?_
  rintro e w1 ⟨rfl, hg1⟩
  have hg : Aside (w.grownBy w1 (some pb)) := grown_of_alloc hg1
  clear hg1 ho
  go_wp2
  exact ⟨rfl, rfl, hg.out⟩

set_option maxHeartbeats 1000000 in
theorem field_other (pb : Nat) (k : UInt8) (r : List UInt8) (w : World) (h : Rest w pb (k :: r)) (h1 : ¬ k = 1) (h2 : ¬ k = 2) (h3 : ¬ k = 3) :
    Calls Try.prog 52 #[.pointer (some ⟨pb, 0, none⟩)] w fun e w' => e = .panicked gave ∧ w.grownBy w' (some pb) := by
  have ho := one_ok pb k r (w.alloc (.cells #[.int .i64 0, .int .u64 0, .string ⟨#[]⟩, .float .f64 0] 51)) (rest_alloc h _)
  have ne : ∀ m : UInt8, ¬ k = m → ((k.toNat : Int) == (m.toNat : Int)) = false := fun m hm => by
    have : ¬ k.toNat = m.toNat := fun e => hm (UInt8.toNat_inj.1 e)
    have : ¬ (k.toNat : Int) = (m.toNat : Int) := by omega
    simpa using this
  have e1 : ((k.toNat : Int) == 1) = false := ne 1 h1
  have e2 : ((k.toNat : Int) == 2) = false := ne 2 h2
  have e3 : ((k.toNat : Int) == 3) = false := ne 3 h3
  clear h ne h1 h2 h3
  generalize k.toNat = m at *
  go_enter Try.func52, Try.ntmps52
  go_wp2_with fail
  refine ho.mono ?_
  rintro e w1 ⟨rfl, hg1, hr1⟩
  have hg : Aside (w.grownBy w1 (some pb)) := grown_of_alloc hg1
  clear hg1 hr1 ho
  go_wp2_with fail
  refine (giveUp_any _).mono ?_; rintro e w2 ⟨rfl, hw⟩
  replace hw := hw.symm; subst hw
  go_wp2
  exact ⟨rfl, rfl, hg.out⟩

theorem field_any (pb : Nat) (bs : List UInt8) (w : World) (h : Rest w pb bs) :
    Calls Try.prog 52 #[.pointer (some ⟨pb, 0, none⟩)] w (Gives (Pk.fldP bs) encP pb w) := by
  cases bs with
  | nil => exact field_none pb w h
  | cons k r =>
    by_cases h1 : k = 1
    · subst h1
      rw [Pk.fldP_1]
      rcases hP : Pk.numP r with _ | ⟨x, q⟩
      · exact field_num_end pb r w h hP
      · refine (field_num pb r q x w h hP).mono ?_
        rintro e w' ⟨rfl, hr, hg⟩
        refine ⟨⟨?_, hr⟩, hg⟩
        unfold encP cellsP
        simp only [Pk.u64_to (Pk.numP_some hP).1]
        rfl
    · by_cases h2 : k = 2
      · subst h2
        rw [Pk.fldP_2]
        rcases hP : Pk.textP r with _ | ⟨x, q⟩
        · exact field_text_end pb r w h hP
        · refine (field_text pb r q x w h hP).mono ?_
          rintro e w' ⟨rfl, hr, hg⟩
          exact ⟨⟨rfl, hr⟩, hg⟩
      · by_cases h3 : k = 3
        · subst h3
          rw [Pk.fldP_3]
          rcases hP : Pk.realP r with _ | ⟨x, q⟩
          · exact field_real_end pb r w h hP
          · refine (field_real pb r q x w h hP).mono ?_
            rintro e w' ⟨rfl, hr, hg⟩
            refine ⟨⟨?_, hr⟩, hg⟩
            unfold encP cellsP
            simp only [Pk.u64_to (Pk.realP_some hP).1]
            rfl
        · have e : Pk.fldP (k :: r) = none := by
            simp only [Pk.fldP]
            rw [if_neg h1, if_neg h2, if_neg h3]
          rw [e]
          exact field_other pb k r w h h1 h2 h3

end Go.Proofs.Ytkphpdejcmkdeaa
