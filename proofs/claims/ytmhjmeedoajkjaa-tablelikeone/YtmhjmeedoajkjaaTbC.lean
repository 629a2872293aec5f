/- Two open broadcasts compared: which stands ahead. -/
import Derived.Test.YtmhjmeedoajkjaaTbA
import Derived.Test.YtmhjmeedoajkjaaVtD
set_option linter.unusedVariables false
namespace Go.Proofs.Ytmhjmeedoajkjaa
open Go.RowKit Go.Shelf

theorem nan8_any (x : Int) (w : World) : Calls Try.prog 66 #[.int .u8 x] w fun e w' => e = .returned (.bool false) ∧ w' = w := by
  go_enter Try.func66, Try.ntmps66
  go_wp2
  go_ret
  exact ⟨rfl, rfl⟩
theorem nan64_any (x : Int) (w : World) : Calls Try.prog 67 #[.int .i64 x] w fun e w' => e = .returned (.bool false) ∧ w' = w := by
  go_enter Try.func67, Try.ntmps67
  go_wp2
  go_ret
  exact ⟨rfl, rfl⟩
def cmpI (x y : Int) : Int := if x < y then -1 else if y < x then 1 else 0
theorem cmp8_any (x y : Int) (w : World) : Calls Try.prog 55 #[.int .u8 x, .int .u8 y] w fun e w' => e = .returned (.int .i64 (cmpI x y)) ∧ w' = w := by
  unfold cmpI
  by_cases h1 : x < y
  · rw [if_pos h1]
    go_enter Try.func55, Try.ntmps55
    go_wp2_with (go_at_call 66; refine (nan8_any _ _).mono ?_; rintro e w' ⟨rfl, rfl⟩)
    go_ret
    exact ⟨rfl, rfl⟩
  · rw [if_neg h1]
    by_cases h2 : y < x
    · rw [if_pos h2]
      go_enter Try.func55, Try.ntmps55
      go_wp2_with (go_at_call 66; refine (nan8_any _ _).mono ?_; rintro e w' ⟨rfl, rfl⟩)
      go_ret
      exact ⟨rfl, rfl⟩
    · rw [if_neg h2]
      go_enter Try.func55, Try.ntmps55
      go_wp2_with (go_at_call 66; refine (nan8_any _ _).mono ?_; rintro e w' ⟨rfl, rfl⟩)
      go_ret
      exact ⟨rfl, rfl⟩
theorem cmp64_any (x y : Int) (w : World) : Calls Try.prog 56 #[.int .i64 x, .int .i64 y] w fun e w' => e = .returned (.int .i64 (cmpI x y)) ∧ w' = w := by
  unfold cmpI
  by_cases h1 : x < y
  · rw [if_pos h1]
    go_enter Try.func56, Try.ntmps56
    go_wp2_with (go_at_call 67; refine (nan64_any _ _).mono ?_; rintro e w' ⟨rfl, rfl⟩)
    go_ret
    exact ⟨rfl, rfl⟩
  · rw [if_neg h1]
    by_cases h2 : y < x
    · rw [if_pos h2]
      go_enter Try.func56, Try.ntmps56
      go_wp2_with (go_at_call 67; refine (nan64_any _ _).mono ?_; rintro e w' ⟨rfl, rfl⟩)
      go_ret
      exact ⟨rfl, rfl⟩
    · rw [if_neg h2]
      go_enter Try.func56, Try.ntmps56
      go_wp2_with (go_at_call 67; refine (nan64_any _ _).mono ?_; rintro e w' ⟨rfl, rfl⟩)
      go_ret
      exact ⟨rfl, rfl⟩
/-- The first of two numbers that is not 0. -/
theorem or_any (x y : Int) (b : Nat) (w : World) (h0 : w.cell? ⟨b, 0, none⟩ = some (.int .i64 x)) (h1 : w.cell? ⟨b, 1, none⟩ = some (.int .i64 y)) :
    Calls Try.prog 54 #[.slice (some ⟨b, 0, none⟩) 2 2] w fun e w' => e = .returned (.int .i64 (if x = 0 then y else x)) ∧ w' = w := by
  have R1 : Aside (x ≠ 0 → (fun (e : Ending) (w' : World) => e = .returned (.int .i64 (if x = 0 then y else x)) ∧ w' = w) (.returned (.int .i64 x)) w) := fun h => by rw [if_neg h]; exact ⟨rfl, rfl⟩
  have R2 : Aside (x = 0 → (fun (e : Ending) (w' : World) => e = .returned (.int .i64 (if x = 0 then y else x)) ∧ w' = w) (.returned (.int .i64 y)) w) := fun h => by rw [if_pos h]; exact ⟨rfl, rfl⟩
  generalize (fun (e : Ending) (w' : World) => e = .returned (.int .i64 (if x = 0 then y else x)) ∧ w' = w) = Q at R1 R2 ⊢
  go_enter Try.func54, Try.ntmps54
  go_wp2_with fail
  go_loopw [8] (fun i wr => ∃ k : Nat, k ≤ 2 ∧ i = .int .i64 (k : Nat) ∧ wr = w ∧ Aside ((0 < k → x = 0) ∧ (1 < k → y = 0))) (fun i _ => 2 - (intOf i).toNat)
  case atStart => exact ⟨0, by decide, rfl, rfl, (⟨(fun h => absurd h (by decide)), (fun h => absurd h (by decide))⟩ : _ ∧ _)⟩
  case round =>
    obtain ⟨k, hk, rfl, rfl, Z⟩ := hrel
    by_cases k0 : k = 0
    · subst k0
      by_cases hx : x = 0
      · have Z' : Aside ((0 < 1 → x = 0) ∧ (1 < 1 → y = 0)) := ⟨fun _ => hx, fun h => absurd h (by decide)⟩
        have hxf : (x != 0) = false := by simp [hx]
        clear hx
        go_wp2
        go_roundw
        case rel => exact ⟨1, by decide, rfl, trivial, Z'⟩
        case measure => decide
      · have Q1 : Aside _ := R1.out hx
        have hxf : (x != 0) = true := by simp [hx]
        clear hx
        go_wp2
        exact Q1.out
    · by_cases k1 : k = 1
      · subst k1
        have hx := Z.out.1 (by decide)
        by_cases hy : y = 0
        · have Z' : Aside ((0 < 2 → x = 0) ∧ (1 < 2 → y = 0)) := ⟨fun _ => hx, fun _ => hy⟩
          have hyf : (y != 0) = false := by simp [hy]
          clear hx hy
          go_wp2
          go_roundw
          case rel => exact ⟨2, by decide, rfl, trivial, Z'⟩
          case measure => decide
        · have Q1 : Aside _ := R2.out hx
          have hyf : (y != 0) = true := by simp [hy]
          clear hx hy
          go_wp2
          exact Q1.out
      · obtain rfl : k = 2 := by omega
        have Q1 : Aside (Q (.returned (.int .i64 0)) wr) := by have := R2.out (Z.out.1 (by decide)); rw [Z.out.2 (by decide)] at this; exact this
        clear Z
        go_wp2
        exact Q1.out
theorem or_cmp (a b : Tb.Op) : (if cmpI (a.frm : Int) (b.frm : Int) = 0 then cmpI a.seq b.seq else cmpI (a.frm : Int) (b.frm : Int)) = Tb.cmpO a b := by
  unfold Tb.cmpO cmpI
  by_cases h1 : a.frm < b.frm
  · rw [if_pos (show (a.frm : Int) < (b.frm : Int) by omega), if_pos h1, if_neg (by decide)]
  · rw [if_neg (show ¬ (a.frm : Int) < (b.frm : Int) by omega), if_neg h1]
    by_cases h2 : b.frm < a.frm
    · rw [if_pos (show (b.frm : Int) < (a.frm : Int) by omega), if_pos h2, if_neg (by decide)]
    · rw [if_neg (show ¬ (b.frm : Int) < (a.frm : Int) by omega), if_neg h2, if_pos rfl]
/-- A box of seven cells. -/
def X7 (w : World) (b : Nat) (v0 v1 v2 v3 v4 v5 v6 : Value) : Prop := w.heap[b]? = some (.cells #[v0, v1, v2, v3, v4, v5, v6] 50 (0, 0))
theorem X7.lt {w : World} {b : Nat} {v0 v1 v2 v3 v4 v5 v6 : Value} (h : X7 w b v0 v1 v2 v3 v4 v5 v6) : b < w.heap.size := (Array.getElem?_eq_some_iff.1 h).1
theorem X7.later {w w' : World} {b : Nat} {v0 v1 v2 v3 v4 v5 v6 : Value} (h : X7 w b v0 v1 v2 v3 v4 v5 v6) (hb : Below w.heap.size w w') : X7 w' b v0 v1 v2 v3 v4 v5 v6 := (hb.block b h.lt).trans h
theorem X7.new (w : World) (v0 v1 v2 v3 v4 v5 v6 : Value) : X7 (w.alloc (.cells #[v0, v1, v2, v3, v4, v5, v6] 50)) w.heap.size v0 v1 v2 v3 v4 v5 v6 := heap_alloc_new w _
theorem X7.alloc {w : World} {b : Nat} {v0 v1 v2 v3 v4 v5 v6 : Value} (h : X7 w b v0 v1 v2 v3 v4 v5 v6) (o : Obj) : X7 (w.alloc o) b v0 v1 v2 v3 v4 v5 v6 := h.later ((Below.refl _ w).alloc (Nat.le_refl _) o)
theorem X7.cells {w : World} {b : Nat} {v0 v1 v2 v3 v4 v5 v6 : Value} (h : X7 w b v0 v1 v2 v3 v4 v5 v6) :
    w.cell? ⟨b, 0, none⟩ = some v0 ∧ w.cell? ⟨b, 1, none⟩ = some v1 ∧ w.cell? ⟨b, 2, none⟩ = some v2 ∧ w.cell? ⟨b, 3, none⟩ = some v3 ∧ w.cell? ⟨b, 4, none⟩ = some v4 ∧ w.cell? ⟨b, 5, none⟩ = some v5 ∧ w.cell? ⟨b, 6, none⟩ = some v6 :=
  ⟨cell_of_row w b 0 _ 50 _ h, cell_of_row w b 1 _ 50 _ h, cell_of_row w b 2 _ 50 _ h, cell_of_row w b 3 _ 50 _ h, cell_of_row w b 4 _ 50 _ h, cell_of_row w b 5 _ 50 _ h, cell_of_row w b 6 _ 50 _ h⟩

set_option maxHeartbeats 4000000 in
set_option maxRecDepth 100000 in
theorem order_any (a b : Tb.Op) (p2 p3 p4 p5 p6 q2 q3 q4 q5 q6 : Value) (w : World) :
    Calls Try.prog 34 #[.agg #[.int .u8 (a.frm : Int), .int .i64 a.seq, p2, p3, p4, p5, p6], .agg #[.int .u8 (b.frm : Int), .int .i64 b.seq, q2, q3, q4, q5, q6]] w fun e w' => e = .returned (.int .i64 (Tb.cmpO a b)) ∧ Below w.heap.size w w' := by
  obtain ⟨f, s, ca⟩ := a
  obtain ⟨g, t, cb⟩ := b
  have R : Aside (∀ w', Below w.heap.size w w' → (fun (e : Ending) (w' : World) => e = .returned (.int .i64 (Tb.cmpO ⟨f, s, ca⟩ ⟨g, t, cb⟩)) ∧ Below w.heap.size w w') (.returned (.int .i64 (if cmpI (f : Int) (g : Int) = 0 then cmpI s t else cmpI (f : Int) (g : Int)))) w') := fun w' hb => ⟨by rw [or_cmp ⟨f, s, ca⟩ ⟨g, t, cb⟩], hb⟩
  generalize (fun (e : Ending) (w' : World) => e = .returned (.int .i64 (Tb.cmpO ⟨f, s, ca⟩ ⟨g, t, cb⟩)) ∧ Below w.heap.size w w') = Q at R ⊢
  obtain ⟨V, hV⟩ : ∃ V, V = (w.alloc (.cells #[.int .u8 (f : Int), .int .i64 s, p2, p3, p4, p5, p6] 50)).alloc (.cells #[.int .u8 (g : Int), .int .i64 t, q2, q3, q4, q5, q6] 50) := ⟨_, rfl⟩
  have x1 : X7 V w.heap.size (.int .u8 (f : Int)) (.int .i64 s) p2 p3 p4 p5 p6 := by rw [hV]; exact (X7.new w _ _ _ _ _ _ _).alloc _
  have x2 : X7 V (w.heap.size + 1) (.int .u8 (g : Int)) (.int .i64 t) q2 q3 q4 q5 q6 := by
    rw [hV]
    have := X7.new (w.alloc (.cells #[.int .u8 (f : Int), .int .i64 s, p2, p3, p4, p5, p6] 50)) (.int .u8 (g : Int)) (.int .i64 t) q2 q3 q4 q5 q6
    rwa [World.size_alloc] at this
  have x3 : Below w.heap.size w V := by rw [hV]; exact ((Below.refl _ w).alloc (Nat.le_refl _) _).alloc (by simp) _
  go_enter Try.func34, Try.ntmps34
  go_wp2_with fail
  rw [← hV]
  clear hV
  obtain ⟨y0, y1, -⟩ := x1.cells
  obtain ⟨z0, z1, -⟩ := x2.cells
  have hB : Aside (Below w.heap.size w V) := x3
  clear x1 x2 x3
  have C1 : Aside (∀ W, Calls Try.prog 55 #[.int .u8 (f : Int), .int .u8 (g : Int)] W fun e w' => e = .returned (.int .i64 (cmpI (f : Int) (g : Int))) ∧ w' = W) := fun W => cmp8_any _ _ W
  have C2 : Aside (∀ W, Calls Try.prog 56 #[.int .i64 s, .int .i64 t] W fun e w' => e = .returned (.int .i64 (cmpI s t)) ∧ w' = W) := fun W => cmp64_any _ _ W
  generalize cmpI (f : Int) (g : Int) = m1 at R C1 ⊢
  generalize cmpI s t = m2 at R C2 ⊢
  have C3 : Aside (∀ W : World, Calls Try.prog 54 #[.slice (some ⟨W.heap.size, 0, none⟩) 2 2] (W.alloc (.cells #[.int .i64 m1, .int .i64 m2] 3)) fun e w' => e = .returned (.int .i64 (if m1 = 0 then m2 else m1)) ∧ w' = W.alloc (.cells #[.int .i64 m1, .int .i64 m2] 3)) := fun W => by
    have hn := heap_alloc_new W (.cells #[.int .i64 m1, .int .i64 m2] 3)
    exact or_any m1 m2 W.heap.size _ (cell_of_row _ _ 0 _ 3 _ hn) (cell_of_row _ _ 1 _ 3 _ hn)
  generalize (if m1 = 0 then m2 else m1) = m at R C3
  have D : Aside (Q (.returned (.int .i64 m)) (V.drew.alloc (.cells #[.int .i64 m1, .int .i64 m2] 3))) := R.out _ (hB.out.drew.alloc hB.out.drew.size _)
  clear R
  go_region_held3 (fun w' => w'.cell? ⟨w.heap.size, 0, none⟩ = some (.int .u8 (f : Int)) ∧ w'.cell? ⟨w.heap.size, 1, none⟩ = some (.int .i64 s) ∧ w'.cell? ⟨w.heap.size + 1, 0, none⟩ = some (.int .u8 (g : Int)) ∧ w'.cell? ⟨w.heap.size + 1, 1, none⟩ = some (.int .i64 t))
    (first | go_keep)
    (first
      | (go_at_call 55; refine (C1.out V.drew).mono ?_; rintro e w' ⟨rfl, hw⟩; replace hw := hw.symm; subst hw)
      | (go_at_call 56; refine (C2.out V.drew).mono ?_; rintro e w' ⟨rfl, hw⟩; replace hw := hw.symm; subst hw)
      | (go_at_call 54; refine (C3.out V.drew).mono ?_; rintro e w' ⟨rfl, hw⟩; replace hw := hw.symm; subst hw)
      | fail)
  all_goals
    go_wp2
    exact D.out
end Go.Proofs.Ytmhjmeedoajkjaa
