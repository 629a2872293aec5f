/- What Accept gives. -/
import Derived.Test.YtimeggbjmcnnoaaLnG
import Derived.Test.YtimeggbjmcnnoaaLnH
namespace Go.Proofs.Ytimeggbjmcnnoaa
open Go.RowKit

/-- A block of four cells, and one of five. -/
def E4 (w : World) (b : Nat) (t : TypeId) (v0 v1 v2 v3 : Value) : Prop := w.heap[b]? = some (.cells #[v0, v1, v2, v3] t (0, 0))
def L5 (w : World) (b : Nat) (t : TypeId) (v0 v1 v2 v3 v4 : Value) : Prop := w.heap[b]? = some (.cells #[v0, v1, v2, v3, v4] t (0, 0))
theorem E4.later {w w' : World} {b : Nat} {t : TypeId} {v0 v1 v2 v3 : Value} (h : E4 w b t v0 v1 v2 v3) (hb : Below w.heap.size w w') : E4 w' b t v0 v1 v2 v3 :=
  (hb.block b (Array.getElem?_eq_some_iff.1 h).1).trans h
theorem L5.later {w w' : World} {b : Nat} {t : TypeId} {v0 v1 v2 v3 v4 : Value} (h : L5 w b t v0 v1 v2 v3 v4) (hb : Below w.heap.size w w') : L5 w' b t v0 v1 v2 v3 v4 :=
  (hb.block b (Array.getElem?_eq_some_iff.1 h).1).trans h
theorem E4.alloc {w : World} {b : Nat} {t : TypeId} {v0 v1 v2 v3 : Value} (h : E4 w b t v0 v1 v2 v3) (o : Obj) : E4 (w.alloc o) b t v0 v1 v2 v3 := h.later ((Below.refl _ w).alloc (Nat.le_refl _) o)
theorem L5.alloc {w : World} {b : Nat} {t : TypeId} {v0 v1 v2 v3 v4 : Value} (h : L5 w b t v0 v1 v2 v3 v4) (o : Obj) : L5 (w.alloc o) b t v0 v1 v2 v3 v4 := h.later ((Below.refl _ w).alloc (Nat.le_refl _) o)
theorem E4.new (w : World) (t : TypeId) (v0 v1 v2 v3 : Value) : E4 (w.alloc (.cells #[v0, v1, v2, v3] t)) w.heap.size t v0 v1 v2 v3 := heap_alloc_new w _
theorem L5.new (w : World) (t : TypeId) (v0 v1 v2 v3 v4 : Value) : L5 (w.alloc (.cells #[v0, v1, v2, v3, v4] t)) w.heap.size t v0 v1 v2 v3 v4 := heap_alloc_new w _
theorem E4.cells {w : World} {b : Nat} {t : TypeId} {v0 v1 v2 v3 : Value} (h : E4 w b t v0 v1 v2 v3) :
    w.cell? ⟨b, 0, none⟩ = some v0 ∧ w.cell? ⟨b, 1, none⟩ = some v1 ∧ w.cell? ⟨b, 2, none⟩ = some v2 ∧ w.cell? ⟨b, 3, none⟩ = some v3 :=
  ⟨cell_of_row w b 0 _ t _ h, cell_of_row w b 1 _ t _ h, cell_of_row w b 2 _ t _ h, cell_of_row w b 3 _ t _ h⟩
theorem L5.cells {w : World} {b : Nat} {t : TypeId} {v0 v1 v2 v3 v4 : Value} (h : L5 w b t v0 v1 v2 v3 v4) :
    w.cell? ⟨b, 0, none⟩ = some v0 ∧ w.cell? ⟨b, 1, none⟩ = some v1 ∧ w.cell? ⟨b, 2, none⟩ = some v2 ∧ w.cell? ⟨b, 3, none⟩ = some v3 ∧ w.cell? ⟨b, 4, none⟩ = some v4 :=
  ⟨cell_of_row w b 0 _ t _ h, cell_of_row w b 1 _ t _ h, cell_of_row w b 2 _ t _ h, cell_of_row w b 3 _ t _ h, cell_of_row w b 4 _ t _ h⟩
theorem E4.frozen {w : World} {b : Nat} {t : TypeId} {v0 v1 v2 v3 : Value} (h : E4 w b t v0 v1 v2 v3) (i : Nat) : w.frozen? ⟨b, i, none⟩ = false := frozen_of_row w b i _ t h
theorem L5.frozen {w : World} {b : Nat} {t : TypeId} {v0 v1 v2 v3 v4 : Value} (h : L5 w b t v0 v1 v2 v3 v4) (i : Nat) : w.frozen? ⟨b, i, none⟩ = false := frozen_of_row w b i _ t h
theorem row_set {w : World} {b j : Nat} {cs : Array Value} {t : TypeId} (h : w.heap[b]? = some (.cells cs t (0, 0))) (v : Value) : (w.setCell ⟨b, j, none⟩ v).heap[b]? = some (.cells (cs.setIfInBounds j v) t (0, 0)) := by
  obtain ⟨hlt, hk⟩ := Array.getElem?_eq_some_iff.1 h
  show (w.heap.modify b _)[b]? = _
  rw [Array.getElem?_eq_getElem (by rw [Array.size_modify]; exact hlt), Array.getElem_modify_self, hk]
  rfl
theorem row_far {w : World} {b b' j : Nat} (h : b ≠ b') (v : Value) : (w.setCell ⟨b', j, none⟩ v).heap[b]? = w.heap[b]? := Below.heap_setCell _ _ _ b (by simpa using h)
theorem E4.set {w : World} {b : Nat} {t : TypeId} {v0 v1 v2 v3 : Value} (h : E4 w b t v0 v1 v2 v3) (u0 u1 u2 u3 : Value) :
    E4 ((((w.setCell ⟨b, 0, none⟩ u0).setCell ⟨b, 1, none⟩ u1).setCell ⟨b, 2, none⟩ u2).setCell ⟨b, 3, none⟩ u3) b t u0 u1 u2 u3 :=
  row_set (row_set (row_set (row_set h _) _) _) _
theorem below_set4 {B b : Nat} {w w' : World} (h : Below B w w') (hb : B ≤ b) (u0 u1 u2 u3 : Value) :
    Below B w ((((w'.setCell ⟨b, 0, none⟩ u0).setCell ⟨b, 1, none⟩ u1).setCell ⟨b, 2, none⟩ u2).setCell ⟨b, 3, none⟩ u3) :=
  (((h.setCell (p := ⟨b, 0, none⟩) hb _).setCell (p := ⟨b, 1, none⟩) hb _).setCell (p := ⟨b, 2, none⟩) hb _).setCell (p := ⟨b, 3, none⟩) hb _

namespace Tm
/-- What Accept tells, and the end's greatest number and word behind it. -/
def accE (key : List UInt8) (me f t s tp cm : Nat) (body g : List UInt8) : Nat :=
  if t ≠ me ∨ two f t = false ∨ s = 0 then 2 else if tagE key f t s body ≠ 0 then tagE key f t s body else if g ≠ tag key f t s body then 5 else if isNew tp cm s = false then 6 else 0
def aT (key : List UInt8) (me f t s tp cm : Nat) (body g : List UInt8) : Nat := if accE key me f t s tp cm body g = 0 then accT tp s else tp
def aC (key : List UInt8) (me f t s tp cm : Nat) (body g : List UInt8) : Nat := if accE key me f t s tp cm body g = 0 then accC tp cm s else cm
end Tm
def AccPost (key : List UInt8) (nx tp cm me f t s : Nat) (body g : List UInt8) (w : World) (e : Ending) (w' : World) : Prop :=
  e = .returned (.tuple #[.agg #[str key, .int .u32 (nx : Int), .int .u32 (Tm.aT key me f t s tp cm body g : Nat), .int .u64 (Tm.aC key me f t s tp cm body g : Nat)], .int .i64 (Tm.accE key me f t s tp cm body g : Nat)]) ∧ Below w.heap.size w w'
theorem accPost_err {key body g : List UInt8} {nx tp cm me f t s c : Nat} {w w' : World} (h : Tm.accE key me f t s tp cm body g = c) (hc : c ≠ 0) (hb : Below w.heap.size w w') :
    AccPost key nx tp cm me f t s body g w (.returned (.tuple #[.agg #[str key, .int .u32 (nx : Int), .int .u32 (tp : Int), .int .u64 (cm : Int)], .int .i64 (c : Nat)])) w' := by
  refine ⟨?_, hb⟩
  unfold Tm.aT Tm.aC
  rw [h, if_neg hc, if_neg hc]
theorem accPost_ok {key body g : List UInt8} {nx tp cm me f t s : Nat} {w w' : World} (h : Tm.accE key me f t s tp cm body g = 0) (hb : Below w.heap.size w w') :
    AccPost key nx tp cm me f t s body g w (.returned (.tuple #[.agg #[str key, .int .u32 (nx : Int), .int .u32 (Tm.accT tp s : Nat), .int .u64 (Tm.accC tp cm s : Nat)], .int .i64 0])) w' := by
  refine ⟨?_, hb⟩
  unfold Tm.aT Tm.aC
  rw [h, if_pos rfl, if_pos rfl]
  rfl
theorem eq_lists (x y : ByteArray) : (x.toList == y.toList) = decide (x.data.toList = y.data.toList) := by
  rw [ByteArray.toList_eq, ByteArray.toList_eq]
  by_cases h : x.data.toList = y.data.toList
  · rw [h]; simp
  · rw [decide_eq_false h]; simpa using h

set_option maxRecDepth 100000 in
set_option maxHeartbeats 8000000 in
theorem accept_any (key : List UInt8) (nx tp cm me f t s : Nat) (a : Option Addr) (n cap : Nat) (g : ByteArray) (body : List UInt8) (w : World)
    (htp : tp < 4294967296) (hcm : cm < 18446744073709551616) (hf : f < 256) (ht : t < 256) (hs : s < 4294967296) (hB : Byt w a n cap body) :
    Calls Try.prog 19 #[.agg #[str key, .int .u32 (nx : Int), .int .u32 (tp : Int), .int .u64 (cm : Int)], .int .u8 (me : Int), .agg #[.int .u8 (f : Int), .int .u8 (t : Int), .int .u32 (s : Int), .slice a n cap, .string g]] w (AccPost key nx tp cm me f t s body g.data.toList w) := by
  have GE : Aside (∀ c w', Tm.accE key me f t s tp cm body g.data.toList = c → c ≠ 0 → Below w.heap.size w w' → AccPost key nx tp cm me f t s body g.data.toList w (.returned (.tuple #[.agg #[str key, .int .u32 (nx : Int), .int .u32 (tp : Int), .int .u64 (cm : Int)], .int .i64 (c : Nat)])) w') := fun c w' h1 h2 h3 => accPost_err h1 h2 h3
  have GO : Aside (∀ w', Tm.accE key me f t s tp cm body g.data.toList = 0 → Below w.heap.size w w' → AccPost key nx tp cm me f t s body g.data.toList w (.returned (.tuple #[.agg #[str key, .int .u32 (nx : Int), .int .u32 (Tm.accT tp s : Nat), .int .u64 (Tm.accC tp cm s : Nat)], .int .i64 0])) w') := fun w' h1 h3 => accPost_ok h1 h3
  have B0 : Aside (∀ o o' o'', Below w.heap.size w (((w.alloc o).alloc o').alloc o'')) := fun o o' o'' => (((Below.refl _ w).alloc (Nat.le_refl _) o).alloc (by simp) o').alloc (by simp; omega) o''
  have AT : Aside (∀ W, Calls Try.prog 25 #[.int .u8 (f : Int), .int .u8 (t : Int)] W _) := fun W => areTwo_any f t W
  have TG : Aside (∀ o o' o'', Calls Try.prog 15 #[str key, .agg #[.int .u8 (f : Int), .int .u8 (t : Int), .int .u32 (s : Int), .slice a n cap, .string g]] (((w.alloc o).alloc o').alloc o'') (TagPost key f t s body (((w.alloc o).alloc o').alloc o''))) := fun o o' o'' => tag_any key f t s a n cap g body _ hf ht hs (hB.later (B0.out o o' o''))
  have IN : Aside (∀ W, _) := fun W => isNew_any ⟨key.toArray⟩ nx tp cm s W htp hcm hs
  have WC : Aside (Tm.isNew tp cm s = true → ∀ W, _) := fun h W => withCame_any ⟨key.toArray⟩ nx tp cm s W htp hcm hs h
  have EE : Aside (Tm.accE key me f t s tp cm body g.data.toList = if t ≠ me ∨ Tm.two f t = false ∨ s = 0 then 2 else if Tm.tagE key f t s body ≠ 0 then Tm.tagE key f t s body else if g.data.toList ≠ Tm.tag key f t s body then 5 else if Tm.isNew tp cm s = false then 6 else 0) := rfl
  generalize AccPost key nx tp cm me f t s body g.data.toList w = Q at *
  generalize Tm.accE key me f t s tp cm body g.data.toList = ae at *
  unfold TagPost at TG
  generalize Tm.tagE key f t s body = te at *
  obtain ⟨tg, htg⟩ : ∃ tg : ByteArray, tg.data.toList = Tm.tag key f t s body := ⟨⟨(Tm.tag key f t s body).toArray⟩, rfl⟩
  rw [← htg, str_of] at TG
  have TQ : Aside ((g.toList == tg.toList) = decide (g.data.toList = Tm.tag key f t s body)) := by show _ = _; rw [eq_lists, htg]
  generalize Tm.tag key f t s body = tl at *
  generalize Tm.isNew tp cm s = nw at *
  generalize Tm.two f t = tw at *
  generalize Tm.accT tp s = tp' at *
  generalize Tm.accC tp cm s = cm' at *
  unfold str at *
  generalize (⟨key.toArray⟩ : ByteArray) = k at *
  clear hB hf ht hs htp hcm htg
  by_cases h1 : t = me
  · have t1 : ((t : Int) != (me : Int)) = false := by simp [h1]
    cases tw
    · -- no two
      have Q1 : Aside (∀ w', Below w.heap.size w w' → _) := fun w' hb => GE.out 2 w' (by rw [EE.out, if_pos (.inr (.inl rfl))]) (by omega) hb
      clear GE GO EE TG IN WC TQ h1
      go_enter Try.func19, Try.ntmps19
      go_wp2_with fail
      refine (AT.out _).mono ?_
      rintro e w1 ⟨rfl, hw⟩
      replace hw := hw.symm; subst hw
      clear AT
      go_wp2
      refine ⟨rfl, _, ?_, Q1.out _ (B0.out _ _ _)⟩
      simp [results, Try.results19, go_sem]
    · by_cases h2 : s = 0
      · subst h2
        have Q1 : Aside (∀ w', Below w.heap.size w w' → _) := fun w' hb => GE.out 2 w' (by rw [EE.out, if_pos (.inr (.inr rfl))]) (by omega) hb
        clear GE GO EE TG IN WC TQ h1
        go_enter Try.func19, Try.ntmps19
        go_wp2_with fail
        refine (AT.out _).mono ?_
        rintro e w1 ⟨rfl, hw⟩
        replace hw := hw.symm; subst hw
        clear AT
        go_wp2
        refine ⟨rfl, _, ?_, Q1.out _ (B0.out _ _ _)⟩
        simp [results, Try.results19, go_sem]
      · have t2 : ((s : Int) == 0) = false := by
          have : ¬ (s : Int) = 0 := by omega
          simpa using this
        have EE2 : Aside (ae = if te ≠ 0 then te else if g.data.toList ≠ tl then 5 else if nw = false then 6 else 0) := by
          show _ = _
          rw [EE.out, if_neg]
          rintro (h | h | h)
          · exact h h1
          · cases h
          · exact h2 h
        clear EE h1 h2
        go_enter Try.func19, Try.ntmps19
        go_wp2_with fail
        refine (AT.out _).mono ?_
        rintro e w1 ⟨rfl, hw⟩
        replace hw := hw.symm; subst hw
        clear AT
        go_wp2_with fail
        refine (TG.out _ _ _).mono ?_
        rintro e w1 ⟨rfl, hb1⟩
        have B1 : Aside (Below w.heap.size w w1) := below_step (B0.out _ _ _) hb1
        have E1 := (((E4.new w 41 (.string k) (.int .u32 (nx : Int)) (.int .u32 (tp : Int)) (.int .u64 (cm : Int))).alloc (.cells #[.int .u8 (f : Int), .int .u8 (t : Int), .int .u32 (s : Int), .slice a n cap, .string g] 35)).alloc (.cells #[.string ⟨#[]⟩, .int .u32 0, .int .u32 0, .int .u64 0] 41)).later hb1
        have X1 := ((L5.new (w.alloc (.cells #[.string k, .int .u32 (nx : Int), .int .u32 (tp : Int), .int .u64 (cm : Int)] 41)) 35 (.int .u8 (f : Int)) (.int .u8 (t : Int)) (.int .u32 (s : Int)) (.slice a n cap) (.string g)).alloc (.cells #[.string ⟨#[]⟩, .int .u32 0, .int .u32 0, .int .u64 0] 41)).later hb1
        have R1 := (E4.new ((w.alloc (.cells #[.string k, .int .u32 (nx : Int), .int .u32 (tp : Int), .int .u64 (cm : Int)] 41)).alloc (.cells #[.int .u8 (f : Int), .int .u8 (t : Int), .int .u32 (s : Int), .slice a n cap, .string g] 35)) 41 (.string ⟨#[]⟩) (.int .u32 0) (.int .u32 0) (.int .u64 0)).later hb1
        simp only [World.size_alloc, Nat.add_assoc, Nat.reduceAdd] at X1 R1
        clear TG hb1 B0
        have EE1 : Aside (E4 w1 w.heap.size 41 _ _ _ _) := E1
        have RR1 : Aside (E4 w1 (w.heap.size + 2) 41 _ _ _ _) := R1
        have XX1 : Aside (L5 w1 (w.heap.size + 1) 35 _ _ _ _ _) := X1
        obtain ⟨e0, e1, e2, e3⟩ := E1.cells
        obtain ⟨x0, x1, x2, x3, x4⟩ := X1.cells
        obtain ⟨r0, r1, r2, r3⟩ := R1.cells
        have zz := R1.frozen
        clear E1 X1 R1
        by_cases h3 : te = 0
        · subst h3
          by_cases h4 : g.data.toList = tl
          · have t4 : (g.toList == tg.toList) = true := by rw [TQ.out]; exact decide_eq_true h4
            have t5 : (g.toList != tg.toList) = false := by unfold bne; rw [t4]; rfl
            have EE3 : Aside (ae = if nw = false then 6 else 0) := by show _ = _; rw [EE2.out, if_neg (by omega), if_neg (by simp [h4])]
            clear TQ h4 EE2
            cases nw
            · have Q1 : Aside (∀ w', Below w.heap.size w w' → _) := fun w' hb => GE.out 6 w' (by rw [EE3.out, if_pos rfl]) (by omega) hb
              clear GE GO EE3 WC
              go_wp2_with fail
              refine (IN.out _).mono ?_
              rintro e w2 ⟨rfl, hb2⟩
              have B2 : Aside (Below w.heap.size w w2) := below_step B1.out hb2
              obtain ⟨e0, e1, e2, e3⟩ := (EE1.out.later hb2).cells
              have R2 := RR1.out.later hb2
              obtain ⟨r0, r1, r2, r3⟩ := R2.cells
              have zz2 := R2.frozen
              have D2 : Aside (E4 _ _ _ _ _ _ _) := R2.set (.string k) (.int .u32 (nx : Int)) (.int .u32 (tp : Int)) (.int .u64 (cm : Int))
              have C2 : Aside (Below _ _ _) := below_set4 B2.out (b := w.heap.size + 2) (by omega) (.string k) (.int .u32 (nx : Int)) (.int .u32 (tp : Int)) (.int .u64 (cm : Int))
              clear IN hb2 R2 x0 x1 x2 x3 x4 EE1 RR1 XX1 B1
              go_wp2
              obtain ⟨d0, d1, d2, d3⟩ := D2.out.cells
              refine ⟨rfl, _, ?_, Q1.out _ C2.out⟩
              simp [results, Try.results19, go_sem, d0, d1, d2, d3]
            · have Q1 : Aside (∀ w', Below w.heap.size w w' → _) := fun w' hb => GO.out w' (by rw [EE3.out, if_neg (by simp)]) hb
              have WD : Aside (∀ W, _) := WC.out rfl
              clear GE GO EE3 WC
              go_wp2_with fail
              refine (IN.out _).mono ?_
              rintro e w2 ⟨rfl, hb2⟩
              have B2 : Aside (Below w.heap.size w w2) := below_step B1.out hb2
              have E2 := EE1.out.later hb2
              have X2 := XX1.out.later hb2
              have R2 := RR1.out.later hb2
              have EE2' : Aside (E4 w2 _ _ _ _ _ _) := E2
              have RR2 : Aside (E4 w2 _ _ _ _ _ _) := R2
              obtain ⟨e0, e1, e2, e3⟩ := E2.cells
              obtain ⟨x0, x1, x2, x3, x4⟩ := X2.cells
              clear IN hb2 E2 X2 R2 EE1 RR1 XX1 B1 r0 r1 r2 r3 zz
              go_wp2_with fail
              refine (WD.out _).mono ?_
              rintro e w3 ⟨rfl, hb3⟩
              have B3 : Aside (Below w.heap.size w w3) := below_step B2.out hb3
              have R3 := RR2.out.later hb3
              obtain ⟨r0, r1, r2, r3⟩ := R3.cells
              have zz3 := R3.frozen
              have D2 : Aside (E4 _ _ _ _ _ _ _) := R3.set (.string k) (.int .u32 (nx : Int)) (.int .u32 (tp' : Int)) (.int .u64 (cm' : Int))
              have C2 : Aside (Below _ _ _) := below_set4 B3.out (b := w.heap.size + 2) (by omega) (.string k) (.int .u32 (nx : Int)) (.int .u32 (tp' : Int)) (.int .u64 (cm' : Int))
              clear WD hb3 R3 EE2' RR2 B2 e0 e1 e2 e3 x0 x1 x2 x3 x4
              go_wp2
              obtain ⟨d0, d1, d2, d3⟩ := D2.out.cells
              refine ⟨rfl, _, ?_, Q1.out _ C2.out⟩
              simp [results, Try.results19, go_sem, d0, d1, d2, d3]
          · have t4 : (g.toList == tg.toList) = false := by rw [TQ.out]; exact decide_eq_false h4
            have t5 : (g.toList != tg.toList) = true := by unfold bne; rw [t4]; rfl
            have Q1 : Aside (∀ w', Below w.heap.size w w' → _) := fun w' hb => GE.out 5 w' (by rw [EE2.out, if_neg (by omega), if_pos h4]) (by omega) hb
            have D2 : Aside (E4 _ _ _ _ _ _ _) := RR1.out.set (.string k) (.int .u32 (nx : Int)) (.int .u32 (tp : Int)) (.int .u64 (cm : Int))
            have C2 : Aside (Below _ _ _) := below_set4 B1.out (b := w.heap.size + 2) (by omega) (.string k) (.int .u32 (nx : Int)) (.int .u32 (tp : Int)) (.int .u64 (cm : Int))
            clear GE GO EE2 WC IN TQ h4 EE1 RR1 XX1 B1
            go_wp2
            obtain ⟨d0, d1, d2, d3⟩ := D2.out.cells
            refine ⟨rfl, _, ?_, Q1.out _ C2.out⟩
            simp [results, Try.results19, go_sem, d0, d1, d2, d3]
        · have t3 : ((te : Int) != 0) = true := by
            have : ¬ (te : Int) = 0 := by omega
            simpa using this
          have Q1 : Aside (∀ w', Below w.heap.size w w' → _) := fun w' hb => GE.out te w' (by rw [EE2.out, if_pos h3]) h3 hb
          have D2 : Aside (E4 _ _ _ _ _ _ _) := RR1.out.set (.string k) (.int .u32 (nx : Int)) (.int .u32 (tp : Int)) (.int .u64 (cm : Int))
          have C2 : Aside (Below _ _ _) := below_set4 B1.out (b := w.heap.size + 2) (by omega) (.string k) (.int .u32 (nx : Int)) (.int .u32 (tp : Int)) (.int .u64 (cm : Int))
          clear GE GO EE2 WC IN TQ h3 EE1 RR1 XX1 B1
          go_wp2
          obtain ⟨d0, d1, d2, d3⟩ := D2.out.cells
          refine ⟨rfl, _, ?_, Q1.out _ C2.out⟩
          simp [results, Try.results19, go_sem, d0, d1, d2, d3]
  · have t1 : ((t : Int) != (me : Int)) = true := by
      have : ¬ (t : Int) = (me : Int) := by omega
      simpa using this
    have Q1 : Aside (∀ w', Below w.heap.size w w' → _) := fun w' hb => GE.out 2 w' (by rw [EE.out, if_pos (.inl h1)]) (by omega) hb
    clear GE GO EE TG IN WC TQ AT h1
    go_enter Try.func19, Try.ntmps19
    go_wp2
    refine ⟨rfl, _, ?_, Q1.out _ (B0.out _ _ _)⟩
    simp [results, Try.results19, go_sem]

end Go.Proofs.Ytimeggbjmcnnoaa
