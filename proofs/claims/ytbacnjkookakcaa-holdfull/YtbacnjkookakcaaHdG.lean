/- Holds in memory; may there be such a hold? (Right) -/
import Derived.Deep.RegionWith
import Derived.Test.YtbacnjkookakcaaHdF
set_option linter.unusedVariables false
namespace Go.Proofs.Ytbacnjkookakcaa
open Go.RowKit
namespace Hd
open Ps

/-- The cells of a hold. -/
def holdA (f : Nat → Nat) (s : Value) : Array Value := #[.int .u16 ((f 0 : Nat) : Int), .int .u16 ((f 1 : Nat) : Int), .int .u16 ((f 2 : Nat) : Int), .int .u16 ((f 3 : Nat) : Int), .int .u16 ((f 4 : Nat) : Int), .int .u16 ((f 5 : Nat) : Int), .int .u16 ((f 6 : Nat) : Int), .int .u16 ((f 7 : Nat) : Int), .int .u16 ((f 8 : Nat) : Int), .int .u16 ((f 9 : Nat) : Int), .int .u16 ((f 10 : Nat) : Int), .int .u16 ((f 11 : Nat) : Int), .int .u16 ((f 12 : Nat) : Int), .int .u16 ((f 13 : Nat) : Int), .int .u16 ((f 14 : Nat) : Int), .int .u16 ((f 15 : Nat) : Int), s]
theorem holdA_vec (f : Nat → Nat) (s : Value) {i : Nat} (hi : i < 16) : (holdA f s)[i]? = (vecA f)[i]? := by
  have : i = 0 ∨ i = 1 ∨ i = 2 ∨ i = 3 ∨ i = 4 ∨ i = 5 ∨ i = 6 ∨ i = 7 ∨ i = 8 ∨ i = 9 ∨ i = 10 ∨ i = 11 ∨ i = 12 ∨ i = 13 ∨ i = 14 ∨ i = 15 := by omega
  rcases this with rfl | rfl | rfl | rfl | rfl | rfl | rfl | rfl | rfl | rfl | rfl | rfl | rfl | rfl | rfl | rfl <;> rfl
theorem holdA_upd (f : Nat → Nat) (s : Value) {k : Nat} (n : Nat) (hk : k < 16) : (holdA f s).setIfInBounds k (.int .u16 (n : Int)) = holdA (upd f k n) s := by
  have : k = 0 ∨ k = 1 ∨ k = 2 ∨ k = 3 ∨ k = 4 ∨ k = 5 ∨ k = 6 ∨ k = 7 ∨ k = 8 ∨ k = 9 ∨ k = 10 ∨ k = 11 ∨ k = 12 ∨ k = 13 ∨ k = 14 ∨ k = 15 := by omega
  rcases this with rfl | rfl | rfl | rfl | rfl | rfl | rfl | rfl | rfl | rfl | rfl | rfl | rfl | rfl | rfl | rfl <;> rfl
theorem holdA_one (f : Nat → Nat) (a : Option Addr) (n c : Nat) : ∀ v ∈ (holdA f (.slice a n c)).toList, v.oneCell' = true := by
  intro v hv
  simp only [holdA, List.mem_cons, List.not_mem_nil, or_false] at hv
  rcases hv with rfl | rfl | rfl | rfl | rfl | rfl | rfl | rfl | rfl | rfl | rfl | rfl | rfl | rfl | rfl | rfl | rfl <;> rfl
/-- A hold in memory. -/
def H17 (w : World) (b : Nat) (t : TypeId) (f : Nat → Nat) (s : Value) : Prop := w.heap[b]? = some (.cells (holdA f s) t (0, 0))
theorem H17.lt {w : World} {b : Nat} {t : TypeId} {f : Nat → Nat} {s : Value} (h : H17 w b t f s) : b < w.heap.size := (Array.getElem?_eq_some_iff.1 h).1
theorem H17.later {w w' : World} {b : Nat} {t : TypeId} {f : Nat → Nat} {s : Value} (h : H17 w b t f s) (hb : Below w.heap.size w w') : H17 w' b t f s := (hb.block b h.lt).trans h
theorem H17.new (w : World) (t : TypeId) (f : Nat → Nat) (s : Value) : H17 (w.alloc (.cells (holdA f s) t)) w.heap.size t f s := heap_alloc_new w _
theorem H17.alloc {w : World} {b : Nat} {t : TypeId} {f : Nat → Nat} {s : Value} (h : H17 w b t f s) (o : Obj) : H17 (w.alloc o) b t f s := h.later ((Below.refl _ w).alloc (Nat.le_refl _) o)
theorem H17.far {w : World} {b b' j : Nat} {t : TypeId} {f : Nat → Nat} {s : Value} (h : H17 w b t f s) (hne : b ≠ b') (u : Value) : H17 (w.setCell ⟨b', j, none⟩ u) b t f s := (row_far hne u).trans h
theorem H17.frozen {w : World} {b : Nat} {t : TypeId} {f : Nat → Nat} {s : Value} (h : H17 w b t f s) (i : Nat) : w.frozen? ⟨b, i, none⟩ = false := frozen_of_row w b i _ t h
theorem H17.at_ {w : World} {b : Nat} {t : TypeId} {f : Nat → Nat} {s : Value} (h : H17 w b t f s) {i : Nat} (hi : i < 16) : w.cell? ⟨b, i, none⟩ = some (.int .u16 ((f i : Nat) : Int)) := by
  rw [cell_of_row w b i _ t _ h, holdA_vec f s hi, vecA_get f hi]
theorem H17.wait {w : World} {b : Nat} {t : TypeId} {f : Nat → Nat} {s : Value} (h : H17 w b t f s) : w.cell? ⟨b, 16, none⟩ = some s := cell_of_row w b 16 _ t _ h
theorem H17.setw {w : World} {b : Nat} {t : TypeId} {f : Nat → Nat} {s : Value} (h : H17 w b t f s) (s' : Value) : H17 (w.setCell ⟨b, 16, none⟩ s') b t f s' := row_set h s'
theorem H17.setv {w : World} {b k : Nat} {t : TypeId} {f : Nat → Nat} {s : Value} (h : H17 w b t f s) (n : Nat) (hk : k < 16) : H17 (w.setCell ⟨b, k, none⟩ (.int .u16 (n : Int))) b t (upd f k n) s := by
  have := row_set h (j := k) (.int .u16 (n : Int))
  rw [holdA_upd f s n hk] at this; exact this
theorem H17.whole {w : World} {b : Nat} {t : TypeId} {f g : Nat → Nat} {s s' : Value} (h : H17 w b t f s) : H17 (w.setCells b 0 (holdA g s').toList) b t g s' := row_whole h rfl
theorem load_hold {w : World} {b : Nat} {t : TypeId} {f : Nat → Nat} {s : Value} (h : H17 w b t f s) : Sem.run Try.prog (loadCellsFrom ⟨b, 0, none⟩ 0 17 #[]) w = .ok (holdA f s) w := by
  have := run_loadCellsFrom_list Try.prog w ⟨b, 0, none⟩ (holdA f s).toList 17 rfl (fun j v hj => by
    rw [Addr.add_lit, Nat.zero_add, cell_of_row w b j _ t _ h]; simpa using hj)
  simpa using this
theorem load_told {w : World} {b : Nat} {t : TypeId} {f : Nat → Nat} {s : Value} (h : H17 w b t f s) : Sem.run Try.prog (loadCellsFrom ⟨b, 0, none⟩ 0 16 #[]) w = .ok (vecA f) w := by
  have := run_loadCellsFrom_list Try.prog w ⟨b, 0, none⟩ (vecA f).toList 16 rfl (fun j v hj => by
    have hlt : j < 16 := by have := (List.getElem?_eq_some_iff.1 hj).1; exact this
    rw [Addr.add_lit, Nat.zero_add, h.at_ hlt]
    have e := vecA_get f hlt
    rw [← Array.getElem?_toList] at e
    exact e.symm.trans hj)
  simpa using this
/-- A load of a plain region as one step, guarded or not, its cells' run known. -/
theorem wpList_loadg {P : Program} {w : World} {ops : Array Oper} {rest : List Oper} {o : Oper} {a : Act} {Q : Exit → Act → World → Prop} (T k : Nat) (p : Operand) (ho : o.op = .load T p)
    (aE : (isAgg T).run P w = .ok true w) (zE : (Go.sizeOf T).run P w = .ok k w) (arr : Array Value) (ad : Addr) (hp : a.eval p = .pointer (some ad)) (hl : Sem.run P (loadCellsFrom ad 0 k #[]) w = .ok arr w) (hw : Region.wanted o (yielded ops a.tmps) = true)
    (h : wpList P ops Q rest (a.put o.dst (.agg arr)) w) : wpList P ops Q (o :: rest) a w := by
  unfold wpList
  rw [if_pos hw]
  left
  unfold Oper.wp
  rw [exec_load T k w aE zE arr ad hl a o p ho hp]
  exact h
theorem wpList_hold36 {w : World} {ops : Array Oper} {rest : List Oper} {o : Oper} {a : Act} {Q : Exit → Act → World → Prop} {b : Nat} {t : TypeId} {f : Nat → Nat} {s : Value} (h : H17 w b t f s) (hg : o.guard = none) (p : Operand) (ho : o.op = .load 36 p)
    (hp : a.eval p = .pointer (some ⟨b, 0, none⟩)) (hn : wpList Try.prog ops Q rest (a.put o.dst (.agg (holdA f s))) w) : wpList Try.prog ops Q (o :: rest) a w :=
  wpList_loadr hg 36 17 p ho (Try.isAgg36 _) (Try.sizeOf36 _) _ _ hp (load_hold h) hn
theorem wpList_hold_store {w : World} {ops : Array Oper} {rest : List Oper} {o : Oper} {a : Act} {Q : Exit → Act → World → Prop} {b : Nat} {f g : Nat → Nat} {s : Value} {p1 : Option Addr} {n1 c1 : Nat} (h : H17 w b 36 f s) (hg : o.guard = none) (p y : Operand) (ho : o.op = .store 36 p y)
    (hp : a.eval p = .pointer (some ⟨b, 0, none⟩)) (hx : a.eval y = .agg (holdA g (.slice p1 n1 c1))) (hn : wpList Try.prog ops Q rest (a.put o.dst undef) (w.setCells b 0 (holdA g (.slice p1 n1 c1)).toList)) : wpList Try.prog ops Q (o :: rest) a w := by
  refine wpList_store hg 36 17 p y ho (Try.sizeOf36 w) (holdA g (.slice p1 n1 c1)).toList rfl b 0 hp (by simpa using hx) (fun j hj => ?_) (fun j _ => h.frozen _) (holdA_one g p1 n1 c1) hn
  have hj : j < 17 := hj
  rw [Nat.zero_add, cell_of_row w b j _ 36 _ h, Array.getElem?_eq_getElem (show j < (holdA f s).size from hj)]; rfl
theorem H17.zero (w : World) : H17 (w.alloc (.cells #[.int .u16 0, .int .u16 0, .int .u16 0, .int .u16 0, .int .u16 0, .int .u16 0, .int .u16 0, .int .u16 0, .int .u16 0, .int .u16 0, .int .u16 0, .int .u16 0, .int .u16 0, .int .u16 0, .int .u16 0, .int .u16 0, .slice none 0 0] 36)) w.heap.size 36 (fun _ => 0) (.slice none 0 0) := H17.new w 36 (fun _ => 0) _

/-- One that waits may be, was not told, and is not ready. -/
def waits (f : Nat → Nat) (x : It) : Bool := mayI x && !oldI f x && !readyI f x
def rightH (f : Nat → Nat) (l : List It) : Bool := decide (mxV f 16 ≤ 1000) && decide (l.length ≤ 64) && l.all (waits f) && decide (wtN l l.length = l.length)

set_option maxHeartbeats 8000000 in
set_option maxRecDepth 100000 in
/-- What Right gives. -/
theorem right17_any (f : Nat → Nat) (a : Option Addr) (c : Nat) (l : List It) (w : World) (ha : AtI w a l) (hf : ∀ x ∈ l, Fit x) (hv : ∀ i, i < 16 → f i < 65536) (hn : l.length ≤ 1000) :
    Calls Try.prog 17 #[.agg (holdA f (.slice a l.length c))] w fun e w' => e = .returned (.bool (rightH f l)) ∧ Below w.heap.size w w' := by
  have RR : Aside ((mxV f 16 ≤ 1000 → l.length ≤ 64 → (∀ x ∈ l, waits f x = true) → rightH f l = decide (wtN l l.length = l.length)) ∧ (¬ mxV f 16 ≤ 1000 → rightH f l = false) ∧ (¬ l.length ≤ 64 → rightH f l = false) ∧ (∀ x ∈ l, waits f x = false → rightH f l = false)) := by
    unfold rightH
    refine ⟨fun h1 h2 h3 => ?_, fun h => ?_, fun h => ?_, fun x hx h => ?_⟩
    · rw [decide_eq_true h1, decide_eq_true h2, List.all_eq_true.2 h3]; rfl
    · rw [decide_eq_false h]; rfl
    · rw [decide_eq_false h, Bool.and_false]; rfl
    · have : l.all (waits f) = false := by
        rw [Bool.eq_false_iff]; intro h2; have := List.all_eq_true.1 h2 x hx; rw [h] at this; cases this
      rw [this, Bool.and_false]; rfl
  generalize rightH f l = R at RR ⊢
  obtain ⟨V, hV⟩ : ∃ V, V = w.alloc (.cells (holdA f (.slice a l.length c)) 36) := ⟨_, rfl⟩
  have XV : Aside (H17 V w.heap.size 36 f (.slice a l.length c) ∧ Below w.heap.size w V) := by rw [hV]; exact ⟨H17.new _ _ _ _, (Below.refl _ w).alloc (Nat.le_refl _) _⟩
  have HI : Aside (AtI w a l ∧ (∀ x ∈ l, Fit x) ∧ ∀ i, i < 16 → f i < 65536) := ⟨ha, hf, hv⟩
  have MX := max_any f w.heap.size V fun i hi => XV.out.1.at_ hi
  obtain ⟨n, en⟩ : ∃ n, n = l.length := ⟨_, rfl⟩
  have HN : Aside (n = l.length) := en
  have c16 := XV.out.1.wait
  rw [← en] at RR XV hV hn c16 ⊢
  have CM : Aside (∀ x, x ∈ l → ∀ W, Calls Try.prog 27 #[.agg (itA x)] W fun e w' => e = .returned (.bool (mayI x)) ∧ Below W.heap.size W w') := fun x hx W => may27_any x W (hf x hx).2.2.2
  have CO : Aside (∀ x, x ∈ l → mayI x = true → ∀ W, Calls Try.prog 29 #[.agg (vecA f), .agg (itA x)] W fun e w' => e = .returned (.bool (oldI f x)) ∧ Below W.heap.size W w') := fun x hx hm W => old_any f x W (hv _ (may_frm hm)) (may_frm hm)
  have CR : Aside (∀ x, x ∈ l → ∀ W, Calls Try.prog 15 #[.agg (vecA f), .agg (itA x)] W fun e w' => e = .returned (.bool (readyI f x)) ∧ Below W.heap.size W w') := fun x hx W => ready15_any f x W hv (hf x hx).2.2.2
  have CW : Aside (∀ W, AtI W a l → Calls Try.prog 28 #[.slice a n c] W fun e w' => ∃ b, e = .returned (.map (some b)) ∧ MapH w' b (wtN l n) (wtK l n) ∧ Below W.heap.size W w' ∧ W.heap.size ≤ b) := fun W hW => by
    rw [HN.out]; exact waiting_any a c l W hW hf (by rw [← HN.out]; exact hn)
  clear ha hf hv en
  by_cases h1 : mxV f 16 ≤ 1000
  · by_cases h2 : n ≤ 64
    · have t1 : ¬ ((1000 : Int) < ((mxV f 16 : Nat) : Int)) := by omega
      have t2 : ¬ ((64 : Int) < (n : Int)) := by omega
      have R1 : Aside ((∀ x ∈ l, waits f x = true) → R = decide (wtN l n = n)) := fun h3 => RR.out.1 h1 h2 h3
      have R2 : Aside (∀ x ∈ l, waits f x = false → R = false) := RR.out.2.2.2
      generalize mxV f 16 = mx at MX t1
      have t1d : decide ((1000 : Int) < (mx : Int)) = false := decide_eq_false t1
      have t1n : ¬ (1000 < mx) := by omega
      have t2n : ¬ (64 < n) := by omega
      clear RR h1
      go_enter Try.func17, Try.ntmps17
      go_wp2_with fail
      rw [← hV]
      clear hV
      refine MX.mono ?_
      rintro e w' ⟨rfl, hw⟩
      replace hw := hw.symm; subst hw
      go_wp2_with fail
      go_loopw [18] (fun i wr => ∃ k : Nat, k ≤ n ∧ i = .int .i64 (k : Nat) ∧ Aside ((∀ x ∈ l.take k, waits f x = true) ∧ Below V.heap.size V wr)) (fun i _ => n - (intOf i).toNat)
      case atStart => exact ⟨0, by omega, rfl, (fun x hx => by simp at hx), Below.refl _ _⟩
      case round =>
        obtain ⟨k, hk, rfl, hM⟩ := hrel
        by_cases hlt : k < n
        · have t5 : (k : Int) < (n : Int) := by omega
          have t0 : (0 : Int) ≤ (k : Int) := by omega
          have hbw := step_below XV.out.2 hM.out.2
          obtain ⟨b9, off9, x, rfl, hx, hcs⟩ := (HI.out.1.later hbw).get (by rw [← HN.out]; exact hlt)
          have HX : Aside (x ∈ l ∧ l[k]? = some x) := ⟨List.mem_of_getElem? hx, hx⟩
          have HC : Aside (∀ i u, (itA x)[i]? = some u → wr.cell? ⟨b9, off9 + k * 20 + i, none⟩ = some u) := hcs
          have HC2 : Aside (∀ i u, (itA x)[i]? = some u → (wr.alloc (.cells #[.int .u8 0, .int .i64 0, .int .i64 0, .int .u16 0, .int .u16 0, .int .u16 0, .int .u16 0, .int .u16 0, .int .u16 0, .int .u16 0, .int .u16 0, .int .u16 0, .int .u16 0, .int .u16 0, .int .u16 0, .int .u16 0, .int .u16 0, .int .u16 0, .int .u16 0, .string ⟨#[]⟩] 43)).cell? ⟨b9, off9 + k * 20 + i, none⟩ = some u) := fun i u hu => cell_later ((Below.refl _ wr).alloc (Nat.le_refl _) _) (hcs i u hu)
          have ZB : Aside (I20 (wr.alloc (.cells #[.int .u8 0, .int .i64 0, .int .i64 0, .int .u16 0, .int .u16 0, .int .u16 0, .int .u16 0, .int .u16 0, .int .u16 0, .int .u16 0, .int .u16 0, .int .u16 0, .int .u16 0, .int .u16 0, .int .u16 0, .int .u16 0, .int .u16 0, .int .u16 0, .int .u16 0, .string ⟨#[]⟩] 43)) wr.heap.size 43 ⟨0, 0, ⟨0, fun _ => 0, ⟨#[]⟩⟩⟩) := I20.zeroT wr 43
          obtain ⟨W2, hW2⟩ : ∃ W2, W2 = (wr.alloc (.cells #[.int .u8 0, .int .i64 0, .int .i64 0, .int .u16 0, .int .u16 0, .int .u16 0, .int .u16 0, .int .u16 0, .int .u16 0, .int .u16 0, .int .u16 0, .int .u16 0, .int .u16 0, .int .u16 0, .int .u16 0, .int .u16 0, .int .u16 0, .int .u16 0, .int .u16 0, .string ⟨#[]⟩] 43)).setCells wr.heap.size 0 (itA x).toList := ⟨_, rfl⟩
          have S2 : Aside (I20 W2 wr.heap.size 43 x ∧ H17 W2 w.heap.size 36 f (.slice (some ⟨b9, off9, none⟩) n c) ∧ Below w.heap.size w W2 ∧ Below V.heap.size V W2) := by
            have hb : Below wr.heap.size wr W2 := by rw [hW2]; exact below_cells _ _ ((Below.refl _ wr).alloc (Nat.le_refl _) _) (Nat.le_refl _)
            exact ⟨by rw [hW2]; exact ZB.out.whole x, (XV.out.1.later hM.out.2).later hb, step_below hbw hb, step_below hM.out.2 hb⟩
          have LL : Aside ((waits f x = true → ∀ y ∈ l.take (k + 1), waits f y = true) ∧ (waits f x = false → R = false)) := by
            refine ⟨fun h y hy => ?_, fun h => R2.out x HX.out.1 h⟩
            rw [List.take_succ_eq_append_getElem (by rw [← HN.out]; exact hlt)] at hy
            rcases List.mem_append.1 hy with hy | hy
            · exact hM.out.1 y hy
            · have e : l[k]'(by rw [← HN.out]; exact hlt) = x := by have := HX.out.2; rw [List.getElem?_eq_getElem (by rw [← HN.out]; exact hlt)] at this; exact Option.some.inj this
              simp only [List.mem_singleton] at hy
              rw [hy, e]; exact h
          have CMx : Aside (∀ W, Calls Try.prog 27 #[.agg (itA x)] W fun e w' => e = .returned (.bool (mayI x)) ∧ Below W.heap.size W w') := CM.out x HX.out.1
          have COx : Aside (mayI x = true → ∀ W, Calls Try.prog 29 #[.agg (vecA f), .agg (itA x)] W fun e w' => e = .returned (.bool (oldI f x)) ∧ Below W.heap.size W w') := CO.out x HX.out.1
          have CRx : Aside (∀ W, Calls Try.prog 15 #[.agg (vecA f), .agg (itA x)] W fun e w' => e = .returned (.bool (readyI f x)) ∧ Below W.heap.size W w') := CR.out x HX.out.1
          have LE : Aside (waits f x = (mayI x && !oldI f x && !readyI f x)) := rfl
          have BW : Aside (∀ W, Below w.heap.size w W → Below V.heap.size V W → True) := fun _ _ _ => trivial
          clear hM hx hcs hbw
          generalize waits f x = wx at LL LE
          cases hm : mayI x with
          | false =>
            rw [hm] at CMx LE
            have hwx : wx = false := LE.out
            have hR := LL.out.2 hwx
            subst hR
            clear hm LE COx CRx LL
            go_wp2_with (first
              | (with_reducible refine wpList_row43 HC.out rfl _ rfl rfl ?_)
              | (with_reducible refine wpList_row43 HC2.out rfl _ rfl rfl ?_)
              | ((with_reducible refine wpList_it_store ZB.out rfl _ _ rfl rfl rfl ?_); rw [← hW2]; clear hW2 ZB HC HC2)
              | (with_reducible refine wpList_it43 S2.out.1 rfl _ rfl rfl ?_)
              | (go_at_call 15; refine (CRx.out _).mono ?_; rintro e w6 ⟨rfl, hb6⟩; have X6 : Aside (Below w.heap.size w w6 ∧ Below V.heap.size V w6) := ⟨step_below X5.out.2.2.1 hb6, step_below X5.out.2.2.2 hb6⟩; clear hb6)
              | (go_at_call 29; refine (COx.out _).mono ?_; rintro e w5 ⟨rfl, hb5⟩; have X5 : Aside (H17 w5 w.heap.size 36 f (.slice (some ⟨b9, off9, none⟩) n c) ∧ I20 w5 wr.heap.size 43 x ∧ Below w.heap.size w w5 ∧ Below V.heap.size V w5) := ⟨X4.out.1.later hb5, X4.out.2.1.later hb5, step_below X4.out.2.2.1 hb5, step_below X4.out.2.2.2 hb5⟩; clear hb5)
              | (go_at_call 27; refine (CMx.out _).mono ?_; rintro e w4 ⟨rfl, hb4⟩; have X4 : Aside (H17 w4 w.heap.size 36 f (.slice (some ⟨b9, off9, none⟩) n c) ∧ I20 w4 wr.heap.size 43 x ∧ Below w.heap.size w w4 ∧ Below V.heap.size V w4) := ⟨S2.out.2.1.later hb4, S2.out.1.later hb4, step_below S2.out.2.2.1 hb4, step_below S2.out.2.2.2 hb4⟩; clear hb4)
              | (with_reducible refine wpList_loadg 24 16 _ rfl (Try.isAgg24 _) (Try.sizeOf24 _) _ _ rfl (load_told X5.out.1) (by go_simp) ?_)
              | (with_reducible refine wpList_loadg 43 20 _ rfl (Try.isAgg43 _) (Try.sizeOf43 _) _ _ rfl (load_it X5.out.2.1) (by go_simp) ?_)
              | (with_reducible refine wpList_loadg 24 16 _ rfl (Try.isAgg24 _) (Try.sizeOf24 _) _ _ rfl (load_told X4.out.1) (by go_simp) ?_)
              | (with_reducible refine wpList_loadg 43 20 _ rfl (Try.isAgg43 _) (Try.sizeOf43 _) _ _ rfl (load_it X4.out.2.1) (by go_simp) ?_))
            go_ret
            exact ⟨rfl, X4.out.2.2.1⟩
          | true =>
            have COy := COx.out hm
            rw [hm] at CMx LE
            have COx : Aside (∀ W, Calls Try.prog 29 #[.agg (vecA f), .agg (itA x)] W fun e w' => e = .returned (.bool (oldI f x)) ∧ Below W.heap.size W w') := COy
            clear COy hm
            cases ho : oldI f x with
            | true =>
              rw [ho] at COx LE
              have hwx : wx = false := LE.out
              have hR := LL.out.2 hwx
              subst hR
              clear ho LE CRx LL
              go_wp2_with (first
                | (with_reducible refine wpList_row43 HC.out rfl _ rfl rfl ?_)
                | (with_reducible refine wpList_row43 HC2.out rfl _ rfl rfl ?_)
                | ((with_reducible refine wpList_it_store ZB.out rfl _ _ rfl rfl rfl ?_); rw [← hW2]; clear hW2 ZB HC HC2)
                | (with_reducible refine wpList_it43 S2.out.1 rfl _ rfl rfl ?_)
                | (go_at_call 15; refine (CRx.out _).mono ?_; rintro e w6 ⟨rfl, hb6⟩; have X6 : Aside (Below w.heap.size w w6 ∧ Below V.heap.size V w6) := ⟨step_below X5.out.2.2.1 hb6, step_below X5.out.2.2.2 hb6⟩; clear hb6)
                | (go_at_call 29; refine (COx.out _).mono ?_; rintro e w5 ⟨rfl, hb5⟩; have X5 : Aside (H17 w5 w.heap.size 36 f (.slice (some ⟨b9, off9, none⟩) n c) ∧ I20 w5 wr.heap.size 43 x ∧ Below w.heap.size w w5 ∧ Below V.heap.size V w5) := ⟨X4.out.1.later hb5, X4.out.2.1.later hb5, step_below X4.out.2.2.1 hb5, step_below X4.out.2.2.2 hb5⟩; clear hb5)
                | (go_at_call 27; refine (CMx.out _).mono ?_; rintro e w4 ⟨rfl, hb4⟩; have X4 : Aside (H17 w4 w.heap.size 36 f (.slice (some ⟨b9, off9, none⟩) n c) ∧ I20 w4 wr.heap.size 43 x ∧ Below w.heap.size w w4 ∧ Below V.heap.size V w4) := ⟨S2.out.2.1.later hb4, S2.out.1.later hb4, step_below S2.out.2.2.1 hb4, step_below S2.out.2.2.2 hb4⟩; clear hb4)
                | (with_reducible refine wpList_loadg 24 16 _ rfl (Try.isAgg24 _) (Try.sizeOf24 _) _ _ rfl (load_told X5.out.1) (by go_simp) ?_)
                | (with_reducible refine wpList_loadg 43 20 _ rfl (Try.isAgg43 _) (Try.sizeOf43 _) _ _ rfl (load_it X5.out.2.1) (by go_simp) ?_)
                | (with_reducible refine wpList_loadg 24 16 _ rfl (Try.isAgg24 _) (Try.sizeOf24 _) _ _ rfl (load_told X4.out.1) (by go_simp) ?_)
                | (with_reducible refine wpList_loadg 43 20 _ rfl (Try.isAgg43 _) (Try.sizeOf43 _) _ _ rfl (load_it X4.out.2.1) (by go_simp) ?_))
              go_ret
              exact ⟨rfl, X5.out.2.2.1⟩
            | false =>
              rw [ho] at COx LE
              clear ho
              cases hr : readyI f x with
              | true =>
                rw [hr] at CRx LE
                have hwx : wx = false := LE.out
                have hR := LL.out.2 hwx
                subst hR
                clear hr LE LL
                go_wp2_with (first
                  | (with_reducible refine wpList_row43 HC.out rfl _ rfl rfl ?_)
                  | (with_reducible refine wpList_row43 HC2.out rfl _ rfl rfl ?_)
                  | ((with_reducible refine wpList_it_store ZB.out rfl _ _ rfl rfl rfl ?_); rw [← hW2]; clear hW2 ZB HC HC2)
                  | (with_reducible refine wpList_it43 S2.out.1 rfl _ rfl rfl ?_)
                  | (go_at_call 15; refine (CRx.out _).mono ?_; rintro e w6 ⟨rfl, hb6⟩; have X6 : Aside (Below w.heap.size w w6 ∧ Below V.heap.size V w6) := ⟨step_below X5.out.2.2.1 hb6, step_below X5.out.2.2.2 hb6⟩; clear hb6)
                  | (go_at_call 29; refine (COx.out _).mono ?_; rintro e w5 ⟨rfl, hb5⟩; have X5 : Aside (H17 w5 w.heap.size 36 f (.slice (some ⟨b9, off9, none⟩) n c) ∧ I20 w5 wr.heap.size 43 x ∧ Below w.heap.size w w5 ∧ Below V.heap.size V w5) := ⟨X4.out.1.later hb5, X4.out.2.1.later hb5, step_below X4.out.2.2.1 hb5, step_below X4.out.2.2.2 hb5⟩; clear hb5)
                  | (go_at_call 27; refine (CMx.out _).mono ?_; rintro e w4 ⟨rfl, hb4⟩; have X4 : Aside (H17 w4 w.heap.size 36 f (.slice (some ⟨b9, off9, none⟩) n c) ∧ I20 w4 wr.heap.size 43 x ∧ Below w.heap.size w w4 ∧ Below V.heap.size V w4) := ⟨S2.out.2.1.later hb4, S2.out.1.later hb4, step_below S2.out.2.2.1 hb4, step_below S2.out.2.2.2 hb4⟩; clear hb4)
                  | (with_reducible refine wpList_loadg 24 16 _ rfl (Try.isAgg24 _) (Try.sizeOf24 _) _ _ rfl (load_told X5.out.1) (by go_simp) ?_)
                  | (with_reducible refine wpList_loadg 43 20 _ rfl (Try.isAgg43 _) (Try.sizeOf43 _) _ _ rfl (load_it X5.out.2.1) (by go_simp) ?_)
                  | (with_reducible refine wpList_loadg 24 16 _ rfl (Try.isAgg24 _) (Try.sizeOf24 _) _ _ rfl (load_told X4.out.1) (by go_simp) ?_)
                  | (with_reducible refine wpList_loadg 43 20 _ rfl (Try.isAgg43 _) (Try.sizeOf43 _) _ _ rfl (load_it X4.out.2.1) (by go_simp) ?_))
                go_ret
                exact ⟨rfl, X6.out.1⟩
              | false =>
                rw [hr] at CRx LE
                have hwx : wx = true := LE.out
                have hA : Aside (∀ y ∈ l.take (k + 1), waits f y = true) := LL.out.1 hwx
                clear hr LE LL hwx
                go_wp2_with (first
                  | (with_reducible refine wpList_row43 HC.out rfl _ rfl rfl ?_)
                  | (with_reducible refine wpList_row43 HC2.out rfl _ rfl rfl ?_)
                  | ((with_reducible refine wpList_it_store ZB.out rfl _ _ rfl rfl rfl ?_); rw [← hW2]; clear hW2 ZB HC HC2)
                  | (with_reducible refine wpList_it43 S2.out.1 rfl _ rfl rfl ?_)
                  | (go_at_call 15; refine (CRx.out _).mono ?_; rintro e w6 ⟨rfl, hb6⟩; have X6 : Aside (Below w.heap.size w w6 ∧ Below V.heap.size V w6) := ⟨step_below X5.out.2.2.1 hb6, step_below X5.out.2.2.2 hb6⟩; clear hb6)
                  | (go_at_call 29; refine (COx.out _).mono ?_; rintro e w5 ⟨rfl, hb5⟩; have X5 : Aside (H17 w5 w.heap.size 36 f (.slice (some ⟨b9, off9, none⟩) n c) ∧ I20 w5 wr.heap.size 43 x ∧ Below w.heap.size w w5 ∧ Below V.heap.size V w5) := ⟨X4.out.1.later hb5, X4.out.2.1.later hb5, step_below X4.out.2.2.1 hb5, step_below X4.out.2.2.2 hb5⟩; clear hb5)
                  | (go_at_call 27; refine (CMx.out _).mono ?_; rintro e w4 ⟨rfl, hb4⟩; have X4 : Aside (H17 w4 w.heap.size 36 f (.slice (some ⟨b9, off9, none⟩) n c) ∧ I20 w4 wr.heap.size 43 x ∧ Below w.heap.size w w4 ∧ Below V.heap.size V w4) := ⟨S2.out.2.1.later hb4, S2.out.1.later hb4, step_below S2.out.2.2.1 hb4, step_below S2.out.2.2.2 hb4⟩; clear hb4)
                  | (with_reducible refine wpList_loadg 24 16 _ rfl (Try.isAgg24 _) (Try.sizeOf24 _) _ _ rfl (load_told X5.out.1) (by go_simp) ?_)
                  | (with_reducible refine wpList_loadg 43 20 _ rfl (Try.isAgg43 _) (Try.sizeOf43 _) _ _ rfl (load_it X5.out.2.1) (by go_simp) ?_)
                  | (with_reducible refine wpList_loadg 24 16 _ rfl (Try.isAgg24 _) (Try.sizeOf24 _) _ _ rfl (load_told X4.out.1) (by go_simp) ?_)
                  | (with_reducible refine wpList_loadg 43 20 _ rfl (Try.isAgg43 _) (Try.sizeOf43 _) _ _ rfl (load_it X4.out.2.1) (by go_simp) ?_))
                go_roundw
                case rel => exact ⟨k + 1, by omega, by go_num, hA.out, X6.out.2⟩
                case measure => simp [intOf]; omega
        · obtain rfl : k = n := by omega
          have hall : ∀ x ∈ l, waits f x = true := by
            have h := hM.out.1
            rw [List.take_of_length_le (by rw [← HN.out]; exact Nat.le_refl _)] at h; exact h
          have hR := R1.out hall
          have CWr := CW.out
          have HW : Aside (H17 wr w.heap.size 36 f (.slice a k c) ∧ AtI wr a l ∧ Below w.heap.size w wr) := ⟨XV.out.1.later hM.out.2, HI.out.1.later (step_below XV.out.2 hM.out.2), step_below XV.out.2 hM.out.2⟩
          have hsz : Aside (w.heap.size < wr.heap.size) := HW.out.1.lt
          have e16 := HW.out.1.wait
          have pl : w.heap.size < wr.heap.size := HW.out.1.lt
          have HD : Aside (AtI wr.drew a l ∧ Below wr.heap.size wr wr.drew ∧ H17 wr.drew w.heap.size 36 f (.slice a k c)) := ⟨HW.out.2.1.later (Below.refl _ wr).drew, (Below.refl _ wr).drew, HW.out.1.later (Below.refl _ wr).drew⟩
          clear hM hall R1 R2 CM CO CR CWr
          subst hR
          go_wp2_with fail
          go_region_with (first
            | (go_at_call 28; refine (CW.out wr.drew HD.out.1).mono ?_; rintro e w4 ⟨mb, rfl, hm4, hb4, -⟩; have p16 := (HD.out.2.2.later hb4).wait; have ml := fun ty => hm4.len ty; have BB : Aside (Below w.heap.size w w4) := step_below (step_below HW.out.2.2 HD.out.2.1) hb4; clear hb4)
            | fail)
          all_goals
            have hbq : Aside (((((wtN l k : Nat) : Int)) == ((k : Nat) : Int)) = decide (wtN l k = k)) := by
              show ((((wtN l k : Nat) : Int)) == ((k : Nat) : Int)) = _
              by_cases e : wtN l k = k
              · rw [decide_eq_true e, e]; simp
              · rw [decide_eq_false e]; simp; omega
            clear hm4 ml p16
            go_wp2_with fail
            go_ret
            exact ⟨congrArg (fun z => Ending.returned (.bool z)) hbq.out, BB.out⟩
    · have t1 : ¬ ((1000 : Int) < ((mxV f 16 : Nat) : Int)) := by omega
      have t2 : (64 : Int) < (n : Int) := by omega
      have hR := RR.out.2.2.1 h2
      subst hR
      generalize mxV f 16 = mx at MX t1
      have t1d : decide ((1000 : Int) < (mx : Int)) = false := decide_eq_false t1
      have t2n : 64 < n := by omega
      have BB : Aside (Below w.heap.size w V) := XV.out.2
      clear RR h1 CM CO CR CW XV
      go_enter Try.func17, Try.ntmps17
      go_wp2_with fail
      rw [← hV]
      clear hV
      refine MX.mono ?_
      rintro e w' ⟨rfl, hw⟩
      replace hw := hw.symm; subst hw
      go_wp2_with fail
      go_ret
      exact ⟨rfl, BB.out⟩
  · have t1 : (1000 : Int) < ((mxV f 16 : Nat) : Int) := by omega
    have hR := RR.out.2.1 h1
    subst hR
    generalize mxV f 16 = mx at MX t1
    have t1d : decide ((1000 : Int) < (mx : Int)) = true := decide_eq_true t1
    have BB : Aside (Below w.heap.size w V) := XV.out.2
    clear RR h1 CM CO CR CW XV
    go_enter Try.func17, Try.ntmps17
    go_wp2_with fail
    rw [← hV]
    clear hV
    refine MX.mono ?_
    rintro e w' ⟨rfl, hw⟩
    replace hw := hw.symm; subst hw
    go_wp2_with fail
    go_ret
    exact ⟨rfl, BB.out⟩
end Hd
end Go.Proofs.Ytbacnjkookakcaa
