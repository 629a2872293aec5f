/- Ballots in memory; where a body stands, who voted, how many: a contract a function. -/
import Derived.Test.YtmhjmeedoajkjaaVtA
import Derived.Test.YtmhjmeedoajkjaaLays
import Derived.Test.YtmhjmeedoajkjaaRwA
namespace Go.Proofs.Ytmhjmeedoajkjaa
open Go.RowKit Go.Shelf

namespace Vt
/-- The cells of a ballot, and of ballots. -/
def enc (b : ByteArray × Nat) : List Value := [.string b.1, .int .u16 (b.2 : Int)]
def balC : Bal → List Value
  | [] => []
  | b :: l => .string b.1 :: .int .u16 (b.2 : Int) :: balC l
theorem balC_len (l : Bal) : (balC l).length = l.length * 2 := by
  induction l with
  | nil => rfl
  | cons b l ih => simp only [balC, List.length_cons, ih]; omega
theorem balC_get {l : Bal} : ∀ {j : Nat} {x : ByteArray} {s : Nat}, l[j]? = some (x, s) → (balC l)[j * 2]? = some (.string x) ∧ (balC l)[j * 2 + 1]? = some (.int .u16 (s : Int)) := by
  induction l with
  | nil => intro j x s h; simp at h
  | cons b l ih =>
    intro j x s h
    cases j with
    | zero => simp at h; subst h; exact ⟨rfl, rfl⟩
    | succ j =>
      have h' : l[j]? = some (x, s) := by simpa using h
      have := ih h'
      rw [show (j + 1) * 2 = j * 2 + 2 by omega]
      exact this
theorem balC_append (l m : Bal) : balC (l ++ m) = balC l ++ balC m := by
  induction l with
  | nil => rfl
  | cons b l ih => simp only [List.cons_append, balC, ih]
theorem balC_one (l : Bal) : ∀ u ∈ balC l, u.oneCell' = true := by
  induction l with
  | nil => intro u hu; cases hu
  | cons b l ih =>
    intro u hu
    rcases List.mem_cons.1 hu with rfl | hu
    · rfl
    · rcases List.mem_cons.1 hu with rfl | hu
      · rfl
      · exact ih u hu
theorem balC_set {l : Bal} : ∀ {k : Nat} {x : ByteArray} {s t : Nat}, l[k]? = some (x, s) → balC (l.set k (x, t)) = (balC l).set (k * 2 + 1) (.int .u16 (t : Int)) := by
  induction l with
  | nil => intro k x s t h; simp at h
  | cons b l ih =>
    intro k x s t h
    cases k with
    | zero => simp at h; subst h; rfl
    | succ k =>
      have h' : l[k]? = some (x, s) := by simpa using h
      have := ih (t := t) h'
      rw [show (k + 1) * 2 + 1 = k * 2 + 1 + 1 + 1 by omega]
      simp only [List.set_cons_succ, balC, this]

/-- Ballots lie behind an address. -/
def At (w : World) (a : Option Addr) (l : Bal) : Prop :=
  l = [] ∨ ∃ b off, a = some ⟨b, off, Option.none⟩ ∧ ∀ j u, (balC l)[j]? = some u → w.cell? ⟨b, off + j, Option.none⟩ = some u
theorem At.later {w w' : World} {a : Option Addr} {l : Bal} (h : At w a l) (hb : Below w.heap.size w w') : At w' a l := by
  rcases h with rfl | ⟨b, off, rfl, hc⟩
  · exact .inl rfl
  · exact .inr ⟨b, off, rfl, fun j u hu => cell_later hb (hc j u hu)⟩
theorem At.cells {w : World} {b off : Nat} {l : Bal} (hc : ∀ j u, (balC l)[j]? = some u → w.cell? ⟨b, off + j, Option.none⟩ = some u) :
    ∀ j, j < l.length → ∀ i v, (enc l[j]!)[i]? = some v → w.cell? ⟨b, off + j * 2 + i, Option.none⟩ = some v := by
  intro j hj i v hi
  have h0 : l[j]? = some (l[j]!.1, l[j]!.2) := by rw [List.getElem?_eq_getElem hj, getElem!_pos l j hj]
  obtain ⟨h1, h2⟩ := balC_get h0
  generalize l[j]! = y at hi h1 h2
  match i, hi with
  | 0, hi => simp [enc] at hi; subst hi; rw [Nat.add_zero]; exact hc _ _ h1
  | 1, hi => simp [enc] at hi; subst hi; rw [Nat.add_assoc]; exact hc _ _ h2
  | i + 2, hi => simp [enc] at hi
theorem own_at {w : World} {B n : Nat} {v : Value} {l : Bal} {t : TypeId} (h : w.ownsRow B t 2 v n (balC l)) : ∃ a cap, v = .slice a n cap ∧ l.length = n ∧ At w a l := by
  have hl : l.length = n := by have := h.1; rw [balC_len] at this; omega
  rcases h.2 with ⟨rfl, h0⟩ | ⟨g, cap, cur, rfl, _, _, hc, _, _, _⟩
  · subst h0
    exact ⟨Option.none, 0, rfl, hl, .inl (List.eq_nil_of_length_eq_zero hl)⟩
  · refine ⟨_, cap, rfl, hl, .inr ⟨g, 0, rfl, fun j u hu => ?_⟩⟩
    have hj := (List.getElem?_eq_some_iff.1 hu).1
    rw [balC_len] at hj
    rw [Nat.zero_add, h.cellAt j (by omega)]
    exact hu
theorem At.block {w : World} {b off : Nat} {c : Bal} {d : ByteArray × Nat} (hc : ∀ j u, (balC (d :: c))[j]? = some u → w.cell? ⟨b, off + j, Option.none⟩ = some u) : b < w.heap.size :=
  World.block_lt_of_cell? w ⟨b, off + 0, Option.none⟩ (hc 0 (.string d.1) rfl)
end Vt

theorem eq_arr (x y : ByteArray) : (x.toList == y.toList) = decide (x = y) := by
  rw [ByteArray.toList_eq, ByteArray.toList_eq]
  by_cases h : x = y
  · subst h; simp
  · have : ¬ x.data.toList = y.data.toList := by
      intro e
      apply h
      cases x; cases y
      simp only [ByteArray.mk.injEq]
      exact Array.toList_inj.1 e
    rw [decide_eq_false h]; simpa using this

/-- The closures: does a ballot name the body; did a member vote in it. -/
theorem pred67 (x : ByteArray) (B : Nat) (w : World) (hB : B < w.heap.size) (hcell : w.cell? ⟨B, 0, none⟩ = some (.string x)) :
    PredBelow Try.prog 72 #[.pointer (some ⟨B, 0, none⟩)] (fun b => .agg (Vt.enc b).toArray) (fun b => decide (b.1 = x)) w := fun W b hb => by
  have hc : W.cell? ⟨B, 0, none⟩ = some (.string x) := (hb.cell (p := ⟨B, 0, none⟩) hB).trans hcell
  have hBW : B < W.heap.size := Nat.lt_of_lt_of_le hB hb.size
  have hne : B ≠ W.heap.size := by omega
  have he := eq_arr b.1 x
  show Calls Try.prog 72 #[.agg #[.string b.1, .int .u16 (b.2 : Int)], .pointer (some ⟨B, 0, none⟩)] W fun e w' => e = .returned (.bool (decide (b.1 = x))) ∧ Below w.heap.size w w'
  generalize decide (b.1 = x) = r at he ⊢
  go_enter Try.func72, Try.ntmps72
  go_wp2
  go_ret
  exact ⟨rfl, hb.alloc hb.size _⟩
def Vt.encM (b : ByteArray × Nat) : List Value := [.string b.1, .int .u16 ((b.2 % 65536 : Nat) : Int)]
theorem pred69 (id : Nat) (B : Nat) (w : World) (hB : B < w.heap.size) (hcell : w.cell? ⟨B, 0, none⟩ = some (.int .u8 (id : Int))) :
    PredBelow Try.prog 60 #[.pointer (some ⟨B, 0, none⟩)] (fun b => .agg (Vt.encM b).toArray) (fun b => Cn.hasS (b.2 % 65536) id) w := fun W b hb => by
  have hc : W.cell? ⟨B, 0, none⟩ = some (.int .u8 (id : Int)) := (hb.cell (p := ⟨B, 0, none⟩) hB).trans hcell
  have hBW : B < W.heap.size := Nat.lt_of_lt_of_le hB hb.size
  have hne : B ≠ W.heap.size := by omega
  have hH : Aside (∀ V, Calls Try.prog 30 #[.int .u16 ((b.2 % 65536 : Nat) : Int), .int .u8 (id : Nat)] V fun e w' => e = .returned (.bool (Cn.hasS (b.2 % 65536) id)) ∧ w' = V) := fun V => has_any (b.2 % 65536) id V (Nat.mod_lt _ (by decide))
  show Calls Try.prog 60 #[.agg #[.string b.1, .int .u16 ((b.2 % 65536 : Nat) : Int)], .pointer (some ⟨B, 0, none⟩)] W fun e w' => e = .returned (.bool (Cn.hasS (b.2 % 65536) id)) ∧ Below w.heap.size w w'
  generalize Cn.hasS (b.2 % 65536) id = r at hH ⊢
  generalize b.2 % 65536 = m at hH ⊢
  go_enter Try.func60, Try.ntmps60
  go_wp2_with fail
  refine (hH.out _).mono ?_; rintro e w' ⟨rfl, hw⟩
  replace hw := hw.symm; subst hw
  go_wp2
  go_ret
  exact ⟨rfl, hb.alloc hb.size _⟩

/-- Over no ballots, whatever their address. -/
theorem index_empty (a : Option Addr) (c : Nat) (f : Value) (w : World) : Calls Try.prog 71 #[.slice a 0 c, f] w fun e w' => e = .returned (.int .i64 (-1)) ∧ w' = w := by
  go_enter Try.func71, Try.ntmps71
  go_wp2
  go_loopw [8] (fun i wr => i = .int .i64 0 ∧ wr = w) (fun _ _ => 0)
  case atStart => exact ⟨rfl, rfl⟩
  case round =>
    obtain ⟨rfl, rfl⟩ := hrel
    go_wp2
    go_ret
    exact ⟨rfl, rfl⟩
theorem contains_empty (a : Option Addr) (c : Nat) (f : Value) (w : World) : Calls Try.prog 59 #[.slice a 0 c, f] w fun e w' => e = .returned (.bool false) ∧ w' = w := by
  have h := index_empty a c f w
  go_enter Try.func59, Try.ntmps59
  go_wp2_with fail
  refine h.mono ?_; rintro e w' ⟨rfl, hw⟩
  replace hw := hw.symm; subst hw
  go_wp2
  go_ret
  exact ⟨rfl, rfl⟩
end Go.Proofs.Ytmhjmeedoajkjaa
