/- A case that is kept in a box, vote by vote; answers that the document fixes. -/
import Derived.Test.YtmhjmeedoajkjaaVtJ
namespace Go.Proofs.Ytmhjmeedoajkjaa
open Go.RowKit Go.Shelf

namespace Vt
theorem take_small {c : Cs} (h : c.Small) (ms frm : Nat) (kind : Int) (id : Nat) (x : ByteArray) : (take c ms frm kind id x).c.Small := by
  have key : (taken c (Cn.sizeS ms) kind id x).1.Small := by
    unfold taken; split
    · exact h
    · split
      · exact ⟨small_with h.1 id x, h.2⟩
      · exact ⟨h.1, small_with h.2 id x⟩
  unfold take err
  split
  · exact h
  · split
    · exact h
    · split
      · exact h
      · split
        · exact h
        · dsimp only; split <;> exact key
theorem take_len (c : Cs) (ms frm : Nat) (kind : Int) (id : Nat) (x : ByteArray) : (take c ms frm kind id x).c.echoes.length ≤ c.echoes.length + 1 ∧ (take c ms frm kind id x).c.readies.length ≤ c.readies.length + 1 := by
  have key : (taken c (Cn.sizeS ms) kind id x).1.echoes.length ≤ c.echoes.length + 1 ∧ (taken c (Cn.sizeS ms) kind id x).1.readies.length ≤ c.readies.length + 1 := by
    unfold taken; split
    · exact ⟨Nat.le_succ _, Nat.le_succ _⟩
    · split
      · exact ⟨len_with c.echoes id x, Nat.le_succ _⟩
      · exact ⟨Nat.le_succ _, len_with c.readies id x⟩
  have z : c.echoes.length ≤ c.echoes.length + 1 ∧ c.readies.length ≤ c.readies.length + 1 := ⟨Nat.le_succ _, Nat.le_succ _⟩
  unfold take err
  split
  · exact z
  · split
    · exact z
    · split
      · exact z
      · split
        · exact z
        · dsimp only; split <;> exact key
end Vt

/-- A case in a box. -/
def CaseIn (w : World) (P : Nat) (c : Vt.Cs) (a1 a2 : Option Addr) (c1 c2 : Nat) : Prop :=
  C5 w P (.bool c.echoed) (.bool c.readied) (.bool c.done) (.slice a1 c.echoes.length c1) (.slice a2 c.readies.length c2) ∧ Vt.At w a1 c.echoes ∧ Vt.At w a2 c.readies
theorem CaseIn.later {w w' : World} {P : Nat} {c : Vt.Cs} {a1 a2 : Option Addr} {c1 c2 : Nat} (h : CaseIn w P c a1 a2 c1 c2) (hb : Below w.heap.size w w') : CaseIn w' P c a1 a2 c1 c2 := ⟨h.1.later hb, h.2.1.later hb, h.2.2.later hb⟩
theorem CaseIn.zero (w : World) : CaseIn (w.alloc (.cells #[.bool false, .bool false, .bool false, .slice none 0 0, .slice none 0 0] 48)) w.heap.size Vt.Cs.none none none 0 0 := ⟨C5.new w _ _ _ _ _, .inl rfl, .inl rfl⟩

/-- The answer of a Take stored over the case. -/
theorem next_box {w w4 : World} {P : Nat} {v0 v1 v2 v3 v4 : Value} {c : Vt.Cs} {outs : List (Nat × ByteArray)} {a1 a2 ao : Option Addr} {c1 c2 : Nat} (o : Obj) (hP : C5 w4 P v0 v1 v2 v3 v4) (t1 : Vt.At w4 a1 c.echoes) (t2 : Vt.At w4 a2 c.readies) (t3 : AtO w4 ao outs)
    (f1 : Fr w.heap.size a1) (f2 : Fr w.heap.size a2) (f3 : Fr w.heap.size ao) (hlt : P < w.heap.size) :
    CaseIn ((((((w4.setCell ⟨P, 0, none⟩ (.bool c.echoed)).setCell ⟨P, 1, none⟩ (.bool c.readied)).setCell ⟨P, 2, none⟩ (.bool c.done)).setCell ⟨P, 3, none⟩ (.slice a1 c.echoes.length c1)).setCell ⟨P, 4, none⟩ (.slice a2 c.readies.length c2)).alloc o) P c a1 a2 c1 c2 ∧
    AtO ((((((w4.setCell ⟨P, 0, none⟩ (.bool c.echoed)).setCell ⟨P, 1, none⟩ (.bool c.readied)).setCell ⟨P, 2, none⟩ (.bool c.done)).setCell ⟨P, 3, none⟩ (.slice a1 c.echoes.length c1)).setCell ⟨P, 4, none⟩ (.slice a2 c.readies.length c2)).alloc o) ao outs := by
  have x1 := at_set5 t1 (b := P) (fun ad h => .inl (by have := f1 ad h; omega)) (.bool c.echoed) (.bool c.readied) (.bool c.done) (.slice a1 c.echoes.length c1) (.slice a2 c.readies.length c2)
  have x2 := at_set5 t2 (b := P) (fun ad h => .inl (by have := f2 ad h; omega)) (.bool c.echoed) (.bool c.readied) (.bool c.done) (.slice a1 c.echoes.length c1) (.slice a2 c.readies.length c2)
  have x3 := atO_set5 t3 (b := P) (fun ad h => .inl (by have := f3 ad h; omega)) (.bool c.echoed) (.bool c.readied) (.bool c.done) (.slice a1 c.echoes.length c1) (.slice a2 c.readies.length c2)
  exact ⟨⟨(hP.set _ _ _ _ _).alloc o, x1.later ((Below.refl _ _).alloc (Nat.le_refl _) o), x2.later ((Below.refl _ _).alloc (Nat.le_refl _) o)⟩, x3.later ((Below.refl _ _).alloc (Nat.le_refl _) o)⟩
theorem next_below {B P : Nat} {w w4 : World} (h : Below B w w4) (hB : B ≤ P) (hP : P < w4.heap.size) (u0 u1 u2 u3 u4 : Value) (o : Obj) :
    Below B w ((((((w4.setCell ⟨P, 0, none⟩ u0).setCell ⟨P, 1, none⟩ u1).setCell ⟨P, 2, none⟩ u2).setCell ⟨P, 3, none⟩ u3).setCell ⟨P, 4, none⟩ u4).alloc o) :=
  (below_set5 h hB u0 u1 u2 u3 u4).alloc (by simp [World.setCell]; omega) o

namespace Al
def ta : ByteArray := ⟨#[97]⟩
def cs : Nat → Vt.Cs
  | 0 => Vt.Cs.none
  | 1 => ⟨false, false, false, [(ta, 1)], []⟩
  | 2 => ⟨false, false, false, [(ta, 3)], []⟩
  | _ => ⟨false, true, false, [(ta, 7)], []⟩
def rd : Nat → Nat
  | 0 => 0
  | 1 => 0
  | 2 => 0
  | _ => 1
def outs : Nat → List (Nat × ByteArray)
  | 0 => []
  | 1 => []
  | _ => [(3, ta)]
theorem t0 : Vt.take (cs 0) 15 0 2 0 ta = ⟨cs 1, outs 0, Vt.none, false, 0⟩ := by kernel_rfl
theorem t1 : Vt.take (cs 1) 15 0 2 1 ta = ⟨cs 2, outs 1, Vt.none, false, 0⟩ := by kernel_rfl
theorem t2 : Vt.take (cs 2) 15 0 2 2 ta = ⟨cs 3, outs 2, Vt.none, false, 0⟩ := by kernel_rfl
theorem step {k : Nat} (h : k < 3) : Vt.take (cs k) 15 0 2 k ta = ⟨cs (k + 1), outs k, Vt.none, false, 0⟩ ∧ rd k + (outs k).length = rd (k + 1) := by
  have : k = 0 ∨ k = 1 ∨ k = 2 := by omega
  rcases this with rfl | rfl | rfl
  · exact ⟨t0, rfl⟩
  · exact ⟨t1, rfl⟩
  · exact ⟨t2, rfl⟩
theorem small (k : Nat) : (cs k).Small ∧ (cs k).echoes.length ≤ 900 ∧ (cs k).readies.length ≤ 900 := by
  have h0 : Vt.Small [] := fun b hb => by cases hb
  have h1 : ∀ n, n < 65536 → Vt.Small [(ta, n)] := fun n hn b hb => by simp at hb; subst hb; exact hn
  unfold cs
  split
  · exact ⟨⟨h0, h0⟩, by decide, by decide⟩
  · exact ⟨⟨h1 _ (by decide), h0⟩, by decide, by decide⟩
  · exact ⟨⟨h1 _ (by decide), h0⟩, by decide, by decide⟩
  · exact ⟨⟨h1 _ (by decide), h0⟩, by decide, by decide⟩
def d0 : Vt.Cs := ⟨false, true, false, [], [(ta, 3)]⟩
def d1 : Vt.Cs := ⟨false, true, true, [], [(ta, 7)]⟩
theorem t3 : Vt.take d0 15 0 3 2 ta = ⟨d1, [], ta, true, 0⟩ := by kernel_rfl
theorem t4 : Vt.take (cs 3) 15 0 1 1 ta = Vt.err (cs 3) 10 := by kernel_rfl
theorem t5 : Vt.forB (cs 3).echoes ta = 7 := by kernel_rfl
end Al
end Go.Proofs.Ytmhjmeedoajkjaa
