/- Votes in a row in memory; what a vote changes, told shortly. -/
import Derived.Test.YtmhjmeedoajkjaaVtK
namespace Go.Proofs.Ytmhjmeedoajkjaa
open Go.RowKit Go.Shelf

/-- Votes lie behind an address: kind, who, body. -/
def AtV (w : World) (a : Option Addr) (l : List (Int × Nat × ByteArray)) : Prop :=
  l = [] ∨ ∃ b off, a = some ⟨b, off, none⟩ ∧ ∀ (j : Nat) (k : Int) (i : Nat) (x : ByteArray), l[j]? = some (k, i, x) → w.cell? ⟨b, off + j * 3, none⟩ = some (.int .i64 k) ∧ w.cell? ⟨b, off + j * 3 + 1, none⟩ = some (.int .u8 (i : Int)) ∧ w.cell? ⟨b, off + j * 3 + 2, none⟩ = some (.string x)
theorem AtV.later {w w' : World} {a : Option Addr} {l : List (Int × Nat × ByteArray)} (h : AtV w a l) (hb : Below w.heap.size w w') : AtV w' a l := by
  rcases h with rfl | ⟨b, off, rfl, hc⟩
  · exact .inl rfl
  · exact .inr ⟨b, off, rfl, fun j k i x hx => ⟨cell_later hb (hc j k i x hx).1, cell_later hb (hc j k i x hx).2.1, cell_later hb (hc j k i x hx).2.2⟩⟩
theorem AtV.get {w : World} {a : Option Addr} {l : List (Int × Nat × ByteArray)} (h : AtV w a l) {j : Nat} (hj : j < l.length) : ∃ b off k i x, a = some ⟨b, off, none⟩ ∧ l[j]? = some (k, i, x) ∧
    w.cell? ⟨b, off + j * 3, none⟩ = some (.int .i64 k) ∧ w.cell? ⟨b, off + j * 3 + 1, none⟩ = some (.int .u8 (i : Int)) ∧ w.cell? ⟨b, off + j * 3 + 2, none⟩ = some (.string x) := by
  rcases h with rfl | ⟨b, off, rfl, hc⟩
  · simp at hj
  · have e : l[j]? = some (l[j].1, l[j].2.1, l[j].2.2) := List.getElem?_eq_getElem hj
    obtain ⟨h1, h2, h3⟩ := hc j _ _ _ e
    exact ⟨b, off, _, _, _, rfl, e, h1, h2, h3⟩

namespace Vt
theorem readies_le (n : Int) : Cn.readies n ≤ Cn.enough n := by unfold Cn.readies Cn.enough; omega
/-- What a vote casts and changes. -/
def Casts (c : Cs) (x : ByteArray) (t : Told) : Prop :=
    ((t.outs = [] ∧ t.c.echoed = c.echoed ∧ t.c.readied = c.readied) ∨ (t.outs = [(2, x)] ∧ c.echoed = false ∧ t.c.echoed = true ∧ t.c.readied = c.readied) ∨ (t.outs = [(3, x)] ∧ c.readied = false ∧ t.c.readied = true ∧ t.c.echoed = c.echoed)) ∧
    ((t.is = false ∧ t.c.done = c.done) ∨ (t.is = true ∧ c.done = false ∧ t.c.done = true)) ∧ (t.c.done = true → t.c.readied = true)
theorem take_casts (c : Cs) (ms frm : Nat) (kind : Int) (id : Nat) (x : ByteArray) (h : c.done = true → c.readied = true) (t : Told) (ht : take c ms frm kind id x = t) : Casts c x t := by
  have e0 : ∀ e, t = err c e → Casts c x t := fun e he => by
    subst he
    exact ⟨.inl ⟨rfl, rfl, rfl⟩, .inl ⟨rfl, rfl⟩, h⟩
  unfold take at ht
  split at ht
  · exact e0 2 ht.symm
  split at ht
  · exact e0 10 ht.symm
  split at ht
  · exact e0 10 ht.symm
  split at ht
  · exact e0 6 ht.symm
  rename_i hold
  dsimp only at ht
  by_cases k1 : kind = 1
  · have ho : c.echoed = false := by
      unfold old at hold; rw [if_pos k1] at hold; simpa using hold
    have e : taken c (Cn.sizeS ms) kind id x = ({ c with echoed := true }, [(2, x)]) := by unfold taken; rw [if_pos k1]
    rw [e] at ht
    have hc : (c.done || !({ c with echoed := true } : Cs).done) = true := by show (c.done || !c.done) = true; cases c.done <;> rfl
    rw [if_pos hc] at ht
    subst ht
    exact ⟨.inr (.inl ⟨rfl, ho, rfl, rfl⟩), .inl ⟨rfl, rfl⟩, h⟩
  · by_cases k2 : kind = 2
    · have e : taken c (Cn.sizeS ms) kind id x = echoT c (Cn.sizeS ms) id x := by unfold taken; rw [if_neg k1, if_pos k2]
      rw [e] at ht
      unfold echoT ready at ht
      generalize decide (Cn.echoes (Cn.sizeS ms) ≤ sizeB (withB c.echoes id x) x) = en at ht
      dsimp only at ht
      have hc : (c.done || !c.done) = true := by cases c.done <;> rfl
      rw [if_pos hc] at ht
      subst ht
      refine ⟨?_, .inl ⟨rfl, rfl⟩, fun hd => ?_⟩
      · dsimp only
        cases hr : c.readied <;> cases en <;> simp
      · dsimp only at hd ⊢
        rw [h hd]; rfl
    · have e : taken c (Cn.sizeS ms) kind id x = readyT c (Cn.sizeS ms) id x := by unfold taken; rw [if_neg k1, if_neg k2]
      rw [e] at ht
      unfold readyT ready at ht
      have hle : decide (Cn.enough (Cn.sizeS ms) ≤ sizeB (withB c.readies id x) x) = true → decide (Cn.readies (Cn.sizeS ms) ≤ sizeB (withB c.readies id x) x) = true := fun hx => by
        have := readies_le (Cn.sizeS ms)
        exact decide_eq_true (Nat.le_trans this (of_decide_eq_true hx))
      generalize decide (Cn.readies (Cn.sizeS ms) ≤ sizeB (withB c.readies id x) x) = en at ht hle
      generalize decide (Cn.enough (Cn.sizeS ms) ≤ sizeB (withB c.readies id x) x) = dn at ht hle
      dsimp only at ht
      cases hd : c.done with
      | true =>
        rw [hd] at ht
        rw [if_pos (by rfl)] at ht
        subst ht
        have hr := h hd
        refine ⟨?_, .inl ⟨rfl, hd.symm⟩, fun _ => by show (c.readied || en) = true; rw [hr]; rfl⟩
        refine .inl ⟨?_, rfl, ?_⟩
        · show (if (c.readied || !en) = true then [] else [(3, x)]) = []
          rw [hr]; rfl
        · show (c.readied || en) = c.readied
          rw [hr]; rfl
      | false =>
        rw [hd] at ht
        cases dn with
        | false =>
          rw [if_pos (by rfl)] at ht
          subst ht
          refine ⟨?_, .inl ⟨rfl, hd.symm⟩, fun hx => by cases hx⟩
          dsimp only
          cases hr : c.readied <;> cases en <;> simp
        | true =>
          rw [if_neg (by simp)] at ht
          have := hle rfl
          subst this
          subst ht
          refine ⟨?_, .inr ⟨rfl, hd, rfl⟩, fun _ => by show (c.readied || true) = true; simp⟩
          dsimp only
          cases hr : c.readied <;> simp
end Vt
end Go.Proofs.Ytmhjmeedoajkjaa
