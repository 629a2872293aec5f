/- How rows of changes that were handed over are read. -/
import Derived.Test.YtnheikkpnffinaaDoorArg
import Derived.Test.YtnheikkpnffinaaDoorRlP
import Derived.Deep.Slices
import Derived.OpenShut
set_option linter.unusedVariables false
namespace Go.Proofs.YtnheikkpnffinaaDoor
open Go.ChangeShapes Go.WideShapes Go.RowKit Go.Deep
namespace Rl
theorem plain_addr {w : World} {a : Addr} {v : Value} (h : w.cell? (a.add 0) = some v) : ∃ b off, a = ⟨b, off, none⟩ := by
  obtain ⟨b, off, spot⟩ := a
  have hspot : spot = none := by simpa [Addr.add] using World.cell?_spot h
  subst hspot
  exact ⟨b, off, rfl⟩
theorem flat_cells {w : World} {b off : Nat} {l : List (Value × Value)} (h : ∀ (j : Nat) (x y : Value), l[j]? = some (x, y) → w.cell? ⟨b, off + j * 2, none⟩ = some x ∧ w.cell? ⟨b, off + j * 2 + 1, none⟩ = some y) :
    ∀ j u, (c2 l)[j]? = some u → w.cell? ⟨b, off + j, none⟩ = some u := by
  induction l generalizing off with
  | nil => intro j u hu; simp [c2] at hu
  | cons c l ih =>
    intro j u hu
    have h0 := h 0 c.1 c.2 rfl
    match j, hu with
    | 0, hu => simp [c2] at hu; subst hu; simpa using h0.1
    | 1, hu => simp [c2] at hu; subst hu; simpa using h0.2
    | j + 2, hu =>
      have := ih (off := off + 2) (fun j x s hj => by
        have := h (j + 1) x s (by simpa using hj)
        rw [show off + (j + 1) * 2 = off + 2 + j * 2 by omega] at this
        exact this) j u (by simpa [c2] using hu)
      rw [show off + (j + 2) = off + 2 + j by omega]
      exact this
/-- Changes that came in. -/
theorem open_chs {H : Type} {enc : TypeId × Value → H} {w : World} {spare : Nat → Bool} {held : Bool} {fuel : Nat} {a : Option Addr} {len cap : Nat} {x : DataW H × List MemPlace}
    (h : DataW.trod enc Tryd.prog w 0 spare held fuel 46 [.slice a len cap] = some x) : ∃ l, IsChs w a len l := by
  rcases open_slice Tryd.underlying46 h with ⟨hcs, _⟩ | ⟨ad, len', c, m, n, D, Pl, hcs, _, hl, hm, hmm, _, hx⟩
  · simp at hcs
    obtain ⟨rfl, rfl, rfl⟩ := hcs
    exact ⟨[], rfl, .inl rfl, fun b hb => by cases hb⟩
  · simp at hcs
    obtain ⟨rfl, rfl, rfl⟩ := hcs
    have hlm : len ≤ m := by rw [hmm]; split <;> omega
    have ce : Tryd.prog.cellsOf 27 = 2 := by kernel_rfl
    have each : ∀ i, i < len → ∃ q : Bool × Nat, w.cell? (ad.add (i * 2)) = some (.bool q.1) ∧ w.cell? (ad.add (i * 2 + 1)) = some (.int .u8 (q.2 : Int)) ∧ q.2 < 256 := by
      intro i hi
      obtain ⟨cs', h1, h2⟩ := hx i (by omega)
      rw [ce] at h1
      obtain ⟨_, hlen, hcell⟩ := World.cells?_some h1
      match cs', hlen with
      | [v0, v1], _ =>
        obtain ⟨z0, z1, rfl, rfl, k1⟩ := ch_cells h2
        have d0 := hcell 0 (by omega)
        have d1 := hcell 1 (by omega)
        rw [add_add] at d0 d1
        exact ⟨(z0, z1), by simpa using d0, by simpa using d1, k1⟩
    by_cases h0 : len = 0
    · subst h0
      exact ⟨[], rfl, .inl rfl, fun b hb => by cases hb⟩
    · obtain ⟨q, hq⟩ := choose_lt each
      obtain ⟨b, off, rfl⟩ := plain_addr (by have := (hq 0 (by omega)).1; simpa using this)
      refine ⟨(List.range len).map q, by simp, .inr ⟨b, off, rfl, flat_cells fun j x y hjs => ?_⟩, fun y hy => ?_⟩
      · have hj : j < len := by have := (List.getElem?_eq_some_iff.1 hjs).1; simpa using this
        simp [hj, chP] at hjs
        obtain ⟨k0, k1, _⟩ := hq j hj
        rw [Go.WideShapes.add_plain] at k0 k1
        rw [hjs.1] at k0
        rw [hjs.2] at k1
        exact ⟨k0, by rw [Nat.add_assoc]; exact k1⟩
      · obtain ⟨j, hj, rfl⟩ := List.mem_map.1 hy
        exact (hq j (List.mem_range.1 hj)).2.2
end Rl
end Go.Proofs.YtnheikkpnffinaaDoor
