/- How three sets, and two texts, are read. -/
import Derived.Test.YtlekbbpancaenaaArg
namespace Go.Proofs.Ytlekbbpancaenaa
open Go.ChangeShapes Go.WideShapes Go.RowKit Go.Deep

set_option maxRecDepth 20000 in
theorem open_texts {H : Type} {enc : TypeId × Value → H} {w : World} {r : Reach} {base : Nat} {spare : Nat → Bool} {held : Bool} {v : Value} {d : DataW H} {p : List MemPlace}
    (hv : Value.okWide Try.prog w r base 79 v) (h : DataW.Trod enc Try.prog w 0 spare held 79 v d p) : ∃ k0 k1 : ByteArray, v = .agg #[.string k0, .string k1] := by
  have cc : Try.prog.cellsOf 79 = 2 := by kernel_rfl
  have c9 : Try.prog.cellsOf 9 = 1 := by kernel_rfl
  have hu := Try.underlying79
  simp only [Value.okWide, hu] at hv
  obtain ⟨cs, rfl, hs, _⟩ := hv
  rw [cc] at hs
  obtain ⟨fuel, hf⟩ := h
  obtain ⟨xs, m, _, _, hl, hxs, hi⟩ := DataW.trod_array hu hf
  obtain ⟨l⟩ := cs
  match l, hs with
  | [a, b], _ =>
    have g0 := hi 0 (by omega)
    have g1 := hi 1 (by omega)
    rw [c9] at g0 g1
    match xs, hxs with
    | [y0, y1], _ =>
      have g0' : DataW.trod enc Try.prog w 0 spare held m 9 [a] = some y0 := g0
      have g1' : DataW.trod enc Try.prog w 0 spare held m 9 [b] = some y1 := g1
      obtain ⟨z0, e0, _, _⟩ := DataW.trod_string Try.underlying9 g0'
      obtain ⟨z1, e1, _, _⟩ := DataW.trod_string Try.underlying9 g1'
      simp at e0 e1
      subst e0 e1
      exact ⟨z0, z1, rfl⟩
set_option maxRecDepth 20000 in
theorem open_sets {H : Type} {enc : TypeId × Value → H} {w : World} {r : Reach} {base : Nat} {spare : Nat → Bool} {held : Bool} {v : Value} {d : DataW H} {p : List MemPlace}
    (hv : Value.okWide Try.prog w r base 78 v) (h : DataW.Trod enc Try.prog w 0 spare held 78 v d p) : ∃ a b c : Nat, v = .agg #[.int .u16 (a : Int), .int .u16 (b : Int), .int .u16 (c : Int)] ∧ a < 65536 ∧ b < 65536 ∧ c < 65536 := by
  have cc : Try.prog.cellsOf 78 = 3 := by kernel_rfl
  have c5 : Try.prog.cellsOf 26 = 1 := by kernel_rfl
  have hu := Try.underlying78
  simp only [Value.okWide, hu] at hv
  obtain ⟨cs, rfl, hs, _⟩ := hv
  rw [cc] at hs
  obtain ⟨fuel, hf⟩ := h
  obtain ⟨xs, m, _, _, hl, hxs, hi⟩ := DataW.trod_array hu hf
  obtain ⟨l⟩ := cs
  match l, hs with
  | [a, b, c], _ =>
    have g0 := hi 0 (by omega)
    have g1 := hi 1 (by omega)
    have g2 := hi 2 (by omega)
    rw [c5] at g0 g1 g2
    match xs, hxs with
    | [y0, y1, y2], _ =>
      have g0' : DataW.trod enc Try.prog w 0 spare held m 26 [a] = some y0 := g0
      have g1' : DataW.trod enc Try.prog w 0 spare held m 26 [b] = some y1 := g1
      have g2' : DataW.trod enc Try.prog w 0 spare held m 26 [c] = some y2 := g2
      obtain ⟨z0, e0, _, f0⟩ := DataW.trod_int Try.underlying26 g0'
      obtain ⟨z1, e1, _, f1⟩ := DataW.trod_int Try.underlying26 g1'
      obtain ⟨z2, e2, _, f2⟩ := DataW.trod_int Try.underlying26 g2'
      simp at e0 e1 e2
      subst e0 e1 e2
      obtain ⟨n0, rfl, k0⟩ := nat_u16 f0
      obtain ⟨n1, rfl, k1⟩ := nat_u16 f1
      obtain ⟨n2, rfl, k2⟩ := nat_u16 f2
      exact ⟨n0, n1, n2, rfl, k0, k1, k2⟩
end Go.Proofs.Ytlekbbpancaenaa
