/- How the arguments of the laws are read: numbers, sets, rows of members, three sets. -/
import Derived.Test.YtogieccgblojdaaOfA
import Derived.Deep.Slices
import Derived.OpenShut
namespace Go.Proofs.Ytogieccgblojdaa
open Go.ChangeShapes Go.WideShapes Go.RowKit Go.Deep

def IsMembers (w : World) (a : Option Addr) (len : Nat) (l : List Nat) : Prop := l.length = len ∧ AtN w a l ∧ ∀ x ∈ l, x < 256

theorem nat_u8 {z : Int} (h : (Lit.int .u8 z).wf = true) : ∃ n : Nat, z = (n : Int) ∧ n < 256 := by
  have hb : 0 ≤ z ∧ z ≤ 255 := bounds_u8 h
  exact ⟨z.toNat, by omega, by omega⟩
theorem nat_u16 {z : Int} (h : (Lit.int .u16 z).wf = true) : ∃ n : Nat, z = (n : Int) ∧ n < 65536 := by
  have hb : 0 ≤ z ∧ z ≤ 65535 := bounds_u16 h
  exact ⟨z.toNat, by omega, by omega⟩

theorem open_members {H : Type} {enc : TypeId × Value → H} {w : World} {spare : Nat → Bool} {held : Bool} {fuel : Nat} {a : Option Addr} {len cap : Nat} {x : DataW H × List MemPlace}
    (h : DataW.trod enc Try.prog w 0 spare held fuel 27 [.slice a len cap] = some x) : ∃ l, IsMembers w a len l := by
  rcases open_ints Try.underlying27 Try.underlying5 (by kernel_rfl) h with ⟨hcs, _⟩ | ⟨ad, l, c, zs, hcs, _, hl, hm, hz, _, hcell, hwz⟩
  · simp at hcs
    obtain ⟨rfl, rfl, rfl⟩ := hcs
    exact ⟨[], rfl, .inl rfl, fun x hx => by cases hx⟩
  · simp at hcs
    obtain ⟨rfl, rfl, rfl⟩ := hcs
    have hlm : len ≤ zs.length := by rw [hz]; split <;> omega
    by_cases h0 : len = 0
    · exact ⟨[], h0.symm, .inl rfl, fun x hx => by cases hx⟩
    · obtain ⟨b, off, rfl, hc⟩ := ints_at hcell (by omega)
      refine ⟨(zs.take len).map Int.toNat, by rw [List.length_map, List.length_take]; omega, .inr ⟨b, off, rfl, fun j x hx => ?_⟩, fun x hx => ?_⟩
      · have hj : j < len := by
          have := (List.getElem?_eq_some_iff.1 hx).1
          rw [List.length_map, List.length_take] at this
          omega
        have hj2 : j < zs.length := by omega
        rw [hc j hj2]
        obtain ⟨y, hy, _⟩ := nat_u8 (hwz zs[j] (List.getElem_mem hj2))
        have e1 : zs.getD j 0 = zs[j] := by simp [List.getD, hj2]
        simp [hj, hj2] at hx
        rw [e1, ← hx, hy]
        rfl
      · obtain ⟨z, hz1, rfl⟩ := List.mem_map.1 hx
        obtain ⟨y, hy, hy2⟩ := nat_u8 (hwz z (List.mem_of_mem_take hz1))
        omega

set_option maxRecDepth 20000 in
theorem open_three {H : Type} {enc : TypeId × Value → H} {w : World} {r : Reach} {base : Nat} {spare : Nat → Bool} {held : Bool} {v : Value} {d : DataW H} {p : List MemPlace}
    (hv : Value.okWide Try.prog w r base 36 v) (h : DataW.Trod enc Try.prog w 0 spare held 36 v d p) :
    ∃ a b c : Nat, v = .agg #[.int .u16 (a : Int), .int .u16 (b : Int), .int .u16 (c : Int)] ∧ a < 65536 ∧ b < 65536 ∧ c < 65536 := by
  have c36 : Try.prog.cellsOf 36 = 3 := by kernel_rfl
  have c26 : Try.prog.cellsOf 26 = 1 := by kernel_rfl
  have hu := Try.underlying36
  simp only [Value.okWide, hu] at hv
  obtain ⟨cs, rfl, hs, _⟩ := hv
  rw [c36] at hs
  obtain ⟨fuel, hf⟩ := h
  obtain ⟨xs, m, _, _, hl, hxs, hi⟩ := DataW.trod_array hu hf
  obtain ⟨l⟩ := cs
  match l, hs with
  | [a, b, c], _ =>
    have g0 := hi 0 (by omega)
    have g1 := hi 1 (by omega)
    have g2 := hi 2 (by omega)
    rw [c26] at g0 g1 g2
    match xs, hxs with
    | [y0, y1, y2], _ =>
      have g0' : DataW.trod enc Try.prog w 0 spare held m 26 [a] = some y0 := g0
      have g1' : DataW.trod enc Try.prog w 0 spare held m 26 [b] = some y1 := g1
      have g2' : DataW.trod enc Try.prog w 0 spare held m 26 [c] = some y2 := g2
      obtain ⟨z0, e0, _, f0⟩ := DataW.trod_int Try.underlying26 g0'
      obtain ⟨z1, e1, _, f1⟩ := DataW.trod_int Try.underlying26 g1'
      obtain ⟨z2, e2, _, f2⟩ := DataW.trod_int Try.underlying26 g2'
      simp at e0 e1 e2
      subst e0 e1 e2
      obtain ⟨n0, rfl, k0⟩ := nat_u16 f0
      obtain ⟨n1, rfl, k1⟩ := nat_u16 f1
      obtain ⟨n2, rfl, k2⟩ := nat_u16 f2
      exact ⟨n0, n1, n2, rfl, k0, k1, k2⟩

end Go.Proofs.Ytogieccgblojdaa
