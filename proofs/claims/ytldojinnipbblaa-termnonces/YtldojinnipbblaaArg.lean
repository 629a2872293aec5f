/- How the arguments of the laws are read: texts that came in, in a row or two of them. -/
import Derived.Test.YtldojinnipbblaaAlive
import Derived.Deep.Slices
import Derived.OpenShut
namespace Go.Proofs.Ytldojinnipbblaa
open Go.ChangeShapes Go.WideShapes Go.RowKit Go.Deep

def IsTerms (w : World) (a : Option Addr) (len : Nat) (l : List (List UInt8)) : Prop := l.length = len ∧ len ≤ 9223372036854775807 ∧ AtS w a l

theorem plain_addr {w : World} {a : Addr} {v : Value} (h : w.cell? (a.add 0) = some v) : ∃ b off, a = ⟨b, off, none⟩ := by
  obtain ⟨b, off, spot⟩ := a
  have hspot : spot = none := by simpa [Addr.add] using World.cell?_spot h
  subst hspot
  exact ⟨b, off, rfl⟩

theorem open_terms {H : Type} {enc : TypeId × Value → H} {w : World} {spare : Nat → Bool} {held : Bool} {fuel : Nat} {a : Option Addr} {len cap : Nat} {x : DataW H × List MemPlace}
    (h : DataW.trod enc Try.prog w 0 spare held fuel 24 [.slice a len cap] = some x) : ∃ l, IsTerms w a len l := by
  rcases open_slice Try.underlying24 h with ⟨hcs, _⟩ | ⟨ad, l, c, m, n, D, Pl, hcs, _, hl, hm, hmm, _, hx⟩
  · simp at hcs
    obtain ⟨rfl, rfl, rfl⟩ := hcs
    exact ⟨[], rfl, by omega, .inl rfl⟩
  · simp at hcs
    obtain ⟨rfl, rfl, rfl⟩ := hcs
    have hlm : len ≤ m := by rw [hmm]; split <;> omega
    have ce : Try.prog.cellsOf 22 = 1 := by kernel_rfl
    have each : ∀ i, i < len → ∃ q : ByteArray, w.cell? (ad.add i) = some (.string q) := by
      intro i hi
      obtain ⟨cs', h1, h2⟩ := hx i (by omega)
      rw [ce] at h1
      obtain ⟨_, hlen, hcell⟩ := World.cells?_some h1
      match cs', hlen with
      | [v0], _ =>
        obtain ⟨z, e, _, _⟩ := DataW.trod_string Try.underlying22 h2
        simp at e
        subst e
        have d0 := hcell 0 (by omega)
        rw [add_add] at d0
        exact ⟨z, by simpa using d0⟩
    by_cases h0 : len = 0
    · exact ⟨[], h0.symm, by omega, .inl rfl⟩
    · have : Inhabited ByteArray := ⟨⟨#[]⟩⟩
      obtain ⟨q, hq⟩ := choose_lt each
      obtain ⟨b, off, rfl⟩ := plain_addr (hq 0 (by omega))
      refine ⟨(List.range len).map fun i => (q i).data.toList, by simp, by unfold maxLen at hm; omega, .inr ⟨b, off, rfl, fun j f hf => ?_⟩⟩
      have hj : j < len := by have := (List.getElem?_eq_some_iff.1 hf).1; simpa using this
      simp [hj] at hf
      subst hf
      have k0 := hq j hj
      rw [Go.WideShapes.add_plain] at k0
      rw [k0, str_of]

theorem open_pair {H : Type} {enc : TypeId × Value → H} {w : World} {r : Reach} {base : Nat} {spare : Nat → Bool} {held : Bool} {v : Value} {d : DataW H} {p : List MemPlace}
    (hv : Value.okWide Try.prog w r base 52 v) (h : DataW.Trod enc Try.prog w 0 spare held 52 v d p) : ∃ s0 s1 : ByteArray, v = .agg #[.string s0, .string s1] := by
  have c52 : Try.prog.cellsOf 52 = 2 := by kernel_rfl
  have c9 : Try.prog.cellsOf 9 = 1 := by kernel_rfl
  have hu := Try.underlying52
  simp only [Value.okWide, hu] at hv
  obtain ⟨cs, rfl, hs, _⟩ := hv
  rw [c52] at hs
  obtain ⟨fuel, hf⟩ := h
  obtain ⟨xs, m, _, _, hl, hxs, hi⟩ := DataW.trod_array hu hf
  obtain ⟨l⟩ := cs
  match l, hs with
  | [a, b], _ =>
    have g0 := hi 0 (by omega)
    have g1 := hi 1 (by omega)
    rw [c9] at g0 g1
    match xs, hxs with
    | [y0, y1], _ =>
      have g0' : DataW.trod enc Try.prog w 0 spare held m 9 [a] = some y0 := g0
      have g1' : DataW.trod enc Try.prog w 0 spare held m 9 [b] = some y1 := g1
      obtain ⟨z0, e0, _, _⟩ := DataW.trod_string Try.underlying9 g0'
      obtain ⟨z1, e1, _, _⟩ := DataW.trod_string Try.underlying9 g1'
      simp at e0 e1
      subst e0 e1
      exact ⟨z0, z1, rfl⟩

end Go.Proofs.Ytldojinnipbblaa
