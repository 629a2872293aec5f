/- How the arguments of the laws are read: texts that came in, in a row or two of them. -/
import Derived.Test.YtdpnffnogckfjaaSame
import Derived.Deep.Slices
import Derived.OpenShut
namespace Go.Proofs.Ytdpnffnogckfjaa
open Go.ChangeShapes Go.WideShapes Go.RowKit Go.Deep

def IsTerms (w : World) (a : Option Addr) (len : Nat) (l : List (List UInt8)) : Prop := l.length = len ∧ len ≤ 9223372036854775807 ∧ AtS w a l ∧ ∀ x ∈ l, x.length ≤ maxLen

theorem plain_addr {w : World} {a : Addr} {v : Value} (h : w.cell? (a.add 0) = some v) : ∃ b off, a = ⟨b, off, none⟩ := by
  obtain ⟨b, off, spot⟩ := a
  have hspot : spot = none := by simpa [Addr.add] using World.cell?_spot h
  subst hspot
  exact ⟨b, off, rfl⟩

theorem open_terms {H : Type} {enc : TypeId × Value → H} {w : World} {spare : Nat → Bool} {held : Bool} {fuel : Nat} {a : Option Addr} {len cap : Nat} {x : DataW H × List MemPlace}
    (h : DataW.trod enc Try.prog w 0 spare held fuel 22 [.slice a len cap] = some x) : ∃ l, IsTerms w a len l := by
  rcases open_slice Try.underlying22 h with ⟨hcs, _⟩ | ⟨ad, l, c, m, n, D, Pl, hcs, _, hl, hm, hmm, _, hx⟩
  · simp at hcs
    obtain ⟨rfl, rfl, rfl⟩ := hcs
    exact ⟨[], rfl, by omega, .inl rfl, fun x hx => by cases hx⟩
  · simp at hcs
    obtain ⟨rfl, rfl, rfl⟩ := hcs
    have hlm : len ≤ m := by rw [hmm]; split <;> omega
    have ce : Try.prog.cellsOf 23 = 1 := by kernel_rfl
    have each : ∀ i, i < len → ∃ q : ByteArray, w.cell? (ad.add i) = some (.string q) ∧ q.size ≤ maxLen := by
      intro i hi
      obtain ⟨cs', h1, h2⟩ := hx i (by omega)
      rw [ce] at h1
      obtain ⟨_, hlen, hcell⟩ := World.cells?_some h1
      match cs', hlen with
      | [v0], _ =>
        obtain ⟨z, e, _, hz⟩ := DataW.trod_string Try.underlying23 h2
        simp at e
        subst e
        have d0 := hcell 0 (by omega)
        rw [add_add] at d0
        exact ⟨z, by simpa using d0, hz⟩
    by_cases h0 : len = 0
    · exact ⟨[], h0.symm, by omega, .inl rfl, fun x hx => by cases hx⟩
    · have : Inhabited ByteArray := ⟨⟨#[]⟩⟩
      obtain ⟨q, hq⟩ := choose_lt each
      obtain ⟨b, off, rfl⟩ := plain_addr (hq 0 (by omega)).1
      refine ⟨(List.range len).map fun i => (q i).data.toList, by simp, by unfold maxLen at hm; omega, .inr ⟨b, off, rfl, fun j f hf => ?_⟩, fun x hx => ?_⟩
      · have hj : j < len := by have := (List.getElem?_eq_some_iff.1 hf).1; simpa using this
        simp [hj] at hf
        subst hf
        have k0 := (hq j hj).1
        rw [Go.WideShapes.add_plain] at k0
        rw [k0, str_of]
      · obtain ⟨i, hi, rfl⟩ := List.mem_map.1 hx
        have := (hq i (List.mem_range.1 hi)).2
        exact this

/-- .. and an address that is none has none behind it. -/
def IsTermsC (w : World) (a : Option Addr) (len cap : Nat) (l : List (List UInt8)) : Prop := IsTerms w a len l ∧ (a = none → len = 0 ∧ cap = 0)
theorem open_termsC {H : Type} {enc : TypeId × Value → H} {w : World} {spare : Nat → Bool} {held : Bool} {fuel : Nat} {a : Option Addr} {len cap : Nat} {x : DataW H × List MemPlace}
    (h : DataW.trod enc Try.prog w 0 spare held fuel 22 [.slice a len cap] = some x) : ∃ l, IsTermsC w a len cap l := by
  obtain ⟨l, hl⟩ := open_terms h
  refine ⟨l, hl, ?_⟩
  rcases open_slice Try.underlying22 h with ⟨hcs, _⟩ | ⟨ad, l, c, m, n, D, Pl, hcs, _⟩
  · simp at hcs
    exact fun _ => ⟨hcs.2.1, hcs.2.2⟩
  · simp at hcs
    intro e
    rw [hcs.1] at e
    cases e

set_option maxRecDepth 20000 in
theorem open_pair {H : Type} {enc : TypeId × Value → H} {w : World} {r : Reach} {base : Nat} {spare : Nat → Bool} {held : Bool} {v : Value} {d : DataW H} {p : List MemPlace}
    (hv : Value.okWide Try.prog w r base 44 v) (h : DataW.Trod enc Try.prog w 0 spare held 44 v d p) : ∃ s0 s1 : ByteArray, v = .agg #[.string s0, .string s1] := by
  have c44 : Try.prog.cellsOf 44 = 2 := by kernel_rfl
  have c23 : Try.prog.cellsOf 23 = 1 := by kernel_rfl
  have hu := Try.underlying44
  simp only [Value.okWide, hu] at hv
  obtain ⟨cs, rfl, hs, _⟩ := hv
  rw [c44] at hs
  obtain ⟨fuel, hf⟩ := h
  obtain ⟨xs, m, _, _, hl, hxs, hi⟩ := DataW.trod_array hu hf
  obtain ⟨l⟩ := cs
  match l, hs with
  | [a, b], _ =>
    have g0 := hi 0 (by omega)
    have g1 := hi 1 (by omega)
    rw [c23] at g0 g1
    match xs, hxs with
    | [y0, y1], _ =>
      have g0' : DataW.trod enc Try.prog w 0 spare held m 23 [a] = some y0 := g0
      have g1' : DataW.trod enc Try.prog w 0 spare held m 23 [b] = some y1 := g1
      obtain ⟨z0, e0, _, _⟩ := DataW.trod_string Try.underlying23 g0'
      obtain ⟨z1, e1, _, _⟩ := DataW.trod_string Try.underlying23 g1'
      simp at e0 e1
      subst e0 e1
      exact ⟨z0, z1, rfl⟩

end Go.Proofs.Ytdpnffnogckfjaa
