/- How rows of letters and rows of bodies are read. -/
import Derived.Test.YtimeggbjmcnnoaaArg
namespace Go.Proofs.Ytimeggbjmcnnoaa
open Go.ChangeShapes Go.WideShapes Go.RowKit Go.Deep

/-- A letter in memory. -/
structure Ltr where
  f : Nat
  t : Nat
  s : Nat
  a : Option Addr
  n : Nat
  cap : Nat
  g : ByteArray
  body : List UInt8
def LtrAt (w : World) (b o : Nat) (x : Ltr) : Prop :=
  w.cell? ⟨b, o, none⟩ = some (.int .u8 (x.f : Int)) ∧ w.cell? ⟨b, o + 1, none⟩ = some (.int .u8 (x.t : Int)) ∧ w.cell? ⟨b, o + 2, none⟩ = some (.int .u32 (x.s : Int)) ∧ w.cell? ⟨b, o + 3, none⟩ = some (.slice x.a x.n x.cap) ∧ w.cell? ⟨b, o + 4, none⟩ = some (.string x.g) ∧
    x.f < 256 ∧ x.t < 256 ∧ x.s < 4294967296 ∧ Byt w x.a x.n x.cap x.body
def IsLetters (w : World) (a : Option Addr) (len : Nat) (l : List Ltr) : Prop := l.length = len ∧ (l = [] ∨ ∃ b off, a = some ⟨b, off, none⟩ ∧ ∀ j x, l[j]? = some x → LtrAt w b (off + j * 5) x)
theorem ltrAt_later {w w' : World} {b o : Nat} {x : Ltr} (hb : Below w.heap.size w w') (h : LtrAt w b o x) : LtrAt w' b o x :=
  ⟨cell_later hb h.1, cell_later hb h.2.1, cell_later hb h.2.2.1, cell_later hb h.2.2.2.1, cell_later hb h.2.2.2.2.1, h.2.2.2.2.2.1, h.2.2.2.2.2.2.1, h.2.2.2.2.2.2.2.1, h.2.2.2.2.2.2.2.2.later hb⟩
/-- A body in memory. -/
structure Bod where
  a : Option Addr
  n : Nat
  cap : Nat
  body : List UInt8
def IsBodies (w : World) (a : Option Addr) (len : Nat) (l : List Bod) : Prop := l.length = len ∧ len ≤ 9223372036854775807 ∧ (l = [] ∨ ∃ b off, a = some ⟨b, off, none⟩ ∧ ∀ j x, l[j]? = some x → w.cell? ⟨b, off + j, none⟩ = some (.slice x.a x.n x.cap) ∧ Byt w x.a x.n x.cap x.body)

theorem plain_addr {w : World} {a : Addr} {v : Value} (h : w.cell? (a.add 0) = some v) : ∃ b off, a = ⟨b, off, none⟩ := by
  obtain ⟨b, off, spot⟩ := a
  have hspot : spot = none := by simpa [Addr.add] using World.cell?_spot h
  subst hspot
  exact ⟨b, off, rfl⟩

theorem open_letters {H : Type} {enc : TypeId × Value → H} {w : World} {spare : Nat → Bool} {held : Bool} {fuel : Nat} {a : Option Addr} {len cap : Nat} {x : DataW H × List MemPlace}
    (h : DataW.trod enc Try.prog w 0 spare held fuel 63 [.slice a len cap] = some x) : ∃ l, IsLetters w a len l := by
  rcases open_slice Try.underlying63 h with ⟨hcs, _⟩ | ⟨ad, l, c, m, n, D, Pl, hcs, _, hl, hm, hmm, _, hx⟩
  · simp at hcs
    obtain ⟨rfl, rfl, rfl⟩ := hcs
    exact ⟨[], rfl, .inl rfl⟩
  · simp at hcs
    obtain ⟨rfl, rfl, rfl⟩ := hcs
    have hlm : len ≤ m := by rw [hmm]; split <;> omega
    have ce : Try.prog.cellsOf 26 = 5 := by kernel_rfl
    have each : ∀ i, i < len → ∃ q : Ltr, w.cell? (ad.add (i * 5)) = some (.int .u8 (q.f : Int)) ∧ w.cell? (ad.add (i * 5 + 1)) = some (.int .u8 (q.t : Int)) ∧ w.cell? (ad.add (i * 5 + 2)) = some (.int .u32 (q.s : Int)) ∧ w.cell? (ad.add (i * 5 + 3)) = some (.slice q.a q.n q.cap) ∧ w.cell? (ad.add (i * 5 + 4)) = some (.string q.g) ∧ q.f < 256 ∧ q.t < 256 ∧ q.s < 4294967296 ∧ Byt w q.a q.n q.cap q.body := by
      intro i hi
      obtain ⟨cs', h1, h2⟩ := hx i (by omega)
      rw [ce] at h1
      obtain ⟨_, hlen, hcell⟩ := World.cells?_some h1
      match cs', hlen with
      | [v0, v1, v2, v3, v4], _ =>
        obtain ⟨f, t, s, a, n, cap, g, bs, rfl, rfl, rfl, rfl, rfl, k0, k1, k2, b3⟩ := letter_cells h2
        have d0 := hcell 0 (by omega)
        have d1 := hcell 1 (by omega)
        have d2 := hcell 2 (by omega)
        have d3 := hcell 3 (by omega)
        have d4 := hcell 4 (by omega)
        rw [add_add] at d0 d1 d2 d3 d4
        exact ⟨⟨f, t, s, a, n, cap, g, bs⟩, by simpa using d0, by simpa using d1, by simpa using d2, by simpa using d3, by simpa using d4, k0, k1, k2, b3⟩
    by_cases h0 : len = 0
    · exact ⟨[], h0.symm, .inl rfl⟩
    · have : Inhabited Ltr := ⟨⟨0, 0, 0, none, 0, 0, ⟨#[]⟩, []⟩⟩
      obtain ⟨q, hq⟩ := choose_lt each
      obtain ⟨b, off, rfl⟩ := plain_addr (by have := (hq 0 (by omega)).1; simpa using this)
      refine ⟨(List.range len).map q, by simp, .inr ⟨b, off, rfl, fun j f hf => ?_⟩⟩
      have hj : j < len := by have := (List.getElem?_eq_some_iff.1 hf).1; simpa using this
      simp [hj] at hf
      subst hf
      obtain ⟨k0, k1, k2, k3, k4, k5⟩ := hq j hj
      rw [Go.WideShapes.add_plain] at k0 k1 k2 k3 k4
      exact ⟨k0, by rw [Nat.add_assoc]; exact k1, by rw [Nat.add_assoc]; exact k2, by rw [Nat.add_assoc]; exact k3, by rw [Nat.add_assoc]; exact k4, k5⟩

theorem open_bodies {H : Type} {enc : TypeId × Value → H} {w : World} {spare : Nat → Bool} {held : Bool} {fuel : Nat} {a : Option Addr} {len cap : Nat} {x : DataW H × List MemPlace}
    (h : DataW.trod enc Try.prog w 0 spare held fuel 52 [.slice a len cap] = some x) : ∃ l, IsBodies w a len l := by
  rcases open_slice Try.underlying52 h with ⟨hcs, _⟩ | ⟨ad, l, c, m, n, D, Pl, hcs, _, hl, hm, hmm, _, hx⟩
  · simp at hcs
    obtain ⟨rfl, rfl, rfl⟩ := hcs
    exact ⟨[], rfl, by omega, .inl rfl⟩
  · simp at hcs
    obtain ⟨rfl, rfl, rfl⟩ := hcs
    have hlm : len ≤ m := by rw [hmm]; split <;> omega
    have ce : Try.prog.cellsOf 24 = 1 := by kernel_rfl
    have each : ∀ i, i < len → ∃ q : Bod, w.cell? (ad.add i) = some (.slice q.a q.n q.cap) ∧ Byt w q.a q.n q.cap q.body := by
      intro i hi
      obtain ⟨cs', h1, h2⟩ := hx i (by omega)
      rw [ce] at h1
      obtain ⟨_, hlen, hcell⟩ := World.cells?_some h1
      match cs', hlen with
      | [v0], _ =>
        obtain ⟨a, n, cap, bs, rfl, hb⟩ := open_byt h2
        have d0 := hcell 0 (by omega)
        rw [add_add] at d0
        exact ⟨⟨a, n, cap, bs⟩, by simpa using d0, hb⟩
    by_cases h0 : len = 0
    · exact ⟨[], h0.symm, by omega, .inl rfl⟩
    · have : Inhabited Bod := ⟨⟨none, 0, 0, []⟩⟩
      obtain ⟨q, hq⟩ := choose_lt each
      obtain ⟨b, off, rfl⟩ := plain_addr (hq 0 (by omega)).1
      refine ⟨(List.range len).map q, by simp, by unfold maxLen at hm; omega, .inr ⟨b, off, rfl, fun j f hf => ?_⟩⟩
      have hj : j < len := by have := (List.getElem?_eq_some_iff.1 hf).1; simpa using this
      simp [hj] at hf
      subst hf
      obtain ⟨k0, k1⟩ := hq j hj
      rw [Go.WideShapes.add_plain] at k0
      exact ⟨k0, k1⟩

end Go.Proofs.Ytimeggbjmcnnoaa
