/- How votes that come in are read. -/
import Derived.Test.YtmhjmeedoajkjaaArg
import Derived.Test.YtmhjmeedoajkjaaVtM
namespace Go.Proofs.Ytmhjmeedoajkjaa
open Go.ChangeShapes Go.WideShapes Go.RowKit Go.Deep

theorem struct64 : ∃ f0 f1 f2 : Field, Try.prog.underlying 64 = some (.struct #[f0, f1, f2]) ∧ (f0.offset = 0 ∧ f1.offset = 1 ∧ f2.offset = 2) ∧ (f0.type = 3 ∧ f1.type = 5 ∧ f2.type = 9) :=
  ⟨_, _, _, Try.underlying64, ⟨rfl, rfl, rfl⟩, ⟨rfl, rfl, rfl⟩⟩
theorem vote_cells {H : Type} {enc : TypeId × Value → H} {w : World} {spare : Nat → Bool} {held : Bool} {fuel : Nat} {v0 v1 v2 : Value} {x : DataW H × List MemPlace}
    (h : DataW.trod enc Try.prog w 0 spare held fuel 64 [v0, v1, v2] = some x) : ∃ (x0 : Int) (x1 : Nat) (x2 : ByteArray), v0 = .int .i64 x0 ∧ v1 = .int .u8 (x1 : Int) ∧ v2 = .string x2 ∧ x1 < 256 := by
  have c3 : Try.prog.cellsOf 3 = 1 := by kernel_rfl
  have c5 : Try.prog.cellsOf 5 = 1 := by kernel_rfl
  have c9 : Try.prog.cellsOf 9 = 1 := by kernel_rfl
  obtain ⟨f0, f1, f2, he, ⟨o0, o1, o2⟩, ⟨t0, t1, t2⟩⟩ := struct64
  obtain ⟨xs, k, hk, hxy, _, hxl, hf⟩ := DataW.trod_struct he h
  match xs, hxl with
  | [y0, y1, y2], _ =>
    have g0 := hf 0 f0 rfl
    have g1 := hf 1 f1 rfl
    have g2 := hf 2 f2 rfl
    simp [o0, o1, o2, t0, t1, t2, c3, c5, c9] at g0 g1 g2
    obtain ⟨z0, e0, _, b0⟩ := DataW.trod_int Try.underlying3 g0
    simp at e0
    obtain ⟨z1, e1, _, b1⟩ := DataW.trod_int Try.underlying5 g1
    simp at e1
    obtain ⟨n1, rfl, k1⟩ := nat_u8 b1
    obtain ⟨z2, e2, _, _⟩ := DataW.trod_string Try.underlying9 g2
    simp at e2
    exact ⟨z0, n1, z2, e0, e1, e2, k1⟩

theorem open_votes {H : Type} {enc : TypeId × Value → H} {w : World} {spare : Nat → Bool} {held : Bool} {fuel : Nat} {a : Option Addr} {len cap : Nat} {x : DataW H × List MemPlace}
    (h : DataW.trod enc Try.prog w 0 spare held fuel 62 [.slice a len cap] = some x) : ∃ l, AtV w a l ∧ l.length = len ∧ ∀ v ∈ l, v.2.1 < 256 := by
  rcases open_slice Try.underlying62 h with ⟨hcs, _⟩ | ⟨ad, l, c, m, n, D, Pl, hcs, _, hl, hm, hmm, _, hx⟩
  · simp at hcs
    obtain ⟨rfl, rfl, rfl⟩ := hcs
    exact ⟨[], .inl rfl, rfl, fun v hv => by cases hv⟩
  · simp at hcs
    obtain ⟨rfl, rfl, rfl⟩ := hcs
    have hlm : len ≤ m := by rw [hmm]; split <;> omega
    have ce : Try.prog.cellsOf 64 = 3 := by kernel_rfl
    have each : ∀ i, i < len → ∃ q : Int × Nat × ByteArray, w.cell? (ad.add (i * 3)) = some (.int .i64 q.1) ∧ w.cell? (ad.add (i * 3 + 1)) = some (.int .u8 (q.2.1 : Int)) ∧ w.cell? (ad.add (i * 3 + 2)) = some (.string q.2.2) ∧ q.2.1 < 256 := by
      intro i hi
      obtain ⟨cs', h1, h2⟩ := hx i (by omega)
      rw [ce] at h1
      obtain ⟨_, hlen, hcell⟩ := World.cells?_some h1
      match cs', hlen with
      | [v0, v1, v2], _ =>
        obtain ⟨z0, z1, z2, rfl, rfl, rfl, k1⟩ := vote_cells h2
        have d0 := hcell 0 (by omega)
        have d1 := hcell 1 (by omega)
        have d2 := hcell 2 (by omega)
        rw [add_add] at d0 d1 d2
        exact ⟨(z0, z1, z2), by simpa using d0, by simpa using d1, by simpa using d2, k1⟩
    by_cases h0 : len = 0
    · exact ⟨[], .inl rfl, h0.symm, fun v hv => by cases hv⟩
    · have : Inhabited (Int × Nat × ByteArray) := ⟨(0, 0, ⟨#[]⟩)⟩
      obtain ⟨q, hq⟩ := choose_lt each
      obtain ⟨b, off, rfl⟩ := plain_addr (by have := (hq 0 (by omega)).1; simpa using this)
      refine ⟨(List.range len).map q, .inr ⟨b, off, rfl, fun j k i x hjs => ?_⟩, by simp, fun v hv => ?_⟩
      · have hj : j < len := by have := (List.getElem?_eq_some_iff.1 hjs).1; simpa using this
        simp [hj] at hjs
        obtain ⟨k0, k1, k2, _⟩ := hq j hj
        rw [Go.WideShapes.add_plain] at k0 k1 k2
        rw [hjs] at k0 k1 k2
        exact ⟨k0, by rw [Nat.add_assoc]; exact k1, by rw [Nat.add_assoc]; exact k2⟩
      · obtain ⟨j, hj, rfl⟩ := List.mem_map.1 hv
        exact (hq j (List.mem_range.1 hj)).2.2.2
end Go.Proofs.Ytmhjmeedoajkjaa
