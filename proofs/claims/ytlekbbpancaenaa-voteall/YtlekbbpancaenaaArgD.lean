/- How two small numbers and plays are read. -/
import Derived.Test.YtlekbbpancaenaaTkP
import Derived.Test.YtlekbbpancaenaaArg
namespace Go.Proofs.Ytlekbbpancaenaa
open Go.ChangeShapes Go.WideShapes Go.RowKit Go.Deep

set_option maxRecDepth 20000 in
theorem open_duo {H : Type} {enc : TypeId × Value → H} {w : World} {r : Reach} {base : Nat} {spare : Nat → Bool} {held : Bool} {v : Value} {d : DataW H} {p : List MemPlace}
    (hv : Value.okWide Try.prog w r base 53 v) (h : DataW.Trod enc Try.prog w 0 spare held 53 v d p) : ∃ (x0 x1 : Nat), v = .agg #[.int .u8 (x0 : Int), .int .u8 (x1 : Int)] ∧ x0 < 256 ∧ x1 < 256 := by
  have cc : Try.prog.cellsOf 53 = 2 := by kernel_rfl
  have c5 : Try.prog.cellsOf 5 = 1 := by kernel_rfl
  have hu := Try.underlying53
  simp only [Value.okWide, hu] at hv
  obtain ⟨cs, rfl, hs, _⟩ := hv
  rw [cc] at hs
  obtain ⟨fuel, hf⟩ := h
  obtain ⟨xs, m, _, _, hl, hxs, hi⟩ := DataW.trod_array hu hf
  obtain ⟨l⟩ := cs
  match l, hs with
  | [a, b], _ =>
    have g0 := hi 0 (by omega)
    have g1 := hi 1 (by omega)
    rw [c5] at g0 g1
    match xs, hxs with
    | [y0, y1], _ =>
      have g0' : DataW.trod enc Try.prog w 0 spare held m 5 [a] = some y0 := g0
      have g1' : DataW.trod enc Try.prog w 0 spare held m 5 [b] = some y1 := g1
      obtain ⟨z0, e0, _, f0⟩ := DataW.trod_int Try.underlying5 g0'
      obtain ⟨z1, e1, _, f1⟩ := DataW.trod_int Try.underlying5 g1'
      simp at e0 e1
      subst e0 e1
      obtain ⟨n0, rfl, k0⟩ := nat_u8 f0
      obtain ⟨n1, rfl, k1⟩ := nat_u8 f1
      exact ⟨n0, n1, rfl, k0, k1⟩

theorem struct58 : ∃ f0 f1 f2 f3 f4 f5 : Field, Try.prog.underlying 58 = some (.struct #[f0, f1, f2, f3, f4, f5]) ∧ (f0.offset = 0 ∧ f1.offset = 1 ∧ f2.offset = 2 ∧ f3.offset = 3 ∧ f4.offset = 4 ∧ f5.offset = 5) ∧ (f0.type = 4 ∧ f1.type = 25 ∧ f2.type = 5 ∧ f3.type = 3 ∧ f4.type = 5 ∧ f5.type = 9) :=
  ⟨_, _, _, _, _, _, Try.underlying58, ⟨rfl, rfl, rfl, rfl, rfl, rfl⟩, ⟨rfl, rfl, rfl, rfl, rfl, rfl⟩⟩
theorem play_cells {H : Type} {enc : TypeId × Value → H} {w : World} {spare : Nat → Bool} {held : Bool} {fuel : Nat} {v0 v1 v2 v3 v4 v5 : Value} {x : DataW H × List MemPlace}
    (h : DataW.trod enc Try.prog w 0 spare held fuel 58 [v0, v1, v2, v3, v4, v5] = some x) : ∃ q : Ply, v0 = .bool q.lie ∧ v1 = .int .u16 (q.at_ : Int) ∧ v2 = .int .u8 (q.to : Int) ∧ v3 = .int .i64 q.kind ∧ v4 = .int .u8 (q.who : Int) ∧ v5 = .string q.body ∧ q.at_ < 65536 ∧ q.to < 256 ∧ q.who < 256 := by
  have c3 : Try.prog.cellsOf 3 = 1 := by kernel_rfl
  have c4 : Try.prog.cellsOf 4 = 1 := by kernel_rfl
  have c5 : Try.prog.cellsOf 5 = 1 := by kernel_rfl
  have c9 : Try.prog.cellsOf 9 = 1 := by kernel_rfl
  have c25 : Try.prog.cellsOf 25 = 1 := by kernel_rfl
  obtain ⟨f0, f1, f2, f3, f4, f5, he, ⟨o0, o1, o2, o3, o4, o5⟩, ⟨t0, t1, t2, t3, t4, t5⟩⟩ := struct58
  obtain ⟨xs, k, hk, hxy, _, hxl, hf⟩ := DataW.trod_struct he h
  match xs, hxl with
  | [y0, y1, y2, y3, y4, y5], _ =>
    have g0 := hf 0 f0 rfl
    have g1 := hf 1 f1 rfl
    have g2 := hf 2 f2 rfl
    have g3 := hf 3 f3 rfl
    have g4 := hf 4 f4 rfl
    have g5 := hf 5 f5 rfl
    simp [o0, o1, o2, o3, o4, o5, t0, t1, t2, t3, t4, t5, c3, c4, c5, c9, c25] at g0 g1 g2 g3 g4 g5
    obtain ⟨z0, e0, _⟩ := DataW.trod_bool Try.underlying4 g0
    simp at e0
    obtain ⟨z1, e1, _, b1⟩ := DataW.trod_int Try.underlying25 g1
    simp at e1
    obtain ⟨n1, rfl, k1⟩ := nat_u16 b1
    obtain ⟨z2, e2, _, b2⟩ := DataW.trod_int Try.underlying5 g2
    simp at e2
    obtain ⟨n2, rfl, k2⟩ := nat_u8 b2
    obtain ⟨z3, e3, _, b3⟩ := DataW.trod_int Try.underlying3 g3
    simp at e3
    obtain ⟨z4, e4, _, b4⟩ := DataW.trod_int Try.underlying5 g4
    simp at e4
    obtain ⟨n4, rfl, k4⟩ := nat_u8 b4
    obtain ⟨z5, e5, _, _⟩ := DataW.trod_string Try.underlying9 g5
    simp at e5
    exact ⟨⟨z0, n1, n2, z3, n4, z5⟩, e0, e1, e2, e3, e4, e5, k1, k2, k4⟩

theorem open_plays {H : Type} {enc : TypeId × Value → H} {w : World} {spare : Nat → Bool} {held : Bool} {fuel : Nat} {a : Option Addr} {len cap : Nat} {x : DataW H × List MemPlace}
    (h : DataW.trod enc Try.prog w 0 spare held fuel 54 [.slice a len cap] = some x) : ∃ l, AtP w a l ∧ l.length = len ∧ ∀ p ∈ l, p.at_ < 65536 ∧ p.to < 256 ∧ p.who < 256 := by
  rcases open_slice Try.underlying54 h with ⟨hcs, _⟩ | ⟨ad, l, c, m, n, D, Pl, hcs, _, hl, hm, hmm, _, hx⟩
  · simp at hcs
    obtain ⟨rfl, rfl, rfl⟩ := hcs
    exact ⟨[], .inl rfl, rfl, fun v hv => by cases hv⟩
  · simp at hcs
    obtain ⟨rfl, rfl, rfl⟩ := hcs
    have hlm : len ≤ m := by rw [hmm]; split <;> omega
    have ce : Try.prog.cellsOf 58 = 6 := by kernel_rfl
    have each : ∀ i, i < len → ∃ q : Ply, w.cell? (ad.add (i * 6)) = some (.bool q.lie) ∧ w.cell? (ad.add (i * 6 + 1)) = some (.int .u16 (q.at_ : Int)) ∧ w.cell? (ad.add (i * 6 + 2)) = some (.int .u8 (q.to : Int)) ∧ w.cell? (ad.add (i * 6 + 3)) = some (.int .i64 q.kind) ∧ w.cell? (ad.add (i * 6 + 4)) = some (.int .u8 (q.who : Int)) ∧ w.cell? (ad.add (i * 6 + 5)) = some (.string q.body) ∧ q.at_ < 65536 ∧ q.to < 256 ∧ q.who < 256 := by
      intro i hi
      obtain ⟨cs', h1, h2⟩ := hx i (by omega)
      rw [ce] at h1
      obtain ⟨_, hlen, hcell⟩ := World.cells?_some h1
      match cs', hlen with
      | [v0, v1, v2, v3, v4, v5], _ =>
        obtain ⟨q, rfl, rfl, rfl, rfl, rfl, rfl, k1⟩ := play_cells h2
        have d0 := hcell 0 (by omega)
        have d1 := hcell 1 (by omega)
        have d2 := hcell 2 (by omega)
        have d3 := hcell 3 (by omega)
        have d4 := hcell 4 (by omega)
        have d5 := hcell 5 (by omega)
        rw [add_add] at d0 d1 d2 d3 d4 d5
        exact ⟨q, by simpa using d0, by simpa using d1, by simpa using d2, by simpa using d3, by simpa using d4, by simpa using d5, k1⟩
    by_cases h0 : len = 0
    · exact ⟨[], .inl rfl, h0.symm, fun v hv => by cases hv⟩
    · haveI : Inhabited Ply := ⟨⟨false, 0, 0, 0, 0, ⟨#[]⟩⟩⟩
      obtain ⟨q, hq⟩ := choose_lt each
      obtain ⟨b, off, rfl⟩ := plain_addr (by have := (hq 0 (by omega)).1; simpa using this)
      refine ⟨(List.range len).map q, .inr ⟨b, off, rfl, fun j p hjs => ?_⟩, by simp, fun v hv => ?_⟩
      · have hj : j < len := by have := (List.getElem?_eq_some_iff.1 hjs).1; simpa using this
        simp [hj] at hjs
        obtain ⟨k0, k1, k2, k3, k4, k5, _⟩ := hq j hj
        rw [Go.WideShapes.add_plain] at k0 k1 k2 k3 k4 k5
        rw [hjs] at k0 k1 k2 k3 k4 k5
        exact ⟨k0, by rw [Nat.add_assoc]; exact k1, by rw [Nat.add_assoc]; exact k2, by rw [Nat.add_assoc]; exact k3, by rw [Nat.add_assoc]; exact k4, by rw [Nat.add_assoc]; exact k5⟩
      · obtain ⟨j, hj, rfl⟩ := List.mem_map.1 hv
        exact (hq j (List.mem_range.1 hj)).2.2.2.2.2.2
end Go.Proofs.Ytlekbbpancaenaa
