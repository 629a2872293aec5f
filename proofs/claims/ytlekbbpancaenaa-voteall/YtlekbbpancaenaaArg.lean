/- How the arguments of the laws are read: places, votes, ballots, cases, plays, small arrays. -/
import Derived.Test.YtlekbbpancaenaaVtM
import Derived.Deep.Slices
import Derived.OpenShut
namespace Go.Proofs.Ytlekbbpancaenaa
open Go.ChangeShapes Go.WideShapes Go.RowKit Go.Deep

theorem nat_u8 {z : Int} (h : (Lit.int .u8 z).wf = true) : ∃ n : Nat, z = (n : Int) ∧ n < 256 := by
  have hb : 0 ≤ z ∧ z ≤ 255 := bounds_u8 h
  exact ⟨z.toNat, by omega, by omega⟩
theorem nat_u16 {z : Int} (h : (Lit.int .u16 z).wf = true) : ∃ n : Nat, z = (n : Int) ∧ n < 65536 := by
  have hb : 0 ≤ z ∧ z ≤ 65535 := bounds_u16 h
  exact ⟨z.toNat, by omega, by omega⟩
theorem plain_addr {w : World} {a : Addr} {v : Value} (h : w.cell? (a.add 0) = some v) : ∃ b off, a = ⟨b, off, none⟩ := by
  obtain ⟨b, off, spot⟩ := a
  have hspot : spot = none := by simpa [Addr.add] using World.cell?_spot h
  subst hspot
  exact ⟨b, off, rfl⟩

theorem flat_cells {w : World} {b off : Nat} {l : Vt.Bal} (h : ∀ (j : Nat) (x : ByteArray) (s : Nat), l[j]? = some (x, s) → w.cell? ⟨b, off + j * 2, none⟩ = some (.string x) ∧ w.cell? ⟨b, off + j * 2 + 1, none⟩ = some (.int .u16 (s : Int))) :
    ∀ j u, (Vt.balC l)[j]? = some u → w.cell? ⟨b, off + j, none⟩ = some u := by
  induction l generalizing off with
  | nil => intro j u hu; simp [Vt.balC] at hu
  | cons c l ih =>
    intro j u hu
    have h0 := h 0 c.1 c.2 rfl
    match j, hu with
    | 0, hu => simp [Vt.balC] at hu; subst hu; simpa using h0.1
    | 1, hu => simp [Vt.balC] at hu; subst hu; simpa using h0.2
    | j + 2, hu =>
      have := ih (off := off + 2) (fun j x s hj => by
        have := h (j + 1) x s (by simpa using hj)
        rw [show off + (j + 1) * 2 = off + 2 + j * 2 by omega] at this
        exact this) j u (by simpa [Vt.balC] using hu)
      rw [show off + (j + 2) = off + 2 + j by omega]
      exact this

theorem struct86 : ∃ f0 f1 : Field, Try.prog.underlying 86 = some (.struct #[f0, f1]) ∧ (f0.offset = 0 ∧ f1.offset = 1) ∧ (f0.type = 9 ∧ f1.type = 26) :=
  ⟨_, _, Try.underlying86, ⟨rfl, rfl⟩, ⟨rfl, rfl⟩⟩
theorem balr_cells {H : Type} {enc : TypeId × Value → H} {w : World} {spare : Nat → Bool} {held : Bool} {fuel : Nat} {v0 v1 : Value} {x : DataW H × List MemPlace}
    (h : DataW.trod enc Try.prog w 0 spare held fuel 86 [v0, v1] = some x) : ∃ (x0 : ByteArray) (x1 : Nat), v0 = .string x0 ∧ v1 = .int .u16 (x1 : Int) ∧ x1 < 65536 := by
  have c9 : Try.prog.cellsOf 9 = 1 := by kernel_rfl
  have c26 : Try.prog.cellsOf 26 = 1 := by kernel_rfl
  obtain ⟨f0, f1, he, ⟨o0, o1⟩, ⟨t0, t1⟩⟩ := struct86
  obtain ⟨xs, k, hk, hxy, _, hxl, hf⟩ := DataW.trod_struct he h
  match xs, hxl with
  | [y0, y1], _ =>
    have g0 := hf 0 f0 rfl
    have g1 := hf 1 f1 rfl
    simp [o0, o1, t0, t1, c9, c26] at g0 g1
    obtain ⟨z0, e0, _, _⟩ := DataW.trod_string Try.underlying9 g0
    simp at e0
    obtain ⟨z1, e1, _, b1⟩ := DataW.trod_int Try.underlying26 g1
    simp at e1
    obtain ⟨n1, rfl, k1⟩ := nat_u16 b1
    exact ⟨z0, n1, e0, e1, k1⟩

/-- Ballots that came in. -/
theorem open_bal {H : Type} {enc : TypeId × Value → H} {w : World} {spare : Nat → Bool} {held : Bool} {fuel : Nat} {v : Value} {x : DataW H × List MemPlace}
    (h : DataW.trod enc Try.prog w 0 spare held fuel 22 [v] = some x) : ∃ (a : Option Addr) (c : Nat) (l : Vt.Bal), v = .slice a l.length c ∧ (Vt.At w a l ∧ Vt.Small l) := by
  rcases open_slice Try.underlying22 h with ⟨hcs, _⟩ | ⟨ad, len, c, m, n, D, Pl, hcs, _, hl, hm, hmm, _, hx⟩
  · simp at hcs
    subst hcs
    exact ⟨none, 0, [], rfl, .inl rfl, fun b hb => by cases hb⟩
  · simp at hcs
    subst hcs
    have hlm : len ≤ m := by rw [hmm]; split <;> omega
    have ce : Try.prog.cellsOf 86 = 2 := by kernel_rfl
    have each : ∀ i, i < len → ∃ q : ByteArray × Nat, w.cell? (ad.add (i * 2)) = some (.string q.1) ∧ w.cell? (ad.add (i * 2 + 1)) = some (.int .u16 (q.2 : Int)) ∧ q.2 < 65536 := by
      intro i hi
      obtain ⟨cs', h1, h2⟩ := hx i (by omega)
      rw [ce] at h1
      obtain ⟨_, hlen, hcell⟩ := World.cells?_some h1
      match cs', hlen with
      | [v0, v1], _ =>
        obtain ⟨z0, z1, rfl, rfl, k1⟩ := balr_cells h2
        have d0 := hcell 0 (by omega)
        have d1 := hcell 1 (by omega)
        rw [add_add] at d0 d1
        exact ⟨(z0, z1), by simpa using d0, by simpa using d1, k1⟩
    by_cases h0 : len = 0
    · subst h0
      exact ⟨some ad, c, [], rfl, .inl rfl, fun b hb => by cases hb⟩
    · obtain ⟨q, hq⟩ := choose_lt each
      obtain ⟨b, off, rfl⟩ := plain_addr (by have := (hq 0 (by omega)).1; simpa using this)
      refine ⟨_, c, (List.range len).map q, by simp, .inr ⟨b, off, rfl, flat_cells fun j x s hjs => ?_⟩, fun y hy => ?_⟩
      · have hj : j < len := by have := (List.getElem?_eq_some_iff.1 hjs).1; simpa using this
        simp [hj] at hjs
        obtain ⟨k0, k1, _⟩ := hq j hj
        rw [Go.WideShapes.add_plain] at k0 k1
        rw [hjs] at k0 k1
        exact ⟨k0, by rw [Nat.add_assoc]; exact k1⟩
      · obtain ⟨j, hj, rfl⟩ := List.mem_map.1 hy
        exact (hq j (List.mem_range.1 hj)).2.2

theorem struct28 : ∃ f0 f1 : Field, Try.prog.underlying 28 = some (.struct #[f0, f1]) ∧ (f0.offset = 0 ∧ f1.offset = 1) ∧ (f0.type = 26 ∧ f1.type = 5) :=
  ⟨_, _, Try.underlying28, ⟨rfl, rfl⟩, ⟨rfl, rfl⟩⟩
theorem place_cells {H : Type} {enc : TypeId × Value → H} {w : World} {spare : Nat → Bool} {held : Bool} {fuel : Nat} {v0 v1 : Value} {x : DataW H × List MemPlace}
    (h : DataW.trod enc Try.prog w 0 spare held fuel 28 [v0, v1] = some x) : ∃ (x0 : Nat) (x1 : Nat), v0 = .int .u16 (x0 : Int) ∧ v1 = .int .u8 (x1 : Int) ∧ x0 < 65536 ∧ x1 < 256 := by
  have c5 : Try.prog.cellsOf 5 = 1 := by kernel_rfl
  have c26 : Try.prog.cellsOf 26 = 1 := by kernel_rfl
  obtain ⟨f0, f1, he, ⟨o0, o1⟩, ⟨t0, t1⟩⟩ := struct28
  obtain ⟨xs, k, hk, hxy, _, hxl, hf⟩ := DataW.trod_struct he h
  match xs, hxl with
  | [y0, y1], _ =>
    have g0 := hf 0 f0 rfl
    have g1 := hf 1 f1 rfl
    simp [o0, o1, t0, t1, c5, c26] at g0 g1
    obtain ⟨z0, e0, _, b0⟩ := DataW.trod_int Try.underlying26 g0
    simp at e0
    obtain ⟨n0, rfl, k0⟩ := nat_u16 b0
    obtain ⟨z1, e1, _, b1⟩ := DataW.trod_int Try.underlying5 g1
    simp at e1
    obtain ⟨n1, rfl, k1⟩ := nat_u8 b1
    exact ⟨n0, n1, e0, e1, k0, k1⟩

set_option maxRecDepth 20000 in
theorem open_place {H : Type} {enc : TypeId × Value → H} {w : World} {r : Reach} {base : Nat} {spare : Nat → Bool} {held : Bool} {v : Value} {d : DataW H} {p : List MemPlace}
    (hv : Value.okWide Try.prog w r base 28 v) (h : DataW.Trod enc Try.prog w 0 spare held 28 v d p) : ∃ (x0 : Nat) (x1 : Nat), v = .agg #[.int .u16 (x0 : Int), .int .u8 (x1 : Int)] ∧ x0 < 65536 ∧ x1 < 256 := by
  have cc : Try.prog.cellsOf 28 = 2 := by kernel_rfl
  have hu := Try.underlying28
  simp only [Value.okWide, hu] at hv
  obtain ⟨cs, rfl, hs, _⟩ := hv
  rw [cc] at hs
  obtain ⟨fuel, hf⟩ := h
  obtain ⟨l⟩ := cs
  match l, hs with
  | [v0, v1], _ =>
    have hf' : DataW.trod enc Try.prog w 0 spare held fuel 28 [v0, v1] = some _ := hf
    obtain ⟨x0, x1, rfl, rfl, k0, k1⟩ := place_cells hf'
    exact ⟨x0, x1, rfl, k0, k1⟩

theorem struct30 : ∃ f0 f1 f2 : Field, Try.prog.underlying 30 = some (.struct #[f0, f1, f2]) ∧ (f0.offset = 0 ∧ f1.offset = 1 ∧ f2.offset = 2) ∧ (f0.type = 3 ∧ f1.type = 5 ∧ f2.type = 9) :=
  ⟨_, _, _, Try.underlying30, ⟨rfl, rfl, rfl⟩, ⟨rfl, rfl, rfl⟩⟩
theorem vote_cells {H : Type} {enc : TypeId × Value → H} {w : World} {spare : Nat → Bool} {held : Bool} {fuel : Nat} {v0 v1 v2 : Value} {x : DataW H × List MemPlace}
    (h : DataW.trod enc Try.prog w 0 spare held fuel 30 [v0, v1, v2] = some x) : ∃ (x0 : Int) (x1 : Nat) (x2 : ByteArray), v0 = .int .i64 x0 ∧ v1 = .int .u8 (x1 : Int) ∧ v2 = .string x2 ∧ x1 < 256 := by
  have c3 : Try.prog.cellsOf 3 = 1 := by kernel_rfl
  have c5 : Try.prog.cellsOf 5 = 1 := by kernel_rfl
  have c9 : Try.prog.cellsOf 9 = 1 := by kernel_rfl
  obtain ⟨f0, f1, f2, he, ⟨o0, o1, o2⟩, ⟨t0, t1, t2⟩⟩ := struct30
  obtain ⟨xs, k, hk, hxy, _, hxl, hf⟩ := DataW.trod_struct he h
  match xs, hxl with
  | [y0, y1, y2], _ =>
    have g0 := hf 0 f0 rfl
    have g1 := hf 1 f1 rfl
    have g2 := hf 2 f2 rfl
    simp [o0, o1, o2, t0, t1, t2, c3, c5, c9] at g0 g1 g2
    obtain ⟨z0, e0, _, b0⟩ := DataW.trod_int Try.underlying3 g0
    simp at e0
    obtain ⟨z1, e1, _, b1⟩ := DataW.trod_int Try.underlying5 g1
    simp at e1
    obtain ⟨n1, rfl, k1⟩ := nat_u8 b1
    obtain ⟨z2, e2, _, _⟩ := DataW.trod_string Try.underlying9 g2
    simp at e2
    exact ⟨z0, n1, z2, e0, e1, e2, k1⟩

set_option maxRecDepth 20000 in
theorem open_vote {H : Type} {enc : TypeId × Value → H} {w : World} {r : Reach} {base : Nat} {spare : Nat → Bool} {held : Bool} {v : Value} {d : DataW H} {p : List MemPlace}
    (hv : Value.okWide Try.prog w r base 30 v) (h : DataW.Trod enc Try.prog w 0 spare held 30 v d p) : ∃ (x0 : Int) (x1 : Nat) (x2 : ByteArray), v = .agg #[.int .i64 x0, .int .u8 (x1 : Int), .string x2] ∧ x1 < 256 := by
  have cc : Try.prog.cellsOf 30 = 3 := by kernel_rfl
  have hu := Try.underlying30
  simp only [Value.okWide, hu] at hv
  obtain ⟨cs, rfl, hs, _⟩ := hv
  rw [cc] at hs
  obtain ⟨fuel, hf⟩ := h
  obtain ⟨l⟩ := cs
  match l, hs with
  | [v0, v1, v2], _ =>
    have hf' : DataW.trod enc Try.prog w 0 spare held fuel 30 [v0, v1, v2] = some _ := hf
    obtain ⟨x0, x1, x2, rfl, rfl, rfl, k0⟩ := vote_cells hf'
    exact ⟨x0, x1, x2, rfl, k0⟩

theorem struct24 : ∃ f0 f1 f2 f3 f4 : Field, Try.prog.underlying 24 = some (.struct #[f0, f1, f2, f3, f4]) ∧ (f0.offset = 0 ∧ f1.offset = 1 ∧ f2.offset = 2 ∧ f3.offset = 3 ∧ f4.offset = 4) ∧ (f0.type = 4 ∧ f1.type = 4 ∧ f2.type = 4 ∧ f3.type = 22 ∧ f4.type = 22) :=
  ⟨_, _, _, _, _, Try.underlying24, ⟨rfl, rfl, rfl, rfl, rfl⟩, ⟨rfl, rfl, rfl, rfl, rfl⟩⟩
theorem case_cells {H : Type} {enc : TypeId × Value → H} {w : World} {spare : Nat → Bool} {held : Bool} {fuel : Nat} {v0 v1 v2 v3 v4 : Value} {x : DataW H × List MemPlace}
    (h : DataW.trod enc Try.prog w 0 spare held fuel 24 [v0, v1, v2, v3, v4] = some x) : ∃ (x0 : Bool) (x1 : Bool) (x2 : Bool) (a3 : Option Addr) (c3 : Nat) (l3 : Vt.Bal) (a4 : Option Addr) (c4 : Nat) (l4 : Vt.Bal), v0 = .bool x0 ∧ v1 = .bool x1 ∧ v2 = .bool x2 ∧ v3 = .slice a3 l3.length c3 ∧ v4 = .slice a4 l4.length c4 ∧ (Vt.At w a3 l3 ∧ Vt.Small l3) ∧ (Vt.At w a4 l4 ∧ Vt.Small l4) := by
  have c4 : Try.prog.cellsOf 4 = 1 := by kernel_rfl
  have c22 : Try.prog.cellsOf 22 = 1 := by kernel_rfl
  obtain ⟨f0, f1, f2, f3, f4, he, ⟨o0, o1, o2, o3, o4⟩, ⟨t0, t1, t2, t3, t4⟩⟩ := struct24
  obtain ⟨xs, k, hk, hxy, _, hxl, hf⟩ := DataW.trod_struct he h
  match xs, hxl with
  | [y0, y1, y2, y3, y4], _ =>
    have g0 := hf 0 f0 rfl
    have g1 := hf 1 f1 rfl
    have g2 := hf 2 f2 rfl
    have g3 := hf 3 f3 rfl
    have g4 := hf 4 f4 rfl
    simp [o0, o1, o2, o3, o4, t0, t1, t2, t3, t4, c4, c22] at g0 g1 g2 g3 g4
    obtain ⟨z0, e0, _⟩ := DataW.trod_bool Try.underlying4 g0
    simp at e0
    obtain ⟨z1, e1, _⟩ := DataW.trod_bool Try.underlying4 g1
    simp at e1
    obtain ⟨z2, e2, _⟩ := DataW.trod_bool Try.underlying4 g2
    simp at e2
    obtain ⟨a3, c3, l3, e3, b3⟩ := open_bal g3
    obtain ⟨a4, c4, l4, e4, b4⟩ := open_bal g4
    exact ⟨z0, z1, z2, a3, c3, l3, a4, c4, l4, e0, e1, e2, e3, e4, b3, b4⟩

set_option maxRecDepth 20000 in
theorem open_case {H : Type} {enc : TypeId × Value → H} {w : World} {r : Reach} {base : Nat} {spare : Nat → Bool} {held : Bool} {v : Value} {d : DataW H} {p : List MemPlace}
    (hv : Value.okWide Try.prog w r base 24 v) (h : DataW.Trod enc Try.prog w 0 spare held 24 v d p) : ∃ (x0 : Bool) (x1 : Bool) (x2 : Bool) (a3 : Option Addr) (c3 : Nat) (l3 : Vt.Bal) (a4 : Option Addr) (c4 : Nat) (l4 : Vt.Bal), v = .agg #[.bool x0, .bool x1, .bool x2, .slice a3 l3.length c3, .slice a4 l4.length c4] ∧ (Vt.At w a3 l3 ∧ Vt.Small l3) ∧ (Vt.At w a4 l4 ∧ Vt.Small l4) := by
  have cc : Try.prog.cellsOf 24 = 5 := by kernel_rfl
  have hu := Try.underlying24
  simp only [Value.okWide, hu] at hv
  obtain ⟨cs, rfl, hs, _⟩ := hv
  rw [cc] at hs
  obtain ⟨fuel, hf⟩ := h
  obtain ⟨l⟩ := cs
  match l, hs with
  | [v0, v1, v2, v3, v4], _ =>
    have hf' : DataW.trod enc Try.prog w 0 spare held fuel 24 [v0, v1, v2, v3, v4] = some _ := hf
    obtain ⟨x0, x1, x2, a3, c3, l3, a4, c4, l4, rfl, rfl, rfl, rfl, rfl, k0, k1⟩ := case_cells hf'
    exact ⟨x0, x1, x2, a3, c3, l3, a4, c4, l4, rfl, k0, k1⟩

theorem open_votes {H : Type} {enc : TypeId × Value → H} {w : World} {spare : Nat → Bool} {held : Bool} {fuel : Nat} {a : Option Addr} {len cap : Nat} {x : DataW H × List MemPlace}
    (h : DataW.trod enc Try.prog w 0 spare held fuel 51 [.slice a len cap] = some x) : ∃ l, AtV w a l ∧ l.length = len ∧ ∀ v ∈ l, v.2.1 < 256 := by
  rcases open_slice Try.underlying51 h with ⟨hcs, _⟩ | ⟨ad, l, c, m, n, D, Pl, hcs, _, hl, hm, hmm, _, hx⟩
  · simp at hcs
    obtain ⟨rfl, rfl, rfl⟩ := hcs
    exact ⟨[], .inl rfl, rfl, fun v hv => by cases hv⟩
  · simp at hcs
    obtain ⟨rfl, rfl, rfl⟩ := hcs
    have hlm : len ≤ m := by rw [hmm]; split <;> omega
    have ce : Try.prog.cellsOf 30 = 3 := by kernel_rfl
    have each : ∀ i, i < len → ∃ q : Int × Nat × ByteArray, w.cell? (ad.add (i * 3)) = some (.int .i64 q.1) ∧ w.cell? (ad.add (i * 3 + 1)) = some (.int .u8 (q.2.1 : Int)) ∧ w.cell? (ad.add (i * 3 + 2)) = some (.string q.2.2) ∧ q.2.1 < 256 := by
      intro i hi
      obtain ⟨cs', h1, h2⟩ := hx i (by omega)
      rw [ce] at h1
      obtain ⟨_, hlen, hcell⟩ := World.cells?_some h1
      match cs', hlen with
      | [v0, v1, v2], _ =>
        obtain ⟨z0, z1, z2, rfl, rfl, rfl, k1⟩ := vote_cells h2
        have d0 := hcell 0 (by omega)
        have d1 := hcell 1 (by omega)
        have d2 := hcell 2 (by omega)
        rw [add_add] at d0 d1 d2
        exact ⟨(z0, z1, z2), by simpa using d0, by simpa using d1, by simpa using d2, k1⟩
    by_cases h0 : len = 0
    · exact ⟨[], .inl rfl, h0.symm, fun v hv => by cases hv⟩
    · obtain ⟨q, hq⟩ := choose_lt each
      obtain ⟨b, off, rfl⟩ := plain_addr (by have := (hq 0 (by omega)).1; simpa using this)
      refine ⟨(List.range len).map q, .inr ⟨b, off, rfl, fun j k i x hjs => ?_⟩, by simp, fun v hv => ?_⟩
      · have hj : j < len := by have := (List.getElem?_eq_some_iff.1 hjs).1; simpa using this
        simp [hj] at hjs
        obtain ⟨k0, k1, k2, _⟩ := hq j hj
        rw [Go.WideShapes.add_plain] at k0 k1 k2
        rw [hjs] at k0 k1 k2
        exact ⟨k0, by rw [Nat.add_assoc]; exact k1, by rw [Nat.add_assoc]; exact k2⟩
      · obtain ⟨j, hj, rfl⟩ := List.mem_map.1 hv
        exact (hq j (List.mem_range.1 hj)).2.2.2
end Go.Proofs.Ytlekbbpancaenaa
