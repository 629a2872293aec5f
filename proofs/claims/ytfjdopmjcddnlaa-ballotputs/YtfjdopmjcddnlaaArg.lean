/- How the arguments of the laws are read: views, changes, casts, boxes. -/
import Derived.Test.YtfjdopmjcddnlaaBtB
import Derived.Deep.Slices
import Derived.OpenShut
namespace Go.Proofs.Ytfjdopmjcddnlaa
open Go.ChangeShapes Go.WideShapes Go.RowKit Go.Deep
namespace Rl
theorem nat_u8 {z : Int} (h : (Lit.int .u8 z).wf = true) : ∃ n : Nat, z = (n : Int) ∧ n < 256 := by
  have hb : 0 ≤ z ∧ z ≤ 255 := bounds_u8 h
  exact ⟨z.toNat, by omega, by omega⟩
theorem nat_u16 {z : Int} (h : (Lit.int .u16 z).wf = true) : ∃ n : Nat, z = (n : Int) ∧ n < 65536 := by
  have hb : 0 ≤ z ∧ z ≤ 65535 := bounds_u16 h
  exact ⟨z.toNat, by omega, by omega⟩
theorem struct25 : ∃ f0 f1 : Field, Try.prog.underlying 25 = some (.struct #[f0, f1]) ∧ (f0.offset = 0 ∧ f1.offset = 1) ∧ (f0.type = 3 ∧ f1.type = 23) :=
  ⟨_, _, Try.underlying25, ⟨rfl, rfl⟩, ⟨rfl, rfl⟩⟩
theorem struct30 : ∃ f0 f1 : Field, Try.prog.underlying 30 = some (.struct #[f0, f1]) ∧ (f0.offset = 0 ∧ f1.offset = 1) ∧ (f0.type = 4 ∧ f1.type = 5) :=
  ⟨_, _, Try.underlying30, ⟨rfl, rfl⟩, ⟨rfl, rfl⟩⟩
theorem roll_cells {H : Type} {enc : TypeId × Value → H} {w : World} {spare : Nat → Bool} {held : Bool} {fuel : Nat} {v0 v1 : Value} {x : DataW H × List MemPlace}
    (h : DataW.trod enc Try.prog w 0 spare held fuel 25 [v0, v1] = some x) : ∃ (x0 : Int) (x1 : Nat), v0 = .int .i64 x0 ∧ v1 = .int .u16 (x1 : Int) ∧ x1 < 65536 := by
  have c3 : Try.prog.cellsOf 3 = 1 := by kernel_rfl
  have c23 : Try.prog.cellsOf 23 = 1 := by kernel_rfl
  obtain ⟨f0, f1, he, ⟨o0, o1⟩, ⟨t0, t1⟩⟩ := struct25
  obtain ⟨xs, k, hk, hxy, _, hxl, hf⟩ := DataW.trod_struct he h
  match xs, hxl with
  | [y0, y1], _ =>
    have g0 := hf 0 f0 rfl
    have g1 := hf 1 f1 rfl
    simp [o0, o1, t0, t1, c3, c23] at g0 g1
    obtain ⟨z0, e0, _, b0⟩ := DataW.trod_int Try.underlying3 g0
    simp at e0
    obtain ⟨z1, e1, _, b1⟩ := DataW.trod_int Try.underlying23 g1
    simp at e1
    obtain ⟨n1, rfl, k1⟩ := nat_u16 b1
    exact ⟨z0, n1, e0, e1, k1⟩
theorem ch_cells {H : Type} {enc : TypeId × Value → H} {w : World} {spare : Nat → Bool} {held : Bool} {fuel : Nat} {v0 v1 : Value} {x : DataW H × List MemPlace}
    (h : DataW.trod enc Try.prog w 0 spare held fuel 30 [v0, v1] = some x) : ∃ (x0 : Bool) (x1 : Nat), v0 = .bool x0 ∧ v1 = .int .u8 (x1 : Int) ∧ x1 < 256 := by
  have c4 : Try.prog.cellsOf 4 = 1 := by kernel_rfl
  have c5 : Try.prog.cellsOf 5 = 1 := by kernel_rfl
  obtain ⟨f0, f1, he, ⟨o0, o1⟩, ⟨t0, t1⟩⟩ := struct30
  obtain ⟨xs, k, hk, hxy, _, hxl, hf⟩ := DataW.trod_struct he h
  match xs, hxl with
  | [y0, y1], _ =>
    have g0 := hf 0 f0 rfl
    have g1 := hf 1 f1 rfl
    simp [o0, o1, t0, t1, c4, c5] at g0 g1
    obtain ⟨z0, e0, _⟩ := DataW.trod_bool Try.underlying4 g0
    simp at e0
    obtain ⟨z1, e1, _, b1⟩ := DataW.trod_int Try.underlying5 g1
    simp at e1
    obtain ⟨n1, rfl, k1⟩ := nat_u8 b1
    exact ⟨z0, n1, e0, e1, k1⟩
set_option maxRecDepth 20000 in
theorem open_roll {H : Type} {enc : TypeId × Value → H} {w : World} {r : Reach} {base : Nat} {spare : Nat → Bool} {held : Bool} {v : Value} {d : DataW H} {p : List MemPlace}
    (hv : Value.okWide Try.prog w r base 25 v) (h : DataW.Trod enc Try.prog w 0 spare held 25 v d p) : ∃ (x0 : Int) (x1 : Nat), v = rollV x0 x1 ∧ x1 < 65536 := by
  have cc : Try.prog.cellsOf 25 = 2 := by kernel_rfl
  have hu := Try.underlying25
  simp only [Value.okWide, hu] at hv
  obtain ⟨cs, rfl, hs, _⟩ := hv
  rw [cc] at hs
  obtain ⟨fuel, hf⟩ := h
  obtain ⟨l⟩ := cs
  match l, hs with
  | [v0, v1], _ =>
    have hf' : DataW.trod enc Try.prog w 0 spare held fuel 25 [v0, v1] = some _ := hf
    obtain ⟨x0, x1, rfl, rfl, k1⟩ := roll_cells hf'
    exact ⟨x0, x1, rfl, k1⟩
set_option maxRecDepth 20000 in
theorem open_ch {H : Type} {enc : TypeId × Value → H} {w : World} {r : Reach} {base : Nat} {spare : Nat → Bool} {held : Bool} {v : Value} {d : DataW H} {p : List MemPlace}
    (hv : Value.okWide Try.prog w r base 30 v) (h : DataW.Trod enc Try.prog w 0 spare held 30 v d p) : ∃ (x0 : Bool) (x1 : Nat), v = chV x0 x1 ∧ x1 < 256 := by
  have cc : Try.prog.cellsOf 30 = 2 := by kernel_rfl
  have hu := Try.underlying30
  simp only [Value.okWide, hu] at hv
  obtain ⟨cs, rfl, hs, _⟩ := hv
  rw [cc] at hs
  obtain ⟨fuel, hf⟩ := h
  obtain ⟨l⟩ := cs
  match l, hs with
  | [v0, v1], _ =>
    have hf' : DataW.trod enc Try.prog w 0 spare held fuel 30 [v0, v1] = some _ := hf
    obtain ⟨x0, x1, rfl, rfl, k1⟩ := ch_cells hf'
    exact ⟨x0, x1, rfl, k1⟩
end Rl
open Cn Rl Bt
theorem plain_addr {w : World} {a : Addr} {v : Value} (h : w.cell? (a.add 0) = some v) : ∃ b off, a = ⟨b, off, none⟩ := by
  obtain ⟨b, off, spot⟩ := a
  have hspot : spot = none := by simpa [Addr.add] using World.cell?_spot h
  subst hspot
  exact ⟨b, off, rfl⟩
theorem struct32 : ∃ f0 f1 : Field, Try.prog.underlying 32 = some (.struct #[f0, f1]) ∧ (f0.offset = 0 ∧ f1.offset = 1) ∧ (f0.type = 5 ∧ f1.type = 30) :=
  ⟨_, _, Try.underlying32, ⟨rfl, rfl⟩, ⟨rfl, rfl⟩⟩
theorem cast_cells {H : Type} {enc : TypeId × Value → H} {w : World} {spare : Nat → Bool} {held : Bool} {fuel : Nat} {v0 v1 v2 : Value} {x : DataW H × List MemPlace}
    (h : DataW.trod enc Try.prog w 0 spare held fuel 32 [v0, v1, v2] = some x) : ∃ c : Ct, v0 = .int .u8 (c.1 : Int) ∧ v1 = .bool c.2.1 ∧ v2 = .int .u8 (c.2.2 : Int) ∧ c.1 < 256 ∧ c.2.2 < 256 := by
  have c5 : Try.prog.cellsOf 5 = 1 := by kernel_rfl
  have c30 : Try.prog.cellsOf 30 = 2 := by kernel_rfl
  obtain ⟨f0, f1, he, ⟨o0, o1⟩, ⟨t0, t1⟩⟩ := struct32
  obtain ⟨xs, k, hk, hxy, _, hxl, hf⟩ := DataW.trod_struct he h
  match xs, hxl with
  | [y0, y1], _ =>
    have g0 := hf 0 f0 rfl
    have g1 := hf 1 f1 rfl
    simp [o0, o1, t0, t1, c5, c30] at g0 g1
    obtain ⟨z0, e0, _, b0⟩ := DataW.trod_int Try.underlying5 g0
    simp at e0
    obtain ⟨n0, rfl, k0⟩ := nat_u8 b0
    obtain ⟨x0, x1, rfl, rfl, k1⟩ := ch_cells g1
    exact ⟨(n0, x0, x1), e0, rfl, rfl, k0, k1⟩
set_option maxRecDepth 20000 in
theorem open_cast {H : Type} {enc : TypeId × Value → H} {w : World} {r : Reach} {base : Nat} {spare : Nat → Bool} {held : Bool} {v : Value} {d : DataW H} {p : List MemPlace}
    (hv : Value.okWide Try.prog w r base 32 v) (h : DataW.Trod enc Try.prog w 0 spare held 32 v d p) : ∃ c : Ct, v = castV c ∧ c.1 < 256 ∧ c.2.2 < 256 := by
  have cc : Try.prog.cellsOf 32 = 3 := by kernel_rfl
  have hu := Try.underlying32
  simp only [Value.okWide, hu] at hv
  obtain ⟨cs, rfl, hs, _⟩ := hv
  rw [cc] at hs
  obtain ⟨fuel, hf⟩ := h
  obtain ⟨l⟩ := cs
  match l, hs with
  | [v0, v1, v2], _ =>
    have hf' : DataW.trod enc Try.prog w 0 spare held fuel 32 [v0, v1, v2] = some _ := hf
    obtain ⟨c, rfl, rfl, rfl, k⟩ := cast_cells hf'
    exact ⟨c, rfl, k⟩
set_option maxRecDepth 20000 in
theorem open_two {H : Type} {enc : TypeId × Value → H} {w : World} {r : Reach} {base : Nat} {spare : Nat → Bool} {held : Bool} {v : Value} {d : DataW H} {p : List MemPlace}
    (hv : Value.okWide Try.prog w r base 63 v) (h : DataW.Trod enc Try.prog w 0 spare held 63 v d p) : ∃ x y : Bool × Nat, v = .agg #[.bool x.1, .int .u8 (x.2 : Int), .bool y.1, .int .u8 (y.2 : Int)] ∧ x.2 < 256 ∧ y.2 < 256 := by
  have cc : Try.prog.cellsOf 63 = 4 := by kernel_rfl
  have c30 : Try.prog.cellsOf 30 = 2 := by kernel_rfl
  have hu := Try.underlying63
  simp only [Value.okWide, hu] at hv
  obtain ⟨cs, rfl, hs, _⟩ := hv
  rw [cc] at hs
  obtain ⟨fuel, hf⟩ := h
  obtain ⟨xs, m, _, _, hl, hxs, hi⟩ := DataW.trod_array hu hf
  obtain ⟨l⟩ := cs
  match l, hs with
  | [a, b, c, e], _ =>
    have g0 := hi 0 (by omega)
    have g1 := hi 1 (by omega)
    rw [c30] at g0 g1
    match xs, hxs with
    | [y0, y1], _ =>
      have g0' : DataW.trod enc Try.prog w 0 spare held m 30 [a, b] = some y0 := g0
      have g1' : DataW.trod enc Try.prog w 0 spare held m 30 [c, e] = some y1 := g1
      obtain ⟨x0, x1, rfl, rfl, k0⟩ := ch_cells g0'
      obtain ⟨x2, x3, rfl, rfl, k1⟩ := ch_cells g1'
      exact ⟨(x0, x1), (x2, x3), rfl, k0, k1⟩
theorem flat_cells {w : World} {b off : Nat} {l : List Ct} (h : ∀ (j : Nat) (c : Ct), l[j]? = some c → w.cell? ⟨b, off + j * 3, none⟩ = some (.int .u8 (c.1 : Int)) ∧ w.cell? ⟨b, off + j * 3 + 1, none⟩ = some (.bool c.2.1) ∧ w.cell? ⟨b, off + j * 3 + 2, none⟩ = some (.int .u8 (c.2.2 : Int))) :
    ∀ j u, (rowC l)[j]? = some u → w.cell? ⟨b, off + j, none⟩ = some u := by
  induction l generalizing off with
  | nil => intro j u hu; simp [rowC] at hu
  | cons c l ih =>
    intro j u hu
    have h0 := h 0 c rfl
    match j, hu with
    | 0, hu => simp [rowC, encC] at hu; subst hu; simpa using h0.1
    | 1, hu => simp [rowC, encC] at hu; subst hu; simpa using h0.2.1
    | 2, hu => simp [rowC, encC] at hu; subst hu; simpa using h0.2.2
    | j + 3, hu =>
      have := ih (off := off + 3) (fun j c hj => by
        have := h (j + 1) c (by simpa using hj)
        rw [show off + (j + 1) * 3 = off + 3 + j * 3 by omega] at this
        exact this) j u (by simpa [rowC, encC] using hu)
      rw [show off + (j + 3) = off + 3 + j by omega]
      exact this
/-- Casts that came in. -/
theorem open_casts {H : Type} {enc : TypeId × Value → H} {w : World} {spare : Nat → Bool} {held : Bool} {fuel : Nat} {v : Value} {x : DataW H × List MemPlace}
    (h : DataW.trod enc Try.prog w 0 spare held fuel 26 [v] = some x) : ∃ a c l, v = .slice a l.length c ∧ AtC w a l ∧ ∀ z ∈ l, z.1 < 256 ∧ z.2.2 < 256 := by
  rcases open_slice Try.underlying26 h with ⟨hcs, _⟩ | ⟨ad, len, c, m, n, D, Pl, hcs, _, hl, hm, hmm, _, hx⟩
  · simp at hcs
    subst hcs
    exact ⟨none, 0, [], rfl, .inl rfl, fun b hb => by cases hb⟩
  · simp at hcs
    subst hcs
    have hlm : len ≤ m := by rw [hmm]; split <;> omega
    have ce : Try.prog.cellsOf 32 = 3 := by kernel_rfl
    have each : ∀ i, i < len → ∃ q : Ct, w.cell? (ad.add (i * 3)) = some (.int .u8 (q.1 : Int)) ∧ w.cell? (ad.add (i * 3 + 1)) = some (.bool q.2.1) ∧ w.cell? (ad.add (i * 3 + 2)) = some (.int .u8 (q.2.2 : Int)) ∧ q.1 < 256 ∧ q.2.2 < 256 := by
      intro i hi
      obtain ⟨cs', h1, h2⟩ := hx i (by omega)
      rw [ce] at h1
      obtain ⟨_, hlen, hcell⟩ := World.cells?_some h1
      match cs', hlen with
      | [v0, v1, v2], _ =>
        obtain ⟨q, rfl, rfl, rfl, k1⟩ := cast_cells h2
        have d0 := hcell 0 (by omega)
        have d1 := hcell 1 (by omega)
        have d2 := hcell 2 (by omega)
        rw [add_add] at d0 d1 d2
        exact ⟨q, by simpa using d0, by simpa using d1, by simpa using d2, k1⟩
    by_cases h0 : len = 0
    · subst h0
      exact ⟨some ad, c, [], rfl, .inl rfl, fun b hb => by cases hb⟩
    · obtain ⟨q, hq⟩ := choose_lt each
      obtain ⟨b, off, rfl⟩ := plain_addr (by have := (hq 0 (by omega)).1; simpa using this)
      refine ⟨some ⟨b, off, none⟩, c, (List.range len).map q, by simp, .inr ⟨b, off, rfl, flat_cells fun j z hjs => ?_⟩, fun y hy => ?_⟩
      · have hj : j < len := by have := (List.getElem?_eq_some_iff.1 hjs).1; simpa using this
        simp [hj] at hjs
        subst hjs
        obtain ⟨k0, k1, k2, _⟩ := hq j hj
        rw [Go.WideShapes.add_plain] at k0 k1 k2
        exact ⟨k0, by rw [Nat.add_assoc]; exact k1, by rw [Nat.add_assoc]; exact k2⟩
      · obtain ⟨j, hj, rfl⟩ := List.mem_map.1 hy
        exact (hq j (List.mem_range.1 hj)).2.2.2
theorem struct28 : ∃ f0 f1 : Field, Try.prog.underlying 28 = some (.struct #[f0, f1]) ∧ (f0.offset = 0 ∧ f1.offset = 2) ∧ (f0.type = 25 ∧ f1.type = 26) :=
  ⟨_, _, Try.underlying28, ⟨rfl, rfl⟩, ⟨rfl, rfl⟩⟩
set_option maxRecDepth 20000 in
theorem open_box {H : Type} {enc : TypeId × Value → H} {w : World} {r : Reach} {base : Nat} {spare : Nat → Bool} {held : Bool} {v : Value} {d : DataW H} {p : List MemPlace}
    (hv : Value.okWide Try.prog w r base 28 v) (h : DataW.Trod enc Try.prog w 0 spare held 28 v d p) : ∃ (x0 : Int) (x1 : Nat) (a : Option Addr) (c : Nat) (l : List Ct), v = boxV x0 x1 (.slice a l.length c) ∧ x1 < 65536 ∧ AtC w a l ∧ ∀ z ∈ l, z.1 < 256 ∧ z.2.2 < 256 := by
  have cc : Try.prog.cellsOf 28 = 3 := by kernel_rfl
  have c25 : Try.prog.cellsOf 25 = 2 := by kernel_rfl
  have c26 : Try.prog.cellsOf 26 = 1 := by kernel_rfl
  have hu := Try.underlying28
  simp only [Value.okWide, hu] at hv
  obtain ⟨cs, rfl, hs, _⟩ := hv
  rw [cc] at hs
  obtain ⟨fuel, hf⟩ := h
  obtain ⟨l⟩ := cs
  match l, hs with
  | [v0, v1, v2], _ =>
    have hf' : DataW.trod enc Try.prog w 0 spare held fuel 28 [v0, v1, v2] = some _ := hf
    obtain ⟨f0, f1, he, ⟨o0, o1⟩, ⟨t0, t1⟩⟩ := struct28
    obtain ⟨xs, k, hk, hxy, _, hxl, hff⟩ := DataW.trod_struct he hf'
    match xs, hxl with
    | [y0, y1], _ =>
      have g0 := hff 0 f0 rfl
      have g1 := hff 1 f1 rfl
      simp [o0, o1, t0, t1, c25, c26] at g0 g1
      obtain ⟨x0, x1, rfl, rfl, k0⟩ := roll_cells g0
      obtain ⟨a, c, l, rfl, h1, h2⟩ := open_casts g1
      exact ⟨x0, x1, a, c, l, rfl, k0, h1, h2⟩
end Go.Proofs.Ytfjdopmjcddnlaa
