/- How the arguments of the laws are read: names, acts. -/
import Derived.Test.YtmhjmeedoajkjaaTbW
import Derived.Deep.Slices
import Derived.OpenShut
namespace Go.Proofs.Ytmhjmeedoajkjaa
open Go.ChangeShapes Go.WideShapes Go.RowKit Go.Deep

theorem nat_u8 {z : Int} (h : (Lit.int .u8 z).wf = true) : ∃ n : Nat, z = (n : Int) ∧ n < 256 := by
  have hb : 0 ≤ z ∧ z ≤ 255 := bounds_u8 h
  exact ⟨z.toNat, by omega, by omega⟩
theorem nat_u16 {z : Int} (h : (Lit.int .u16 z).wf = true) : ∃ n : Nat, z = (n : Int) ∧ n < 65536 := by
  have hb : 0 ≤ z ∧ z ≤ 65535 := bounds_u16 h
  exact ⟨z.toNat, by omega, by omega⟩
theorem plain_addr {w : World} {a : Addr} {v : Value} (h : w.cell? (a.add 0) = some v) : ∃ b off, a = ⟨b, off, none⟩ := by
  obtain ⟨b, off, spot⟩ := a
  have hspot : spot = none := by simpa [Addr.add] using World.cell?_spot h
  subst hspot
  exact ⟨b, off, rfl⟩

theorem struct33 : ∃ f0 f1 f2 : Field, Try.prog.underlying 33 = some (.struct #[f0, f1, f2]) ∧ (f0.offset = 0 ∧ f1.offset = 1 ∧ f2.offset = 2) ∧ (f0.type = 3 ∧ f1.type = 5 ∧ f2.type = 3) :=
  ⟨_, _, _, Try.underlying33, ⟨rfl, rfl, rfl⟩, ⟨rfl, rfl, rfl⟩⟩
theorem name_cells {H : Type} {enc : TypeId × Value → H} {w : World} {spare : Nat → Bool} {held : Bool} {fuel : Nat} {v0 v1 v2 : Value} {x : DataW H × List MemPlace}
    (h : DataW.trod enc Try.prog w 0 spare held fuel 33 [v0, v1, v2] = some x) : ∃ (x0 : Int) (x1 : Nat) (x2 : Int), v0 = .int .i64 x0 ∧ v1 = .int .u8 (x1 : Int) ∧ v2 = .int .i64 x2 ∧ x1 < 256 := by
  have c3 : Try.prog.cellsOf 3 = 1 := by kernel_rfl
  have c5 : Try.prog.cellsOf 5 = 1 := by kernel_rfl
  obtain ⟨f0, f1, f2, he, ⟨o0, o1, o2⟩, ⟨t0, t1, t2⟩⟩ := struct33
  obtain ⟨xs, k, hk, hxy, _, hxl, hf⟩ := DataW.trod_struct he h
  match xs, hxl with
  | [y0, y1, y2], _ =>
    have g0 := hf 0 f0 rfl
    have g1 := hf 1 f1 rfl
    have g2 := hf 2 f2 rfl
    simp [o0, o1, o2, t0, t1, t2, c3, c5] at g0 g1 g2
    obtain ⟨z0, e0, _, b0⟩ := DataW.trod_int Try.underlying3 g0
    simp at e0
    obtain ⟨z1, e1, _, b1⟩ := DataW.trod_int Try.underlying5 g1
    simp at e1
    obtain ⟨n1, rfl, k1⟩ := nat_u8 b1
    obtain ⟨z2, e2, _, b2⟩ := DataW.trod_int Try.underlying3 g2
    simp at e2
    exact ⟨z0, n1, z2, e0, e1, e2, k1⟩
set_option maxRecDepth 20000 in
theorem open_name {H : Type} {enc : TypeId × Value → H} {w : World} {r : Reach} {base : Nat} {spare : Nat → Bool} {held : Bool} {v : Value} {d : DataW H} {p : List MemPlace}
    (hv : Value.okWide Try.prog w r base 33 v) (h : DataW.Trod enc Try.prog w 0 spare held 33 v d p) : ∃ (x0 : Int) (x1 : Nat) (x2 : Int), v = .agg #[.int .i64 x0, .int .u8 (x1 : Int), .int .i64 x2] ∧ x1 < 256 := by
  have cc : Try.prog.cellsOf 33 = 3 := by kernel_rfl
  have hu := Try.underlying33
  simp only [Value.okWide, hu] at hv
  obtain ⟨cs, rfl, hs, _⟩ := hv
  rw [cc] at hs
  obtain ⟨fuel, hf⟩ := h
  obtain ⟨l⟩ := cs
  match l, hs with
  | [v0, v1, v2], _ =>
    have hf' : DataW.trod enc Try.prog w 0 spare held fuel 33 [v0, v1, v2] = some _ := hf
    obtain ⟨x0, x1, x2, rfl, rfl, rfl, k1⟩ := name_cells hf'
    exact ⟨x0, x1, x2, rfl, k1⟩

theorem struct35 : ∃ f0 f1 f2 f3 : Field, Try.prog.underlying 35 = some (.struct #[f0, f1, f2, f3]) ∧ (f0.offset = 0 ∧ f1.offset = 3 ∧ f2.offset = 4 ∧ f3.offset = 5) ∧ (f0.type = 33 ∧ f1.type = 3 ∧ f2.type = 5 ∧ f3.type = 9) :=
  ⟨_, _, _, _, Try.underlying35, ⟨rfl, rfl, rfl, rfl⟩, ⟨rfl, rfl, rfl, rfl⟩⟩
theorem act_cells {H : Type} {enc : TypeId × Value → H} {w : World} {spare : Nat → Bool} {held : Bool} {fuel : Nat} {v0 v1 v2 v3 v4 v5 : Value} {x : DataW H × List MemPlace}
    (h : DataW.trod enc Try.prog w 0 spare held fuel 35 [v0, v1, v2, v3, v4, v5] = some x) : ∃ a : Ac, [v0, v1, v2, v3, v4, v5] = acC a ∧ a.nf < 256 ∧ a.who < 256 := by
  have c3 : Try.prog.cellsOf 3 = 1 := by kernel_rfl
  have c5 : Try.prog.cellsOf 5 = 1 := by kernel_rfl
  have c9 : Try.prog.cellsOf 9 = 1 := by kernel_rfl
  have c33 : Try.prog.cellsOf 33 = 3 := by kernel_rfl
  obtain ⟨f0, f1, f2, f3, he, ⟨o0, o1, o2, o3⟩, ⟨t0, t1, t2, t3⟩⟩ := struct35
  obtain ⟨xs, k, hk, hxy, _, hxl, hf⟩ := DataW.trod_struct he h
  match xs, hxl with
  | [y0, y1, y2, y3], _ =>
    have g0 := hf 0 f0 rfl
    have g1 := hf 1 f1 rfl
    have g2 := hf 2 f2 rfl
    have g3 := hf 3 f3 rfl
    simp [o0, o1, o2, o3, t0, t1, t2, t3, c3, c5, c9, c33] at g0 g1 g2 g3
    obtain ⟨x0, x1, x2, rfl, rfl, rfl, hx1⟩ := name_cells g0
    obtain ⟨z1, e1, _, b1⟩ := DataW.trod_int Try.underlying3 g1
    simp at e1
    obtain ⟨z2, e2, _, b2⟩ := DataW.trod_int Try.underlying5 g2
    simp at e2
    obtain ⟨n2, rfl, k2⟩ := nat_u8 b2
    obtain ⟨z3, e3, _, _⟩ := DataW.trod_string Try.underlying9 g3
    simp at e3
    exact ⟨⟨x0, x1, x2, z1, n2, z3⟩, by rw [e1, e2, e3]; rfl, hx1, k2⟩
theorem open_acts {H : Type} {enc : TypeId × Value → H} {w : World} {spare : Nat → Bool} {held : Bool} {fuel : Nat} {a : Option Addr} {len cap : Nat} {x : DataW H × List MemPlace}
    (h : DataW.trod enc Try.prog w 0 spare held fuel 24 [.slice a len cap] = some x) : ∃ l, AtA w a l ∧ l.length = len ∧ ∀ v ∈ l, v.nf < 256 ∧ v.who < 256 := by
  rcases open_slice Try.underlying24 h with ⟨hcs, _⟩ | ⟨ad, l, c, m, n, D, Pl, hcs, _, hl, hm, hmm, _, hx⟩
  · simp at hcs
    obtain ⟨rfl, rfl, rfl⟩ := hcs
    exact ⟨[], .inl rfl, rfl, fun v hv => by cases hv⟩
  · simp at hcs
    obtain ⟨rfl, rfl, rfl⟩ := hcs
    have hlm : len ≤ m := by rw [hmm]; split <;> omega
    have ce : Try.prog.cellsOf 35 = 6 := by kernel_rfl
    have each : ∀ i, i < len → ∃ q : Ac, (∀ j u, (acC q)[j]? = some u → w.cell? (ad.add (i * 6 + j)) = some u) ∧ q.nf < 256 ∧ q.who < 256 := by
      intro i hi
      obtain ⟨cs', h1, h2⟩ := hx i (by omega)
      rw [ce] at h1
      obtain ⟨_, hlen, hcell⟩ := World.cells?_some h1
      match cs', hlen with
      | [v0, v1, v2, v3, v4, v5], _ =>
        obtain ⟨q, hq, k1, k2⟩ := act_cells h2
        refine ⟨q, fun j u hj => ?_, k1, k2⟩
        rw [← hq] at hj
        have hj6 : j < 6 := (List.getElem?_eq_some_iff.1 hj).1
        have d := hcell j hj6
        rw [add_add] at d
        rw [d]; exact hj
    by_cases h0 : len = 0
    · exact ⟨[], .inl rfl, h0.symm, fun v hv => by cases hv⟩
    · obtain ⟨q, hq⟩ : ∃ q : Nat → Ac, ∀ i, i < len → (∀ j u, (acC (q i))[j]? = some u → w.cell? (ad.add (i * 6 + j)) = some u) ∧ (q i).nf < 256 ∧ (q i).who < 256 := ⟨fun i => if h : i < len then (each i h).choose else ac0, fun i h => by show _ ∧ (if h : i < len then _ else ac0).nf < 256 ∧ (if h : i < len then _ else ac0).who < 256; simp only [dif_pos h]; exact (each i h).choose_spec⟩
      obtain ⟨b, off, rfl⟩ := plain_addr (by have := (hq 0 (by omega)).1 0 _ rfl; simpa using this)
      refine ⟨(List.range len).map q, .inr ⟨b, off, rfl, fun j e hjs i u hu => ?_⟩, by simp, fun v hv => ?_⟩
      · have hj : j < len := by have := (List.getElem?_eq_some_iff.1 hjs).1; simpa using this
        simp [hj] at hjs
        subst hjs
        have := (hq j hj).1 i u hu
        rw [Go.WideShapes.add_plain] at this
        rw [Nat.add_assoc]; exact this
      · obtain ⟨j, hj, rfl⟩ := List.mem_map.1 hv
        exact (hq j (List.mem_range.1 hj)).2
end Go.Proofs.Ytmhjmeedoajkjaa
