/- How the arguments of the laws are read: views, changes. -/
import Derived.Test.YtnheikkpnffinaaDoorRlB
import Derived.Deep.Slices
import Derived.OpenShut
namespace Go.Proofs.YtnheikkpnffinaaDoor
open Go.ChangeShapes Go.WideShapes Go.RowKit Go.Deep
namespace Rl
theorem nat_u8 {z : Int} (h : (Lit.int .u8 z).wf = true) : ∃ n : Nat, z = (n : Int) ∧ n < 256 := by
  have hb : 0 ≤ z ∧ z ≤ 255 := bounds_u8 h
  exact ⟨z.toNat, by omega, by omega⟩
theorem nat_u16 {z : Int} (h : (Lit.int .u16 z).wf = true) : ∃ n : Nat, z = (n : Int) ∧ n < 65536 := by
  have hb : 0 ≤ z ∧ z ≤ 65535 := bounds_u16 h
  exact ⟨z.toNat, by omega, by omega⟩
theorem struct25 : ∃ f0 f1 : Field, Tryd.prog.underlying 25 = some (.struct #[f0, f1]) ∧ (f0.offset = 0 ∧ f1.offset = 1) ∧ (f0.type = 3 ∧ f1.type = 23) :=
  ⟨_, _, Tryd.underlying25, ⟨rfl, rfl⟩, ⟨rfl, rfl⟩⟩
theorem struct27 : ∃ f0 f1 : Field, Tryd.prog.underlying 27 = some (.struct #[f0, f1]) ∧ (f0.offset = 0 ∧ f1.offset = 1) ∧ (f0.type = 4 ∧ f1.type = 5) :=
  ⟨_, _, Tryd.underlying27, ⟨rfl, rfl⟩, ⟨rfl, rfl⟩⟩
theorem roll_cells {H : Type} {enc : TypeId × Value → H} {w : World} {spare : Nat → Bool} {held : Bool} {fuel : Nat} {v0 v1 : Value} {x : DataW H × List MemPlace}
    (h : DataW.trod enc Tryd.prog w 0 spare held fuel 25 [v0, v1] = some x) : ∃ (x0 : Int) (x1 : Nat), v0 = .int .i64 x0 ∧ v1 = .int .u16 (x1 : Int) ∧ x1 < 65536 := by
  have c3 : Tryd.prog.cellsOf 3 = 1 := by kernel_rfl
  have c23 : Tryd.prog.cellsOf 23 = 1 := by kernel_rfl
  obtain ⟨f0, f1, he, ⟨o0, o1⟩, ⟨t0, t1⟩⟩ := struct25
  obtain ⟨xs, k, hk, hxy, _, hxl, hf⟩ := DataW.trod_struct he h
  match xs, hxl with
  | [y0, y1], _ =>
    have g0 := hf 0 f0 rfl
    have g1 := hf 1 f1 rfl
    simp [o0, o1, t0, t1, c3, c23] at g0 g1
    obtain ⟨z0, e0, _, b0⟩ := DataW.trod_int Tryd.underlying3 g0
    simp at e0
    obtain ⟨z1, e1, _, b1⟩ := DataW.trod_int Tryd.underlying23 g1
    simp at e1
    obtain ⟨n1, rfl, k1⟩ := nat_u16 b1
    exact ⟨z0, n1, e0, e1, k1⟩
theorem ch_cells {H : Type} {enc : TypeId × Value → H} {w : World} {spare : Nat → Bool} {held : Bool} {fuel : Nat} {v0 v1 : Value} {x : DataW H × List MemPlace}
    (h : DataW.trod enc Tryd.prog w 0 spare held fuel 27 [v0, v1] = some x) : ∃ (x0 : Bool) (x1 : Nat), v0 = .bool x0 ∧ v1 = .int .u8 (x1 : Int) ∧ x1 < 256 := by
  have c4 : Tryd.prog.cellsOf 4 = 1 := by kernel_rfl
  have c5 : Tryd.prog.cellsOf 5 = 1 := by kernel_rfl
  obtain ⟨f0, f1, he, ⟨o0, o1⟩, ⟨t0, t1⟩⟩ := struct27
  obtain ⟨xs, k, hk, hxy, _, hxl, hf⟩ := DataW.trod_struct he h
  match xs, hxl with
  | [y0, y1], _ =>
    have g0 := hf 0 f0 rfl
    have g1 := hf 1 f1 rfl
    simp [o0, o1, t0, t1, c4, c5] at g0 g1
    obtain ⟨z0, e0, _⟩ := DataW.trod_bool Tryd.underlying4 g0
    simp at e0
    obtain ⟨z1, e1, _, b1⟩ := DataW.trod_int Tryd.underlying5 g1
    simp at e1
    obtain ⟨n1, rfl, k1⟩ := nat_u8 b1
    exact ⟨z0, n1, e0, e1, k1⟩
set_option maxRecDepth 20000 in
theorem open_roll {H : Type} {enc : TypeId × Value → H} {w : World} {r : Reach} {base : Nat} {spare : Nat → Bool} {held : Bool} {v : Value} {d : DataW H} {p : List MemPlace}
    (hv : Value.okWide Tryd.prog w r base 25 v) (h : DataW.Trod enc Tryd.prog w 0 spare held 25 v d p) : ∃ (x0 : Int) (x1 : Nat), v = rollV x0 x1 ∧ x1 < 65536 := by
  have cc : Tryd.prog.cellsOf 25 = 2 := by kernel_rfl
  have hu := Tryd.underlying25
  simp only [Value.okWide, hu] at hv
  obtain ⟨cs, rfl, hs, _⟩ := hv
  rw [cc] at hs
  obtain ⟨fuel, hf⟩ := h
  obtain ⟨l⟩ := cs
  match l, hs with
  | [v0, v1], _ =>
    have hf' : DataW.trod enc Tryd.prog w 0 spare held fuel 25 [v0, v1] = some _ := hf
    obtain ⟨x0, x1, rfl, rfl, k1⟩ := roll_cells hf'
    exact ⟨x0, x1, rfl, k1⟩
set_option maxRecDepth 20000 in
theorem open_ch {H : Type} {enc : TypeId × Value → H} {w : World} {r : Reach} {base : Nat} {spare : Nat → Bool} {held : Bool} {v : Value} {d : DataW H} {p : List MemPlace}
    (hv : Value.okWide Tryd.prog w r base 27 v) (h : DataW.Trod enc Tryd.prog w 0 spare held 27 v d p) : ∃ (x0 : Bool) (x1 : Nat), v = chV x0 x1 ∧ x1 < 256 := by
  have cc : Tryd.prog.cellsOf 27 = 2 := by kernel_rfl
  have hu := Tryd.underlying27
  simp only [Value.okWide, hu] at hv
  obtain ⟨cs, rfl, hs, _⟩ := hv
  rw [cc] at hs
  obtain ⟨fuel, hf⟩ := h
  obtain ⟨l⟩ := cs
  match l, hs with
  | [v0, v1], _ =>
    have hf' : DataW.trod enc Tryd.prog w 0 spare held fuel 27 [v0, v1] = some _ := hf
    obtain ⟨x0, x1, rfl, rfl, k1⟩ := ch_cells hf'
    exact ⟨x0, x1, rfl, k1⟩
end Rl
end Go.Proofs.YtnheikkpnffinaaDoor
