/- How the arguments of the laws are read: vectors, bodies, items. -/
import Derived.Test.YtbacnjkookakcaaHdD
import Derived.Deep.Slices
import Derived.OpenShut
namespace Go.Proofs.Ytbacnjkookakcaa
open Go.ChangeShapes Go.WideShapes Go.RowKit Go.Deep
namespace Ps

theorem nat_u8 {z : Int} (h : (Lit.int .u8 z).wf = true) : ∃ n : Nat, z = (n : Int) ∧ n < 256 := by
  have hb : 0 ≤ z ∧ z ≤ 255 := bounds_u8 h
  exact ⟨z.toNat, by omega, by omega⟩
theorem nat_u16 {z : Int} (h : (Lit.int .u16 z).wf = true) : ∃ n : Nat, z = (n : Int) ∧ n < 65536 := by
  have hb : 0 ≤ z ∧ z ≤ 65535 := bounds_u16 h
  exact ⟨z.toNat, by omega, by omega⟩
set_option maxRecDepth 20000 in
theorem vec_cells {H : Type} {enc : TypeId × Value → H} {w : World} {spare : Nat → Bool} {held : Bool} {fuel : Nat} {l : List Value} {x : DataW H × List MemPlace} (hl : l.length = 16)
    (h : DataW.trod enc Try.prog w 0 spare held fuel 24 l = some x) : ∃ f : Nat → Nat, l = (vecA f).toList ∧ ∀ i, i < 16 → f i < 65536 := by
  have c22 : Try.prog.cellsOf 22 = 1 := by kernel_rfl
  obtain ⟨xs, m, _, _, _, hxs, hi⟩ := DataW.trod_array Try.underlying24 h
  have each : ∀ i, i < 16 → ∃ n : Nat, l[i]? = some (.int .u16 (n : Int)) ∧ n < 65536 := by
    intro i h16
    have g := hi i h16
    rw [c22, Nat.mul_one] at g
    have e : (l.drop i).take 1 = [l[i]'(by omega)] := by
      rw [List.drop_eq_getElem_cons (by omega)]; rfl
    rw [e] at g
    obtain ⟨y, hy⟩ : ∃ y, xs[i]? = some y := ⟨_, List.getElem?_eq_getElem (by omega)⟩
    obtain ⟨y0, g0⟩ : ∃ y0, DataW.trod enc Try.prog w 0 spare held m 22 [l[i]'(by omega)] = some y0 := by
      cases hq : DataW.trod enc Try.prog w 0 spare held m 22 [l[i]'(by omega)] with
      | none => rw [hq, hy] at g; cases g
      | some y0 => exact ⟨y0, rfl⟩
    obtain ⟨z0, e0, _, b0⟩ := DataW.trod_int Try.underlying22 g0
    simp at e0
    obtain ⟨n, rfl, hn⟩ := nat_u16 b0
    exact ⟨n, by rw [List.getElem?_eq_getElem (by omega), e0], hn⟩
  obtain ⟨f, hf⟩ := choose_lt each
  refine ⟨f, ?_, fun i hi => (hf i hi).2⟩
  apply List.ext_getElem?
  intro i
  by_cases h16 : i < 16
  · rw [(hf i h16).1, Array.getElem?_toList, vecA_get f h16]
  · rw [List.getElem?_eq_none (by omega), List.getElem?_eq_none (by show 16 ≤ i; omega)]

set_option maxRecDepth 20000 in
theorem open_vec {H : Type} {enc : TypeId × Value → H} {w : World} {r : Reach} {base : Nat} {spare : Nat → Bool} {held : Bool} {v : Value} {d : DataW H} {p : List MemPlace}
    (hv : Value.okWide Try.prog w r base 24 v) (h : DataW.Trod enc Try.prog w 0 spare held 24 v d p) : ∃ f : Nat → Nat, v = .agg (vecA f) ∧ ∀ i, i < 16 → f i < 65536 := by
  have cc : Try.prog.cellsOf 24 = 16 := by kernel_rfl
  have hu := Try.underlying24
  simp only [Value.okWide, hu] at hv
  obtain ⟨cs, rfl, hs, _⟩ := hv
  rw [cc] at hs
  obtain ⟨fuel, hf⟩ := h
  obtain ⟨f, h1, h2⟩ := vec_cells (l := cs.toList) (by simpa using hs) hf
  exact ⟨f, by rw [show cs = vecA f from Array.toList_inj.1 h1], h2⟩

theorem struct29 : ∃ f0 f1 f2 : Field, Try.prog.underlying 29 = some (.struct #[f0, f1, f2]) ∧ (f0.offset = 0 ∧ f1.offset = 1 ∧ f2.offset = 17) ∧ (f0.type = 3 ∧ f1.type = 24 ∧ f2.type = 9) :=
  ⟨_, _, _, Try.underlying29, ⟨rfl, rfl, rfl⟩, ⟨rfl, rfl, rfl⟩⟩
theorem ends_i64 {z : Int} (h : (Lit.int .i64 z).wf = true) : -9223372036854775808 ≤ z ∧ z ≤ 9223372036854775807 := bounds_i64 h
set_option maxRecDepth 20000 in
theorem body_cells {H : Type} {enc : TypeId × Value → H} {w : World} {spare : Nat → Bool} {held : Bool} {fuel : Nat} {l : List Value} {x : DataW H × List MemPlace} (hl : l.length = 18)
    (hf : DataW.trod enc Try.prog w 0 spare held fuel 29 l = some x) : ∃ b : Bd, l = (bdA b).toList ∧ Small b := by
  have c3 : Try.prog.cellsOf 3 = 1 := by kernel_rfl
  have c24 : Try.prog.cellsOf 24 = 16 := by kernel_rfl
  have c9 : Try.prog.cellsOf 9 = 1 := by kernel_rfl
  obtain ⟨f0, f1, f2, he, ⟨o0, o1, o2⟩, ⟨t0, t1, t2⟩⟩ := struct29
  obtain ⟨xs, k, hk, hxy, _, hxl, hg⟩ := DataW.trod_struct he hf
  match xs, hxl with
  | [y0, y1, y2], _ =>
    have g0 := hg 0 f0 rfl
    have g1 := hg 1 f1 rfl
    have g2 := hg 2 f2 rfl
    simp only [o0, o1, o2, t0, t1, t2, c3, c24, c9] at g0 g1 g2
    have g0' : DataW.trod enc Try.prog w 0 spare held k 3 (List.take 1 (List.drop 0 l)) = some y0 := g0
    have g1' : DataW.trod enc Try.prog w 0 spare held k 24 (List.take 16 (List.drop 1 l)) = some y1 := g1
    have g2' : DataW.trod enc Try.prog w 0 spare held k 9 (List.take 1 (List.drop 17 l)) = some y2 := g2
    obtain ⟨z0, e0, _, _⟩ := DataW.trod_int Try.underlying3 g0'
    obtain ⟨f, e1, hs1⟩ := vec_cells (by rw [List.length_take, List.length_drop]; omega) g1'
    obtain ⟨z2, e2, _, _⟩ := DataW.trod_string Try.underlying9 g2'
    refine ⟨⟨z0, f, z2⟩, ?_, hs1⟩
    have a1 : l = List.take 1 (List.drop 0 l) ++ (List.take 16 (List.drop 1 l) ++ List.take 1 (List.drop 17 l)) := by
      rw [List.drop_zero, List.take_of_length_le (l := List.drop 17 l) (by rw [List.length_drop]; omega)]
      have : List.drop 17 l = List.drop 16 (List.drop 1 l) := by rw [List.drop_drop]
      rw [this, List.take_append_drop, List.take_append_drop]
    rw [a1, e0, e1, e2]; rfl

theorem struct31 : ∃ f0 f1 f2 : Field, Try.prog.underlying 31 = some (.struct #[f0, f1, f2]) ∧ (f0.offset = 0 ∧ f1.offset = 1 ∧ f2.offset = 2) ∧ (f0.type = 5 ∧ f1.type = 3 ∧ f2.type = 29) :=
  ⟨_, _, _, Try.underlying31, ⟨rfl, rfl, rfl⟩, ⟨rfl, rfl, rfl⟩⟩
set_option maxRecDepth 20000 in
theorem open_item {H : Type} {enc : TypeId × Value → H} {w : World} {r : Reach} {base : Nat} {spare : Nat → Bool} {held : Bool} {v : Value} {d : DataW H} {p : List MemPlace}
    (hv : Value.okWide Try.prog w r base 31 v) (h : DataW.Trod enc Try.prog w 0 spare held 31 v d p) : ∃ x : Hd.It, v = .agg (Hd.itA x) ∧ Hd.Fit x := by
  have cc : Try.prog.cellsOf 31 = 20 := by kernel_rfl
  have c3 : Try.prog.cellsOf 3 = 1 := by kernel_rfl
  have c5 : Try.prog.cellsOf 5 = 1 := by kernel_rfl
  have c29 : Try.prog.cellsOf 29 = 18 := by kernel_rfl
  have hu := Try.underlying31
  simp only [Value.okWide, hu] at hv
  obtain ⟨cs, rfl, hs, _⟩ := hv
  rw [cc] at hs
  obtain ⟨fuel, hf'⟩ := h
  have hl : cs.toList.length = 20 := by simpa using hs
  have hf : DataW.trod enc Try.prog w 0 spare held fuel 31 cs.toList = some _ := hf'
  obtain ⟨f0, f1, f2, he, ⟨o0, o1, o2⟩, ⟨t0, t1, t2⟩⟩ := struct31
  obtain ⟨xs, k, hk, hxy, _, hxl, hg⟩ := DataW.trod_struct he hf
  generalize hcs : cs.toList = l at hl hg
  match xs, hxl with
  | [y0, y1, y2], _ =>
    have g0 := hg 0 f0 rfl
    have g1 := hg 1 f1 rfl
    have g2 := hg 2 f2 rfl
    simp only [o0, o1, o2, t0, t1, t2, c3, c5, c29] at g0 g1 g2
    have g0' : DataW.trod enc Try.prog w 0 spare held k 5 (List.take 1 (List.drop 0 l)) = some y0 := g0
    have g1' : DataW.trod enc Try.prog w 0 spare held k 3 (List.take 1 (List.drop 1 l)) = some y1 := g1
    have g2' : DataW.trod enc Try.prog w 0 spare held k 29 (List.take 18 (List.drop 2 l)) = some y2 := g2
    obtain ⟨z0, e0, _, b0⟩ := DataW.trod_int Try.underlying5 g0'
    obtain ⟨z1, e1, _, b1⟩ := DataW.trod_int Try.underlying3 g1'
    obtain ⟨b, e2, hb⟩ := body_cells (by rw [List.length_take, List.length_drop]; omega) g2'
    obtain ⟨n0, rfl, k0⟩ := nat_u8 b0
    refine ⟨⟨n0, z1, b⟩, ?_, k0, (ends_i64 b1).1, (ends_i64 b1).2, hb⟩
    have : cs = Hd.itA ⟨n0, z1, b⟩ := by
      apply Array.toList_inj.1
      rw [hcs]
      have a1 : l = List.take 1 (List.drop 0 l) ++ (List.take 1 (List.drop 1 l) ++ List.take 18 (List.drop 2 l)) := by
        rw [List.drop_zero, List.take_of_length_le (l := List.drop 2 l) (by rw [List.length_drop]; omega)]
        have : List.drop 2 l = List.drop 1 (List.drop 1 l) := by rw [List.drop_drop]
        rw [this, List.take_append_drop, List.take_append_drop]
      rw [a1, e0, e1, e2]; rfl
    rw [this]
end Ps
end Go.Proofs.Ytbacnjkookakcaa
