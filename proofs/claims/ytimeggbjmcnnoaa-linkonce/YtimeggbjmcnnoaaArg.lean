/- How the arguments of the laws are read: bytes, letters, ends, two texts, four numbers. -/
import Derived.Test.YtimeggbjmcnnoaaLnB
import Derived.Deep.Slices
import Derived.OpenShut
namespace Go.Proofs.Ytimeggbjmcnnoaa
open Go.ChangeShapes Go.WideShapes Go.RowKit Go.Deep

theorem nat_u8 {z : Int} (h : (Lit.int .u8 z).wf = true) : ∃ n : Nat, z = (n : Int) ∧ n < 256 := by
  have hb : 0 ≤ z ∧ z ≤ 255 := bounds_u8 h
  exact ⟨z.toNat, by omega, by omega⟩
theorem nat_u32 {z : Int} (h : (Lit.int .u32 z).wf = true) : ∃ n : Nat, z = (n : Int) ∧ n < 4294967296 := by
  have hb : 0 ≤ z ∧ z ≤ 4294967295 := bounds_u32 h
  exact ⟨z.toNat, by omega, by omega⟩
theorem nat_u64 {z : Int} (h : (Lit.int .u64 z).wf = true) : ∃ n : Nat, z = (n : Int) ∧ n < 18446744073709551616 := by
  have hb : 0 ≤ z ∧ z ≤ 18446744073709551615 := bounds_u64 h
  exact ⟨z.toNat, by omega, by omega⟩

theorem open_byt {H : Type} {enc : TypeId × Value → H} {w : World} {spare : Nat → Bool} {held : Bool} {fuel : Nat} {v : Value} {x : DataW H × List MemPlace}
    (h : DataW.trod enc Try.prog w 0 spare held fuel 24 [v] = some x) : ∃ a n cap bs, v = .slice a n cap ∧ Byt w a n cap bs := by
  rcases open_ints Try.underlying24 Try.underlying5 (by kernel_rfl) h with ⟨hcs, _⟩ | ⟨ad, l, c, zs, hcs, _, hl, hm, hz, _, hcell, hwz⟩
  · simp at hcs
    subst hcs
    exact ⟨none, 0, 0, [], rfl, rfl, Nat.le_refl _, .inl rfl, fun _ => rfl⟩
  · simp at hcs
    subst hcs
    have hlm : l ≤ zs.length := by rw [hz]; split <;> omega
    by_cases h0 : l = 0
    · exact ⟨some ad, l, c, [], rfl, h0.symm, hl, .inl rfl, fun e => by cases e⟩
    · obtain ⟨b, off, rfl, hc⟩ := ints_at hcell (by omega)
      refine ⟨_, l, c, (zs.take l).map fun z => UInt8.ofNat z.toNat, rfl, by rw [List.length_map, List.length_take]; omega, hl, .inr ⟨b, off, rfl, fun j hj => ?_⟩, fun e => by cases e⟩
      rw [List.length_map, List.length_take] at hj
      rw [hc j (by omega)]
      have hj2 : j < zs.length := by omega
      obtain ⟨y, hy, hy2⟩ := nat_u8 (hwz zs[j] (List.getElem_mem hj2))
      have e1 : zs.getD j 0 = zs[j] := by simp [List.getD, hj2]
      have e2 : (UInt8.ofNat y).toNat = y := by simp; omega
      rw [e1, hy]
      simp [hy, e2]

theorem open_byt1 {H : Type} {enc : TypeId × Value → H} {w : World} {spare : Nat → Bool} {held : Bool} {fuel : Nat} {a : Option Addr} {len cap : Nat} {x : DataW H × List MemPlace}
    (h : DataW.trod enc Try.prog w 0 spare held fuel 24 [.slice a len cap] = some x) : ∃ bs, Byt w a len cap bs := by
  obtain ⟨a', n, c, bs, e, hb⟩ := open_byt h
  cases e
  exact ⟨bs, hb⟩

theorem struct26 : ∃ f0 f1 f2 f3 f4 : Field, Try.prog.underlying 26 = some (.struct #[f0, f1, f2, f3, f4]) ∧ (f0.offset = 0 ∧ f1.offset = 1 ∧ f2.offset = 2 ∧ f3.offset = 3 ∧ f4.offset = 4) ∧ (f0.type = 5 ∧ f1.type = 5 ∧ f2.type = 23 ∧ f3.type = 24 ∧ f4.type = 22) :=
  ⟨_, _, _, _, _, Try.underlying26, ⟨rfl, rfl, rfl, rfl, rfl⟩, ⟨rfl, rfl, rfl, rfl, rfl⟩⟩
theorem struct40 : ∃ f0 f1 f2 f3 : Field, Try.prog.underlying 40 = some (.struct #[f0, f1, f2, f3]) ∧ (f0.offset = 0 ∧ f1.offset = 1 ∧ f2.offset = 2 ∧ f3.offset = 3) ∧ (f0.type = 22 ∧ f1.type = 23 ∧ f2.type = 23 ∧ f3.type = 38) :=
  ⟨_, _, _, _, Try.underlying40, ⟨rfl, rfl, rfl, rfl⟩, ⟨rfl, rfl, rfl, rfl⟩⟩

/-- What a letter's five cells hold. -/
theorem letter_cells {H : Type} {enc : TypeId × Value → H} {w : World} {spare : Nat → Bool} {held : Bool} {fuel : Nat} {v0 v1 v2 v3 v4 : Value} {x : DataW H × List MemPlace}
    (h : DataW.trod enc Try.prog w 0 spare held fuel 26 [v0, v1, v2, v3, v4] = some x) :
    ∃ (f t s : Nat) (a : Option Addr) (n cap : Nat) (g : ByteArray) (bs : List UInt8), v0 = .int .u8 (f : Int) ∧ v1 = .int .u8 (t : Int) ∧ v2 = .int .u32 (s : Int) ∧ v3 = .slice a n cap ∧ v4 = .string g ∧ f < 256 ∧ t < 256 ∧ s < 4294967296 ∧ Byt w a n cap bs := by
  have c5 : Try.prog.cellsOf 5 = 1 := by kernel_rfl
  have c22 : Try.prog.cellsOf 22 = 1 := by kernel_rfl
  have c23 : Try.prog.cellsOf 23 = 1 := by kernel_rfl
  have c24 : Try.prog.cellsOf 24 = 1 := by kernel_rfl
  obtain ⟨f0, f1, f2, f3, f4, he, ⟨o0, o1, o2, o3, o4⟩, ⟨t0, t1, t2, t3, t4⟩⟩ := struct26
  obtain ⟨xs, k, hk, hxy, _, hxl, hf⟩ := DataW.trod_struct he h
  match xs, hxl with
  | [y0, y1, y2, y3, y4], _ =>
    have g0 := hf 0 f0 rfl
    have g1 := hf 1 f1 rfl
    have g2 := hf 2 f2 rfl
    have g3 := hf 3 f3 rfl
    have g4 := hf 4 f4 rfl
    simp [o0, o1, o2, o3, o4, t0, t1, t2, t3, t4, c5, c22, c23, c24] at g0 g1 g2 g3 g4
    obtain ⟨z0, e0, _, b0⟩ := DataW.trod_int Try.underlying5 g0
    obtain ⟨z1, e1, _, b1⟩ := DataW.trod_int Try.underlying5 g1
    obtain ⟨z2, e2, _, b2⟩ := DataW.trod_int Try.underlying23 g2
    obtain ⟨a, n, cap, bs, e3, b3⟩ := open_byt g3
    obtain ⟨z4, e4, _, _⟩ := DataW.trod_string Try.underlying22 g4
    simp at e0 e1 e2 e4
    obtain ⟨n0, rfl, k0⟩ := nat_u8 b0
    obtain ⟨n1, rfl, k1⟩ := nat_u8 b1
    obtain ⟨n2, rfl, k2⟩ := nat_u32 b2
    exact ⟨n0, n1, n2, a, n, cap, z4, bs, e0, e1, e2, e3, e4, k0, k1, k2, b3⟩

/-- A letter that came in. -/
def IsLetter (w : World) (v : Value) (f t s : Nat) (a : Option Addr) (n cap : Nat) (g : ByteArray) (bs : List UInt8) : Prop :=
  v = .agg #[.int .u8 (f : Int), .int .u8 (t : Int), .int .u32 (s : Int), .slice a n cap, .string g] ∧ f < 256 ∧ t < 256 ∧ s < 4294967296 ∧ Byt w a n cap bs
set_option maxRecDepth 20000 in
theorem open_letter {H : Type} {enc : TypeId × Value → H} {w : World} {r : Reach} {base : Nat} {spare : Nat → Bool} {held : Bool} {v : Value} {d : DataW H} {p : List MemPlace}
    (hv : Value.okWide Try.prog w r base 26 v) (h : DataW.Trod enc Try.prog w 0 spare held 26 v d p) : ∃ f t s a n cap g bs, IsLetter w v f t s a n cap g bs := by
  have cc : Try.prog.cellsOf 26 = 5 := by kernel_rfl
  have hu := Try.underlying26
  simp only [Value.okWide, hu] at hv
  obtain ⟨cs, rfl, hs, _⟩ := hv
  rw [cc] at hs
  obtain ⟨fuel, hf⟩ := h
  obtain ⟨l⟩ := cs
  match l, hs with
  | [v0, v1, v2, v3, v4], _ =>
    have hf' : DataW.trod enc Try.prog w 0 spare held fuel 26 [v0, v1, v2, v3, v4] = some _ := hf
    obtain ⟨f, t, s, a, n, cap, g, bs, rfl, rfl, rfl, rfl, rfl, k0, k1, k2, b3⟩ := letter_cells hf'
    exact ⟨f, t, s, a, n, cap, g, bs, rfl, k0, k1, k2, b3⟩
/-- An end that came in. -/
def IsEnd (v : Value) (k : ByteArray) (nx tp cm : Nat) : Prop :=
  v = .agg #[.string k, .int .u32 (nx : Int), .int .u32 (tp : Int), .int .u64 (cm : Int)] ∧ nx < 4294967296 ∧ tp < 4294967296 ∧ cm < 18446744073709551616
set_option maxRecDepth 20000 in
theorem open_end {H : Type} {enc : TypeId × Value → H} {w : World} {r : Reach} {base : Nat} {spare : Nat → Bool} {held : Bool} {v : Value} {d : DataW H} {p : List MemPlace}
    (hv : Value.okWide Try.prog w r base 40 v) (h : DataW.Trod enc Try.prog w 0 spare held 40 v d p) : ∃ k nx tp cm, IsEnd v k nx tp cm := by
  have cc : Try.prog.cellsOf 40 = 4 := by kernel_rfl
  have c22 : Try.prog.cellsOf 22 = 1 := by kernel_rfl
  have c23 : Try.prog.cellsOf 23 = 1 := by kernel_rfl
  have c38 : Try.prog.cellsOf 38 = 1 := by kernel_rfl
  have hu := Try.underlying40
  simp only [Value.okWide, hu] at hv
  obtain ⟨cs, rfl, hs, _⟩ := hv
  rw [cc] at hs
  obtain ⟨fuel, hf0⟩ := h
  obtain ⟨l⟩ := cs
  match l, hs with
  | [v0, v1, v2, v3], _ =>
    have h' : DataW.trod enc Try.prog w 0 spare held fuel 40 [v0, v1, v2, v3] = some _ := hf0
    obtain ⟨f0, f1, f2, f3, he, ⟨o0, o1, o2, o3⟩, ⟨t0, t1, t2, t3⟩⟩ := struct40
    obtain ⟨xs, k, hk, hxy, _, hxl, hf⟩ := DataW.trod_struct he h'
    match xs, hxl with
    | [y0, y1, y2, y3], _ =>
      have g0 := hf 0 f0 rfl
      have g1 := hf 1 f1 rfl
      have g2 := hf 2 f2 rfl
      have g3 := hf 3 f3 rfl
      simp [o0, o1, o2, o3, t0, t1, t2, t3, c22, c23, c38] at g0 g1 g2 g3
      obtain ⟨z0, e0, _, _⟩ := DataW.trod_string Try.underlying22 g0
      obtain ⟨z1, e1, _, b1⟩ := DataW.trod_int Try.underlying23 g1
      obtain ⟨z2, e2, _, b2⟩ := DataW.trod_int Try.underlying23 g2
      obtain ⟨z3, e3, _, b3⟩ := DataW.trod_int Try.underlying38 g3
      simp at e0 e1 e2 e3
      subst e0 e1 e2 e3
      obtain ⟨n1, rfl, k1⟩ := nat_u32 b1
      obtain ⟨n2, rfl, k2⟩ := nat_u32 b2
      obtain ⟨n3, rfl, k3⟩ := nat_u64 b3
      exact ⟨z0, n1, n2, n3, rfl, k1, k2, k3⟩
set_option maxRecDepth 20000 in
theorem open_two {H : Type} {enc : TypeId × Value → H} {w : World} {r : Reach} {base : Nat} {spare : Nat → Bool} {held : Bool} {v : Value} {d : DataW H} {p : List MemPlace}
    (hv : Value.okWide Try.prog w r base 58 v) (h : DataW.Trod enc Try.prog w 0 spare held 58 v d p) : ∃ k0 k1 : ByteArray, v = .agg #[.string k0, .string k1] := by
  have cc : Try.prog.cellsOf 58 = 2 := by kernel_rfl
  have c22 : Try.prog.cellsOf 22 = 1 := by kernel_rfl
  have hu := Try.underlying58
  simp only [Value.okWide, hu] at hv
  obtain ⟨cs, rfl, hs, _⟩ := hv
  rw [cc] at hs
  obtain ⟨fuel, hf⟩ := h
  obtain ⟨xs, m, _, _, hl, hxs, hi⟩ := DataW.trod_array hu hf
  obtain ⟨l⟩ := cs
  match l, hs with
  | [a, b], _ =>
    have g0 := hi 0 (by omega)
    have g1 := hi 1 (by omega)
    rw [c22] at g0 g1
    match xs, hxs with
    | [y0, y1], _ =>
      have g0' : DataW.trod enc Try.prog w 0 spare held m 22 [a] = some y0 := g0
      have g1' : DataW.trod enc Try.prog w 0 spare held m 22 [b] = some y1 := g1
      obtain ⟨z0, e0, _, _⟩ := DataW.trod_string Try.underlying22 g0'
      obtain ⟨z1, e1, _, _⟩ := DataW.trod_string Try.underlying22 g1'
      simp at e0 e1
      subst e0 e1
      exact ⟨z0, z1, rfl⟩
set_option maxRecDepth 20000 in
theorem open_four {H : Type} {enc : TypeId × Value → H} {w : World} {r : Reach} {base : Nat} {spare : Nat → Bool} {held : Bool} {v : Value} {d : DataW H} {p : List MemPlace}
    (hv : Value.okWide Try.prog w r base 60 v) (h : DataW.Trod enc Try.prog w 0 spare held 60 v d p) : ∃ a b c d : Nat, v = .agg #[.int .u8 (a : Int), .int .u8 (b : Int), .int .u8 (c : Int), .int .u8 (d : Int)] := by
  have cc : Try.prog.cellsOf 60 = 4 := by kernel_rfl
  have c5 : Try.prog.cellsOf 5 = 1 := by kernel_rfl
  have hu := Try.underlying60
  simp only [Value.okWide, hu] at hv
  obtain ⟨cs, rfl, hs, _⟩ := hv
  rw [cc] at hs
  obtain ⟨fuel, hf⟩ := h
  obtain ⟨xs, m, _, _, hl, hxs, hi⟩ := DataW.trod_array hu hf
  obtain ⟨l⟩ := cs
  match l, hs with
  | [a, b, c, e], _ =>
    have g0 := hi 0 (by omega)
    have g1 := hi 1 (by omega)
    have g2 := hi 2 (by omega)
    have g3 := hi 3 (by omega)
    rw [c5] at g0 g1 g2 g3
    match xs, hxs with
    | [y0, y1, y2, y3], _ =>
      have g0' : DataW.trod enc Try.prog w 0 spare held m 5 [a] = some y0 := g0
      have g1' : DataW.trod enc Try.prog w 0 spare held m 5 [b] = some y1 := g1
      have g2' : DataW.trod enc Try.prog w 0 spare held m 5 [c] = some y2 := g2
      have g3' : DataW.trod enc Try.prog w 0 spare held m 5 [e] = some y3 := g3
      obtain ⟨z0, e0, _, f0⟩ := DataW.trod_int Try.underlying5 g0'
      obtain ⟨z1, e1, _, f1⟩ := DataW.trod_int Try.underlying5 g1'
      obtain ⟨z2, e2, _, f2⟩ := DataW.trod_int Try.underlying5 g2'
      obtain ⟨z3, e3, _, f3⟩ := DataW.trod_int Try.underlying5 g3'
      simp at e0 e1 e2 e3
      subst e0 e1 e2 e3
      obtain ⟨n0, rfl, _⟩ := nat_u8 f0
      obtain ⟨n1, rfl, _⟩ := nat_u8 f1
      obtain ⟨n2, rfl, _⟩ := nat_u8 f2
      obtain ⟨n3, rfl, _⟩ := nat_u8 f3
      exact ⟨n0, n1, n2, n3, rfl⟩

end Go.Proofs.Ytimeggbjmcnnoaa
