/- How the arguments of the laws are read: fields, numbers and bytes that came in. -/
import Derived.Test.YtjcgkljncaphhaaOwns
import Derived.Test.YtjcgkljncaphhaaFew
import Derived.Deep.Slices
import Derived.OpenShut
namespace Go.Proofs.Ytjcgkljncaphhaa
open Go.ChangeShapes Go.WideShapes Go.RowKit Go.Deep

def IsRefs (w : World) (a : Option Addr) (len : Nat) (l : List Pk.Fld) : Prop := l.length = len ∧ len ≤ 9223372036854775807 ∧ AtR w a l
def IsBytes (w : World) (a : Option Addr) (len cap : Nat) (bs : List UInt8) : Prop := bs.length = len ∧ len ≤ cap ∧ AtB w a bs
def IsInts (w : World) (a : Option Addr) (len : Nat) (ks : List Int) : Prop := ks.length = len ∧ AtI w a ks

theorem plain_addr {w : World} {a : Addr} {v : Value} (h : w.cell? (a.add 0) = some v) : ∃ b off, a = ⟨b, off, none⟩ := by
  obtain ⟨b, off, spot⟩ := a
  have hspot : spot = none := by simpa [Addr.add] using World.cell?_spot h
  subst hspot
  exact ⟨b, off, rfl⟩

theorem u64_nat {z : Int} (h : (Lit.int .u64 z).wf = true) : ∃ u : UInt64, z = (u.toNat : Int) := by
  have hb : 0 ≤ z ∧ z ≤ 18446744073709551615 := bounds_u64 h
  refine ⟨UInt64.ofNat z.toNat, ?_⟩
  have e : (UInt64.ofNat z.toNat).toNat = z.toNat := by simp; omega
  rw [e]; omega

theorem struct48 : ∃ f0 f1 f2 f3 : Field, Try.prog.underlying 48 = some (.struct #[f0, f1, f2, f3]) ∧ (f0.offset = 0 ∧ f1.offset = 1 ∧ f2.offset = 2 ∧ f3.offset = 3) ∧ (f0.type = 3 ∧ f1.type = 46 ∧ f2.type = 9 ∧ f3.type = 46) :=
  ⟨_, _, _, _, Try.underlying48, ⟨rfl, rfl, rfl, rfl⟩, ⟨rfl, rfl, rfl, rfl⟩⟩

theorem open_refs {H : Type} {enc : TypeId × Value → H} {w : World} {spare : Nat → Bool} {held : Bool} {fuel : Nat} {a : Option Addr} {len cap : Nat} {x : DataW H × List MemPlace}
    (h : DataW.trod enc Try.prog w 0 spare held fuel 22 [.slice a len cap] = some x) : ∃ l, IsRefs w a len l := by
  rcases open_slice Try.underlying22 h with ⟨hcs, _⟩ | ⟨ad, l, c, m, n, D, Pl, hcs, _, hl, hm, hmm, _, hx⟩
  · simp at hcs
    obtain ⟨rfl, rfl, rfl⟩ := hcs
    exact ⟨[], rfl, by omega, .inl rfl⟩
  · simp at hcs
    obtain ⟨rfl, rfl, rfl⟩ := hcs
    have hlm : len ≤ m := by rw [hmm]; split <;> omega
    have ce : Try.prog.cellsOf 48 = 4 := by kernel_rfl
    have c3 : Try.prog.cellsOf 3 = 1 := by kernel_rfl
    have c46 : Try.prog.cellsOf 46 = 1 := by kernel_rfl
    have c9 : Try.prog.cellsOf 9 = 1 := by kernel_rfl
    obtain ⟨f0, f1, f2, f3, he, ⟨o0, o1, o2, o3⟩, ⟨t0, t1, t2, t3⟩⟩ := struct48
    have each : ∀ i, i < len → ∃ q : Int × UInt64 × ByteArray × UInt64, w.cell? (ad.add (i * 4)) = some (.int .i64 q.1) ∧ w.cell? (ad.add (i * 4 + 1)) = some (.int .u64 (q.2.1.toNat : Int)) ∧ w.cell? (ad.add (i * 4 + 2)) = some (.string q.2.2.1) ∧ w.cell? (ad.add (i * 4 + 3)) = some (.int .u64 (q.2.2.2.toNat : Int)) := by
      intro i hi
      obtain ⟨cs', h1, h2⟩ := hx i (by omega)
      rw [ce] at h1
      obtain ⟨_, hlen, hcell⟩ := World.cells?_some h1
      obtain ⟨xs, k, hk, hxy, _, hxl, hf⟩ := DataW.trod_struct he h2
      match xs, hxl, cs', hlen with
      | [y0, y1, y2, y3], _, [v0, v1, v2, v3], _ =>
        have g0 := hf 0 f0 rfl
        have g1 := hf 1 f1 rfl
        have g2 := hf 2 f2 rfl
        have g3 := hf 3 f3 rfl
        simp [o0, o1, o2, o3, t0, t1, t2, t3, c3, c46, c9] at g0 g1 g2 g3
        obtain ⟨z0, e0, _, _⟩ := DataW.trod_int Try.underlying3 g0
        obtain ⟨z1, e1, _, b1⟩ := DataW.trod_int Try.underlying46 g1
        obtain ⟨z2, e2, _, _⟩ := DataW.trod_string Try.underlying9 g2
        obtain ⟨z3, e3, _, b3⟩ := DataW.trod_int Try.underlying46 g3
        obtain ⟨u1, rfl⟩ := u64_nat b1
        obtain ⟨u3, rfl⟩ := u64_nat b3
        simp at e0 e1 e2 e3
        subst e0 e1 e2 e3
        have d0 := hcell 0 (by omega)
        have d1 := hcell 1 (by omega)
        have d2 := hcell 2 (by omega)
        have d3 := hcell 3 (by omega)
        rw [add_add] at d0 d1 d2 d3
        exact ⟨(z0, u1, z2, u3), by simpa using d0, by simpa using d1, by simpa using d2, by simpa using d3⟩
    by_cases h0 : len = 0
    · exact ⟨[], h0.symm, by omega, .inl rfl⟩
    · have : Inhabited (Int × UInt64 × ByteArray × UInt64) := ⟨(0, 0, ⟨#[]⟩, 0)⟩
      obtain ⟨q, hq⟩ := choose_lt each
      obtain ⟨b, off, rfl⟩ := plain_addr (by have := (hq 0 (by omega)).1; simpa using this)
      refine ⟨(List.range len).map fun i => ⟨(q i).1, (q i).2.1, (q i).2.2.1, (q i).2.2.2⟩, by simp, by unfold maxLen at hm; omega, .inr ⟨b, off, rfl, fun j f hf => ?_⟩⟩
      have hj : j < len := by have := (List.getElem?_eq_some_iff.1 hf).1; simpa using this
      simp [hj] at hf
      subst hf
      obtain ⟨k0, k1, k2, k3⟩ := hq j hj
      rw [Go.WideShapes.add_plain] at k0 k1 k2 k3
      exact ⟨k0, by rw [Nat.add_assoc]; exact k1, by rw [Nat.add_assoc]; exact k2, by rw [Nat.add_assoc]; exact k3⟩

theorem open_kinds {H : Type} {enc : TypeId × Value → H} {w : World} {spare : Nat → Bool} {held : Bool} {fuel : Nat} {a : Option Addr} {len cap : Nat} {x : DataW H × List MemPlace}
    (h : DataW.trod enc Try.prog w 0 spare held fuel 23 [.slice a len cap] = some x) : ∃ ks, IsInts w a len ks := by
  rcases open_ints Try.underlying23 Try.underlying3 (by kernel_rfl) h with ⟨hcs, _⟩ | ⟨ad, l, c, zs, hcs, _, hl, hm, hz, _, hcell, hwz⟩
  · simp at hcs
    obtain ⟨rfl, rfl, rfl⟩ := hcs
    exact ⟨[], rfl, .inl rfl⟩
  · simp at hcs
    obtain ⟨rfl, rfl, rfl⟩ := hcs
    have hlm : len ≤ zs.length := by rw [hz]; split <;> omega
    by_cases h0 : len = 0
    · exact ⟨[], h0.symm, .inl rfl⟩
    · obtain ⟨b, off, rfl, hc⟩ := ints_at hcell (by omega)
      refine ⟨zs.take len, by rw [List.length_take]; omega, .inr ⟨b, off, rfl, fun j y hy => ?_⟩⟩
      have hj : j < len := by have := (List.getElem?_eq_some_iff.1 hy).1; rw [List.length_take] at this; omega
      rw [hc j (by omega)]
      rw [List.getElem?_take_of_lt hj, List.getElem?_eq_getElem (by omega)] at hy
      cases hy
      simp [List.getD, show j < zs.length by omega]

theorem u8_of {z : Int} (h : (Lit.int .u8 z).wf = true) : ((UInt8.ofNat z.toNat).toNat : Int) = z := by
  have hb : 0 ≤ z ∧ z ≤ 255 := bounds_u8 h
  have e : (UInt8.ofNat z.toNat).toNat = z.toNat := by simp; omega
  rw [e]; omega

theorem open_bytes {H : Type} {enc : TypeId × Value → H} {w : World} {spare : Nat → Bool} {held : Bool} {fuel : Nat} {a : Option Addr} {len cap : Nat} {x : DataW H × List MemPlace}
    (h : DataW.trod enc Try.prog w 0 spare held fuel 26 [.slice a len cap] = some x) : ∃ bs, IsBytes w a len cap bs := by
  rcases open_ints Try.underlying26 Try.underlying5 (by kernel_rfl) h with ⟨hcs, _⟩ | ⟨ad, l, c, zs, hcs, _, hl, hm, hz, _, hcell, hwz⟩
  · simp at hcs
    obtain ⟨rfl, rfl, rfl⟩ := hcs
    exact ⟨[], rfl, Nat.le_refl _, .inl rfl⟩
  · simp at hcs
    obtain ⟨rfl, rfl, rfl⟩ := hcs
    have hlm : len ≤ zs.length := by rw [hz]; split <;> omega
    by_cases h0 : len = 0
    · exact ⟨[], h0.symm, hl, .inl rfl⟩
    · obtain ⟨b, off, rfl, hc⟩ := ints_at hcell (by omega)
      refine ⟨(zs.take len).map fun z => UInt8.ofNat z.toNat, by rw [List.length_map, List.length_take]; omega, hl, .inr ⟨b, off, rfl, fun j hj => ?_⟩⟩
      rw [List.length_map, List.length_take] at hj
      rw [hc j (by omega)]
      have hw := hwz (zs[j]'(by omega)) (List.getElem_mem _)
      have e1 : zs.getD j 0 = zs[j]'(by omega) := by simp [List.getD, show j < zs.length by omega]
      rw [e1]
      simp only [List.getElem_map, List.getElem_take]
      rw [u8_of hw]

end Go.Proofs.Ytjcgkljncaphhaa
