/- What Mid gives of any numbers but none: the one in the middle of a row that holds the same numbers, in order, as the one of its kind. -/
import Derived.Test.YtmggkfebfbnmbaaLays
import Derived.Test.YtmggkfebfbnmbaaWalksD
namespace Go.Proofs.Ytmggkfebfbnmbaa
open Go.RowKit Go.Shelf Go.Lib Go.Sort

def encF (x : UInt64) : Value := .float .f64 x.toNat
def cfF (x y : UInt64) : Int := Fl.ord x.toNat y.toNat

theorem ltF (x y : UInt64) : ltOf cfF x y = decide (Fl.cod x.toNat < Fl.cod y.toNat) := by
  unfold ltOf cfF
  rcases Fl.ord_cases x.toNat y.toNat with ⟨h, e⟩ | ⟨h, e⟩ | ⟨h, e⟩ <;> rw [e]
  · rw [decide_eq_true h]; rfl
  · rw [decide_eq_false (show ¬ Fl.cod x.toNat < Fl.cod y.toNat by omega)]; rfl
  · rw [decide_eq_false (show ¬ Fl.cod x.toNat < Fl.cod y.toNat by omega)]; rfl

theorem swoF : SWO (ltOf cfF) := by
  refine ⟨fun x => ?_, fun x y z h1 h2 => ?_, fun x y z h1 h2 => ?_⟩
  · rw [ltF]; simp
  · rw [ltF] at *; simp at *; omega
  · rw [ltF] at *; simp at *; omega

theorem u64_lt (x : UInt64) : x.toNat < 18446744073709551616 := x.toNat_lt

theorem cmpF (blk off size : Nat) (w : World) : CmpReads Try.prog 17 #[] encF cfF blk off size w :=
  fun _ _ _ _ x y => (order_any x.toNat y.toNat _ (u64_lt x) (u64_lt y)).mono fun _ _ ⟨he, hw⟩ => ⟨he, 0, hw⟩

theorem holdsF {w : World} {base e n cap g : Nat} {zs : List UInt64} (hz : zs.length = n) (h : w.ownsRow base e 1 (.slice (some ⟨g, 0, none⟩) n cap) n (zs.map encF)) :
    Holds encF w g 0 zs.toArray ∧ g < w.heap.size ∧ base ≤ g := by
  rcases h.2 with ⟨h0, _⟩ | ⟨g', cap', cur, hv, hg, hb, _, _, _, ht⟩
  · cases h0
  cases hv
  refine ⟨fun j hj => ⟨?_, by simp [World.frozen?, hb]⟩, (Array.getElem?_eq_some_iff.1 hb).1, hg⟩
  have hj' : j < zs.length := by simpa using hj
  have h1 : (cur.toList.take (n * 1))[j]? = (zs.map encF)[j]? := by rw [ht]
  rw [List.getElem?_take_of_lt (by omega)] at h1
  simp only [World.cell?, hb, Nat.zero_add, Option.isSome_none, Bool.false_eq_true, if_false]
  rw [← Array.getElem?_toList, h1]
  simp [hj']

theorem belowF {w : World} {B g n : Nat} {d : Array UInt64} {os : Array Obj} (h : B ≤ g) (hB : B ≤ w.heap.size) : Below B w (sortWorld encF w g 0 n d os) := by
  refine ⟨rfl, rfl, rfl, ?_, fun k hk => ?_⟩
  · unfold sortWorld; rw [Sort.size_grow, Sort.size_putRow]; show w.heap.size ≤ w.heap.size + _; omega
  · unfold sortWorld
    rw [heap_grow_old _ _ (by rw [Sort.size_putRow]; show k < w.heap.size; omega)]
    have : g ≠ k := by omega
    simp [putRow, mapBlock, Sort.ahead, Array.getElem?_modify, this]

theorem clone_any (zs : List UInt64) (b off c : Nat) (w : World) (hn : zs.length ≤ 4096)
    (hc : ∀ j u, (zs.map encF)[j]? = some u → w.cell? ⟨b, off + j, none⟩ = some u) :
    Calls Try.prog 33 #[.slice (some ⟨b, off, none⟩) zs.length c] w fun e w' => ∃ v', e = .returned v' ∧ w'.ownsRow w.heap.size 24 1 v' zs.length (zs.map encF) ∧ v' ≠ .slice none 0 0 ∧ Below w.heap.size w w' :=
  AnyE.slices_Clone lay33 ((Try.prog.info? 24).get (by kernel_rfl)) (.float .f64 0) 1 8 (by kernel_rfl) (by kernel_rfl) (by kernel_rfl) (by kernel_rfl) rfl (by decide) Try.sizeOf24
    b off zs.length c (zs.map encF) w (by simp) (by unfold maxLen; omega) (by omega) hc (by intro u hu; simp at hu; obtain ⟨x, _, rfl⟩ := hu; rfl)

theorem sort_any (zs : List UInt64) (g cap : Nat) (w : World) (hn : zs.length ≤ 4096) (hH : Holds encF w g 0 zs.toArray) (hg : g < w.heap.size) :
    Calls Try.prog 34 #[.slice (some ⟨g, 0, none⟩) zs.length cap, .func (.func 17) #[] #[]] w fun e w' =>
      e = .returned (.tuple #[]) ∧ ∃ d' n os, PermIn 0 zs.length zs.toArray d' ∧ SortedIn (ltOf cfF) 0 zs.length d' ∧ w' = sortWorld encF w g 0 n d' os := by
  have h := Any.slices_SortFunc lay34 encF (fun _ => rfl) cfF swoF 17 #[] g 0 cap zs.toArray w (enters_of Try.func17 (by kernel_rfl) rfl) (cmpF g 0 _ w).lays hH hg (by simp; omega)
  change Calls Try.prog 34 _ _ _ at h
  simpa using h

set_option maxHeartbeats 1000000 in
theorem mid_any (zs : List UInt64) (b off c : Nat) (w : World) (h0 : 0 < zs.length) (hn : zs.length ≤ 4096)
    (hc : ∀ j u, (zs.map encF)[j]? = some u → w.cell? ⟨b, off + j, none⟩ = some u) :
    Calls Try.prog 21 #[.slice (some ⟨b, off, none⟩) zs.length c] w fun e w' =>
      ∃ d : Array UInt64, e = .returned (.float .f64 (Fl.can (d[(zs.length - 1) / 2]!).toNat)) ∧ PermIn 0 zs.length zs.toArray d ∧ SortedIn (ltOf cfF) 0 zs.length d ∧ Below w.heap.size w w' := by
  have hcl := clone_any zs b off c w hn hc
  have hso := fun g cap W hH hg => sort_any zs g cap W hn hH hg
  clear hc
  generalize hl : zs.length = n at *
  have HL : Hid (zs.length = n) := hl
  clear hl
  have t0 : ((n : Int) == 0) = false := beq_eq_false_iff_ne.2 (by omega)
  go_enter Try.func21, Try.ntmps21
  go_wp2_with fail
  refine hcl.mono ?_
  rintro e w1 ⟨v', rfl, hown, hnil, hb⟩
  rcases id hown.2 with ⟨hn0, _⟩ | ⟨g, cap, cur, hv, _, _, _, _, _, _⟩
  · exact absurd hn0 hnil
  rw [hv]
  rw [hv] at hown
  clear hv hnil
  obtain ⟨hH, hg, hge⟩ := holdsF HL.out hown
  clear hown
  go_wp2_with fail
  refine (hso g cap w1 hH hg).mono ?_
  rintro e w2 ⟨rfl, d, m, os, hp, hs, hw⟩
  have hd : d.size = n := by have := hp.1; rw [this]; simpa using HL.out
  have hh := holds_sortWorld encF w1 g 0 m zs.toArray d os hg hH (by rw [hd]; simpa using HL.out.symm)
  have hb2 : RowKit.Below w.heap.size w w2 := by rw [hw]; exact hb.trans (belowF hge hb.size)
  rw [← hw] at hh
  have hcell := (hh ((n - 1) / 2) (by omega)).1
  rw [Nat.zero_add] at hcell
  clear hh hw hH hg hge hso hcl hb
  have hx := u64_lt (d[(n - 1) / 2]!)
  have HP : Hid (PermIn 0 n zs.toArray d ∧ SortedIn (ltOf cfF) 0 n d) := ⟨hp, hs⟩
  clear hp hs
  unfold encF at hcell
  have hca := fun W => canon_any (d[(n - 1) / 2]!).toNat W hx
  clear hx hd
  generalize hxx : (d[(n - 1) / 2]!).toNat = x at hcell hca
  have HX : Hid ((d[(n - 1) / 2]!).toNat = x) := hxx
  clear hxx
  go_wp2_with fail
  refine (hca _).mono ?_; rintro e w3 ⟨rfl, rfl⟩
  go_wp2
  go_ret
  exact ⟨d, by rw [HX.out]; rfl, HP.out.1, HP.out.2, hb2⟩

set_option maxHeartbeats 1000000 in
/-- Mid of none: the one NaN. -/
theorem mid_none (a : Option Addr) (c : Nat) (w : World) :
    Calls Try.prog 21 #[.slice a 0 c] w fun e w' => e = .returned (.float .f64 9221120237041090561) ∧ w' = w := by
  have hk := canon_any 9221120237041090561 w (by omega)
  rw [show Fl.can 9221120237041090561 = 9221120237041090561 from rfl] at hk
  go_enter Try.func21, Try.ntmps21
  go_wp2_with fail
  refine (nan_any _).mono ?_; rintro e w' ⟨rfl, rfl⟩
  go_wp2_with fail
  refine hk.mono ?_; rintro e w' ⟨rfl, rfl⟩
  go_wp2
  go_ret
  exact ⟨rfl, rfl⟩

/-- In a row that stands in order: as many as have to stand ahead of a place. -/
theorem mid_cod (zs : List UInt64) (d : Array UInt64) (k x : Nat) (hk : k < zs.length) (hp : PermIn 0 zs.length zs.toArray d) (hs : SortedIn (ltOf cfF) 0 zs.length d)
    (h1 : zs.countP (fun y => decide (Fl.cod y.toNat < x)) ≤ k) (h2 : k < zs.countP (fun y => decide (Fl.cod y.toNat ≤ x))) : Fl.cod (d[k]!).toNat = x := by
  obtain ⟨p1, _, p3⟩ := hp
  have hl : d.toList.length = zs.length := by simpa using p1
  have hpm : d.toList.Perm zs := by
    have e1 : (d.extract 0 zs.length).toList = d.toList := by
      have : zs.length = d.size := by simpa using p1.symm
      rw [this]; simp
    have e2 : (zs.toArray.extract 0 zs.length).toList = zs := by simp
    rw [e1, e2] at p3
    exact p3
  rw [← hpm.countP_eq] at h1 h2
  have hget : ∀ j, (hj : j < d.toList.length) → d.toList[j] = d[j]! := by
    intro j hj
    have : j < d.size := by simpa using hj
    simp [this]
  have hord : ∀ i j, i ≤ j → j < zs.length → Fl.cod (d[i]!).toNat ≤ Fl.cod (d[j]!).toNat := by
    intro i j hij hj
    rcases Nat.lt_or_eq_of_le hij with h | h
    · have := hs i j (Nat.zero_le _) h hj
      rw [ltF] at this
      have := of_decide_eq_false this
      omega
    · subst h; exact Nat.le_refl _
  rcases Nat.lt_trichotomy (Fl.cod (d[k]!).toNat) x with h | h | h
  · exfalso
    have ht : (d.toList.take (k + 1)).countP (fun y => decide (Fl.cod y.toNat < x)) = (d.toList.take (k + 1)).length := by
      rw [List.countP_eq_length]
      intro y hy
      obtain ⟨i, hi, rfl⟩ := List.getElem_of_mem hy
      rw [List.length_take] at hi
      rw [List.getElem_take, hget i (by omega)]
      have := hord i k (by omega) hk
      exact decide_eq_true (by omega)
    rw [List.length_take] at ht
    have hsum : d.toList.countP (fun y => decide (Fl.cod y.toNat < x)) = (d.toList.take (k + 1)).countP (fun y => decide (Fl.cod y.toNat < x)) + (d.toList.drop (k + 1)).countP (fun y => decide (Fl.cod y.toNat < x)) := by
      rw [← List.countP_append, List.take_append_drop]
    omega
  · exact h
  · exfalso
    have ht : (d.toList.drop k).countP (fun y => decide (Fl.cod y.toNat ≤ x)) = 0 := by
      rw [List.countP_eq_zero]
      intro y hy
      obtain ⟨i, hi, rfl⟩ := List.getElem_of_mem hy
      rw [List.length_drop] at hi
      rw [List.getElem_drop, hget (k + i) (by omega)]
      have := hord k (k + i) (by omega) (by omega)
      simp only [decide_eq_true_eq]
      omega
    have hle : (d.toList.take k).countP (fun y => decide (Fl.cod y.toNat ≤ x)) ≤ (d.toList.take k).length := List.countP_le_length
    rw [List.length_take] at hle
    have hsum : d.toList.countP (fun y => decide (Fl.cod y.toNat ≤ x)) = (d.toList.take k).countP (fun y => decide (Fl.cod y.toNat ≤ x)) + (d.toList.drop k).countP (fun y => decide (Fl.cod y.toNat ≤ x)) := by
      rw [← List.countP_append, List.take_append_drop]
    omega

end Go.Proofs.Ytmggkfebfbnmbaa
