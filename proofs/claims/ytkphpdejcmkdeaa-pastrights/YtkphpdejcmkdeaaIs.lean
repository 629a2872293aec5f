/- What Is gives, of any fields and any kinds. -/
import Derived.Test.YtkphpdejcmkdeaaEncD
namespace Go.Proofs.Ytkphpdejcmkdeaa
open Go.RowKit

/-- Numbers lie behind an address. -/
def AtI (w : World) (a : Option Addr) (ks : List Int) : Prop :=
  ks = [] ∨ ∃ b off, a = some ⟨b, off, none⟩ ∧ ∀ j x, ks[j]? = some x → w.cell? ⟨b, off + j, none⟩ = some (.int .i64 x)

def kindsOf (l : List Pk.Fld) : List Int := l.map (·.kind)

theorem below_drewN {B : Nat} {w w' : World} (h : Below B w w') (q : Nat) : Below B w (w'.drewN q) := ⟨h.os, h.tape, h.output, h.size, h.block⟩

/-- Are fields of these kinds? -/
def isB (l : List Pk.Fld) (ks : List Int) : Bool := decide (kindsOf l = ks)

theorem isB_len {l : List Pk.Fld} {ks : List Int} (h : ¬ l.length = ks.length) : isB l ks = false := by
  unfold isB
  rw [decide_eq_false]
  intro e
  apply h
  rw [← e]; simp [kindsOf]
theorem isB_at {l : List Pk.Fld} {ks : List Int} {k : Nat} {f : Pk.Fld} {x : Int} (h1 : l[k]? = some f) (h2 : ks[k]? = some x) (h : ¬ f.kind = x) : isB l ks = false := by
  unfold isB
  rw [decide_eq_false]
  intro e
  apply h
  rw [← e] at h2
  simp [kindsOf, h1] at h2
  exact h2
theorem isB_all {l : List Pk.Fld} {ks : List Int} (hl : l.length = ks.length) (h : ∀ (k : Nat) (f : Pk.Fld) (x : Int), l[k]? = some f → ks[k]? = some x → f.kind = x) : isB l ks = true := by
  unfold isB
  rw [decide_eq_true]
  apply List.ext_getElem?
  intro k
  by_cases hk : k < l.length
  · have hk2 : k < ks.length := by omega
    have := h k l[k] ks[k] (List.getElem?_eq_getElem hk) (List.getElem?_eq_getElem hk2)
    simp [kindsOf, hk, hk2, this]
  · have hk2 : ¬ k < ks.length := by omega
    simp [kindsOf, hk, hk2]

set_option maxRecDepth 20000 in
set_option maxHeartbeats 2000000 in
theorem is_any (a c : Option Addr) (n m cap kcap : Nat) (l : List Pk.Fld) (ks : List Int) (w : World) (hl : n ≤ 9223372036854775807) (hn : Hid (l.length = n)) (hm : Hid (ks.length = m)) (ha : AtP w a l) (hk : AtI w c ks) :
    Calls Try.prog 28 #[.slice a n cap, .slice c m kcap] w fun e w' => e = .returned (.bool (isB l ks)) ∧ Below w.heap.size w w' := by
  have C : Aside (AtP w a l ∧ AtI w c ks) := ⟨ha, hk⟩
  have hsf := fun a m b W => store_flt a m b W
  generalize hQ : (fun (e : Ending) (w' : World) => e = .returned (.bool (isB l ks)) ∧ Below w.heap.size w w') = Q
  have R : Aside (∀ b w', b = isB l ks → Below w.heap.size w w' → Q (.returned (.bool b)) w') := by
    intro b w' h1 h2; rw [← hQ, h1]; exact ⟨rfl, h2⟩
  clear ha hk hQ
  by_cases hnm : n = m
  · subst hnm
    go_enter Try.func28, Try.ntmps28
    go_wp2_with fail
    go_loopw [14] (fun i wr => ∃ k : Nat, k ≤ n ∧ i = .int .i64 k ∧ (∀ j f x, j < k → l[j]? = some f → ks[j]? = some x → f.kind = x) ∧ Below w.heap.size w wr) (fun i _ => n - (intOf i).toNat)
    case atStart => exact ⟨0, Nat.zero_le _, rfl, fun j f x hj => by omega, Below.refl _ _⟩
    case round =>
      obtain ⟨k, hk, rfl, hall, hb⟩ := hrel
      have H : Aside (∀ j f x, j < k → l[j]? = some f → ks[j]? = some x → f.kind = x) := hall
      clear hall
      by_cases hlt : k < n
      · have hk1 : k < l.length := by rw [hn.out]; exact hlt
        have hk2 : k < ks.length := by rw [hm.out]; exact hlt
        rcases C.out.1 with he | ⟨b, off, rfl, hcs⟩
        · exfalso; rw [he] at hk1; simp at hk1
        rcases C.out.2 with he | ⟨b2, off2, rfl, hcs2⟩
        · exfalso; rw [he] at hk2; simp at hk2
        obtain ⟨c0, c1, c2, c3⟩ := fldAt_later hb rfl (hcs k l[k] (List.getElem?_eq_getElem hk1))
        have d0 := cell_later hb (hcs2 k ks[k] (List.getElem?_eq_getElem hk2))
        have d1 : ∀ o, (wr.alloc o).cell? ⟨b2, off2 + k, none⟩ = some (.int .i64 ks[k]) := fun o => by
          rw [World.cell?_alloc_past _ _ _ (World.block_lt_of_cell? wr _ d0)]; exact d0
        have E1 : Aside (l[k].kind = ks[k] → ∀ j f x, j < k + 1 → l[j]? = some f → ks[j]? = some x → f.kind = x) := by
          intro he j f x hj h1 h2
          by_cases hj2 : j < k
          · exact H.out j f x hj2 h1 h2
          · obtain rfl : j = k := by omega
            rw [List.getElem?_eq_getElem hk1] at h1; rw [List.getElem?_eq_getElem hk2] at h2
            cases h1; cases h2; exact he
        have E2 : Aside (¬ l[k].kind = ks[k] → false = isB l ks) := fun he => (isB_at (List.getElem?_eq_getElem hk1) (List.getElem?_eq_getElem hk2) he).symm
        generalize l[k].kind = fk at c0 E1 E2
        generalize l[k].num.toNat = fn at c1
        generalize l[k].text = ft at c2
        generalize l[k].real.toNat = fr at c3
        generalize ks[k] = x at d0 d1 E1 E2
        have t1 : (k : Int) < (n : Int) := by omega
        have t0 : (0 : Int) ≤ (k : Int) := by omega
        clear hcs hcs2 H
        by_cases hx : fk = x
        · have E := E1.out hx
          have EE : Aside (∀ j f x, j < k + 1 → l[j]? = some f → ks[j]? = some x → f.kind = x) := E
          have hx' : (fk != x) = false := by simp [hx]
          clear E hx E1 E2 R d0
          go_wp2_with fail
          go_quiet (fail)
          go_wp2
          have hbb : ∀ o q, Below w.heap.size w ((wr.alloc o).drewN q) := fun o q => below_drewN (hb.alloc hb.size o) q
          go_roundw
          case rel => exact ⟨k + 1, by omega, by go_num, EE.out, hbb _ _⟩
          case measure => simp [intOf]; omega
        · have EE := E2.out hx
          have hx' : (fk != x) = true := by simp [hx]
          have R1 : Aside (∀ o q, Q (.returned (.bool false)) ((wr.alloc o).drewN q)) := fun o q => R.out false _ EE (below_drewN (hb.alloc hb.size o) q)
          clear hx E1 E2 R d0 EE hb
          go_wp2_with fail
          go_quiet (fail)
          go_wp2
          exact R1.out _ _
      · obtain rfl : k = n := by omega
        have EE : Aside (true = isB l ks) := (isB_all (by rw [hn.out, hm.out]) (fun j f x h1 h2 => H.out j f x (by have := (List.getElem?_eq_some_iff.1 h1).1; rw [hn.out] at this; exact this) h1 h2)).symm
        have R1 := R.out true wr EE.out hb
        clear R
        go_wp2
        exact R1
  · have R1 := R.out false w (isB_len (by rw [hn.out, hm.out]; exact hnm)).symm (Below.refl _ _)
    have hnm' : ((n : Int) != (m : Int)) = true := by
      have : ¬ (n : Int) = (m : Int) := by omega
      simpa using this
    clear R
    go_enter Try.func28, Try.ntmps28
    go_wp2
    exact R1

end Go.Proofs.Ytkphpdejcmkdeaa
