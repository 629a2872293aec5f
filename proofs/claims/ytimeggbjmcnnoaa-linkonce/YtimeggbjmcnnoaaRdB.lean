/- What head gives: it goes behind a term's own bytes, or gives up. -/
import Derived.Test.YtimeggbjmcnnoaaRdA
namespace Go.Proofs.Ytimeggbjmcnnoaa
open Go.RowKit

/-- What head is to give. -/
def HeadPost (bs : List UInt8) (pb : Nat) (s : ByteArray) (i : Nat) (w : World) (e : Ending) (w' : World) : Prop :=
  (if Tm.own bs = 0 then e = .panicked (gave 4) else e = .returned (.int .u8 ((bs.headD 0).toNat : Int)) ∧ Rd w' pb s (i + Tm.own bs)) ∧ w.grownBy w' (some pb)

theorem drop_len {s : ByteArray} {i : Nat} {bs : List UInt8} (h : s.data.toList.drop i = bs) (hi : i ≤ s.size) : i + bs.length = s.size := by
  have : bs.length = s.size - i := by rw [← h, List.length_drop]; simp
  omega

theorem byte_ne {k m : UInt8} (h : ¬ k = m) : ((k.toNat : Int) == (m.toNat : Int)) = false := by
  have : ¬ (k.toNat : Int) = (m.toNat : Int) := fun e => h (UInt8.toNat_inj.1 (by omega))
  simpa using this

set_option maxHeartbeats 2000000 in
theorem head_any (pb i : Nat) (s : ByteArray) (bs : List UInt8) (w : World) (h : Rd w pb s i) (hb : s.data.toList.drop i = bs) :
    Calls Try.prog 54 #[.pointer (some ⟨pb, 0, none⟩)] w (HeadPost bs pb s i w) := by
  have hlen := drop_len hb h.2.2.2.1
  cases bs with
  | nil =>
    have ho := one_end pb i s w h hb
    have G : Aside (∀ w', w.grownBy w' (some pb) → HeadPost [] pb s i w (.panicked (gave 4)) w') := fun w' hg => ⟨by simp [Tm.own], hg⟩
    generalize HeadPost [] pb s i w = Q at G ⊢
    clear h hb hlen
    go_enter Try.func54, Try.ntmps54
    go_wp2_with fail
    refine ho.mono ?_
    rintro e w1 ⟨rfl, hg⟩
    have Q1 := G.out _ hg
    clear G hg ho
    go_wp2
    exact ⟨rfl, Q1⟩
  | cons k r =>
    have ho := one_ok pb i s k r w h hb
    have hr := (at_place hb).2.2
    clear h
    by_cases e1 : k = 110
    · subst e1
      by_cases e2 : 2 ≤ r.length
      · have hS : Aside (∀ w1, Rd w1 pb s (i + 1) → _) := fun w1 h1 => skip_ok pb (i + 1) 2 s w1 h1 (by simp at hlen; omega)
        have G : Aside (∀ w', w.grownBy w' (some pb) → Rd w' pb s (i + 1 + 2) → HeadPost (110 :: r) pb s i w (.returned (.int .u8 110)) w') := by
          intro w' hg h2
          have e : Tm.own (110 :: r) = 3 := by simp [Tm.own, e2]
          exact ⟨by rw [if_neg (by omega), e]; exact ⟨rfl, h2⟩, hg⟩
        generalize HeadPost (110 :: r) pb s i w = Q at G ⊢
        clear hb hlen hr
        go_enter Try.func54, Try.ntmps54
        go_wp2_with fail
        refine ho.mono ?_
        rintro e w1 ⟨rfl, hg, hr1⟩
        have hS1 := hS.out w1 hr1
        rw [show ((110 : UInt8).toNat : Int) = 110 from rfl]
        clear ho hr1 hS
        go_wp2_with fail
        refine hS1.mono ?_
        rintro e w2 ⟨rfl, hg2, hr2⟩
        have Q1 := G.out w2 (Lib.grownBy_trans hg hg2) hr2
        clear hS1 hg hg2 hr2 G
        go_wp2
        exact Q1
      · have hS : Aside (∀ w1, Rd w1 pb s (i + 1) → _) := fun w1 h1 => skip_bad pb (i + 1) 2 s w1 h1 (by simp at hlen; omega)
        have G : Aside (∀ w', w.grownBy w' (some pb) → HeadPost (110 :: r) pb s i w (.panicked (gave 4)) w') := by
          intro w' hg
          have e : Tm.own (110 :: r) = 0 := by simp [Tm.own]; omega
          exact ⟨by rw [if_pos e], hg⟩
        generalize HeadPost (110 :: r) pb s i w = Q at G ⊢
        clear hb hlen hr
        go_enter Try.func54, Try.ntmps54
        go_wp2_with fail
        refine ho.mono ?_
        rintro e w1 ⟨rfl, hg, hr1⟩
        have hS1 := hS.out w1 hr1
        rw [show ((110 : UInt8).toNat : Int) = 110 from rfl]
        clear ho hr1 hS
        go_wp2_with fail
        refine hS1.mono ?_
        rintro e w2 ⟨rfl, hg2⟩
        have Q1 := G.out w2 (Lib.grownBy_trans hg hg2)
        clear hS1 hg hg2 G
        go_wp2
        exact ⟨rfl, Q1⟩
    · have n1 : ((k.toNat : Int) == 110) = false := byte_ne (m := 110) e1
      by_cases e2 : k = 99
      · subst e2
        cases r with
        | nil =>
          have hO : Aside (∀ w1, Rd w1 pb s (i + 1) → _) := fun w1 h1 => one_end pb (i + 1) s w1 h1 hr
          have G : Aside (∀ w', w.grownBy w' (some pb) → HeadPost [99] pb s i w (.panicked (gave 4)) w') := fun w' hg => ⟨by simp [Tm.own], hg⟩
          generalize HeadPost [99] pb s i w = Q at G ⊢
          clear hb hlen hr e1 n1
          go_enter Try.func54, Try.ntmps54
          go_wp2_with fail
          refine ho.mono ?_
          rintro e w1 ⟨rfl, hg, hr1⟩
          have hO1 := hO.out w1 hr1
          rw [show ((99 : UInt8).toNat : Int) = 99 from rfl]
          clear ho hr1 hO
          go_wp2_with fail
          refine hO1.mono ?_
          rintro e w2 ⟨rfl, hg2⟩
          have Q1 := G.out w2 (Lib.grownBy_trans hg hg2)
          clear hO1 hg hg2 G
          go_wp2
          exact ⟨rfl, Q1⟩
        | cons n q =>
          have hO : Aside (∀ w1, Rd w1 pb s (i + 1) → _) := fun w1 h1 => one_ok pb (i + 1) s n q w1 h1 hr
          by_cases e3 : n.toNat ≤ 40
          · by_cases e4 : n.toNat ≤ q.length
            · have hS : Aside (∀ w1, Rd w1 pb s (i + 1 + 1) → _) := fun w1 h1 => skip_ok pb (i + 1 + 1) n.toNat s w1 h1 (by simp at hlen; omega)
              have G : Aside (∀ w', w.grownBy w' (some pb) → Rd w' pb s (i + 1 + 1 + n.toNat) → HeadPost (99 :: n :: q) pb s i w (.returned (.int .u8 99)) w') := by
                intro w' hg h2
                have e : Tm.own (99 :: n :: q) = 2 + n.toNat := by simp [Tm.own, e3, e4]
                exact ⟨by rw [if_neg (by omega), e]; exact ⟨rfl, by rw [show i + (2 + n.toNat) = i + 1 + 1 + n.toNat by omega]; exact h2⟩, hg⟩
              generalize HeadPost (99 :: n :: q) pb s i w = Q at G ⊢
              have t1 : ¬ (40 : Int) < (n.toNat : Int) := by omega
              generalize n.toNat = m at *
              clear hb hlen hr e1 n1
              go_enter Try.func54, Try.ntmps54
              go_wp2_with fail
              refine ho.mono ?_
              rintro e w1 ⟨rfl, hg, hr1⟩
              have hO1 := hO.out w1 hr1
              rw [show ((99 : UInt8).toNat : Int) = 99 from rfl]
              clear ho hr1 hO
              go_wp2_with fail
              refine hO1.mono ?_
              rintro e w2 ⟨rfl, hg2, hr2⟩
              have hS1 := hS.out w2 hr2
              have hg3 : Aside (w.grownBy w2 (some pb)) := Lib.grownBy_trans hg hg2
              clear hO1 hr2 hS hg hg2
              go_wp2_with fail
              refine hS1.mono ?_
              rintro e w3 ⟨rfl, hg4, hr3⟩
              have Q1 := G.out w3 (Lib.grownBy_trans hg3.out hg4) hr3
              clear hS1 hg3 hg4 hr3 G
              go_wp2
              exact Q1
            · have hS : Aside (∀ w1, Rd w1 pb s (i + 1 + 1) → _) := fun w1 h1 => skip_bad pb (i + 1 + 1) (n.toNat : Int) s w1 h1 (by simp at hlen; omega)
              have G : Aside (∀ w', w.grownBy w' (some pb) → HeadPost (99 :: n :: q) pb s i w (.panicked (gave 4)) w') := by
                intro w' hg
                have e : Tm.own (99 :: n :: q) = 0 := by simp [Tm.own]; omega
                exact ⟨by rw [if_pos e], hg⟩
              generalize HeadPost (99 :: n :: q) pb s i w = Q at G ⊢
              have t1 : ¬ (40 : Int) < (n.toNat : Int) := by omega
              generalize n.toNat = m at *
              clear hb hlen hr e1 n1
              go_enter Try.func54, Try.ntmps54
              go_wp2_with fail
              refine ho.mono ?_
              rintro e w1 ⟨rfl, hg, hr1⟩
              have hO1 := hO.out w1 hr1
              rw [show ((99 : UInt8).toNat : Int) = 99 from rfl]
              clear ho hr1 hO
              go_wp2_with fail
              refine hO1.mono ?_
              rintro e w2 ⟨rfl, hg2, hr2⟩
              have hS1 := hS.out w2 hr2
              have hg3 : Aside (w.grownBy w2 (some pb)) := Lib.grownBy_trans hg hg2
              clear hO1 hr2 hS hg hg2
              go_wp2_with fail
              refine hS1.mono ?_
              rintro e w3 ⟨rfl, hg4⟩
              have Q1 := G.out w3 (Lib.grownBy_trans hg3.out hg4)
              clear hS1 hg3 hg4 G
              go_wp2
              exact ⟨rfl, Q1⟩
          · have G : Aside (∀ w', w.grownBy w' (some pb) → HeadPost (99 :: n :: q) pb s i w (.panicked (gave 4)) w') := by
              intro w' hg
              have e : Tm.own (99 :: n :: q) = 0 := by simp [Tm.own]; omega
              exact ⟨by rw [if_pos e], hg⟩
            generalize HeadPost (99 :: n :: q) pb s i w = Q at G ⊢
            have t1 : (40 : Int) < (n.toNat : Int) := by omega
            have t2 : n.toNat < 256 := n.toNat_lt
            generalize n.toNat = m at *
            clear hb hlen hr e1 n1
            go_enter Try.func54, Try.ntmps54
            go_wp2_with fail
            refine ho.mono ?_
            rintro e w1 ⟨rfl, hg, hr1⟩
            have hO1 := hO.out w1 hr1
            rw [show ((99 : UInt8).toNat : Int) = 99 from rfl]
            clear ho hr1 hO
            go_wp2_with fail
            refine hO1.mono ?_
            rintro e w2 ⟨rfl, hg2, hr2⟩
            have Q1 := G.out w2 (Lib.grownBy_trans hg hg2)
            clear hO1 hg hg2 hr2 G
            go_wp2
            exact ⟨rfl, Q1⟩
      · have n2 : ((k.toNat : Int) == 99) = false := byte_ne (m := 99) e2
        have hP := fun w1 => partsOf_any k w1
        by_cases e3 : Tm.ar1 k = 0
        · have G : Aside (∀ w', w.grownBy w' (some pb) → HeadPost (k :: r) pb s i w (.panicked (gave 4)) w') := by
            intro w' hg
            have e : Tm.own (k :: r) = 0 := by simp [Tm.own, e1, e2, e3]
            exact ⟨by rw [if_pos e], hg⟩
          generalize HeadPost (k :: r) pb s i w = Q at G ⊢
          rw [e3] at hP
          generalize k.toNat = m at *
          have P : Aside (∀ w1, _) := hP
          clear hb hlen hr e1 e2 e3 hP
          go_enter Try.func54, Try.ntmps54
          go_wp2_with fail
          refine ho.mono ?_
          rintro e w1 ⟨rfl, hg, hr1⟩
          have Q1 := G.out w1 hg
          clear ho hr1 hg G
          go_wp2_with fail
          refine (P.out w1).mono ?_
          rintro e w2 ⟨rfl, hw⟩
          replace hw := hw.symm; subst hw
          go_wp2
          exact ⟨rfl, Q1⟩
        · have G : Aside (∀ w', w.grownBy w' (some pb) → Rd w' pb s (i + 1) → HeadPost (k :: r) pb s i w (.returned (.int .u8 (k.toNat : Int))) w') := by
            intro w' hg h2
            have e : Tm.own (k :: r) = 1 := Tm.own_kind r e3
            exact ⟨by rw [if_neg (by omega), e]; exact ⟨rfl, h2⟩, hg⟩
          generalize HeadPost (k :: r) pb s i w = Q at G ⊢
          have t0 : ((Tm.ar1 k : Int) == 0) = false := by
            have : ¬ (Tm.ar1 k : Int) = 0 := by omega
            simpa using this
          generalize Tm.ar1 k = a at hP t0
          generalize k.toNat = m at *
          have P : Aside (∀ w1, _) := hP
          clear hb hlen hr e1 e2 e3 hP
          go_enter Try.func54, Try.ntmps54
          go_wp2_with fail
          refine ho.mono ?_
          rintro e w1 ⟨rfl, hg, hr1⟩
          have Q1 := G.out w1 hg hr1
          clear ho hr1 hg G
          go_wp2_with fail
          refine (P.out w1).mono ?_
          rintro e w2 ⟨rfl, hw⟩
          replace hw := hw.symm; subst hw
          go_wp2
          exact Q1

end Go.Proofs.Ytimeggbjmcnnoaa
