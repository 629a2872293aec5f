/- What Open gives, the program's and the document's: what was sealed by a key, or the error. -/
import Derived.Test.YtldojinnipbblaaRefD
import Derived.Test.YtldojinnipbblaaRefE
namespace Go.Proofs.Ytldojinnipbblaa
open Go.RowKit

theorem eq_lists (x y : ByteArray) : (x.toList == y.toList) = decide (x.data.toList = y.data.toList) := by
  rw [ByteArray.toList_eq, ByteArray.toList_eq]
  by_cases h : x.data.toList = y.data.toList
  · rw [h]; simp
  · rw [decide_eq_false h]; simpa using h

namespace Tm
theorem seal_parts {bs : List UInt8} (h : chk bs = 0) (hk : kindOf bs = 115) : ∃ x y, partsOf bs = [x, y] := by
  obtain ⟨t, k, r, ht, hw, hbs, hk2, hpt, har, hwk, hlen, hr⟩ := parts_at h
  rw [hk] at hk2
  subst hk2
  rw [show ar1 115 = 2 by decide] at har
  match hks : kids t, har with
  | [a, b], _ => exact ⟨text a, text b, by rw [hpt, hks]; rfl⟩
end Tm

/-- What Open is to give. -/
def OpenPost (key bs : List UInt8) (w : World) (e : Ending) (w' : World) : Prop :=
  e = .returned (.tuple #[str (Tm.openR key bs), .int .i64 (Tm.openE key bs : Nat)]) ∧ Below w.heap.size w w'

theorem openPost_err {key bs : List UInt8} {w w' : World} {c : Nat} (h : Tm.openE key bs = c) (hc : c ≠ 0) (hb : Below w.heap.size w w') : OpenPost key bs w (.returned (.tuple #[.string ⟨#[]⟩, .int .i64 (c : Nat)])) w' := by
  refine ⟨?_, hb⟩
  have : Tm.openR key bs = [] := by unfold Tm.openR; rw [if_neg (by omega)]
  rw [this, h]; rfl

set_option maxHeartbeats 4000000 in
theorem open_any (key s : ByteArray) (w : World) : Calls Try.prog 25 #[.string key, .string s] w (OpenPost key.data.toList s.data.toList w) := by
  have hC := check_any key w
  by_cases k0 : Tm.chk key.data.toList = 0
  · have hP : Aside (∀ W, _) := fun W => parts_any s W
    unfold PartsPost at hP
    rw [k0] at hC
    by_cases b0 : Tm.chk s.data.toList = 0
    · by_cases h1 : Tm.kindOf s.data.toList = 115
      · obtain ⟨x, y, hxy⟩ := Tm.seal_parts b0 h1
        have te : ((⟨x.toArray⟩ : ByteArray).toList == key.toList) = decide (x = key.data.toList) := eq_lists _ _
        have G1 : Aside (x = key.data.toList → ∀ w', Below w.heap.size w w' → OpenPost key.data.toList s.data.toList w (.returned (.tuple #[.string ⟨y.toArray⟩, .int .i64 0])) w') := by
          intro h2 w' hb
          have e1 : Tm.openE key.data.toList s.data.toList = 0 := by unfold Tm.openE; rw [if_pos k0, if_pos b0, if_pos h1, hxy]; simp [h2]
          have e2 : Tm.openR key.data.toList s.data.toList = y := by unfold Tm.openR; rw [if_pos e1, hxy]; rfl
          exact ⟨by rw [e1, e2]; rfl, hb⟩
        have G2 : Aside (¬ x = key.data.toList → ∀ w', Below w.heap.size w w' → OpenPost key.data.toList s.data.toList w (.returned (.tuple #[.string ⟨#[]⟩, .int .i64 (12 : Nat)])) w') := by
          intro h2 w' hb
          exact openPost_err (by unfold Tm.openE; rw [if_pos k0, if_pos b0, if_pos h1, hxy]; simp [h2]) (by omega) hb
        generalize OpenPost key.data.toList s.data.toList w = Q at G1 G2 ⊢
        rw [hxy, h1, b0] at hP
        have hP2 : Aside (∀ W, Calls Try.prog 12 #[.string s] W fun e w' => ∃ g off cap, e = .returned (.tuple #[.int .u8 115, .slice (some ⟨g, off, none⟩) 2 cap, .int .i64 0]) ∧ 2 ≤ cap ∧ w'.cell? ⟨g, off, none⟩ = some (.string ⟨x.toArray⟩) ∧ w'.cell? ⟨g, off + 1, none⟩ = some (.string ⟨y.toArray⟩) ∧ Below W.heap.size W w') := by
          intro W
          refine (hP.out W).mono ?_
          rintro e w2 ⟨v, rfl, hown, hb2⟩
          obtain ⟨a, cap, rfl, hl, hcap, hat⟩ := owns_strs hown
          rcases hat with he | ⟨b, off, rfl, hc⟩
          · cases he
          · exact ⟨b, off, cap, rfl, hcap, hc 0 x rfl, hc 1 y rfl, hb2⟩
        generalize (⟨y.toArray⟩ : ByteArray) = yy at *
        generalize (⟨x.toArray⟩ : ByteArray) = xx at *
        generalize hd : decide (x = key.data.toList) = d at te
        have G3 : Aside (d = true → ∀ w', Below w.heap.size w w' → Q (.returned (.tuple #[.string yy, .int .i64 0])) w') := fun h => G1.out (of_decide_eq_true (hd.trans h))
        have G4 : Aside (d = false → ∀ w', Below w.heap.size w w' → Q (.returned (.tuple #[.string ⟨#[]⟩, .int .i64 12])) w') := fun h => G2.out (of_decide_eq_false (hd.trans h))
        clear k0 b0 h1 hxy hd hP G1 G2
        cases d with
        | false =>
          go_enter Try.func25, Try.ntmps25
          go_wp2_with fail
          refine hC.mono ?_
          rintro e w1 ⟨rfl, hb1⟩
          have B1 : Aside (Below w.heap.size w w1) := hb1
          clear hC hb1
          go_wp2_with fail
          refine (hP2.out w1).mono ?_
          rintro e w2 ⟨g, off, cap, rfl, hcap, c0, c1, hb2⟩
          have Q1 := G4.out (by first | rfl | trivial) w2 (below_step B1.out hb2)
          clear hb2 B1 G3 G4 hP2
          go_wp2
          exact Q1
        | true =>
          go_enter Try.func25, Try.ntmps25
          go_wp2_with fail
          refine hC.mono ?_
          rintro e w1 ⟨rfl, hb1⟩
          have B1 : Aside (Below w.heap.size w w1) := hb1
          clear hC hb1
          go_wp2_with fail
          refine (hP2.out w1).mono ?_
          rintro e w2 ⟨g, off, cap, rfl, hcap, c0, c1, hb2⟩
          have Q1 := G3.out (by first | rfl | trivial) w2 (below_step B1.out hb2)
          clear hb2 B1 G3 G4 hP2
          go_wp2
          exact Q1
      · have G : Aside (∀ w', Below w.heap.size w w' → OpenPost key.data.toList s.data.toList w (.returned (.tuple #[.string ⟨#[]⟩, .int .i64 (4 : Nat)])) w') := by
          intro w' hb
          exact openPost_err (by unfold Tm.openE; rw [if_pos k0, if_pos b0, if_neg h1]) (by omega) hb
        generalize OpenPost key.data.toList s.data.toList w = Q at G ⊢
        rw [b0] at hP
        have t1 : (((Tm.kindOf s.data.toList).toNat : Int) != 115) = true := by
          have h3 : (((Tm.kindOf s.data.toList).toNat : Int) == 115) = false := byte_ne (m := 115) h1
          rw [bne, h3]; rfl
        generalize (Tm.kindOf s.data.toList).toNat = kk at *
        clear k0 b0 h1
        go_enter Try.func25, Try.ntmps25
        go_wp2_with fail
        refine hC.mono ?_
        rintro e w1 ⟨rfl, hb1⟩
        have B1 : Aside (Below w.heap.size w w1) := hb1
        clear hC hb1
        go_wp2_with fail
        refine (hP.out w1).mono ?_
        rintro e w2 ⟨v, rfl, hown, hb2⟩
        have Q1 := G.out w2 (below_step B1.out hb2)
        clear hown hb2 B1 G
        go_wp2
        exact Q1
    · have G : Aside (∀ w', Below w.heap.size w w' → OpenPost key.data.toList s.data.toList w (.returned (.tuple #[.string ⟨#[]⟩, .int .i64 (Tm.chk s.data.toList : Nat)])) w') := by
        intro w' hb
        exact openPost_err (by unfold Tm.openE; rw [if_pos k0, if_neg b0]) b0 hb
      generalize OpenPost key.data.toList s.data.toList w = Q at G ⊢
      have t1 : (((Tm.chk s.data.toList : Nat) : Int) != 0) = true := by
        have : ¬ ((Tm.chk s.data.toList : Nat) : Int) = 0 := by omega
        simpa using this
      generalize Tm.chk s.data.toList = c at *
      clear k0 b0
      go_enter Try.func25, Try.ntmps25
      go_wp2_with fail
      refine hC.mono ?_
      rintro e w1 ⟨rfl, hb1⟩
      have B1 : Aside (Below w.heap.size w w1) := hb1
      clear hC hb1
      go_wp2_with fail
      refine (hP.out w1).mono ?_
      rintro e w2 ⟨v, rfl, hown, hb2⟩
      have Q1 := G.out w2 (below_step B1.out hb2)
      clear hown hb2 B1 G
      go_wp2
      exact Q1
  · have G : Aside (∀ w', Below w.heap.size w w' → OpenPost key.data.toList s.data.toList w (.returned (.tuple #[.string ⟨#[]⟩, .int .i64 (Tm.chk key.data.toList : Nat)])) w') := by
      intro w' hb
      exact openPost_err (by unfold Tm.openE; rw [if_neg k0]) k0 hb
    generalize OpenPost key.data.toList s.data.toList w = Q at G ⊢
    have t1 : (((Tm.chk key.data.toList : Nat) : Int) != 0) = true := by
      have : ¬ ((Tm.chk key.data.toList : Nat) : Int) = 0 := by omega
      simpa using this
    generalize Tm.chk key.data.toList = c at *
    clear k0
    go_enter Try.func25, Try.ntmps25
    go_wp2_with fail
    refine hC.mono ?_
    rintro e w1 ⟨rfl, hb1⟩
    have Q1 := G.out w1 hb1
    clear hC hb1 G
    go_wp2
    exact Q1

set_option maxHeartbeats 4000000 in
theorem ropen_any (key s : ByteArray) (w : World) : Calls Try.prog 26 #[.string key, .string s] w (OpenPost key.data.toList s.data.toList w) := by
  have hC := rcheck_any key w
  by_cases k0 : Tm.chk key.data.toList = 0
  · have hP : Aside (∀ W, _) := fun W => rparts_any s W
    unfold PartsPost at hP
    rw [k0] at hC
    by_cases b0 : Tm.chk s.data.toList = 0
    · by_cases h1 : Tm.kindOf s.data.toList = 115
      · obtain ⟨x, y, hxy⟩ := Tm.seal_parts b0 h1
        have te : ((⟨x.toArray⟩ : ByteArray).toList == key.toList) = decide (x = key.data.toList) := eq_lists _ _
        have G1 : Aside (x = key.data.toList → ∀ w', Below w.heap.size w w' → OpenPost key.data.toList s.data.toList w (.returned (.tuple #[.string ⟨y.toArray⟩, .int .i64 0])) w') := by
          intro h2 w' hb
          have e1 : Tm.openE key.data.toList s.data.toList = 0 := by unfold Tm.openE; rw [if_pos k0, if_pos b0, if_pos h1, hxy]; simp [h2]
          have e2 : Tm.openR key.data.toList s.data.toList = y := by unfold Tm.openR; rw [if_pos e1, hxy]; rfl
          exact ⟨by rw [e1, e2]; rfl, hb⟩
        have G2 : Aside (¬ x = key.data.toList → ∀ w', Below w.heap.size w w' → OpenPost key.data.toList s.data.toList w (.returned (.tuple #[.string ⟨#[]⟩, .int .i64 (12 : Nat)])) w') := by
          intro h2 w' hb
          exact openPost_err (by unfold Tm.openE; rw [if_pos k0, if_pos b0, if_pos h1, hxy]; simp [h2]) (by omega) hb
        generalize OpenPost key.data.toList s.data.toList w = Q at G1 G2 ⊢
        rw [hxy, h1, b0] at hP
        have hP2 : Aside (∀ W, Calls Try.prog 13 #[.string s] W fun e w' => ∃ g off cap, e = .returned (.tuple #[.int .u8 115, .slice (some ⟨g, off, none⟩) 2 cap, .int .i64 0]) ∧ 2 ≤ cap ∧ w'.cell? ⟨g, off, none⟩ = some (.string ⟨x.toArray⟩) ∧ w'.cell? ⟨g, off + 1, none⟩ = some (.string ⟨y.toArray⟩) ∧ Below W.heap.size W w') := by
          intro W
          refine (hP.out W).mono ?_
          rintro e w2 ⟨v, rfl, hown, hb2⟩
          obtain ⟨a, cap, rfl, hl, hcap, hat⟩ := owns_strs hown
          rcases hat with he | ⟨b, off, rfl, hc⟩
          · cases he
          · exact ⟨b, off, cap, rfl, hcap, hc 0 x rfl, hc 1 y rfl, hb2⟩
        generalize (⟨y.toArray⟩ : ByteArray) = yy at *
        generalize (⟨x.toArray⟩ : ByteArray) = xx at *
        generalize hd : decide (x = key.data.toList) = d at te
        have G3 : Aside (d = true → ∀ w', Below w.heap.size w w' → Q (.returned (.tuple #[.string yy, .int .i64 0])) w') := fun h => G1.out (of_decide_eq_true (hd.trans h))
        have G4 : Aside (d = false → ∀ w', Below w.heap.size w w' → Q (.returned (.tuple #[.string ⟨#[]⟩, .int .i64 12])) w') := fun h => G2.out (of_decide_eq_false (hd.trans h))
        clear k0 b0 h1 hxy hd hP G1 G2
        cases d with
        | false =>
          go_enter Try.func26, Try.ntmps26
          go_wp2_with fail
          refine hC.mono ?_
          rintro e w1 ⟨rfl, hb1⟩
          have B1 : Aside (Below w.heap.size w w1) := hb1
          clear hC hb1
          go_wp2_with fail
          refine (hP2.out w1).mono ?_
          rintro e w2 ⟨g, off, cap, rfl, hcap, c0, c1, hb2⟩
          have Q1 := G4.out (by first | rfl | trivial) w2 (below_step B1.out hb2)
          clear hb2 B1 G3 G4 hP2
          go_wp2
          exact Q1
        | true =>
          go_enter Try.func26, Try.ntmps26
          go_wp2_with fail
          refine hC.mono ?_
          rintro e w1 ⟨rfl, hb1⟩
          have B1 : Aside (Below w.heap.size w w1) := hb1
          clear hC hb1
          go_wp2_with fail
          refine (hP2.out w1).mono ?_
          rintro e w2 ⟨g, off, cap, rfl, hcap, c0, c1, hb2⟩
          have Q1 := G3.out (by first | rfl | trivial) w2 (below_step B1.out hb2)
          clear hb2 B1 G3 G4 hP2
          go_wp2
          exact Q1
      · have G : Aside (∀ w', Below w.heap.size w w' → OpenPost key.data.toList s.data.toList w (.returned (.tuple #[.string ⟨#[]⟩, .int .i64 (4 : Nat)])) w') := by
          intro w' hb
          exact openPost_err (by unfold Tm.openE; rw [if_pos k0, if_pos b0, if_neg h1]) (by omega) hb
        generalize OpenPost key.data.toList s.data.toList w = Q at G ⊢
        rw [b0] at hP
        have t1 : (((Tm.kindOf s.data.toList).toNat : Int) != 115) = true := by
          have h3 : (((Tm.kindOf s.data.toList).toNat : Int) == 115) = false := byte_ne (m := 115) h1
          rw [bne, h3]; rfl
        generalize (Tm.kindOf s.data.toList).toNat = kk at *
        clear k0 b0 h1
        go_enter Try.func26, Try.ntmps26
        go_wp2_with fail
        refine hC.mono ?_
        rintro e w1 ⟨rfl, hb1⟩
        have B1 : Aside (Below w.heap.size w w1) := hb1
        clear hC hb1
        go_wp2_with fail
        refine (hP.out w1).mono ?_
        rintro e w2 ⟨v, rfl, hown, hb2⟩
        have Q1 := G.out w2 (below_step B1.out hb2)
        clear hown hb2 B1 G
        go_wp2
        exact Q1
    · have G : Aside (∀ w', Below w.heap.size w w' → OpenPost key.data.toList s.data.toList w (.returned (.tuple #[.string ⟨#[]⟩, .int .i64 (Tm.chk s.data.toList : Nat)])) w') := by
        intro w' hb
        exact openPost_err (by unfold Tm.openE; rw [if_pos k0, if_neg b0]) b0 hb
      generalize OpenPost key.data.toList s.data.toList w = Q at G ⊢
      have t1 : (((Tm.chk s.data.toList : Nat) : Int) != 0) = true := by
        have : ¬ ((Tm.chk s.data.toList : Nat) : Int) = 0 := by omega
        simpa using this
      generalize Tm.chk s.data.toList = c at *
      clear k0 b0
      go_enter Try.func26, Try.ntmps26
      go_wp2_with fail
      refine hC.mono ?_
      rintro e w1 ⟨rfl, hb1⟩
      have B1 : Aside (Below w.heap.size w w1) := hb1
      clear hC hb1
      go_wp2_with fail
      refine (hP.out w1).mono ?_
      rintro e w2 ⟨v, rfl, hown, hb2⟩
      have Q1 := G.out w2 (below_step B1.out hb2)
      clear hown hb2 B1 G
      go_wp2
      exact Q1
  · have G : Aside (∀ w', Below w.heap.size w w' → OpenPost key.data.toList s.data.toList w (.returned (.tuple #[.string ⟨#[]⟩, .int .i64 (Tm.chk key.data.toList : Nat)])) w') := by
      intro w' hb
      exact openPost_err (by unfold Tm.openE; rw [if_neg k0]) k0 hb
    generalize OpenPost key.data.toList s.data.toList w = Q at G ⊢
    have t1 : (((Tm.chk key.data.toList : Nat) : Int) != 0) = true := by
      have : ¬ ((Tm.chk key.data.toList : Nat) : Int) = 0 := by omega
      simpa using this
    generalize Tm.chk key.data.toList = c at *
    clear k0
    go_enter Try.func26, Try.ntmps26
    go_wp2_with fail
    refine hC.mono ?_
    rintro e w1 ⟨rfl, hb1⟩
    have Q1 := G.out w1 hb1
    clear hC hb1 G
    go_wp2
    exact Q1

end Go.Proofs.Ytldojinnipbblaa
