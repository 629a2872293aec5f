/- TermChecks: the walk. -/
import Derived.Test.YtldojinnipbblaaAlive
import Derived.Test.YtldojinnipbblaaFacts
namespace Go.Proofs.Ytldojinnipbblaa
open Go.RowKit

set_option maxHeartbeats 4000000 in
theorem checks_walk (s : ByteArray) (w : World) : Calls Try.prog 3 #[.string s] w fun e w' => e = .returned (.bool true) ∧ Below w.heap.size w w' := by
  by_cases h1 : 2100 < s.size
  · have t1 : (2100 : Int) < (s.size : Int) := by omega
    go_enter Try.func3, Try.ntmps3
    go_wp2_with fail
    refine (alive_any w).mono ?_
    rintro e w1 ⟨rfl, hb1⟩
    go_wp2
    go_ret
    exact ⟨rfl, hb1⟩
  · have t1 : ¬ (2100 : Int) < (s.size : Int) := by omega
    have H1 : Aside (∀ W, _) := fun W => parts_any s W
    have H2 : Aside (∀ W, _) := fun W => rparts_any s W
    have H3 : Aside (∀ W, _) := fun W => subs_any s W
    have H4 : Aside (∀ W, _) := fun W => rsubs_any s W
    have H5 : Aside (∀ W, _) := fun W => check_any s W
    have H6 : Aside (∀ W, _) := fun W => rcheck_any s W
    unfold PartsPost at H1 H2
    unfold SubsPost at H3 H4
    have L1 : Aside ((Tm.partsOf s.data.toList).length ≤ 2) := Tm.partsOf_len _
    have L2 : Aside ((Tm.subsOf s.data.toList).length ≤ 2000) := Tm.subsOf_len _
    generalize Tm.partsOf s.data.toList = ps at *
    generalize Tm.subsOf s.data.toList = ss at *
    generalize (Tm.kindOf s.data.toList).toNat = kk at *
    generalize Tm.chk s.data.toList = c at *
    have HS : Aside (∀ (l : List (List UInt8)) (a b : Option Addr) (n m cap ccap : Nat) (W : World), l.length = n → l.length = m → AtS W a l → AtS W b l → n ≤ 4000 → Calls Try.prog 18 #[.slice a n cap, .slice b m ccap] W fun e w' => e = .returned (.bool true) ∧ Below W.heap.size W w') := by
      intro l a b n m cap ccap W h1 h2 h3 h4 h5
      have := same_any a b n cap m ccap l l W h1 h2 h3 h4 h5
      rw [decide_eq_true rfl] at this
      exact this
    go_enter Try.func3, Try.ntmps3
    go_wp2_with fail
    refine (alive_any w).mono ?_
    rintro e w1 ⟨rfl, hb1⟩
    have B1 : Aside (Below w.heap.size w w1) := hb1
    clear hb1
    go_wp2_with fail
    refine (H1.out w1).mono ?_
    rintro e w2 ⟨v2, rfl, ho2, hb2⟩
    obtain ⟨a2, c2, rfl, hl2, -, ha2⟩ := owns_strs ho2
    have B2 : Aside (Below w.heap.size w w2) := below_step B1.out hb2
    have A2 : Aside (AtS w2 a2 ps) := ha2
    clear hb2 B1 H1 ho2 hl2 ha2
    go_wp2_with fail
    refine (H2.out w2).mono ?_
    rintro e w3 ⟨v3, rfl, ho3, hb3⟩
    obtain ⟨a3, c3, rfl, hl3, -, ha3⟩ := owns_strs ho3
    have B3 : Aside (Below w.heap.size w w3) := below_step B2.out hb3
    have A3 : Aside (AtS w3 a2 ps ∧ AtS w3 a3 ps) := ⟨atS_later hb3 A2.out, ha3⟩
    clear hb3 B2 H2 ho3 hl3 ha3 A2
    go_wp2_with fail
    refine (H3.out w3).mono ?_
    rintro e w4 ⟨v4, rfl, ho4, hb4⟩
    obtain ⟨a4, c4, rfl, hl4, -, ha4⟩ := owns_strs ho4
    have B4 : Aside (Below w.heap.size w w4) := below_step B3.out hb4
    have A4 : Aside (AtS w4 a2 ps ∧ AtS w4 a3 ps ∧ AtS w4 a4 ss) := ⟨atS_later hb4 A3.out.1, atS_later hb4 A3.out.2, ha4⟩
    clear hb4 B3 H3 ho4 hl4 ha4 A3
    go_wp2_with fail
    refine (H4.out w4).mono ?_
    rintro e w5 ⟨v5, rfl, ho5, hb5⟩
    obtain ⟨a5, c5, rfl, hl5, -, ha5⟩ := owns_strs ho5
    have B5 : Aside (Below w.heap.size w w5) := below_step B4.out hb5
    have A5 : Aside (AtS w5 a2 ps ∧ AtS w5 a3 ps ∧ AtS w5 a4 ss ∧ AtS w5 a5 ss) := ⟨atS_later hb5 A4.out.1, atS_later hb5 A4.out.2.1, atS_later hb5 A4.out.2.2, ha5⟩
    clear hb5 B4 H4 ho5 hl5 ha5 A4
    go_wp2_with fail
    refine (H5.out w5).mono ?_
    rintro e w6 ⟨rfl, hb6⟩
    have B6 : Aside (Below w.heap.size w w6) := below_step B5.out hb6
    have A6 : Aside (AtS w6 a2 ps ∧ AtS w6 a3 ps ∧ AtS w6 a4 ss ∧ AtS w6 a5 ss) := ⟨atS_later hb6 A5.out.1, atS_later hb6 A5.out.2.1, atS_later hb6 A5.out.2.2.1, atS_later hb6 A5.out.2.2.2⟩
    clear hb6 B5 H5 A5
    go_wp2_with fail
    refine (H6.out w6).mono ?_
    rintro e w7 ⟨rfl, hb7⟩
    have B7 : Aside (Below w.heap.size w w7) := below_step B6.out hb7
    have hS1 := HS.out ps a2 a3 _ _ c2 c3 w7 rfl rfl (atS_later hb7 A6.out.1) (atS_later hb7 A6.out.2.1) (by have := L1.out; omega)
    have A7 : Aside (AtS w7 a4 ss ∧ AtS w7 a5 ss) := ⟨atS_later hb7 A6.out.2.2.1, atS_later hb7 A6.out.2.2.2⟩
    clear hb7 B6 H6 A6
    go_wp2_with fail
    refine hS1.mono ?_
    rintro e w8 ⟨rfl, hb8⟩
    have B8 : Aside (Below w.heap.size w w8) := below_step B7.out hb8
    have hS2 := HS.out ss a4 a5 _ _ c4 c5 w8 rfl rfl (atS_later hb8 A7.out.1) (atS_later hb8 A7.out.2) (by have := L2.out; omega)
    clear hb8 B7 A7 hS1 HS
    go_wp2_with fail
    refine hS2.mono ?_
    rintro e w9 ⟨rfl, hb9⟩
    have B9 : Aside (Below w.heap.size w w9) := below_step B8.out hb9
    clear hb9 B8 hS2
    go_wp2
    go_ret
    exact ⟨rfl, B9.out⟩

end Go.Proofs.Ytldojinnipbblaa
