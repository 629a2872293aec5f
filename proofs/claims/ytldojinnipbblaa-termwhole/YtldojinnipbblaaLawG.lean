/- TermSizes: the walk. -/
import Derived.Test.YtldojinnipbblaaAlive
import Derived.Test.YtldojinnipbblaaFacts
namespace Go.Proofs.Ytldojinnipbblaa
open Go.RowKit

theorem make_s2 (k : UInt8) (x y : ByteArray) (w : World) : Calls Try.prog 23 #[.int .u8 (k.toNat : Int), .slice (some ⟨w.heap.size, 0, none⟩) 2 2] (w.alloc (.cells #[.string x, .string y] 22)) fun e w' => e = .returned (.tuple #[str (Tm.make k [x.data.toList, y.data.toList]), .int .i64 (Tm.makeE k [x.data.toList, y.data.toList] : Nat)]) ∧ Below w.heap.size w w' := make_two k x.data.toList y.data.toList w
theorem make_s1 (k : UInt8) (x : ByteArray) (w : World) : Calls Try.prog 23 #[.int .u8 (k.toNat : Int), .slice (some ⟨w.heap.size, 0, none⟩) 1 1] (w.alloc (.cells #[.string x] 22)) fun e w' => e = .returned (.tuple #[str (Tm.make k [x.data.toList]), .int .i64 (Tm.makeE k [x.data.toList] : Nat)]) ∧ Below w.heap.size w w' := make_one k x.data.toList w

theorem own_form {w : World} {B e s n : Nat} {v : Value} {xs : List Value} (h : w.ownsRow B e s v n xs) : ∃ a c, v = .slice a n c := by
  rcases h.2 with ⟨rfl, h0⟩ | ⟨g, cap, cur, rfl, _⟩
  · subst h0; exact ⟨_, _, rfl⟩
  · exact ⟨_, _, rfl⟩

/-- Hash's answer: the error, or one byte and the text. -/
theorem hash_cases (a : ByteArray) : ∃ (x : ByteArray) (c : Nat), str (Tm.make 104 [a.data.toList]) = .string x ∧ Tm.makeE 104 [a.data.toList] = c ∧ (c ≠ 0 ∨ c = 0 ∧ x.size = 1 + a.size ∧ (x.extract 1 x.size).toList = a.toList) := by
  refine ⟨⟨(Tm.make 104 [a.data.toList]).toArray⟩, _, rfl, rfl, ?_⟩
  by_cases h : Tm.makeE 104 [a.data.toList] = 0
  · right
    have e : Tm.make 104 [a.data.toList] = 104 :: a.data.toList := by unfold Tm.make; rw [if_pos h]; simp
    rw [e]
    refine ⟨h, by rw [str_size]; simp; omega, ?_⟩
    rw [ByteArray.toList_eq, ByteArray.toList_eq]
    exact cut_bytes (s := ⟨(104 :: a.data.toList).toArray⟩) (p := 1) (a := a.data.toList) (r := []) (by simp) (by rw [str_size]; simp; omega)
  · exact .inl h

set_option maxHeartbeats 4000000 in
theorem sizes_walk (a b : ByteArray) (w : World) : Calls Try.prog 9 #[.string a, .string b] w fun e w' => e = .returned (.bool true) ∧ Below w.heap.size w w' := by
  by_cases h1 : 900 < a.size
  · have t1 : (900 : Int) < (a.size : Int) := by omega
    go_enter Try.func9, Try.ntmps9
    go_wp2_with fail
    refine (alive_any w).mono ?_
    rintro e w1 ⟨rfl, hb1⟩
    go_wp2
    go_ret
    exact ⟨rfl, hb1⟩
  · have t1 : ¬ (900 : Int) < (a.size : Int) := by omega
    by_cases h2 : 900 < b.size
    · have t2 : (900 : Int) < (b.size : Int) := by omega
      go_enter Try.func9, Try.ntmps9
      go_wp2_with fail
      refine (alive_any w).mono ?_
      rintro e w1 ⟨rfl, hb1⟩
      go_wp2
      go_ret
      exact ⟨rfl, hb1⟩
    · have t2 : ¬ (900 : Int) < (b.size : Int) := by omega
      have H1 : Aside (∀ W, _) := fun W => make_s2 109 a b W
      have H2 : Aside (∀ W, _) := fun W => make_s1 104 a W
      rw [show ((109 : UInt8).toNat : Int) = 109 from rfl] at H1
      rw [show ((104 : UInt8).toNat : Int) = 104 from rfl] at H2
      obtain ⟨hx, hc, eh1, eh2, hh⟩ := hash_cases a
      rw [eh1, eh2] at H2
      by_cases g : Tm.makeE 109 [a.data.toList, b.data.toList] = 0
      · obtain ⟨k1, k2, k3, k4, k5, k6, k7⟩ := Tm.make_two_ok (k := 109) (by decide) g
        rw [g, k4] at H1
        unfold str at H1
        have H3 : Aside (∀ W, _) := fun W => subs_any ⟨(109 :: (a.data.toList ++ b.data.toList)).toArray⟩ W
        have H4 : Aside (∀ W, _) := fun W => subs_any a W
        have H5 : Aside (∀ W, _) := fun W => subs_any b W
        unfold SubsPost at H3 H4 H5
        rw [str_bytes, k3, k7] at H3
        rw [k1] at H4
        rw [k2] at H5
        have hsz : (⟨(109 :: (a.data.toList ++ b.data.toList)).toArray⟩ : ByteArray).size = 1 + a.size + b.size := by rw [str_size]; simp; omega
        have E1 : ((109 :: (a.data.toList ++ b.data.toList)) :: (Tm.subsOf a.data.toList ++ Tm.subsOf b.data.toList)).length = 1 + (Tm.subsOf a.data.toList).length + (Tm.subsOf b.data.toList).length := by simp; omega
        rw [E1] at H3
        have L1 := Tm.subsOf_len a.data.toList
        have L2 := Tm.subsOf_len b.data.toList
        generalize (⟨(109 :: (a.data.toList ++ b.data.toList)).toArray⟩ : ByteArray) = x at *
        generalize strs ((109 :: (a.data.toList ++ b.data.toList)) :: (Tm.subsOf a.data.toList ++ Tm.subsOf b.data.toList)) = zs at *
        generalize hna : (Tm.subsOf a.data.toList).length = na at *
        generalize hnb : (Tm.subsOf b.data.toList).length = nb at *
        clear k1 k2 k3 k4 k5 k6 k7 g eh1 eh2 E1 hna hnb
        rcases hh with hh | ⟨rfl, hxs, hxe⟩
        · have th : ((hc : Int) == 0) = false := by
            have : ¬ (hc : Int) = 0 := by omega
            simpa using this
          clear hh
          go_enter Try.func9, Try.ntmps9
          go_wp2_with fail
          refine (alive_any w).mono ?_
          rintro e w1 ⟨rfl, hb1⟩
          have B1 : Aside (Below w.heap.size w w1) := hb1
          clear hb1
          go_wp2_with fail
          refine (H1.out w1).mono ?_
          rintro e w2 ⟨rfl, hb2⟩
          have B2 : Aside (Below w.heap.size w w2) := below_step B1.out hb2
          clear hb2 B1 H1
          go_wp2_with fail
          refine (H2.out w2).mono ?_
          rintro e w3 ⟨rfl, hb3⟩
          have B3 : Aside (Below w.heap.size w w3) := below_step B2.out hb3
          clear hb3 B2 H2
          go_wp2_with fail
          refine (H3.out w3).mono ?_
          rintro e w4 ⟨v4, rfl, ho4, hb4⟩
          obtain ⟨a4, c4, rfl⟩ : ∃ a4 c4, v4 = .slice a4 (1 + na + nb) c4 := own_form ho4
          have B4 : Aside (Below w.heap.size w w4) := below_step B3.out hb4
          clear hb4 B3 H3 ho4
          go_wp2_with fail
          refine (H4.out w4).mono ?_
          rintro e w5 ⟨v5, rfl, ho5, hb5⟩
          obtain ⟨a5, c5, rfl⟩ : ∃ a5 c5, v5 = .slice a5 na c5 := own_form ho5
          have B5 : Aside (Below w.heap.size w w5) := below_step B4.out hb5
          clear hb5 B4 H4 ho5
          go_wp2_with fail
          refine (H5.out w5).mono ?_
          rintro e w6 ⟨v6, rfl, ho6, hb6⟩
          obtain ⟨a6, c6, rfl⟩ : ∃ a6 c6, v6 = .slice a6 nb c6 := own_form ho6
          have B6 : Aside (Below w.heap.size w w6) := below_step B5.out hb6
          clear hb6 B5 H5 ho6
          go_wp2
          go_ret
          exact ⟨rfl, B6.out⟩
        · have hxe2 := hxe
          rw [hxs] at hxe2
          go_enter Try.func9, Try.ntmps9
          go_wp2_with fail
          refine (alive_any w).mono ?_
          rintro e w1 ⟨rfl, hb1⟩
          have B1 : Aside (Below w.heap.size w w1) := hb1
          clear hb1
          go_wp2_with fail
          refine (H1.out w1).mono ?_
          rintro e w2 ⟨rfl, hb2⟩
          have B2 : Aside (Below w.heap.size w w2) := below_step B1.out hb2
          clear hb2 B1 H1
          go_wp2_with fail
          refine (H2.out w2).mono ?_
          rintro e w3 ⟨rfl, hb3⟩
          have B3 : Aside (Below w.heap.size w w3) := below_step B2.out hb3
          clear hb3 B2 H2
          go_wp2_with fail
          refine (H3.out w3).mono ?_
          rintro e w4 ⟨v4, rfl, ho4, hb4⟩
          obtain ⟨a4, c4, rfl⟩ : ∃ a4 c4, v4 = .slice a4 (1 + na + nb) c4 := own_form ho4
          have B4 : Aside (Below w.heap.size w w4) := below_step B3.out hb4
          clear hb4 B3 H3 ho4
          go_wp2_with fail
          refine (H4.out w4).mono ?_
          rintro e w5 ⟨v5, rfl, ho5, hb5⟩
          obtain ⟨a5, c5, rfl⟩ : ∃ a5 c5, v5 = .slice a5 na c5 := own_form ho5
          have B5 : Aside (Below w.heap.size w w5) := below_step B4.out hb5
          clear hb5 B4 H4 ho5
          go_wp2_with fail
          refine (H5.out w5).mono ?_
          rintro e w6 ⟨v6, rfl, ho6, hb6⟩
          obtain ⟨a6, c6, rfl⟩ : ∃ a6 c6, v6 = .slice a6 nb c6 := own_form ho6
          have B6 : Aside (Below w.heap.size w w6) := below_step B5.out hb6
          clear hb6 B5 H5 ho6
          go_wp2
          go_ret
          exact ⟨rfl, B6.out⟩
      · have e0 := Tm.make_err g
        rw [e0] at H1
        have tg : (((Tm.makeE 109 [a.data.toList, b.data.toList] : Nat) : Int) != 0) = true := by
          have : ¬ ((Tm.makeE 109 [a.data.toList, b.data.toList] : Nat) : Int) = 0 := by omega
          simpa using this
        generalize Tm.makeE 109 [a.data.toList, b.data.toList] = mc at *
        rw [show str [] = .string ⟨#[]⟩ from rfl] at H1
        clear g e0 eh1 eh2
        rcases hh with hh | ⟨rfl, hxs, hxe⟩
        · have th : ((hc : Int) == 0) = false := by
            have : ¬ (hc : Int) = 0 := by omega
            simpa using this
          clear hh
          go_enter Try.func9, Try.ntmps9
          go_wp2_with fail
          refine (alive_any w).mono ?_
          rintro e w1 ⟨rfl, hb1⟩
          have B1 : Aside (Below w.heap.size w w1) := hb1
          clear hb1
          go_wp2_with fail
          refine (H1.out w1).mono ?_
          rintro e w2 ⟨rfl, hb2⟩
          have B2 : Aside (Below w.heap.size w w2) := below_step B1.out hb2
          clear hb2 B1 H1
          go_wp2_with fail
          refine (H2.out w2).mono ?_
          rintro e w3 ⟨rfl, hb3⟩
          have B3 : Aside (Below w.heap.size w w3) := below_step B2.out hb3
          clear hb3 B2 H2
          go_wp2
          go_ret
          exact ⟨rfl, B3.out⟩
        · have hxe2 := hxe
          rw [hxs] at hxe2
          go_enter Try.func9, Try.ntmps9
          go_wp2_with fail
          refine (alive_any w).mono ?_
          rintro e w1 ⟨rfl, hb1⟩
          have B1 : Aside (Below w.heap.size w w1) := hb1
          clear hb1
          go_wp2_with fail
          refine (H1.out w1).mono ?_
          rintro e w2 ⟨rfl, hb2⟩
          have B2 : Aside (Below w.heap.size w w2) := below_step B1.out hb2
          clear hb2 B1 H1
          go_wp2_with fail
          refine (H2.out w2).mono ?_
          rintro e w3 ⟨rfl, hb3⟩
          have B3 : Aside (Below w.heap.size w w3) := below_step B2.out hb3
          clear hb3 B2 H2
          go_wp2
          go_ret
          exact ⟨rfl, B3.out⟩

end Go.Proofs.Ytldojinnipbblaa
