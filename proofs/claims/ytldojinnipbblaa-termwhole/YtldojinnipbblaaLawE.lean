/- TermWhole: the walk. -/
import Derived.Test.YtldojinnipbblaaLawG
namespace Go.Proofs.Ytldojinnipbblaa
open Go.RowKit

set_option maxHeartbeats 4000000 in
theorem whole_early (a b c : ByteArray) (w : World) (h : 2100 < a.size ∨ 2100 < b.size ∨ 2100 < c.size) : Calls Try.prog 7 #[.string a, .string b, .string c] w fun e w' => e = .returned (.bool true) ∧ Below w.heap.size w w' := by
  have key : (2100 : Int) < (a.size : Int) ∨ (¬ (2100 : Int) < (a.size : Int) ∧ (2100 : Int) < (b.size : Int)) ∨ (¬ (2100 : Int) < (a.size : Int) ∧ ¬ (2100 : Int) < (b.size : Int) ∧ (2100 : Int) < (c.size : Int)) := by omega
  clear h
  rcases key with t1 | ⟨t1, t2⟩ | ⟨t1, t2, t3⟩
  all_goals
    go_enter Try.func7, Try.ntmps7
    go_wp2_with fail
    refine (alive_any w).mono ?_
    rintro e w1 ⟨rfl, hb1⟩
    go_wp2
    go_ret
    exact ⟨rfl, hb1⟩

/-- Behind the first test: three terms are made. -/
theorem whole_facts (a b c : ByteArray) : ∃ (X Y Z : ByteArray) (e f g : Nat),
    str (Tm.make 112 [a.data.toList, b.data.toList]) = .string X ∧ Tm.makeE 112 [a.data.toList, b.data.toList] = e ∧
    str (Tm.make 112 [a.data.toList, c.data.toList]) = .string Y ∧ Tm.makeE 112 [a.data.toList, c.data.toList] = f ∧
    str (Tm.make 109 [a.data.toList, b.data.toList]) = .string Z ∧ Tm.makeE 109 [a.data.toList, b.data.toList] = g ∧
    (e = 0 → f = 0 → g = 0 → (X.toList == Y.toList) = (b.toList == c.toList) ∧ (X.toList == Z.toList) = false) := by
  refine ⟨⟨(Tm.make 112 [a.data.toList, b.data.toList]).toArray⟩, ⟨(Tm.make 112 [a.data.toList, c.data.toList]).toArray⟩, ⟨(Tm.make 109 [a.data.toList, b.data.toList]).toArray⟩, _, _, _, rfl, rfl, rfl, rfl, rfl, rfl, ?_⟩
  intro he hf hg
  obtain ⟨_, _, _, k1, _⟩ := Tm.make_two_ok (k := 112) (by decide) he
  obtain ⟨_, _, _, k2, _⟩ := Tm.make_two_ok (k := 112) (by decide) hf
  obtain ⟨_, _, _, k3, _⟩ := Tm.make_two_ok (k := 109) (by decide) hg
  rw [k1, k2, k3]
  refine ⟨?_, ?_⟩
  · rw [eq_lists, eq_lists, str_bytes, str_bytes]
    by_cases hs : b.data.toList = c.data.toList
    · rw [decide_eq_true hs, decide_eq_true (by rw [hs])]
    · rw [decide_eq_false hs, decide_eq_false]
      intro e
      simp only [List.cons.injEq, true_and, List.append_cancel_left_eq] at e
      exact hs e
  · rw [eq_lists, str_bytes, str_bytes]
    apply decide_eq_false
    intro e
    simp only [List.cons.injEq] at e
    exact absurd e.1 (by decide)

theorem prefix_facts (a b : ByteArray) (h : a.size < b.size) : ∃ P : ByteArray, b.extract 0 a.size = P ∧ (Tm.chk a.data.toList = 0 → (P.toList == a.toList) = true → Tm.chk b.data.toList ≠ 0) := by
  refine ⟨_, rfl, fun ha he => ?_⟩
  rw [eq_lists] at he
  have he := of_decide_eq_true he
  have e1 : (b.extract 0 a.size).data.toList = b.data.toList.take a.size := by simp [ByteArray.data_extract, List.extract]
  rw [e1] at he
  have e2 : b.data.toList = a.data.toList ++ b.data.toList.drop a.size := by rw [← he, ← len_bytes a, ← he]; simp
  rw [e2]
  refine Tm.whole ha ?_
  intro e
  have := List.drop_eq_nil_iff.1 e
  rw [len_bytes] at this
  omega

set_option maxHeartbeats 8000000 in
theorem whole_walk (a b c : ByteArray) (w : World) : Calls Try.prog 7 #[.string a, .string b, .string c] w fun e w' => e = .returned (.bool true) ∧ Below w.heap.size w w' := by
  by_cases h : 2100 < a.size ∨ 2100 < b.size ∨ 2100 < c.size
  · exact whole_early a b c w h
  have t1 : ¬ (2100 : Int) < (a.size : Int) := by omega
  have t2 : ¬ (2100 : Int) < (b.size : Int) := by omega
  have t3 : ¬ (2100 : Int) < (c.size : Int) := by omega
  have H1 : Aside (∀ W, _) := fun W => check_any a W
  have H2 : Aside (∀ W, _) := fun W => check_any b W
  have H3 : Aside (∀ W, _) := fun W => make_s2 112 a b W
  have H4 : Aside (∀ W, _) := fun W => make_s2 112 a c W
  have H5 : Aside (∀ W, _) := fun W => make_s2 109 a b W
  rw [show ((112 : UInt8).toNat : Int) = 112 from rfl] at H3 H4
  rw [show ((109 : UInt8).toNat : Int) = 109 from rfl] at H5
  obtain ⟨X, Y, Z, e, f, g, x1, x2, x3, x4, x5, x6, hq⟩ := whole_facts a b c
  rw [x1, x2] at H3
  rw [x3, x4] at H4
  rw [x5, x6] at H5
  clear x1 x2 x3 x4 x5 x6
  have key2 : (((e : Int) != 0) = true) ∨ (e = 0 ∧ ((f : Int) != 0) = true) ∨ (e = 0 ∧ f = 0 ∧ ((g : Int) != 0) = true) ∨ (e = 0 ∧ f = 0 ∧ g = 0 ∧ (X.toList == Y.toList) = true ∧ (b.toList == c.toList) = true ∧ (X.toList == Z.toList) = false) ∨ (e = 0 ∧ f = 0 ∧ g = 0 ∧ (X.toList == Y.toList) = false ∧ (b.toList == c.toList) = false ∧ (X.toList == Z.toList) = false) := by
    have ne : ∀ n : Nat, n ≠ 0 → ((n : Int) != 0) = true := by
      intro n hn
      have : ¬ (n : Int) = 0 := by omega
      simpa using this
    by_cases h1 : e = 0
    · by_cases h2 : f = 0
      · by_cases h3 : g = 0
        · obtain ⟨q1, q2⟩ := hq h1 h2 h3
          cases hbc : (b.toList == c.toList) with
          | true => rw [hbc] at q1; exact .inr (.inr (.inr (.inl ⟨h1, h2, h3, q1, rfl, q2⟩)))
          | false => rw [hbc] at q1; exact .inr (.inr (.inr (.inr ⟨h1, h2, h3, q1, rfl, q2⟩)))
        · exact .inr (.inr (.inl ⟨h1, h2, ne g h3⟩))
      · exact .inr (.inl ⟨h1, ne f h2⟩)
    · exact .inl (ne e h1)
  have key1 : ((((Tm.chk a.data.toList : Nat) : Int) == 0) = false ∨ (Tm.chk a.data.toList = 0 ∧ ¬ (a.size : Int) < (b.size : Int)) ∨ (Tm.chk a.data.toList = 0 ∧ (a.size : Int) < (b.size : Int) ∧ ((b.extract 0 a.size).toList == a.toList) = false)) ∨
      (Tm.chk a.data.toList = 0 ∧ (a.size : Int) < (b.size : Int) ∧ ((b.extract 0 a.size).toList == a.toList) = true ∧ (((Tm.chk b.data.toList : Nat) : Int) == 0) = false) := by
    have ne : ∀ n : Nat, n ≠ 0 → ((n : Int) == 0) = false := by
      intro n hn
      have : ¬ (n : Int) = 0 := by omega
      simpa using this
    by_cases h1 : Tm.chk a.data.toList = 0
    · by_cases h2 : a.size < b.size
      · obtain ⟨P, hP, hpf⟩ := prefix_facts a b h2
        rw [hP]
        cases h3 : (P.toList == a.toList) with
        | false => exact .inl (.inr (.inr ⟨h1, by omega, rfl⟩))
        | true => exact .inr ⟨h1, by omega, rfl, ne _ (hpf h1 h3)⟩
      · exact .inl (.inr (.inl ⟨h1, by omega⟩))
    · exact .inl (.inl (ne _ h1))
  clear hq h
  generalize Tm.chk a.data.toList = ca at *
  generalize Tm.chk b.data.toList = cb at *
  rcases key1 with key1 | ⟨rfl, u1, u2, u3⟩
  · rcases key1 with u1 | ⟨rfl, u1⟩ | ⟨rfl, u1, u2⟩
    all_goals
      rcases key2 with v1 | ⟨rfl, v1⟩ | ⟨rfl, rfl, v1⟩ | ⟨rfl, rfl, rfl, v1, v2, v3⟩ | ⟨rfl, rfl, rfl, v1, v2, v3⟩
      all_goals
        go_enter Try.func7, Try.ntmps7
        go_wp2_with fail
        refine (alive_any w).mono ?_
        rintro e w1 ⟨rfl, hb1⟩
        have B1 : Aside (Below w.heap.size w w1) := hb1
        clear hb1
        go_wp2_with fail
        refine (H1.out w1).mono ?_
        rintro e w2 ⟨rfl, hb2⟩
        have B2 : Aside (Below w.heap.size w w2) := below_step B1.out hb2
        clear hb2 B1 H1
        go_wp2_with fail
        refine (H3.out w2).mono ?_
        rintro e w3 ⟨rfl, hb3⟩
        have B3 : Aside (Below w.heap.size w w3) := below_step B2.out hb3
        clear hb3 B2 H3
        go_wp2_with fail
        refine (H4.out w3).mono ?_
        rintro e w4 ⟨rfl, hb4⟩
        have B4 : Aside (Below w.heap.size w w4) := below_step B3.out hb4
        clear hb4 B3 H4
        go_wp2_with fail
        refine (H5.out w4).mono ?_
        rintro e w5 ⟨rfl, hb5⟩
        have B5 : Aside (Below w.heap.size w w5) := below_step B4.out hb5
        clear hb5 B4 H5
        go_wp2
        go_ret
        exact ⟨rfl, B5.out⟩
  · rcases key2 with v1 | ⟨rfl, v1⟩ | ⟨rfl, rfl, v1⟩ | ⟨rfl, rfl, rfl, v1, v2, v3⟩ | ⟨rfl, rfl, rfl, v1, v2, v3⟩
    all_goals
      go_enter Try.func7, Try.ntmps7
      go_wp2_with fail
      refine (alive_any w).mono ?_
      rintro e w1 ⟨rfl, hb1⟩
      have B1 : Aside (Below w.heap.size w w1) := hb1
      clear hb1
      go_wp2_with fail
      refine (H1.out w1).mono ?_
      rintro e w2 ⟨rfl, hb2⟩
      have B2 : Aside (Below w.heap.size w w2) := below_step B1.out hb2
      clear hb2 B1 H1
      go_wp2_with fail
      refine (H2.out w2).mono ?_
      rintro e w2b ⟨rfl, hb2b⟩
      have B2b : Aside (Below w.heap.size w w2b) := below_step B2.out hb2b
      clear hb2b B2 H2
      go_wp2_with fail
      refine (H3.out w2b).mono ?_
      rintro e w3 ⟨rfl, hb3⟩
      have B3 : Aside (Below w.heap.size w w3) := below_step B2b.out hb3
      clear hb3 B2b H3
      go_wp2_with fail
      refine (H4.out w3).mono ?_
      rintro e w4 ⟨rfl, hb4⟩
      have B4 : Aside (Below w.heap.size w w4) := below_step B3.out hb4
      clear hb4 B3 H4
      go_wp2_with fail
      refine (H5.out w4).mono ?_
      rintro e w5 ⟨rfl, hb5⟩
      have B5 : Aside (Below w.heap.size w w5) := below_step B4.out hb5
      clear hb5 B4 H5
      go_wp2
      go_ret
      exact ⟨rfl, B5.out⟩

end Go.Proofs.Ytldojinnipbblaa
