/- TermNonces: the walk. -/
import Derived.Test.YtldojinnipbblaaArg
import Derived.Test.YtldojinnipbblaaFacts
namespace Go.Proofs.Ytldojinnipbblaa
open Go.RowKit Go.ChangeShapes Go.WideShapes

set_option maxHeartbeats 4000000 in
theorem nonces_early (a b : Int) (s0 s1 : ByteArray) (w : World) (h : 2100 < s0.size ∨ 2100 < s1.size) :
    Calls Try.prog 10 #[.int .u16 a, .int .u16 b, .agg #[.string s0, .string s1]] w fun e w' => e = .returned (.bool true) ∧ Below w.heap.size w w' := by
  have hA := alive_any (w.alloc (.cells #[.string s0, .string s1] 52))
  have hS : w.heap.size < (w.alloc (.cells #[.string s0, .string s1] 52)).heap.size := by simp
  have c0 : (w.alloc (.cells #[.string s0, .string s1] 52)).cell? ⟨w.heap.size, 0, none⟩ = some (.string s0) := by simp [go_sem]
  have c1 : (w.alloc (.cells #[.string s0, .string s1] 52)).cell? ⟨w.heap.size, 1, none⟩ = some (.string s1) := by simp [go_sem]
  have B0 : Aside (Below w.heap.size w (w.alloc (.cells #[.string s0, .string s1] 52))) := (Below.refl _ w).alloc (Nat.le_refl _) _
  have C : Aside (_ ∧ _) := ⟨c0, c1⟩
  clear c0 c1
  by_cases h0 : 2100 < s0.size
  · have t0 : (2100 : Int) < (s0.size : Int) := by omega
    go_enter Try.func10, Try.ntmps10
    go_wp2_with fail
    refine hA.mono ?_
    rintro e w1 ⟨rfl, hb1⟩
    have c0 := cell_later hb1 C.out.1
    have c1 := cell_later hb1 C.out.2
    have B1 : Aside (Below w.heap.size w w1) := B0.out.trans (hb1.mono (by omega))
    clear hA hb1 C B0
    go_wp2
    go_ret
    exact ⟨rfl, B1.out⟩
  · have t0 : ¬ (2100 : Int) < (s0.size : Int) := by omega
    have t1 : (2100 : Int) < (s1.size : Int) := by omega
    clear h
    go_enter Try.func10, Try.ntmps10
    go_wp2_with fail
    refine hA.mono ?_
    rintro e w1 ⟨rfl, hb1⟩
    have c0 := cell_later hb1 C.out.1
    have c1 := cell_later hb1 C.out.2
    have B1 : Aside (Below w.heap.size w w1) := B0.out.trans (hb1.mono (by omega))
    clear hA hb1 C B0
    go_wp2
    go_ret
    exact ⟨rfl, B1.out⟩

set_option maxHeartbeats 8000000 in
theorem nonces_core (a b : Int) (s0 s1 X Y NA NB : ByteArray) (e f : Nat) (t d : Bool) (w : World) (g0 : s0.size ≤ 2100) (g1 : s1.size ≤ 2100)
    (h1 : ∀ W, Calls Try.prog 19 #[.string s0] W fun en w' => en = .returned (.tuple #[.string X, .int .i64 (e : Nat)]) ∧ Below W.heap.size W w')
    (h2 : ∀ W, Calls Try.prog 19 #[.string s1] W fun en w' => en = .returned (.tuple #[.string Y, .int .i64 (f : Nat)]) ∧ Below W.heap.size W w')
    (h3 : ∀ W, Calls Try.prog 21 #[.int .u16 a] W fun en w' => en = .returned (.string NA) ∧ Below W.heap.size W w')
    (h4 : ∀ W, Calls Try.prog 21 #[.int .u16 b] W fun en w' => en = .returned (.string NB) ∧ Below W.heap.size W w')
    (h5 : ∀ W, Calls Try.prog 16 #[.string NA] W fun en w' => en = .returned (.int .i64 0) ∧ Below W.heap.size W w')
    (he : e = 0 ∧ s0.size ≤ 40 ∨ e = 3 ∧ 40 < s0.size) (hf : f = 0 ∨ f = 3)
    (q1 : e = 0 → f = 0 → (X.toList == Y.toList) = t) (q0 : (s0.toList == s1.toList) = t)
    (q2 : (NA.toList == NB.toList) = d) (q3 : (a == b) = d) (q4 : (NA.toList == X.toList) = false) (q5 : (NA.toList == Y.toList) = false) :
    Calls Try.prog 10 #[.int .u16 a, .int .u16 b, .agg #[.string s0, .string s1]] w fun e w' => e = .returned (.bool true) ∧ Below w.heap.size w w' := by
  have hA := alive_any (w.alloc (.cells #[.string s0, .string s1] 52))
  have hS : w.heap.size < (w.alloc (.cells #[.string s0, .string s1] 52)).heap.size := by simp
  have c0 : (w.alloc (.cells #[.string s0, .string s1] 52)).cell? ⟨w.heap.size, 0, none⟩ = some (.string s0) := by simp [go_sem]
  have c1 : (w.alloc (.cells #[.string s0, .string s1] 52)).cell? ⟨w.heap.size, 1, none⟩ = some (.string s1) := by simp [go_sem]
  have B0 : Aside (Below w.heap.size w (w.alloc (.cells #[.string s0, .string s1] 52))) := (Below.refl _ w).alloc (Nat.le_refl _) _
  have C : Aside (_ ∧ _) := ⟨c0, c1⟩
  have H1 : Aside (∀ W, _) := h1
  have H2 : Aside (∀ W, _) := h2
  have H3 : Aside (∀ W, _) := h3
  have H4 : Aside (∀ W, _) := h4
  have H5 : Aside (∀ W, _) := h5
  have t0 : ¬ (2100 : Int) < (s0.size : Int) := by omega
  have t1 : ¬ (2100 : Int) < (s1.size : Int) := by omega
  clear c0 c1 h1 h2 h3 h4 h5
  have key : (e = 0 ∧ f = 0 ∧ (s0.size : Int) ≤ 40 ∧ (X.toList == Y.toList) = t) ∨ (e = 0 ∧ f = 3 ∧ (s0.size : Int) ≤ 40) ∨ (e = 3 ∧ ¬ (s0.size : Int) ≤ 40) := by
    rcases he with ⟨rfl, h⟩ | ⟨rfl, h⟩
    · rcases hf with rfl | rfl
      · exact .inl ⟨rfl, rfl, by omega, q1 rfl rfl⟩
      · exact .inr (.inl ⟨rfl, rfl, by omega⟩)
    · exact .inr (.inr ⟨rfl, by omega⟩)
  clear he q1
  rcases key with ⟨rfl, rfl, t2, q1⟩ | ⟨rfl, rfl, t2⟩ | ⟨rfl, t2⟩
  all_goals
    clear hf
    cases t <;> cases d
    all_goals
      go_enter Try.func10, Try.ntmps10
      go_wp2_with fail
      refine hA.mono ?_
      rintro e w1 ⟨rfl, hb1⟩
      have c0 := cell_later hb1 C.out.1
      have c1 := cell_later hb1 C.out.2
      have B1 : Aside (Below w.heap.size w w1) := B0.out.trans (hb1.mono (by omega))
      clear hA hb1 C B0
      go_wp2_with fail
      refine (H1.out w1).mono ?_
      rintro e w2 ⟨rfl, hb2⟩
      have B2 : Aside (Below w.heap.size w w2) := below_step B1.out hb2
      replace c0 := cell_later hb2 c0
      replace c1 := cell_later hb2 c1
      clear hb2 B1 H1
      go_wp2_with fail
      refine (H2.out w2).mono ?_
      rintro e w3 ⟨rfl, hb3⟩
      have B3 : Aside (Below w.heap.size w w3) := below_step B2.out hb3
      replace c0 := cell_later hb3 c0
      replace c1 := cell_later hb3 c1
      clear hb3 B2 H2
      go_wp2_with fail
      refine (H3.out w3).mono ?_
      rintro e w4 ⟨rfl, hb4⟩
      have B4 : Aside (Below w.heap.size w w4) := below_step B3.out hb4
      clear hb4 B3 H3
      go_wp2_with fail
      refine (H4.out w4).mono ?_
      rintro e w5 ⟨rfl, hb5⟩
      have B5 : Aside (Below w.heap.size w w5) := below_step B4.out hb5
      clear hb5 B4 H4
      go_wp2_with fail
      refine (H5.out w5).mono ?_
      rintro e w6 ⟨rfl, hb6⟩
      have B6 : Aside (Below w.heap.size w w6) := below_step B5.out hb6
      clear hb6 B5 H5
      go_wp2
      go_ret
      exact ⟨rfl, B6.out⟩

theorem nonces_law (a0 a1 : Int) (s0 s1 : ByteArray) (w : World) (w0 : (Lit.int .u16 a0).wf = true) (w1 : (Lit.int .u16 a1).wf = true) :
    Calls Try.prog 10 #[.int .u16 a0, .int .u16 a1, .agg #[.string s0, .string s1]] w fun e w' => e = .returned (.bool true) ∧ Below w.heap.size w w' := by
  by_cases h : 2100 < s0.size ∨ 2100 < s1.size
  · exact nonces_early a0 a1 s0 s1 w h
  · have b0 : 0 ≤ a0 ∧ a0 ≤ 65535 := bounds_u16 w0
    have b1 : 0 ≤ a1 ∧ a1 ≤ 65535 := bounds_u16 w1
    obtain ⟨n, rfl⟩ : ∃ n : Nat, a0 = (n : Int) := ⟨a0.toNat, by omega⟩
    obtain ⟨m, rfl⟩ : ∃ n : Nat, a1 = (n : Int) := ⟨a1.toNat, by omega⟩
    have l0 : s0.data.toList.length = s0.size := len_bytes s0
    have l1 : s1.data.toList.length = s1.size := len_bytes s1
    refine nonces_core (n : Int) (m : Int) s0 s1 ⟨(Tm.const s0.data.toList).toArray⟩ ⟨(Tm.const s1.data.toList).toArray⟩ ⟨(Tm.nonce n).toArray⟩ ⟨(Tm.nonce m).toArray⟩ (Tm.constE s0.data.toList) (Tm.constE s1.data.toList) (decide (s0.data.toList = s1.data.toList)) (decide (n = m)) w (by omega) (by omega) (fun W => const_any s0 W) (fun W => const_any s1 W) (fun W => nonce_any n W (by omega)) (fun W => nonce_any m W (by omega)) (fun W => ?_) ?_ ?_ ?_ (eq_lists _ _) ?_ ?_ ?_ ?_
    · have := check_any ⟨(Tm.nonce n).toArray⟩ W
      rw [str_bytes, Tm.nonce_chk] at this
      exact this
    · unfold Tm.constE
      by_cases h4 : 40 < s0.size
      · exact .inr ⟨by rw [if_pos (by omega)], h4⟩
      · exact .inl ⟨by rw [if_neg (by omega)], by omega⟩
    · unfold Tm.constE
      by_cases h4 : 40 < s1.size
      · exact .inr (by rw [if_pos (by omega)])
      · exact .inl (by rw [if_neg (by omega)])
    · intro e0 e1
      rw [eq_lists, str_bytes, str_bytes]
      have k0 : s0.data.toList.length ≤ 40 := by
        unfold Tm.constE at e0
        by_cases h4 : 40 < s0.data.toList.length
        · rw [if_pos h4] at e0; cases e0
        · omega
      have k1 : s1.data.toList.length ≤ 40 := by
        unfold Tm.constE at e1
        by_cases h4 : 40 < s1.data.toList.length
        · rw [if_pos h4] at e1; cases e1
        · omega
      by_cases hs : s0.data.toList = s1.data.toList
      · rw [decide_eq_true hs, decide_eq_true (by rw [hs])]
      · rw [decide_eq_false hs, decide_eq_false (fun e => hs (Tm.const_inj k0 k1 e))]
    · rw [eq_lists, str_bytes, str_bytes]
      by_cases hs : n = m
      · rw [decide_eq_true hs, decide_eq_true (by rw [hs])]
      · rw [decide_eq_false hs, decide_eq_false (fun e => hs (Tm.nonce_inj (by omega) (by omega) e))]
    · by_cases hs : n = m
      · rw [decide_eq_true hs, hs]; simp
      · rw [decide_eq_false hs]
        have : ¬ (n : Int) = (m : Int) := by omega
        simpa using this
    · rw [eq_lists, str_bytes, str_bytes]
      exact decide_eq_false (Tm.nonce_const _ _)
    · rw [eq_lists, str_bytes, str_bytes]
      exact decide_eq_false (Tm.nonce_const _ _)

end Go.Proofs.Ytldojinnipbblaa
