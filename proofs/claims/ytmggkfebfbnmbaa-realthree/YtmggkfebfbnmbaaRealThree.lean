/- RealThree answers true at every three words, whatever the world: the order goes through, and the middle one of three is in the middle. -/
import Derived.Test.YtmggkfebfbnmbaaAsk
import Derived.ProofKit
import Derived.OpenShut
import Derived.ShutString
import Derived.ChangeOld
import Derived.Below
namespace Go.Proofs.Ytmggkfebfbnmbaa
namespace RealThree
open Go.ChangeShapes Go.WideShapes Go.ChangeAt Go.RowKit
open Go.ChangeMaps (open_string shut_string)
set_option linter.unusedVariables false

theorem own : ownKnob Try.prog.godebug = none := by kernel_rfl

set_option maxHeartbeats 1000000 in
theorem core_a (a b c : Nat) (r : Int) (w : World) (hal : Calls Try.prog 11 #[] w fun e w' => e = .returned (.bool true) ∧ Below w.heap.size w w')
    (o1 : ∀ W, Calls Try.prog 17 #[.float .f64 a, .float .f64 b] W fun e w' => e = .returned (.int .i64 r) ∧ w' = W)
    (h : 0 < r) :
    Calls Try.prog 7 #[.int .u64 a, .int .u64 b, .int .u64 c] w fun e w' => e = .returned (.bool true) ∧ Below w.heap.size w w' := by
  go_enter Try.func7, Try.ntmps7
  go_wp2_with fail
  refine hal.mono ?_; rintro e w1 ⟨rfl, hb⟩
  go_wp2_with fail
  refine (of_any _ _).mono ?_; rintro e w' ⟨rfl, rfl⟩
  go_wp2_with fail
  refine (of_any _ _).mono ?_; rintro e w' ⟨rfl, rfl⟩
  go_wp2_with fail
  refine (of_any _ _).mono ?_; rintro e w' ⟨rfl, rfl⟩
  go_wp2_with fail
  refine (o1 _).mono ?_; rintro e w' ⟨rfl, rfl⟩
  go_wp2
  go_ret
  exact ⟨rfl, hb⟩

set_option maxHeartbeats 1000000 in
theorem core_b (a b c : Nat) (r r2 : Int) (w : World) (hal : Calls Try.prog 11 #[] w fun e w' => e = .returned (.bool true) ∧ Below w.heap.size w w')
    (o1 : ∀ W, Calls Try.prog 17 #[.float .f64 a, .float .f64 b] W fun e w' => e = .returned (.int .i64 r) ∧ w' = W)
    (o2 : ∀ W, Calls Try.prog 17 #[.float .f64 b, .float .f64 c] W fun e w' => e = .returned (.int .i64 r2) ∧ w' = W)
    (h : r ≤ 0) (h2 : 0 < r2) :
    Calls Try.prog 7 #[.int .u64 a, .int .u64 b, .int .u64 c] w fun e w' => e = .returned (.bool true) ∧ Below w.heap.size w w' := by
  go_enter Try.func7, Try.ntmps7
  go_wp2_with fail
  refine hal.mono ?_; rintro e w1 ⟨rfl, hb⟩
  go_wp2_with fail
  refine (of_any _ _).mono ?_; rintro e w' ⟨rfl, rfl⟩
  go_wp2_with fail
  refine (of_any _ _).mono ?_; rintro e w' ⟨rfl, rfl⟩
  go_wp2_with fail
  refine (of_any _ _).mono ?_; rintro e w' ⟨rfl, rfl⟩
  go_wp2_with fail
  refine (o1 _).mono ?_; rintro e w' ⟨rfl, rfl⟩
  go_wp2_with fail
  refine (o2 _).mono ?_; rintro e w' ⟨rfl, rfl⟩
  go_wp2
  go_ret
  exact ⟨rfl, hb⟩

set_option maxHeartbeats 1000000 in
theorem core_c (a b c p q : Nat) (r r2 r3 : Int) (w : World) (hal : Calls Try.prog 11 #[] w fun e w' => e = .returned (.bool true) ∧ Below w.heap.size w w')
    (o1 : ∀ W, Calls Try.prog 17 #[.float .f64 a, .float .f64 b] W fun e w' => e = .returned (.int .i64 r) ∧ w' = W)
    (o2 : ∀ W, Calls Try.prog 17 #[.float .f64 b, .float .f64 c] W fun e w' => e = .returned (.int .i64 r2) ∧ w' = W)
    (o3 : ∀ W, Calls Try.prog 17 #[.float .f64 a, .float .f64 c] W fun e w' => e = .returned (.int .i64 r3) ∧ w' = W)
    (hm : ∀ W : World, Calls Try.prog 21 #[.slice (some ⟨W.heap.size, 0, none⟩) 3 3] (W.alloc (.cells #[.float .f64 c, .float .f64 a, .float .f64 b] 24)) fun e w' => ∃ m : Nat, e = .returned (.float .f64 m) ∧
      (∀ V, Calls Try.prog 19 #[.float .f64 m, .float .f64 b] V fun e w' => e = .returned (.bool true) ∧ w' = V) ∧ Below W.heap.size W w')
    (k1 : ∀ W, Calls Try.prog 12 #[.float .f64 b, .float .f64 a, .float .f64 c] W fun e w' => e = .returned (.float .f64 p) ∧ w' = W)
    (s1 : ∀ W, Calls Try.prog 19 #[.float .f64 p, .float .f64 b] W fun e w' => e = .returned (.bool true) ∧ w' = W)
    (k2 : ∀ W, Calls Try.prog 12 #[.float .f64 a, .float .f64 b, .float .f64 c] W fun e w' => e = .returned (.float .f64 q) ∧ w' = W)
    (s2 : ∀ W, Calls Try.prog 19 #[.float .f64 q, .float .f64 b] W fun e w' => e = .returned (.bool true) ∧ w' = W)
    (h : r ≤ 0) (h2 : r2 ≤ 0) (h3 : r3 ≤ 0) :
    Calls Try.prog 7 #[.int .u64 a, .int .u64 b, .int .u64 c] w fun e w' => e = .returned (.bool true) ∧ Below w.heap.size w w' := by
  go_enter Try.func7, Try.ntmps7
  go_wp2_with fail
  refine hal.mono ?_; rintro e w1 ⟨rfl, hb⟩
  go_wp2_with fail
  refine (of_any _ _).mono ?_; rintro e w' ⟨rfl, rfl⟩
  go_wp2_with fail
  refine (of_any _ _).mono ?_; rintro e w' ⟨rfl, rfl⟩
  go_wp2_with fail
  refine (of_any _ _).mono ?_; rintro e w' ⟨rfl, rfl⟩
  go_wp2_with fail
  refine (o1 _).mono ?_; rintro e w' ⟨rfl, rfl⟩
  go_wp2_with fail
  refine (o2 _).mono ?_; rintro e w' ⟨rfl, rfl⟩
  go_wp2_with fail
  refine (o3 _).mono ?_; rintro e w' ⟨rfl, rfl⟩
  go_wp2_with fail
  refine (hm _).mono ?_; rintro e w2 ⟨m, rfl, s0, hb2⟩
  have hbb := hb.trans (hb2.mono hb.size)
  clear hb hb2
  go_wp2_with fail
  refine (s0 _).mono ?_; rintro e w' ⟨rfl, rfl⟩
  go_wp2_with fail
  refine (k1 _).mono ?_; rintro e w' ⟨rfl, rfl⟩
  go_wp2_with fail
  refine (s1 _).mono ?_; rintro e w' ⟨rfl, rfl⟩
  go_wp2_with fail
  refine (k2 _).mono ?_; rintro e w' ⟨rfl, rfl⟩
  go_wp2_with fail
  refine (s2 _).mono ?_; rintro e w' ⟨rfl, rfl⟩
  go_wp2
  go_ret
  exact ⟨rfl, hbb⟩

/-- Of three that stand in order the middle one stands in the middle. -/
theorem mid_three (x y z : UInt64) (h1 : Fl.cod x.toNat ≤ Fl.cod y.toNat) (h2 : Fl.cod y.toNat ≤ Fl.cod z.toNat) (W : World) :
    Calls Try.prog 21 #[.slice (some ⟨W.heap.size, 0, none⟩) 3 3] (W.alloc (.cells #[.float .f64 z.toNat, .float .f64 x.toNat, .float .f64 y.toNat] 24)) fun e w' => ∃ m : Nat, e = .returned (.float .f64 m) ∧
      (∀ V, Calls Try.prog 19 #[.float .f64 m, .float .f64 y.toNat] V fun e w' => e = .returned (.bool true) ∧ w' = V) ∧ Below W.heap.size W w' := by
  refine (mid_any [z, x, y] W.heap.size 0 3 (W.alloc (.cells #[encF z, encF x, encF y] 24)) (by simp) (by simp) (three_cells W _ _ _)).mono ?_
  rintro e w' ⟨d, rfl, hp, hs, hb⟩
  have hc := mid_cod _ d 1 (Fl.cod y.toNat) (by simp) hp hs
    (by simp only [List.countP_cons, List.countP_nil, decide_eq_true_eq]; repeat (any_goals split)
        all_goals omega)
    (by simp only [List.countP_cons, List.countP_nil, decide_eq_true_eq]; repeat (any_goals split)
        all_goals omega)
  refine ⟨Fl.can (d[1]!).toNat, by rw [show ([z, x, y].length - 1) / 2 = 1 from by simp], ?_, ((Below.refl _ W).alloc (Nat.le_refl _) _).trans (hb.mono (by simp))⟩
  intro V
  have hs := same_any (Fl.can (d[1]!).toNat) y.toNat V (w64_can (u64_lt _)) (u64_lt _)
  rw [Fl.ord_eq (by rw [Fl.cod_can]; exact hc)] at hs
  exact hs

theorem same_of {a b : Nat} (ha : W64 a) (hb : W64 b) (h : Fl.cod a = Fl.cod b) (W : World) :
    Calls Try.prog 19 #[.float .f64 a, .float .f64 b] W fun e w' => e = .returned (.bool true) ∧ w' = W := by
  have hs := same_any a b W ha hb
  rwa [Fl.ord_eq h] at hs

theorem w64_clamp {x lo hi : Nat} (hx : W64 x) (hl : W64 lo) (hh : W64 hi) : W64 (Fl.clampB x lo hi) := by
  unfold Fl.clampB
  split
  · exact w64_can hl
  · split
    · exact w64_can hh
    · exact w64_can hx

theorem walkU (x y z : UInt64) (w : World) :
    Calls Try.prog 7 #[.int .u64 x.toNat, .int .u64 y.toNat, .int .u64 z.toNat] w fun e w' => e = .returned (.bool true) ∧ Below w.heap.size w w' := by
  have hx : W64 x.toNat := u64_lt x
  have hy : W64 y.toNat := u64_lt y
  have hz : W64 z.toNat := u64_lt z
  have c1 := Fl.ord_cases x.toNat y.toNat
  have c2 := Fl.ord_cases y.toNat z.toNat
  have c3 := Fl.ord_cases x.toNat z.toNat
  by_cases h1 : 0 < Fl.ord x.toNat y.toNat
  · exact core_a _ _ _ _ w (alive_any w) (fun W => order_any _ _ W hx hy) h1
  · by_cases h2 : 0 < Fl.ord y.toNat z.toNat
    · exact core_b _ _ _ _ _ w (alive_any w) (fun W => order_any _ _ W hx hy) (fun W => order_any _ _ W hy hz) (by omega) h2
    · have g1 : Fl.cod x.toNat ≤ Fl.cod y.toNat := by rcases c1 with ⟨g, e⟩ | ⟨g, e⟩ | ⟨g, e⟩ <;> omega
      have g2 : Fl.cod y.toNat ≤ Fl.cod z.toNat := by rcases c2 with ⟨g, e⟩ | ⟨g, e⟩ | ⟨g, e⟩ <;> omega
      have g3 : Fl.ord x.toNat z.toNat ≤ 0 := by rcases c3 with ⟨g, e⟩ | ⟨g, e⟩ | ⟨g, e⟩ <;> omega
      have e1 : Fl.cod (Fl.clampB y.toNat x.toNat z.toNat) = Fl.cod y.toNat := by
        unfold Fl.clampB
        rw [if_neg (by rcases Fl.ord_cases y.toNat x.toNat with ⟨g, e⟩ | ⟨g, e⟩ | ⟨g, e⟩ <;> omega), if_neg h2, Fl.cod_can]
      have e2 : Fl.cod (Fl.clampB x.toNat y.toNat z.toNat) = Fl.cod y.toNat := by
        unfold Fl.clampB
        by_cases q : Fl.ord x.toNat y.toNat < 0
        · rw [if_pos q, Fl.cod_can]
        · rw [if_neg q, if_neg (by omega), Fl.cod_can]
          rcases c1 with ⟨g, e⟩ | ⟨g, e⟩ | ⟨g, e⟩ <;> omega
      exact core_c _ _ _ _ _ _ _ _ w (alive_any w) (fun W => order_any _ _ W hx hy) (fun W => order_any _ _ W hy hz) (fun W => order_any _ _ W hx hz) (mid_three x y z g1 g2)
        (fun W => clamp_any _ _ _ W hy hx hz) (same_of (w64_clamp hy hx hz) hy e1) (fun W => clamp_any _ _ _ W hx hy hz) (same_of (w64_clamp hx hy hz) hy e2) (by omega) (by omega) g3

theorem u_of {a : Nat} (h : W64 a) : ∃ u : UInt64, u.toNat = a := ⟨UInt64.ofNat a, by simp; exact h⟩

theorem walkN (a b c : Nat) (w : World) (ha : W64 a) (hb : W64 b) (hc : W64 c) :
    Calls Try.prog 7 #[.int .u64 a, .int .u64 b, .int .u64 c] w fun e w' => e = .returned (.bool true) ∧ Below w.heap.size w w' := by
  obtain ⟨x, rfl⟩ := u_of ha
  obtain ⟨y, rfl⟩ := u_of hb
  obtain ⟨z, rfl⟩ := u_of hc
  exact walkU x y z w

theorem walk (a0 : Int) (a1 : Int) (a2 : Int) (w0 : (Lit.int .u64 a0).wf = true) (w1 : (Lit.int .u64 a1).wf = true) (w2 : (Lit.int .u64 a2).wf = true) (w : World) :
    Calls Try.prog 7 #[.int .u64 a0, .int .u64 a1, .int .u64 a2] w fun e w' => e = .returned (.bool true) ∧ Below w.heap.size w w' := by
  obtain ⟨n0, rfl, b0⟩ := nat_of_wf w0
  obtain ⟨n1, rfl, b1⟩ := nat_of_wf w1
  obtain ⟨n2, rfl, b2⟩ := nat_of_wf w2
  exact walkN n0 n1 n2 w b0 b1 b2

set_option maxRecDepth 100000 in
theorem lifted (os : Os) (started : os.Started) (H : Type) (enc : TypeId × Value → H) :
    ReturnsInHanded {} Try.checked os 7 .any (Rows.realThreeSpec.pre6 enc Try.prog Try.f7 Rows.realThreeRow.domain false) (Rows.realThreeSpec.post enc Try.prog Try.f7 false true false false) := by
  refine returnsInHanded_of_change (C := Try.checked) own started (by kernel_rfl) Try.func7
    (ChangeSpec.witness6 (enc := enc) (C := Try.checked) false ⟨#[], #[.int .u64 0, .int .u64 0, .int .u64 0], []⟩ 8 (by kernel_rfl) (by kernel_rfl) (by kernel_rfl) (by kernel_rfl)) ?_
  intro W base args ds gs before hval0 hW hcnd _
  have hval : ∀ (j : Nat) t v, Try.f7.params[j]? = some t → args[j]? = some v → Value.okWide Try.prog W .any base t v := hval0
  have hW' := hW
  obtain ⟨p, q, hA0, hV, rfl, hfz, hnd⟩ := hW
  have hA : DataW.TrodAll enc Try.prog W 0 (fun _ => true) true Try.f7.params.toList args.toList ds p := hA0
  rw [Try.params7] at hA hval
  obtain ⟨v0, vs0, d0, ds0, p0, q0, hargs, rfl, rfl, h0, r0⟩ := trodAll_cons hA
  obtain ⟨v1, vs1, d1, ds1, p1, q1, rfl, rfl, rfl, h1, r1⟩ := trodAll_cons r0
  obtain ⟨v2, vs2, d2, ds2, p2, q2, rfl, rfl, rfl, h2, r2⟩ := trodAll_cons r1
  obtain ⟨rfl, rfl, rfl⟩ := trodAll_nil r2
  obtain rfl : args = #[v0, v1, v2] := by cases args; simp_all
  obtain ⟨rfl, rfl⟩ := trodVars_none hV
  obtain ⟨a0, rfl, rfl, rfl, w0⟩ := open_int Try.underlying22 (hval 0 22 v0 rfl rfl) h0
  obtain ⟨a1, rfl, rfl, rfl, w1⟩ := open_int Try.underlying22 (hval 1 22 v1 rfl rfl) h1
  obtain ⟨a2, rfl, rfl, rfl, w2⟩ := open_int Try.underlying22 (hval 2 22 v2 rfl rfl) h2
  clear hA0 hval0
  simp only [List.append_nil] at hW'
  refine (walk a0 a1 a2 w0 w1 w2 W).mono fun e W' ⟨he, bel⟩ => ?_
  subst he
  exact ⟨_, rfl, _, _, _, [], [], [], hW', trodAll_mk1 (shut_bool Try.underlying4 _), (trodAll_cons_mk (shut_int Try.underlying22 w0) (trodAll_cons_mk (shut_int Try.underlying22 w1) (trodAll_cons_mk (shut_int Try.underlying22 w2) trodAll_mk0))), rfl, bel.frame _, fun h => by cases h⟩

theorem over : Rows.realThreeRow.holds Try.pinned (OpenSpec.ofChange Rows.realThreeSpec) :=
  OpenClaim.holds_of_wide 7 Try.f7 rfl rfl rfl rfl rfl rfl rfl ⟨rfl, rfl, rfl, rfl, rfl⟩ rfl rfl rfl rfl rfl (by kernel_rfl) Try.func7 (by kernel_rfl)
    (of_decide_eq_true (by kernel_rfl)) (by unfold Func.isWrapper; first | (rw [if_pos (by decide +kernel)]; kernel_rfl) | (rw [if_neg (by decide +kernel)]; exact ⟨rfl, rfl⟩))
    (fun os started H enc _ => lifted os started H enc)

end RealThree

theorem realThree_holds : Rows.RealThreeSaid := RealThree.over
#print axioms realThree_holds
end Go.Proofs.Ytmggkfebfbnmbaa
