/- RealClampIn answers true at every three words, whatever the world: what is held between two numbers that stand in order lies between them, and is held already. -/
import Derived.Test.YtmggkfebfbnmbaaAsk
import Derived.ProofKit
import Derived.OpenShut
import Derived.ShutString
import Derived.ChangeOld
import Derived.Below
namespace Go.Proofs.Ytmggkfebfbnmbaa
namespace RealClampIn
open Go.ChangeShapes Go.WideShapes Go.ChangeAt Go.RowKit
open Go.ChangeMaps (open_string shut_string)
set_option linter.unusedVariables false

theorem own : ownKnob Try.prog.godebug = none := by kernel_rfl

theorem core_out (x lo hi : Nat) (r : Int) (w : World) (hal : Calls Try.prog 11 #[] w fun e w' => e = .returned (.bool true) ∧ Below w.heap.size w w')
    (o : ∀ W, Calls Try.prog 17 #[.float .f64 lo, .float .f64 hi] W fun e w' => e = .returned (.int .i64 r) ∧ w' = W)
    (h : 0 < r) :
    Calls Try.prog 9 #[.int .u64 x, .int .u64 lo, .int .u64 hi] w fun e w' => e = .returned (.bool true) ∧ Below w.heap.size w w' := by
  go_enter Try.func9, Try.ntmps9
  go_wp2_with fail
  refine hal.mono ?_; rintro e w1 ⟨rfl, hb⟩
  go_wp2_with fail
  refine (of_any _ _).mono ?_; rintro e w' ⟨rfl, rfl⟩
  go_wp2_with fail
  refine (of_any _ _).mono ?_; rintro e w' ⟨rfl, rfl⟩
  go_wp2_with fail
  refine (of_any _ _).mono ?_; rintro e w' ⟨rfl, rfl⟩
  go_wp2_with fail
  refine (o _).mono ?_; rintro e w' ⟨rfl, rfl⟩
  go_wp2
  go_ret
  exact ⟨rfl, hb⟩

set_option maxHeartbeats 1000000 in
theorem core_in (x lo hi y z : Nat) (r r1 r2 r3 r4 : Int) (p : Bool) (w : World) (hal : Calls Try.prog 11 #[] w fun e w' => e = .returned (.bool true) ∧ Below w.heap.size w w')
    (o : ∀ W, Calls Try.prog 17 #[.float .f64 lo, .float .f64 hi] W fun e w' => e = .returned (.int .i64 r) ∧ w' = W)
    (k : ∀ W, Calls Try.prog 12 #[.float .f64 x, .float .f64 lo, .float .f64 hi] W fun e w' => e = .returned (.float .f64 y) ∧ w' = W)
    (o1 : ∀ W, Calls Try.prog 17 #[.float .f64 lo, .float .f64 y] W fun e w' => e = .returned (.int .i64 r1) ∧ w' = W)
    (o2 : ∀ W, Calls Try.prog 17 #[.float .f64 y, .float .f64 hi] W fun e w' => e = .returned (.int .i64 r2) ∧ w' = W)
    (k2 : ∀ W, Calls Try.prog 12 #[.float .f64 y, .float .f64 lo, .float .f64 hi] W fun e w' => e = .returned (.float .f64 z) ∧ w' = W)
    (s1 : ∀ W, Calls Try.prog 19 #[.float .f64 z, .float .f64 y] W fun e w' => e = .returned (.bool true) ∧ w' = W)
    (o3 : ∀ W, Calls Try.prog 17 #[.float .f64 x, .float .f64 lo] W fun e w' => e = .returned (.int .i64 r3) ∧ w' = W)
    (o4 : ∀ W, Calls Try.prog 17 #[.float .f64 x, .float .f64 hi] W fun e w' => e = .returned (.int .i64 r4) ∧ w' = W)
    (s2 : ∀ W, Calls Try.prog 19 #[.float .f64 x, .float .f64 y] W fun e w' => e = .returned (.bool p) ∧ w' = W)
    (h : r ≤ 0) (h1 : r1 ≤ 0) (h2 : r2 ≤ 0) (h3 : r3 < 0 ∨ 0 ≤ r3 ∧ (0 < r4 ∨ r4 ≤ 0 ∧ p = true)) :
    Calls Try.prog 9 #[.int .u64 x, .int .u64 lo, .int .u64 hi] w fun e w' => e = .returned (.bool true) ∧ Below w.heap.size w w' := by
  rcases h3 with h3 | ⟨h3, h4⟩
  · clear s2 o4
    go_enter Try.func9, Try.ntmps9
    go_wp2_with fail
    refine hal.mono ?_; rintro e w1 ⟨rfl, hb⟩
    go_wp2_with fail
    refine (of_any _ _).mono ?_; rintro e w' ⟨rfl, rfl⟩
    go_wp2_with fail
    refine (of_any _ _).mono ?_; rintro e w' ⟨rfl, rfl⟩
    go_wp2_with fail
    refine (of_any _ _).mono ?_; rintro e w' ⟨rfl, rfl⟩
    go_wp2_with fail
    refine (o _).mono ?_; rintro e w' ⟨rfl, rfl⟩
    go_wp2_with fail
    refine (k _).mono ?_; rintro e w' ⟨rfl, rfl⟩
    go_wp2_with fail
    refine (o1 _).mono ?_; rintro e w' ⟨rfl, rfl⟩
    go_wp2_with fail
    refine (o2 _).mono ?_; rintro e w' ⟨rfl, rfl⟩
    go_wp2_with fail
    refine (k2 _).mono ?_; rintro e w' ⟨rfl, rfl⟩
    go_wp2_with fail
    refine (s1 _).mono ?_; rintro e w' ⟨rfl, rfl⟩
    go_wp2_with fail
    refine (o3 _).mono ?_; rintro e w' ⟨rfl, rfl⟩
    go_wp2
    go_ret
    exact ⟨rfl, hb⟩
  · rcases h4 with h4 | ⟨h4, rfl⟩
    · clear s2
      go_enter Try.func9, Try.ntmps9
      go_wp2_with fail
      refine hal.mono ?_; rintro e w1 ⟨rfl, hb⟩
      go_wp2_with fail
      refine (of_any _ _).mono ?_; rintro e w' ⟨rfl, rfl⟩
      go_wp2_with fail
      refine (of_any _ _).mono ?_; rintro e w' ⟨rfl, rfl⟩
      go_wp2_with fail
      refine (of_any _ _).mono ?_; rintro e w' ⟨rfl, rfl⟩
      go_wp2_with fail
      refine (o _).mono ?_; rintro e w' ⟨rfl, rfl⟩
      go_wp2_with fail
      refine (k _).mono ?_; rintro e w' ⟨rfl, rfl⟩
      go_wp2_with fail
      refine (o1 _).mono ?_; rintro e w' ⟨rfl, rfl⟩
      go_wp2_with fail
      refine (o2 _).mono ?_; rintro e w' ⟨rfl, rfl⟩
      go_wp2_with fail
      refine (k2 _).mono ?_; rintro e w' ⟨rfl, rfl⟩
      go_wp2_with fail
      refine (s1 _).mono ?_; rintro e w' ⟨rfl, rfl⟩
      go_wp2_with fail
      refine (o3 _).mono ?_; rintro e w' ⟨rfl, rfl⟩
      go_wp2_with fail
      refine (o4 _).mono ?_; rintro e w' ⟨rfl, rfl⟩
      go_wp2
      go_ret
      exact ⟨rfl, hb⟩
    · go_enter Try.func9, Try.ntmps9
      go_wp2_with fail
      refine hal.mono ?_; rintro e w1 ⟨rfl, hb⟩
      go_wp2_with fail
      refine (of_any _ _).mono ?_; rintro e w' ⟨rfl, rfl⟩
      go_wp2_with fail
      refine (of_any _ _).mono ?_; rintro e w' ⟨rfl, rfl⟩
      go_wp2_with fail
      refine (of_any _ _).mono ?_; rintro e w' ⟨rfl, rfl⟩
      go_wp2_with fail
      refine (o _).mono ?_; rintro e w' ⟨rfl, rfl⟩
      go_wp2_with fail
      refine (k _).mono ?_; rintro e w' ⟨rfl, rfl⟩
      go_wp2_with fail
      refine (o1 _).mono ?_; rintro e w' ⟨rfl, rfl⟩
      go_wp2_with fail
      refine (o2 _).mono ?_; rintro e w' ⟨rfl, rfl⟩
      go_wp2_with fail
      refine (k2 _).mono ?_; rintro e w' ⟨rfl, rfl⟩
      go_wp2_with fail
      refine (s1 _).mono ?_; rintro e w' ⟨rfl, rfl⟩
      go_wp2_with fail
      refine (o3 _).mono ?_; rintro e w' ⟨rfl, rfl⟩
      go_wp2_with fail
      refine (o4 _).mono ?_; rintro e w' ⟨rfl, rfl⟩
      go_wp2_with fail
      refine (s2 _).mono ?_; rintro e w' ⟨rfl, rfl⟩
      go_wp2
      go_ret
      exact ⟨rfl, hb⟩

/-- What is held between two that stand in order lies between them. -/
theorem clamp_cod {x lo hi : Nat} (h : Fl.cod lo ≤ Fl.cod hi) : Fl.cod lo ≤ Fl.cod (Fl.clampB x lo hi) ∧ Fl.cod (Fl.clampB x lo hi) ≤ Fl.cod hi ∧
    (Fl.cod lo ≤ Fl.cod x → Fl.cod x ≤ Fl.cod hi → Fl.cod (Fl.clampB x lo hi) = Fl.cod x) := by
  unfold Fl.clampB
  by_cases c1 : Fl.ord x lo < 0
  · rw [if_pos c1, Fl.cod_can]
    have : Fl.cod x < Fl.cod lo := by rcases Fl.ord_cases x lo with ⟨g, e⟩ | ⟨g, e⟩ | ⟨g, e⟩ <;> omega
    exact ⟨by omega, by omega, fun _ _ => by omega⟩
  · rw [if_neg c1]
    have : Fl.cod lo ≤ Fl.cod x := by rcases Fl.ord_cases x lo with ⟨g, e⟩ | ⟨g, e⟩ | ⟨g, e⟩ <;> omega
    by_cases c2 : 0 < Fl.ord x hi
    · rw [if_pos c2, Fl.cod_can]
      have : Fl.cod hi < Fl.cod x := by rcases Fl.ord_cases x hi with ⟨g, e⟩ | ⟨g, e⟩ | ⟨g, e⟩ <;> omega
      exact ⟨by omega, by omega, fun _ _ => by omega⟩
    · rw [if_neg c2, Fl.cod_can]
      have : Fl.cod x ≤ Fl.cod hi := by rcases Fl.ord_cases x hi with ⟨g, e⟩ | ⟨g, e⟩ | ⟨g, e⟩ <;> omega
      exact ⟨by omega, by omega, fun _ _ => by omega⟩

theorem w64_clamp {x lo hi : Nat} (hx : W64 x) (hl : W64 lo) (hh : W64 hi) : W64 (Fl.clampB x lo hi) := by
  unfold Fl.clampB
  split
  · exact w64_can hl
  · split
    · exact w64_can hh
    · exact w64_can hx

theorem walkN (x lo hi : Nat) (w : World) (hx : W64 x) (hl : W64 lo) (hh : W64 hi) :
    Calls Try.prog 9 #[.int .u64 x, .int .u64 lo, .int .u64 hi] w fun e w' => e = .returned (.bool true) ∧ Below w.heap.size w w' := by
  by_cases h : 0 < Fl.ord lo hi
  · exact core_out x lo hi _ w (alive_any w) (fun W => order_any lo hi W hl hh) h
  · have hle : Fl.cod lo ≤ Fl.cod hi := by rcases Fl.ord_cases lo hi with ⟨g, e⟩ | ⟨g, e⟩ | ⟨g, e⟩ <;> omega
    obtain ⟨q1, q2, q3⟩ := clamp_cod (x := x) hle
    have hy := w64_clamp hx hl hh
    obtain ⟨t1, t2, t3⟩ := clamp_cod (x := Fl.clampB x lo hi) hle
    have hz := w64_clamp hy hl hh
    refine core_in x lo hi (Fl.clampB x lo hi) (Fl.clampB (Fl.clampB x lo hi) lo hi) (Fl.ord lo hi) (Fl.ord lo (Fl.clampB x lo hi)) (Fl.ord (Fl.clampB x lo hi) hi) (Fl.ord x lo) (Fl.ord x hi) (Fl.ord x (Fl.clampB x lo hi) == 0) w (alive_any w)
      (fun W => order_any _ _ W hl hh) (fun W => clamp_any _ _ _ W hx hl hh) (fun W => order_any _ _ W hl hy) (fun W => order_any _ _ W hy hh) (fun W => clamp_any _ _ _ W hy hl hh) ?_ (fun W => order_any _ _ W hx hl) (fun W => order_any _ _ W hx hh) (fun W => same_any _ _ W hx hy) (by omega) ?_ ?_ ?_
    · intro W
      have := same_any (Fl.clampB (Fl.clampB x lo hi) lo hi) (Fl.clampB x lo hi) W hz hy
      rwa [Fl.ord_eq (t3 q1 q2)] at this
    · rcases Fl.ord_cases lo (Fl.clampB x lo hi) with ⟨g, e⟩ | ⟨g, e⟩ | ⟨g, e⟩ <;> omega
    · rcases Fl.ord_cases (Fl.clampB x lo hi) hi with ⟨g, e⟩ | ⟨g, e⟩ | ⟨g, e⟩ <;> omega
    · rcases Fl.ord_cases x lo with ⟨g, e⟩ | ⟨g, e⟩ | ⟨g, e⟩
      · exact Or.inl (by omega)
      all_goals
        refine Or.inr ⟨by omega, ?_⟩
        rcases Fl.ord_cases x hi with ⟨g', e'⟩ | ⟨g', e'⟩ | ⟨g', e'⟩
        · refine Or.inr ⟨by omega, ?_⟩; rw [Fl.ord_eq (q3 (by omega) (by omega)).symm]; rfl
        · refine Or.inr ⟨by omega, ?_⟩; rw [Fl.ord_eq (q3 (by omega) (by omega)).symm]; rfl
        · exact Or.inl (by omega)

theorem walk (a0 : Int) (a1 : Int) (a2 : Int) (w0 : (Lit.int .u64 a0).wf = true) (w1 : (Lit.int .u64 a1).wf = true) (w2 : (Lit.int .u64 a2).wf = true) (w : World) :
    Calls Try.prog 9 #[.int .u64 a0, .int .u64 a1, .int .u64 a2] w fun e w' => e = .returned (.bool true) ∧ Below w.heap.size w w' := by
  obtain ⟨n0, rfl, b0⟩ := nat_of_wf w0
  obtain ⟨n1, rfl, b1⟩ := nat_of_wf w1
  obtain ⟨n2, rfl, b2⟩ := nat_of_wf w2
  exact walkN n0 n1 n2 w b0 b1 b2

set_option maxRecDepth 100000 in
theorem lifted (os : Os) (started : os.Started) (H : Type) (enc : TypeId × Value → H) :
    ReturnsInHanded {} Try.checked os 9 .any (Rows.realClampInSpec.pre6 enc Try.prog Try.f9 Rows.realClampInRow.domain false) (Rows.realClampInSpec.post enc Try.prog Try.f9 false true false false) := by
  refine returnsInHanded_of_change (C := Try.checked) own started (by kernel_rfl) Try.func9
    (ChangeSpec.witness6 (enc := enc) (C := Try.checked) false ⟨#[], #[.int .u64 0, .int .u64 0, .int .u64 0], []⟩ 8 (by kernel_rfl) (by kernel_rfl) (by kernel_rfl) (by kernel_rfl)) ?_
  intro W base args ds gs before hval0 hW hcnd _
  have hval : ∀ (j : Nat) t v, Try.f9.params[j]? = some t → args[j]? = some v → Value.okWide Try.prog W .any base t v := hval0
  have hW' := hW
  obtain ⟨p, q, hA0, hV, rfl, hfz, hnd⟩ := hW
  have hA : DataW.TrodAll enc Try.prog W 0 (fun _ => true) true Try.f9.params.toList args.toList ds p := hA0
  rw [Try.params9] at hA hval
  obtain ⟨v0, vs0, d0, ds0, p0, q0, hargs, rfl, rfl, h0, r0⟩ := trodAll_cons hA
  obtain ⟨v1, vs1, d1, ds1, p1, q1, rfl, rfl, rfl, h1, r1⟩ := trodAll_cons r0
  obtain ⟨v2, vs2, d2, ds2, p2, q2, rfl, rfl, rfl, h2, r2⟩ := trodAll_cons r1
  obtain ⟨rfl, rfl, rfl⟩ := trodAll_nil r2
  obtain rfl : args = #[v0, v1, v2] := by cases args; simp_all
  obtain ⟨rfl, rfl⟩ := trodVars_none hV
  obtain ⟨a0, rfl, rfl, rfl, w0⟩ := open_int Try.underlying22 (hval 0 22 v0 rfl rfl) h0
  obtain ⟨a1, rfl, rfl, rfl, w1⟩ := open_int Try.underlying22 (hval 1 22 v1 rfl rfl) h1
  obtain ⟨a2, rfl, rfl, rfl, w2⟩ := open_int Try.underlying22 (hval 2 22 v2 rfl rfl) h2
  clear hA0 hval0
  simp only [List.append_nil] at hW'
  refine (walk a0 a1 a2 w0 w1 w2 W).mono fun e W' ⟨he, bel⟩ => ?_
  subst he
  exact ⟨_, rfl, _, _, _, [], [], [], hW', trodAll_mk1 (shut_bool Try.underlying4 _), (trodAll_cons_mk (shut_int Try.underlying22 w0) (trodAll_cons_mk (shut_int Try.underlying22 w1) (trodAll_cons_mk (shut_int Try.underlying22 w2) trodAll_mk0))), rfl, bel.frame _, fun h => by cases h⟩

theorem over : Rows.realClampInRow.holds Try.pinned (OpenSpec.ofChange Rows.realClampInSpec) :=
  OpenClaim.holds_of_wide 9 Try.f9 rfl rfl rfl rfl rfl rfl rfl ⟨rfl, rfl, rfl, rfl, rfl⟩ rfl rfl rfl rfl rfl (by kernel_rfl) Try.func9 (by kernel_rfl)
    (of_decide_eq_true (by kernel_rfl)) (by unfold Func.isWrapper; first | (rw [if_pos (by decide +kernel)]; kernel_rfl) | (rw [if_neg (by decide +kernel)]; exact ⟨rfl, rfl⟩))
    (fun os started H enc _ => lifted os started H enc)

end RealClampIn

theorem realClampIn_holds : Rows.RealClampInSaid := RealClampIn.over
#print axioms realClampIn_holds
end Go.Proofs.Ytmggkfebfbnmbaa
