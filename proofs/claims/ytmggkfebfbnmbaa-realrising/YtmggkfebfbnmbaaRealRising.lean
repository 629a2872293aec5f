/- RealRising answers true at every two words, whatever the world: codes are less just as their numbers come ahead, and what is less as numbers are compared comes ahead. -/
import Derived.Test.YtmggkfebfbnmbaaAsk
import Derived.ProofKit
import Derived.OpenShut
import Derived.ShutString
import Derived.ChangeOld
import Derived.Below
namespace Go.Proofs.Ytmggkfebfbnmbaa
namespace RealRising
open Go.ChangeShapes Go.WideShapes Go.ChangeAt Go.RowKit
open Go.ChangeMaps (open_string shut_string)
set_option linter.unusedVariables false

theorem own : ownKnob Try.prog.godebug = none := by kernel_rfl

set_option maxHeartbeats 1000000 in
theorem core (a b k l : Nat) (o o' : Int) (c lt eq se : Bool) (w : World) (hal : Calls Try.prog 11 #[] w fun e w' => e = .returned (.bool true) ∧ Below w.heap.size w w')
    (o1 : ∀ W, Calls Try.prog 17 #[.float .f64 a, .float .f64 b] W fun e w' => e = .returned (.int .i64 o) ∧ w' = W)
    (o2 : ∀ W, Calls Try.prog 17 #[.float .f64 b, .float .f64 a] W fun e w' => e = .returned (.int .i64 o') ∧ w' = W)
    (k1 : ∀ W, Calls Try.prog 25 #[.float .f64 a] W fun e w' => e = .returned (.int .u64 k) ∧ w' = W)
    (k2 : ∀ W, Calls Try.prog 25 #[.float .f64 b] W fun e w' => e = .returned (.int .u64 l) ∧ w' = W)
    (hc : decide (k < l) = c) (hlt : (FloatKind.f64.format.order a b == some .lt) = lt) (heq : (FloatKind.f64.format.order a b == some .eq) = eq) (hse : (FloatKind.f64.format.order a a == some .eq) = se)
    (h : o = -1 ∧ o' = 1 ∧ c = true ∧ eq = false ∧ se = true ∨ o = 0 ∧ o' = 0 ∧ c = false ∧ lt = false ∨ o = 1 ∧ o' = -1 ∧ c = false ∧ lt = false ∧ eq = false) :
    Calls Try.prog 6 #[.int .u64 a, .int .u64 b] w fun e w' => e = .returned (.bool true) ∧ Below w.heap.size w w' := by
  rcases h with ⟨rfl, rfl, rfl, rfl, rfl⟩ | ⟨rfl, rfl, rfl, rfl⟩ | ⟨rfl, rfl, rfl, rfl, rfl⟩
  · cases lt
    all_goals
      go_enter Try.func6, Try.ntmps6
      go_wp2_with fail
      refine hal.mono ?_; rintro e w1 ⟨rfl, hb⟩
      go_wp2_with fail
      refine (of_any _ _).mono ?_; rintro e w' ⟨rfl, rfl⟩
      go_wp2_with fail
      refine (of_any _ _).mono ?_; rintro e w' ⟨rfl, rfl⟩
      go_wp2_with fail
      refine (o1 _).mono ?_; rintro e w' ⟨rfl, rfl⟩
      go_wp2_with fail
      refine (k1 _).mono ?_; rintro e w' ⟨rfl, rfl⟩
      go_wp2_with fail
      refine (k2 _).mono ?_; rintro e w' ⟨rfl, rfl⟩
      go_wp2_with fail
      refine (o2 _).mono ?_; rintro e w' ⟨rfl, rfl⟩
      go_wp2
      go_ret
      exact ⟨rfl, hb⟩
  · cases eq <;> cases se
    case false.true =>
      go_enter Try.func6, Try.ntmps6
      go_wp2_with fail
      refine hal.mono ?_; rintro e w1 ⟨rfl, hb⟩
      go_wp2_with fail
      refine (of_any _ _).mono ?_; rintro e w' ⟨rfl, rfl⟩
      go_wp2_with fail
      refine (of_any _ _).mono ?_; rintro e w' ⟨rfl, rfl⟩
      go_wp2_with fail
      refine (o1 _).mono ?_; rintro e w' ⟨rfl, rfl⟩
      go_wp2_with fail
      refine (k1 _).mono ?_; rintro e w' ⟨rfl, rfl⟩
      go_wp2_with fail
      refine (k2 _).mono ?_; rintro e w' ⟨rfl, rfl⟩
      go_wp2_with fail
      refine (o2 _).mono ?_; rintro e w' ⟨rfl, rfl⟩
      go_wp2
      go_ret
      exact ⟨rfl, hb⟩
    case true.true =>
      go_enter Try.func6, Try.ntmps6
      go_wp2_with fail
      refine hal.mono ?_; rintro e w1 ⟨rfl, hb⟩
      go_wp2_with fail
      refine (of_any _ _).mono ?_; rintro e w' ⟨rfl, rfl⟩
      go_wp2_with fail
      refine (of_any _ _).mono ?_; rintro e w' ⟨rfl, rfl⟩
      go_wp2_with fail
      refine (o1 _).mono ?_; rintro e w' ⟨rfl, rfl⟩
      go_wp2_with fail
      refine (k1 _).mono ?_; rintro e w' ⟨rfl, rfl⟩
      go_wp2_with fail
      refine (k2 _).mono ?_; rintro e w' ⟨rfl, rfl⟩
      go_wp2_with fail
      refine (o2 _).mono ?_; rintro e w' ⟨rfl, rfl⟩
      go_wp2
      go_ret
      exact ⟨rfl, hb⟩
    case false.false =>
      go_enter Try.func6, Try.ntmps6
      go_wp2_with fail
      refine hal.mono ?_; rintro e w1 ⟨rfl, hb⟩
      go_wp2_with fail
      refine (of_any _ _).mono ?_; rintro e w' ⟨rfl, rfl⟩
      go_wp2_with fail
      refine (of_any _ _).mono ?_; rintro e w' ⟨rfl, rfl⟩
      go_wp2_with fail
      refine (o1 _).mono ?_; rintro e w' ⟨rfl, rfl⟩
      go_wp2_with fail
      refine (k1 _).mono ?_; rintro e w' ⟨rfl, rfl⟩
      go_wp2_with fail
      refine (k2 _).mono ?_; rintro e w' ⟨rfl, rfl⟩
      go_wp2_with fail
      refine (o2 _).mono ?_; rintro e w' ⟨rfl, rfl⟩
      go_wp2_with fail
      refine (o2 _).mono ?_; rintro e w' ⟨rfl, rfl⟩
      go_wp2
      go_ret
      exact ⟨rfl, hb⟩
    case true.false =>
      go_enter Try.func6, Try.ntmps6
      go_wp2_with fail
      refine hal.mono ?_; rintro e w1 ⟨rfl, hb⟩
      go_wp2_with fail
      refine (of_any _ _).mono ?_; rintro e w' ⟨rfl, rfl⟩
      go_wp2_with fail
      refine (of_any _ _).mono ?_; rintro e w' ⟨rfl, rfl⟩
      go_wp2_with fail
      refine (o1 _).mono ?_; rintro e w' ⟨rfl, rfl⟩
      go_wp2_with fail
      refine (k1 _).mono ?_; rintro e w' ⟨rfl, rfl⟩
      go_wp2_with fail
      refine (k2 _).mono ?_; rintro e w' ⟨rfl, rfl⟩
      go_wp2_with fail
      refine (o2 _).mono ?_; rintro e w' ⟨rfl, rfl⟩
      go_wp2_with fail
      refine (o2 _).mono ?_; rintro e w' ⟨rfl, rfl⟩
      go_wp2
      go_ret
      exact ⟨rfl, hb⟩
  · cases se
    · go_enter Try.func6, Try.ntmps6
      go_wp2_with fail
      refine hal.mono ?_; rintro e w1 ⟨rfl, hb⟩
      go_wp2_with fail
      refine (of_any _ _).mono ?_; rintro e w' ⟨rfl, rfl⟩
      go_wp2_with fail
      refine (of_any _ _).mono ?_; rintro e w' ⟨rfl, rfl⟩
      go_wp2_with fail
      refine (o1 _).mono ?_; rintro e w' ⟨rfl, rfl⟩
      go_wp2_with fail
      refine (k1 _).mono ?_; rintro e w' ⟨rfl, rfl⟩
      go_wp2_with fail
      refine (k2 _).mono ?_; rintro e w' ⟨rfl, rfl⟩
      go_wp2_with fail
      refine (o2 _).mono ?_; rintro e w' ⟨rfl, rfl⟩
      go_wp2_with fail
      refine (o2 _).mono ?_; rintro e w' ⟨rfl, rfl⟩
      go_wp2
      go_ret
      exact ⟨rfl, hb⟩
    · go_enter Try.func6, Try.ntmps6
      go_wp2_with fail
      refine hal.mono ?_; rintro e w1 ⟨rfl, hb⟩
      go_wp2_with fail
      refine (of_any _ _).mono ?_; rintro e w' ⟨rfl, rfl⟩
      go_wp2_with fail
      refine (of_any _ _).mono ?_; rintro e w' ⟨rfl, rfl⟩
      go_wp2_with fail
      refine (o1 _).mono ?_; rintro e w' ⟨rfl, rfl⟩
      go_wp2_with fail
      refine (k1 _).mono ?_; rintro e w' ⟨rfl, rfl⟩
      go_wp2_with fail
      refine (k2 _).mono ?_; rintro e w' ⟨rfl, rfl⟩
      go_wp2_with fail
      refine (o2 _).mono ?_; rintro e w' ⟨rfl, rfl⟩
      go_wp2
      go_ret
      exact ⟨rfl, hb⟩

theorem walkN (a b : Nat) (w : World) (ha : W64 a) (hb : W64 b) :
    Calls Try.prog 6 #[.int .u64 a, .int .u64 b] w fun e w' => e = .returned (.bool true) ∧ Below w.heap.size w w' := by
  refine core a b (Fl.cod a) (Fl.cod b) (Fl.ord a b) (Fl.ord b a) _ _ _ _ w (alive_any w) (fun W => order_any a b W ha hb) (fun W => order_any b a W hb ha) (fun W => code_any a W ha) (fun W => code_any b W hb) rfl rfl rfl rfl ?_
  show Fl.ord a b = -1 ∧ Fl.ord b a = 1 ∧ decide (Fl.cod a < Fl.cod b) = true ∧ (Ieee.double.order a b == some .eq) = false ∧ (Ieee.double.order a a == some .eq) = true ∨
    Fl.ord a b = 0 ∧ Fl.ord b a = 0 ∧ decide (Fl.cod a < Fl.cod b) = false ∧ (Ieee.double.order a b == some .lt) = false ∨
    Fl.ord a b = 1 ∧ Fl.ord b a = -1 ∧ decide (Fl.cod a < Fl.cod b) = false ∧ (Ieee.double.order a b == some .lt) = false ∧ (Ieee.double.order a b == some .eq) = false
  rcases Nat.lt_trichotomy (Fl.cod a) (Fl.cod b) with h | h | h
  · have na : Fl.isN a = false := by
      cases g : Fl.isN a
      · rfl
      · exfalso
        have h1 := Fl.cod_nan g
        cases g' : Fl.isN b
        · have := Fl.cod_num hb g'; omega
        · have := Fl.cod_nan g'; omega
    refine Or.inl ⟨Fl.ord_lt h, Fl.ord_gt h, decide_eq_true (by omega), ?_, ?_⟩
    · cases g' : Fl.isN b
      · rw [(Fl.order_cod a b ha hb (Fl.isN_false na) (Fl.isN_false g')).1 h]; rfl
      · rw [Fl.order_nan_right a b (Fl.isN_true g')]; rfl
    · rw [(Fl.order_cod a a ha ha (Fl.isN_false na) (Fl.isN_false na)).2.1 rfl]; rfl
  · refine Or.inr (Or.inl ⟨Fl.ord_eq h, Fl.ord_eq h.symm, decide_eq_false (by omega), ?_⟩)
    cases g : Fl.isN a
    · cases g' : Fl.isN b
      · rw [(Fl.order_cod a b ha hb (Fl.isN_false g) (Fl.isN_false g')).2.1 h]; rfl
      · rw [Fl.order_nan_right a b (Fl.isN_true g')]; rfl
    · rw [Fl.order_nan_left a b (Fl.isN_true g)]; rfl
  · have hz : Ieee.double.order a b = some .gt ∨ Ieee.double.order a b = none := by
      cases g : Fl.isN a
      · cases g' : Fl.isN b
        · exact Or.inl ((Fl.order_cod a b ha hb (Fl.isN_false g) (Fl.isN_false g')).2.2 h)
        · exact Or.inr (Fl.order_nan_right a b (Fl.isN_true g'))
      · exact Or.inr (Fl.order_nan_left a b (Fl.isN_true g))
    refine Or.inr (Or.inr ⟨Fl.ord_gt h, Fl.ord_lt h, decide_eq_false (by omega), ?_, ?_⟩)
    · rcases hz with e | e <;> rw [e] <;> rfl
    · rcases hz with e | e <;> rw [e] <;> rfl

theorem walk (a0 : Int) (a1 : Int) (w0 : (Lit.int .u64 a0).wf = true) (w1 : (Lit.int .u64 a1).wf = true) (w : World) :
    Calls Try.prog 6 #[.int .u64 a0, .int .u64 a1] w fun e w' => e = .returned (.bool true) ∧ Below w.heap.size w w' := by
  obtain ⟨n0, rfl, b0⟩ := nat_of_wf w0
  obtain ⟨n1, rfl, b1⟩ := nat_of_wf w1
  exact walkN n0 n1 w b0 b1

set_option maxRecDepth 100000 in
theorem lifted (os : Os) (started : os.Started) (H : Type) (enc : TypeId × Value → H) :
    ReturnsInHanded {} Try.checked os 6 .any (Rows.realRisingSpec.pre6 enc Try.prog Try.f6 Rows.realRisingRow.domain false) (Rows.realRisingSpec.post enc Try.prog Try.f6 false true false false) := by
  refine returnsInHanded_of_change (C := Try.checked) own started (by kernel_rfl) Try.func6
    (ChangeSpec.witness6 (enc := enc) (C := Try.checked) false ⟨#[], #[.int .u64 0, .int .u64 0], []⟩ 8 (by kernel_rfl) (by kernel_rfl) (by kernel_rfl) (by kernel_rfl)) ?_
  intro W base args ds gs before hval0 hW hcnd _
  have hval : ∀ (j : Nat) t v, Try.f6.params[j]? = some t → args[j]? = some v → Value.okWide Try.prog W .any base t v := hval0
  have hW' := hW
  obtain ⟨p, q, hA0, hV, rfl, hfz, hnd⟩ := hW
  have hA : DataW.TrodAll enc Try.prog W 0 (fun _ => true) true Try.f6.params.toList args.toList ds p := hA0
  rw [Try.params6] at hA hval
  obtain ⟨v0, vs0, d0, ds0, p0, q0, hargs, rfl, rfl, h0, r0⟩ := trodAll_cons hA
  obtain ⟨v1, vs1, d1, ds1, p1, q1, rfl, rfl, rfl, h1, r1⟩ := trodAll_cons r0
  obtain ⟨rfl, rfl, rfl⟩ := trodAll_nil r1
  obtain rfl : args = #[v0, v1] := by cases args; simp_all
  obtain ⟨rfl, rfl⟩ := trodVars_none hV
  obtain ⟨a0, rfl, rfl, rfl, w0⟩ := open_int Try.underlying22 (hval 0 22 v0 rfl rfl) h0
  obtain ⟨a1, rfl, rfl, rfl, w1⟩ := open_int Try.underlying22 (hval 1 22 v1 rfl rfl) h1
  clear hA0 hval0
  simp only [List.append_nil] at hW'
  refine (walk a0 a1 w0 w1 W).mono fun e W' ⟨he, bel⟩ => ?_
  subst he
  exact ⟨_, rfl, _, _, _, [], [], [], hW', trodAll_mk1 (shut_bool Try.underlying4 _), (trodAll_cons_mk (shut_int Try.underlying22 w0) (trodAll_cons_mk (shut_int Try.underlying22 w1) trodAll_mk0)), rfl, bel.frame _, fun h => by cases h⟩

theorem over : Rows.realRisingRow.holds Try.pinned (OpenSpec.ofChange Rows.realRisingSpec) :=
  OpenClaim.holds_of_wide 6 Try.f6 rfl rfl rfl rfl rfl rfl rfl ⟨rfl, rfl, rfl, rfl, rfl⟩ rfl rfl rfl rfl rfl (by kernel_rfl) Try.func6 (by kernel_rfl)
    (of_decide_eq_true (by kernel_rfl)) (by unfold Func.isWrapper; first | (rw [if_pos (by decide +kernel)]; kernel_rfl) | (rw [if_neg (by decide +kernel)]; exact ⟨rfl, rfl⟩))
    (fun os started H enc _ => lifted os started H enc)

end RealRising

theorem realRising_holds : Rows.RealRisingSaid := RealRising.over
#print axioms realRising_holds
end Go.Proofs.Ytmggkfebfbnmbaa
