/- RealCanon answers true at every two words, whatever the world: a number and the one of its kind are the same and stand alike to all others. -/
import Derived.Test.YtmggkfebfbnmbaaAsk
import Derived.ProofKit
import Derived.OpenShut
import Derived.ShutString
import Derived.ChangeOld
import Derived.Below
namespace Go.Proofs.Ytmggkfebfbnmbaa
namespace RealCanon
open Go.ChangeShapes Go.WideShapes Go.ChangeAt Go.RowKit
open Go.ChangeMaps (open_string shut_string)
set_option linter.unusedVariables false

theorem own : ownKnob Try.prog.godebug = none := by kernel_rfl

set_option maxHeartbeats 1000000 in
theorem core (a b c d : Nat) (r : Int) (p : Bool) (w : World) (hal : Calls Try.prog 11 #[] w fun e w' => e = .returned (.bool true) ∧ Below w.heap.size w w')
    (k1 : ∀ W, Calls Try.prog 15 #[.float .f64 a] W fun e w' => e = .returned (.float .f64 c) ∧ w' = W)
    (k2 : ∀ W, Calls Try.prog 15 #[.float .f64 c] W fun e w' => e = .returned (.float .f64 c) ∧ w' = W)
    (k3 : ∀ W, Calls Try.prog 15 #[.float .f64 b] W fun e w' => e = .returned (.float .f64 d) ∧ w' = W)
    (o1 : ∀ W, Calls Try.prog 17 #[.float .f64 a, .float .f64 b] W fun e w' => e = .returned (.int .i64 r) ∧ w' = W)
    (o2 : ∀ W, Calls Try.prog 17 #[.float .f64 c, .float .f64 b] W fun e w' => e = .returned (.int .i64 r) ∧ w' = W)
    (s1 : ∀ W, Calls Try.prog 19 #[.float .f64 a, .float .f64 c] W fun e w' => e = .returned (.bool true) ∧ w' = W)
    (s2 : ∀ W, Calls Try.prog 19 #[.float .f64 a, .float .f64 b] W fun e w' => e = .returned (.bool p) ∧ w' = W)
    (hp : ((c : Int) == (d : Int)) = p) :
    Calls Try.prog 8 #[.int .u64 a, .int .u64 b] w fun e w' => e = .returned (.bool true) ∧ Below w.heap.size w w' := by
  go_enter Try.func8, Try.ntmps8
  go_wp2_with fail
  refine hal.mono ?_; rintro e w1 ⟨rfl, hb⟩
  go_wp2_with fail
  refine (of_any _ _).mono ?_; rintro e w' ⟨rfl, rfl⟩
  go_wp2_with fail
  refine (of_any _ _).mono ?_; rintro e w' ⟨rfl, rfl⟩
  go_wp2_with fail
  refine (k1 _).mono ?_; rintro e w' ⟨rfl, rfl⟩
  go_wp2_with fail
  refine (s1 _).mono ?_; rintro e w' ⟨rfl, rfl⟩
  go_wp2_with fail
  refine (k2 _).mono ?_; rintro e w' ⟨rfl, rfl⟩
  go_wp2_with fail
  refine (bits_any _ _).mono ?_; rintro e w' ⟨rfl, rfl⟩
  go_wp2_with fail
  refine (bits_any _ _).mono ?_; rintro e w' ⟨rfl, rfl⟩
  go_wp2_with fail
  refine (o1 _).mono ?_; rintro e w' ⟨rfl, rfl⟩
  go_wp2_with fail
  refine (o2 _).mono ?_; rintro e w' ⟨rfl, rfl⟩
  go_wp2_with fail
  refine (s2 _).mono ?_; rintro e w' ⟨rfl, rfl⟩
  go_wp2_with fail
  refine (bits_any _ _).mono ?_; rintro e w' ⟨rfl, rfl⟩
  go_wp2_with fail
  refine (k3 _).mono ?_; rintro e w' ⟨rfl, rfl⟩
  go_wp2_with fail
  refine (bits_any _ _).mono ?_; rintro e w' ⟨rfl, rfl⟩
  go_wp2
  go_ret
  exact ⟨rfl, hb⟩

theorem walkN (a b : Nat) (w : World) (ha : W64 a) (hb : W64 b) :
    Calls Try.prog 8 #[.int .u64 a, .int .u64 b] w fun e w' => e = .returned (.bool true) ∧ Below w.heap.size w w' := by
  have hc := w64_can ha
  have e1 : Fl.ord (Fl.can a) b = Fl.ord a b := by unfold Fl.ord; rw [Fl.cod_can]
  refine core a b (Fl.can a) (Fl.can b) (Fl.ord a b) (Fl.ord a b == 0) w (alive_any w) (fun W => canon_any a W ha) ?_ (fun W => canon_any b W hb) (fun W => order_any a b W ha hb) ?_ ?_ (fun W => same_any a b W ha hb) ?_
  · intro W; have := canon_any (Fl.can a) W hc; rwa [Fl.can_can] at this
  · intro W; have := order_any (Fl.can a) b W hc hb; rwa [e1] at this
  · intro W; have := same_any a (Fl.can a) W ha hc; rwa [Fl.ord_eq (Fl.cod_can a).symm] at this
  · have hi := Fl.cod_eq_iff (a := a) (b := b) ha hb
    rcases Fl.ord_cases a b with ⟨h, e⟩ | ⟨h, e⟩ | ⟨h, e⟩ <;> rw [e]
    · exact beq_eq_false_iff_ne.2 (by omega)
    · exact beq_iff_eq.2 (by omega)
    · exact beq_eq_false_iff_ne.2 (by omega)

theorem walk (a0 : Int) (a1 : Int) (w0 : (Lit.int .u64 a0).wf = true) (w1 : (Lit.int .u64 a1).wf = true) (w : World) :
    Calls Try.prog 8 #[.int .u64 a0, .int .u64 a1] w fun e w' => e = .returned (.bool true) ∧ Below w.heap.size w w' := by
  obtain ⟨n0, rfl, b0⟩ := nat_of_wf w0
  obtain ⟨n1, rfl, b1⟩ := nat_of_wf w1
  exact walkN n0 n1 w b0 b1

set_option maxRecDepth 100000 in
theorem lifted (os : Os) (started : os.Started) (H : Type) (enc : TypeId × Value → H) :
    ReturnsInHanded {} Try.checked os 8 .any (Rows.realCanonSpec.pre6 enc Try.prog Try.f8 Rows.realCanonRow.domain false) (Rows.realCanonSpec.post enc Try.prog Try.f8 false true false false) := by
  refine returnsInHanded_of_change (C := Try.checked) own started (by kernel_rfl) Try.func8
    (ChangeSpec.witness6 (enc := enc) (C := Try.checked) false ⟨#[], #[.int .u64 0, .int .u64 0], []⟩ 8 (by kernel_rfl) (by kernel_rfl) (by kernel_rfl) (by kernel_rfl)) ?_
  intro W base args ds gs before hval0 hW hcnd _
  have hval : ∀ (j : Nat) t v, Try.f8.params[j]? = some t → args[j]? = some v → Value.okWide Try.prog W .any base t v := hval0
  have hW' := hW
  obtain ⟨p, q, hA0, hV, rfl, hfz, hnd⟩ := hW
  have hA : DataW.TrodAll enc Try.prog W 0 (fun _ => true) true Try.f8.params.toList args.toList ds p := hA0
  rw [Try.params8] at hA hval
  obtain ⟨v0, vs0, d0, ds0, p0, q0, hargs, rfl, rfl, h0, r0⟩ := trodAll_cons hA
  obtain ⟨v1, vs1, d1, ds1, p1, q1, rfl, rfl, rfl, h1, r1⟩ := trodAll_cons r0
  obtain ⟨rfl, rfl, rfl⟩ := trodAll_nil r1
  obtain rfl : args = #[v0, v1] := by cases args; simp_all
  obtain ⟨rfl, rfl⟩ := trodVars_none hV
  obtain ⟨a0, rfl, rfl, rfl, w0⟩ := open_int Try.underlying22 (hval 0 22 v0 rfl rfl) h0
  obtain ⟨a1, rfl, rfl, rfl, w1⟩ := open_int Try.underlying22 (hval 1 22 v1 rfl rfl) h1
  clear hA0 hval0
  simp only [List.append_nil] at hW'
  refine (walk a0 a1 w0 w1 W).mono fun e W' ⟨he, bel⟩ => ?_
  subst he
  exact ⟨_, rfl, _, _, _, [], [], [], hW', trodAll_mk1 (shut_bool Try.underlying4 _), (trodAll_cons_mk (shut_int Try.underlying22 w0) (trodAll_cons_mk (shut_int Try.underlying22 w1) trodAll_mk0)), rfl, bel.frame _, fun h => by cases h⟩

theorem over : Rows.realCanonRow.holds Try.pinned (OpenSpec.ofChange Rows.realCanonSpec) :=
  OpenClaim.holds_of_wide 8 Try.f8 rfl rfl rfl rfl rfl rfl rfl ⟨rfl, rfl, rfl, rfl, rfl⟩ rfl rfl rfl rfl rfl (by kernel_rfl) Try.func8 (by kernel_rfl)
    (of_decide_eq_true (by kernel_rfl)) (by unfold Func.isWrapper; first | (rw [if_pos (by decide +kernel)]; kernel_rfl) | (rw [if_neg (by decide +kernel)]; exact ⟨rfl, rfl⟩))
    (fun os started H enc _ => lifted os started H enc)

end RealCanon

theorem realCanon_holds : Rows.RealCanonSaid := RealCanon.over
#print axioms realCanon_holds
end Go.Proofs.Ytmggkfebfbnmbaa
