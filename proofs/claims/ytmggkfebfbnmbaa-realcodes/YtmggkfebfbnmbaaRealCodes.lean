/- RealCodes answers true at every two words, whatever the world: Code and Decode are the document's and belong together one by one. -/
import Derived.Test.YtmggkfebfbnmbaaAsk
import Derived.ProofKit
import Derived.OpenShut
import Derived.ShutString
import Derived.ChangeOld
import Derived.Below
namespace Go.Proofs.Ytmggkfebfbnmbaa
namespace RealCodes
open Go.ChangeShapes Go.WideShapes Go.ChangeAt Go.RowKit
open Go.ChangeMaps (open_string shut_string)
set_option linter.unusedVariables false

theorem own : ownKnob Try.prog.godebug = none := by kernel_rfl

set_option maxHeartbeats 1000000 in
theorem core (b c k x q : Nat) (ok : Bool) (w : World) (hal : Calls Try.prog 11 #[] w fun e w' => e = .returned (.bool true) ∧ Below w.heap.size w w')
    (d1 : ∀ W, Calls Try.prog 23 #[.int .u64 c] W fun e w' => e = .returned (.tuple #[.float .f64 x, .bool ok]) ∧ w' = W)
    (d2 : ∀ W, Calls Try.prog 24 #[.int .u64 c] W fun e w' => e = .returned (.tuple #[.int .u64 x, .bool ok]) ∧ w' = W)
    (d3 : ∀ W, Calls Try.prog 23 #[.int .u64 k] W fun e w' => e = .returned (.tuple #[.float .f64 q, .bool true]) ∧ w' = W)
    (k1 : ∀ W, Calls Try.prog 25 #[.float .f64 b] W fun e w' => e = .returned (.int .u64 k) ∧ w' = W)
    (k2 : ∀ W, Calls Try.prog 26 #[.int .u64 b] W fun e w' => e = .returned (.int .u64 k) ∧ w' = W)
    (r1 : ∀ W, Calls Try.prog 16 #[.int .u64 b] W fun e w' => e = .returned (.int .u64 q) ∧ w' = W)
    (k3 : ok = true → ∀ W, Calls Try.prog 25 #[.float .f64 x] W fun e w' => e = .returned (.int .u64 c) ∧ w' = W) :
    Calls Try.prog 5 #[.int .u64 b, .int .u64 c] w fun e w' => e = .returned (.bool true) ∧ Below w.heap.size w w' := by
  cases ok
  · clear k3
    go_enter Try.func5, Try.ntmps5
    go_wp2_with fail
    refine hal.mono ?_; rintro e w1 ⟨rfl, hb⟩
    go_wp2_with fail
    refine (d1 _).mono ?_; rintro e w' ⟨rfl, rfl⟩
    go_wp2_with fail
    refine (d2 _).mono ?_; rintro e w' ⟨rfl, rfl⟩
    go_wp2_with fail
    refine (of_any _ _).mono ?_; rintro e w' ⟨rfl, rfl⟩
    go_wp2_with fail
    refine (k1 _).mono ?_; rintro e w' ⟨rfl, rfl⟩
    go_wp2_with fail
    refine (d3 _).mono ?_; rintro e w' ⟨rfl, rfl⟩
    go_wp2_with fail
    refine (of_any _ _).mono ?_; rintro e w' ⟨rfl, rfl⟩
    go_wp2_with fail
    refine (k1 _).mono ?_; rintro e w' ⟨rfl, rfl⟩
    go_wp2_with fail
    refine (k2 _).mono ?_; rintro e w' ⟨rfl, rfl⟩
    go_wp2_with fail
    refine (bits_any _ _).mono ?_; rintro e w' ⟨rfl, rfl⟩
    go_wp2_with fail
    refine (bits_any _ _).mono ?_; rintro e w' ⟨rfl, rfl⟩
    go_wp2_with fail
    refine (r1 _).mono ?_; rintro e w' ⟨rfl, rfl⟩
    go_wp2
    go_ret
    exact ⟨rfl, hb⟩
  · have k4 := k3 rfl
    clear k3
    go_enter Try.func5, Try.ntmps5
    go_wp2_with fail
    refine hal.mono ?_; rintro e w1 ⟨rfl, hb⟩
    go_wp2_with fail
    refine (d1 _).mono ?_; rintro e w' ⟨rfl, rfl⟩
    go_wp2_with fail
    refine (d2 _).mono ?_; rintro e w' ⟨rfl, rfl⟩
    go_wp2_with fail
    refine (of_any _ _).mono ?_; rintro e w' ⟨rfl, rfl⟩
    go_wp2_with fail
    refine (k1 _).mono ?_; rintro e w' ⟨rfl, rfl⟩
    go_wp2_with fail
    refine (d3 _).mono ?_; rintro e w' ⟨rfl, rfl⟩
    go_wp2_with fail
    refine (of_any _ _).mono ?_; rintro e w' ⟨rfl, rfl⟩
    go_wp2_with fail
    refine (k1 _).mono ?_; rintro e w' ⟨rfl, rfl⟩
    go_wp2_with fail
    refine (k2 _).mono ?_; rintro e w' ⟨rfl, rfl⟩
    go_wp2_with fail
    refine (bits_any _ _).mono ?_; rintro e w' ⟨rfl, rfl⟩
    go_wp2_with fail
    refine (bits_any _ _).mono ?_; rintro e w' ⟨rfl, rfl⟩
    go_wp2_with fail
    refine (r1 _).mono ?_; rintro e w' ⟨rfl, rfl⟩
    go_wp2_with fail
    refine (k4 _).mono ?_; rintro e w' ⟨rfl, rfl⟩
    go_wp2
    go_ret
    exact ⟨rfl, hb⟩

/-- The number of a number's code is the one of its kind. -/
theorem dec_cod {b : Nat} (hb : W64 b) : Fl.decOk (Fl.cod b) = true ∧ Fl.dec (Fl.cod b) = Fl.can b := by
  have hk : Fl.raw (Fl.cod b) = Fl.can b := by
    have h1 := Fl.can_lt hb
    have h2 : ¬ Fl.can b = 9223372036854775808 := by
      unfold Fl.can
      split
      · omega
      · split
        · omega
        · assumption
    unfold Fl.raw Fl.cod
    by_cases g : 9223372036854775808 ≤ Fl.can b
    · rw [if_pos g, if_neg (by omega)]; omega
    · rw [if_neg g, if_pos (by omega)]; omega
  have ho : Fl.decOk (Fl.cod b) = true := by
    unfold Fl.decOk
    rw [hk, Fl.cod_can]; exact beq_iff_eq.2 rfl
  exact ⟨ho, by unfold Fl.dec; rw [if_pos ho, hk]⟩

theorem walkN (b c : Nat) (w : World) (hb : W64 b) (hc : W64 c) :
    Calls Try.prog 5 #[.int .u64 b, .int .u64 c] w fun e w' => e = .returned (.bool true) ∧ Below w.heap.size w w' := by
  obtain ⟨e1, e2⟩ := dec_cod hb
  refine core b c (Fl.cod b) (Fl.dec c) (Fl.can b) (Fl.decOk c) w (alive_any w) (fun W => decode_any c W hc) (fun W => rdecode_any c W hc) ?_ (fun W => code_any b W hb) (fun W => rcode_any b W hb) (fun W => rcanon_any b W) ?_
  · intro W
    have := decode_any (Fl.cod b) W (w64_cod hb)
    rwa [e1, e2] at this
  · intro h W
    have hd : Fl.dec c = Fl.raw c := by unfold Fl.dec; rw [if_pos h]
    have := code_any (Fl.dec c) W (by rw [hd]; exact Fl.raw_lt hc)
    rw [hd] at this ⊢
    rwa [show Fl.cod (Fl.raw c) = c from beq_iff_eq.1 h] at this

theorem walk (a0 : Int) (a1 : Int) (w0 : (Lit.int .u64 a0).wf = true) (w1 : (Lit.int .u64 a1).wf = true) (w : World) :
    Calls Try.prog 5 #[.int .u64 a0, .int .u64 a1] w fun e w' => e = .returned (.bool true) ∧ Below w.heap.size w w' := by
  obtain ⟨n0, rfl, b0⟩ := nat_of_wf w0
  obtain ⟨n1, rfl, b1⟩ := nat_of_wf w1
  exact walkN n0 n1 w b0 b1

set_option maxRecDepth 100000 in
theorem lifted (os : Os) (started : os.Started) (H : Type) (enc : TypeId × Value → H) :
    ReturnsInHanded {} Try.checked os 5 .any (Rows.realCodesSpec.pre6 enc Try.prog Try.f5 Rows.realCodesRow.domain false) (Rows.realCodesSpec.post enc Try.prog Try.f5 false true false false) := by
  refine returnsInHanded_of_change (C := Try.checked) own started (by kernel_rfl) Try.func5
    (ChangeSpec.witness6 (enc := enc) (C := Try.checked) false ⟨#[], #[.int .u64 0, .int .u64 0], []⟩ 8 (by kernel_rfl) (by kernel_rfl) (by kernel_rfl) (by kernel_rfl)) ?_
  intro W base args ds gs before hval0 hW hcnd _
  have hval : ∀ (j : Nat) t v, Try.f5.params[j]? = some t → args[j]? = some v → Value.okWide Try.prog W .any base t v := hval0
  have hW' := hW
  obtain ⟨p, q, hA0, hV, rfl, hfz, hnd⟩ := hW
  have hA : DataW.TrodAll enc Try.prog W 0 (fun _ => true) true Try.f5.params.toList args.toList ds p := hA0
  rw [Try.params5] at hA hval
  obtain ⟨v0, vs0, d0, ds0, p0, q0, hargs, rfl, rfl, h0, r0⟩ := trodAll_cons hA
  obtain ⟨v1, vs1, d1, ds1, p1, q1, rfl, rfl, rfl, h1, r1⟩ := trodAll_cons r0
  obtain ⟨rfl, rfl, rfl⟩ := trodAll_nil r1
  obtain rfl : args = #[v0, v1] := by cases args; simp_all
  obtain ⟨rfl, rfl⟩ := trodVars_none hV
  obtain ⟨a0, rfl, rfl, rfl, w0⟩ := open_int Try.underlying22 (hval 0 22 v0 rfl rfl) h0
  obtain ⟨a1, rfl, rfl, rfl, w1⟩ := open_int Try.underlying22 (hval 1 22 v1 rfl rfl) h1
  clear hA0 hval0
  simp only [List.append_nil] at hW'
  refine (walk a0 a1 w0 w1 W).mono fun e W' ⟨he, bel⟩ => ?_
  subst he
  exact ⟨_, rfl, _, _, _, [], [], [], hW', trodAll_mk1 (shut_bool Try.underlying4 _), (trodAll_cons_mk (shut_int Try.underlying22 w0) (trodAll_cons_mk (shut_int Try.underlying22 w1) trodAll_mk0)), rfl, bel.frame _, fun h => by cases h⟩

theorem over : Rows.realCodesRow.holds Try.pinned (OpenSpec.ofChange Rows.realCodesSpec) :=
  OpenClaim.holds_of_wide 5 Try.f5 rfl rfl rfl rfl rfl rfl rfl ⟨rfl, rfl, rfl, rfl, rfl⟩ rfl rfl rfl rfl rfl (by kernel_rfl) Try.func5 (by kernel_rfl)
    (of_decide_eq_true (by kernel_rfl)) (by unfold Func.isWrapper; first | (rw [if_pos (by decide +kernel)]; kernel_rfl) | (rw [if_neg (by decide +kernel)]; exact ⟨rfl, rfl⟩))
    (fun os started H enc _ => lifted os started H enc)

end RealCodes

theorem realCodes_holds : Rows.RealCodesSaid := RealCodes.over
#print axioms realCodes_holds
end Go.Proofs.Ytmggkfebfbnmbaa
