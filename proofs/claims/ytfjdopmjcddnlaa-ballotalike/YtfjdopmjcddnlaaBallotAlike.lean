/- BallotAlike answers true at every view and casts, whatever the world: of two boxes of one view, in which no more members than may be corrupt want unlike things, no two unlike changes are chosen. -/
import Derived.Test.YtfjdopmjcddnlaaBtQ
import Derived.Test.YtfjdopmjcddnlaaArg
import Derived.Test.YtfjdopmjcddnlaaRows
import Derived.ProofKit
import Derived.OpenShut
import Derived.ShutString
import Derived.ChangeOld
import Derived.Below
namespace Go.Proofs.Ytfjdopmjcddnlaa
namespace BallotAlike
open Go.ChangeShapes Go.WideShapes Go.ChangeAt Go.RowKit
open Go.ChangeMaps (open_string shut_string)
set_option linter.unusedVariables false

theorem own : ownKnob Try.prog.godebug = none := by kernel_rfl
theorem laidOut : laidOutB Try.prog = true := by kernel_rfl

theorem walk (w : World) (v0 : Int) (s0 : Nat) (w0 : s0 < 65536) (a1 : Option Addr) (c1 : Nat) (l1 : List Bt.Ct) (w1 : AtC w a1 l1 ∧ ∀ z ∈ l1, z.1 < 256 ∧ z.2.2 < 256) (a2 : Option Addr) (c2 : Nat) (l2 : List Bt.Ct) (w2 : AtC w a2 l2 ∧ ∀ z ∈ l2, z.1 < 256 ∧ z.2.2 < 256) : Calls Try.prog 6 #[Rl.rollV v0 s0, .slice a1 l1.length c1, .slice a2 l2.length c2] w fun e w' => e = .returned (.bool true) ∧ Below w.heap.size w w' :=
  alike_walk v0 s0 a1 c1 l1 a2 c2 l2 w w1.1 w2.1 w0

set_option maxRecDepth 100000 in
theorem lifted (os : Os) (started : os.Started) (H : Type) (enc : TypeId × Value → H) :
    ReturnsInHanded {} Try.checked os 6 .any (Rows.ballotAlikeSpec.pre6 enc Try.prog Try.f6 Rows.ballotAlikeRow.domain false) (Rows.ballotAlikeSpec.post enc Try.prog Try.f6 false true false false) := by
  refine returnsInHanded_of_change (C := Try.checked) own started (by kernel_rfl) Try.func6
    (ChangeSpec.witness6 (enc := enc) (C := Try.checked) false ⟨#[], #[.agg #[.int .i64 0, .int .u16 0], .slice Option.none 0 0, .slice Option.none 0 0], []⟩ 8 (by kernel_rfl) (by kernel_rfl) (by kernel_rfl) (by kernel_rfl)) ?_
  intro W base args ds gs before hval0 hW hcnd _
  have hval : ∀ (j : Nat) t v, Try.f6.params[j]? = some t → args[j]? = some v → Value.okWide Try.prog W .any base t v := hval0
  have hW' := hW
  obtain ⟨p, q, hA0, hV, rfl, hfz, hnd⟩ := hW
  have hA : DataW.TrodAll enc Try.prog W 0 (fun _ => true) true Try.f6.params.toList args.toList ds p := hA0
  rw [Try.params6] at hA hval
  obtain ⟨v0, vs0, d0, ds0, p0, q0, hargs, rfl, rfl, h0, r0⟩ := trodAll_cons hA
  obtain ⟨v1, vs1, d1, ds1, p1, q1, rfl, rfl, rfl, h1, r1⟩ := trodAll_cons r0
  obtain ⟨v2, vs2, d2, ds2, p2, q2, rfl, rfl, rfl, h2, r2⟩ := trodAll_cons r1
  obtain ⟨rfl, rfl, rfl⟩ := trodAll_nil r2
  obtain rfl : args = #[v0, v1, v2] := by cases args; simp_all
  obtain ⟨rfl, rfl⟩ := trodVars_none hV
  have k0 := h0
  have lt0 : ∀ x ∈ p0, x.block < W.heap.size := by obtain ⟨m, hm⟩ := k0; exact DataW.trod_lt m _ _ _ hm
  obtain ⟨rv0, s0, rfl, w0⟩ := Rl.open_roll (hval 0 25 v0 rfl rfl) h0
  have k1 := h1
  have lt1 : ∀ x ∈ p1, x.block < W.heap.size := by obtain ⟨m, hm⟩ := k1; exact DataW.trod_lt m _ _ _ hm
  obtain ⟨b1, n1, m1, rfl⟩ := okWide_slice Try.underlying26 (hval 1 26 v1 rfl rfl)
  obtain ⟨ra1, rc1, l1, e1, w1⟩ : ∃ a c l, Value.slice b1 n1 m1 = .slice a l.length c ∧ AtC W a l ∧ ∀ z ∈ l, z.1 < 256 ∧ z.2.2 < 256 := by obtain ⟨fuel, hf⟩ := h1; exact open_casts hf
  cases e1
  have k2 := h2
  have lt2 : ∀ x ∈ p2, x.block < W.heap.size := by obtain ⟨m, hm⟩ := k2; exact DataW.trod_lt m _ _ _ hm
  obtain ⟨b2, n2, m2, rfl⟩ := okWide_slice Try.underlying26 (hval 2 26 v2 rfl rfl)
  obtain ⟨ra2, rc2, l2, e2, w2⟩ : ∃ a c l, Value.slice b2 n2 m2 = .slice a l.length c ∧ AtC W a l ∧ ∀ z ∈ l, z.1 < 256 ∧ z.2.2 < 256 := by obtain ⟨fuel, hf⟩ := h2; exact open_casts hf
  cases e2
  clear hA0 hval0
  simp only [List.append_nil] at hW'
  refine (walk W rv0 s0 w0 b1 m1 l1 w1 b2 m2 l2 w2).mono fun e W' ⟨he, bel⟩ => ?_
  subst he
  exact ⟨_, rfl, _, _, _, [], _, [], hW', trodAll_mk1 (shut_bool Try.underlying4 _), (trodAll_cons_mk (Below.trod laidOut (by kernel_rfl) (of_decide_eq_true (by kernel_rfl)) k0 bel lt0) (trodAll_cons_mk (Below.trod laidOut (by kernel_rfl) (of_decide_eq_true (by kernel_rfl)) k1 bel lt1) (trodAll_cons_mk (Below.trod laidOut (by kernel_rfl) (of_decide_eq_true (by kernel_rfl)) k2 bel lt2) trodAll_mk0))), rfl, bel.frame _, fun h => by cases h⟩

theorem over : Rows.ballotAlikeRow.holds Try.pinned (OpenSpec.ofChange Rows.ballotAlikeSpec) :=
  OpenClaim.holds_of_wide 6 Try.f6 rfl rfl rfl rfl rfl rfl rfl ⟨rfl, rfl, rfl, rfl, rfl⟩ rfl rfl rfl rfl rfl (by kernel_rfl) Try.func6 (by kernel_rfl)
    (of_decide_eq_true (by kernel_rfl)) (by unfold Func.isWrapper; first | (rw [if_pos (by decide +kernel)]; kernel_rfl) | (rw [if_neg (by decide +kernel)]; exact ⟨rfl, rfl⟩))
    (fun os started H enc _ => lifted os started H enc)

end BallotAlike

theorem ballotAlike_holds : Rows.BallotAlikeSaid := BallotAlike.over
#print axioms ballotAlike_holds
end Go.Proofs.Ytfjdopmjcddnlaa
