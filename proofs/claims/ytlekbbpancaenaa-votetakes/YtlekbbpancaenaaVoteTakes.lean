/- VoteTakes answers true at every case, place and vote, whatever the world: what comes of any vote in any case, and which members voted for a body, is the document's. -/
import Derived.Test.YtlekbbpancaenaaLcE
import Derived.Test.YtlekbbpancaenaaArg
import Derived.Test.YtlekbbpancaenaaRows
import Derived.ProofKit
import Derived.OpenShut
import Derived.ShutString
import Derived.ChangeOld
import Derived.Below
namespace Go.Proofs.Ytlekbbpancaenaa
namespace VoteTakes
open Go.ChangeShapes Go.WideShapes Go.ChangeAt Go.RowKit
open Go.ChangeMaps (open_string shut_string)
set_option linter.unusedVariables false

theorem own : ownKnob Try.prog.godebug = none := by kernel_rfl
theorem laidOut : laidOutB Try.prog = true := by kernel_rfl

theorem walk (w : World) (ce0 cr0 cd0 : Bool) (ba0 : Option Addr) (ca0 : Nat) (la0 : Vt.Bal) (bb0 : Option Addr) (cb0 : Nat) (lb0 : Vt.Bal) (w0 : (Vt.At w ba0 la0 ∧ Vt.Small la0) ∧ (Vt.At w bb0 lb0 ∧ Vt.Small lb0)) (ms1 fr1 : Nat) (w1 : ms1 < 65536 ∧ fr1 < 256) (kd2 : Int) (id2 : Nat) (bd2 : ByteArray) (w2 : id2 < 256) : Calls Try.prog 3 #[.agg #[.bool ce0, .bool cr0, .bool cd0, .slice ba0 la0.length ca0, .slice bb0 lb0.length cb0], .agg #[.int .u16 (ms1 : Int), .int .u8 (fr1 : Int)], .agg #[.int .i64 kd2, .int .u8 (id2 : Int), .string bd2]] w fun e w' => e = .returned (.bool true) ∧ Below w.heap.size w w' :=
  takes_walk ce0 cr0 cd0 ba0 bb0 ca0 cb0 la0 lb0 ms1 fr1 kd2 id2 bd2 w w1.1 w1.2 w2 w0.1 w0.2

set_option maxRecDepth 100000 in
theorem lifted (os : Os) (started : os.Started) (H : Type) (enc : TypeId × Value → H) :
    ReturnsInHanded {} Try.checked os 3 .any (Rows.voteTakesSpec.pre6 enc Try.prog Try.f3 Rows.voteTakesRow.domain false) (Rows.voteTakesSpec.post enc Try.prog Try.f3 false true false false) := by
  refine returnsInHanded_of_change (C := Try.checked) own started (by kernel_rfl) Try.func3
    (ChangeSpec.witness6 (enc := enc) (C := Try.checked) false ⟨#[], #[.agg #[.bool false, .bool false, .bool false, .slice none 0 0, .slice none 0 0], .agg #[.int .u16 0, .int .u8 0], .agg #[.int .i64 0, .int .u8 0, .string ByteArray.empty]], []⟩ 8 (by kernel_rfl) (by kernel_rfl) (by kernel_rfl) (by kernel_rfl)) ?_
  intro W base args ds gs before hval0 hW hcnd _
  have hval : ∀ (j : Nat) t v, Try.f3.params[j]? = some t → args[j]? = some v → Value.okWide Try.prog W .any base t v := hval0
  have hW' := hW
  obtain ⟨p, q, hA0, hV, rfl, hfz, hnd⟩ := hW
  have hA : DataW.TrodAll enc Try.prog W 0 (fun _ => true) true Try.f3.params.toList args.toList ds p := hA0
  rw [Try.params3] at hA hval
  obtain ⟨v0, vs0, d0, ds0, p0, q0, hargs, rfl, rfl, h0, r0⟩ := trodAll_cons hA
  obtain ⟨v1, vs1, d1, ds1, p1, q1, rfl, rfl, rfl, h1, r1⟩ := trodAll_cons r0
  obtain ⟨v2, vs2, d2, ds2, p2, q2, rfl, rfl, rfl, h2, r2⟩ := trodAll_cons r1
  obtain ⟨rfl, rfl, rfl⟩ := trodAll_nil r2
  obtain rfl : args = #[v0, v1, v2] := by cases args; simp_all
  obtain ⟨rfl, rfl⟩ := trodVars_none hV
  have k0 := h0
  have lt0 : ∀ x ∈ p0, x.block < W.heap.size := by obtain ⟨m, hm⟩ := k0; exact DataW.trod_lt m _ _ _ hm
  obtain ⟨ce0, cr0, cd0, ba0, ca0, la0, bb0, cb0, lb0, rfl, w0⟩ := open_case (hval 0 24 v0 rfl rfl) h0
  have k1 := h1
  have lt1 : ∀ x ∈ p1, x.block < W.heap.size := by obtain ⟨m, hm⟩ := k1; exact DataW.trod_lt m _ _ _ hm
  obtain ⟨ms1, fr1, rfl, w1⟩ := open_place (hval 1 28 v1 rfl rfl) h1
  have k2 := h2
  have lt2 : ∀ x ∈ p2, x.block < W.heap.size := by obtain ⟨m, hm⟩ := k2; exact DataW.trod_lt m _ _ _ hm
  obtain ⟨kd2, id2, bd2, rfl, w2⟩ := open_vote (hval 2 30 v2 rfl rfl) h2
  clear hA0 hval0
  simp only [List.append_nil] at hW'
  refine (walk W ce0 cr0 cd0 ba0 ca0 la0 bb0 cb0 lb0 w0 ms1 fr1 w1 kd2 id2 bd2 w2).mono fun e W' ⟨he, bel⟩ => ?_
  subst he
  exact ⟨_, rfl, _, _, _, [], _, [], hW', trodAll_mk1 (shut_bool Try.underlying4 _), (trodAll_cons_mk (Below.trod laidOut (by kernel_rfl) (of_decide_eq_true (by kernel_rfl)) k0 bel lt0) (trodAll_cons_mk (Below.trod laidOut (by kernel_rfl) (of_decide_eq_true (by kernel_rfl)) k1 bel lt1) (trodAll_cons_mk (Below.trod laidOut (by kernel_rfl) (of_decide_eq_true (by kernel_rfl)) k2 bel lt2) trodAll_mk0))), rfl, bel.frame _, fun h => by cases h⟩

theorem over : Rows.voteTakesRow.holds Try.pinned (OpenSpec.ofChange Rows.voteTakesSpec) :=
  OpenClaim.holds_of_wide 3 Try.f3 rfl rfl rfl rfl rfl rfl rfl ⟨rfl, rfl, rfl, rfl, rfl⟩ rfl rfl rfl rfl rfl (by kernel_rfl) Try.func3 (by kernel_rfl)
    (of_decide_eq_true (by kernel_rfl)) (by unfold Func.isWrapper; first | (rw [if_pos (by decide +kernel)]; kernel_rfl) | (rw [if_neg (by decide +kernel)]; exact ⟨rfl, rfl⟩))
    (fun os started H enc _ => lifted os started H enc)

end VoteTakes

theorem voteTakes_holds : Rows.VoteTakesSaid := VoteTakes.over
#print axioms voteTakes_holds
end Go.Proofs.Ytlekbbpancaenaa
