/- LinkMine answers true at every end, letter and number, whatever the world: a letter is taken by the one alone to whom it is, and never by the one who sent it. -/
import Derived.Test.YtimeggbjmcnnoaaLwC
import Derived.Test.YtimeggbjmcnnoaaArg
import Derived.Test.YtimeggbjmcnnoaaRows
import Derived.ProofKit
import Derived.OpenShut
import Derived.ShutString
import Derived.ChangeOld
import Derived.Below
namespace Go.Proofs.Ytimeggbjmcnnoaa
namespace LinkMine
open Go.ChangeShapes Go.WideShapes Go.ChangeAt Go.RowKit
open Go.ChangeMaps (open_string shut_string)
set_option linter.unusedVariables false

theorem own : ownKnob Try.prog.godebug = none := by kernel_rfl
theorem laidOut : laidOutB Try.prog = true := by kernel_rfl

theorem walk (w : World) (ek0 : ByteArray) (nx0 tp0 cm0 : Nat) (w0 : nx0 < 4294967296 ∧ tp0 < 4294967296 ∧ cm0 < 18446744073709551616) (f1 t1 s1 : Nat) (a1 : Option Addr) (n1 c1 : Nat) (g1 : ByteArray) (b1 : List UInt8) (w1 : f1 < 256 ∧ t1 < 256 ∧ s1 < 4294967296 ∧ Byt w a1 n1 c1 b1) (a2 : Int) (w2 : (Lit.int .u8 a2).wf = true) : Calls Try.prog 10 #[.agg #[.string ek0, .int .u32 (nx0 : Int), .int .u32 (tp0 : Int), .int .u64 (cm0 : Int)], .agg #[.int .u8 (f1 : Int), .int .u8 (t1 : Int), .int .u32 (s1 : Int), .slice a1 n1 c1, .string g1], .int .u8 a2] w fun e w' => e = .returned (.bool true) ∧ Below w.heap.size w w' := by
  obtain ⟨me, rfl, _⟩ := nat_u8 w2
  exact mine_walk ek0 nx0 tp0 cm0 f1 t1 s1 a1 n1 c1 g1 b1 me w w0.2.1 w0.2.2 w1.1 w1.2.1 w1.2.2.1 w1.2.2.2

set_option maxRecDepth 100000 in
theorem lifted (os : Os) (started : os.Started) (H : Type) (enc : TypeId × Value → H) :
    ReturnsInHanded {} Try.checked os 10 .any (Rows.linkMineSpec.pre6 enc Try.prog Try.f10 Rows.linkMineRow.domain false) (Rows.linkMineSpec.post enc Try.prog Try.f10 false true false false) := by
  refine returnsInHanded_of_change (C := Try.checked) own started (by kernel_rfl) Try.func10
    (ChangeSpec.witness6 (enc := enc) (C := Try.checked) false ⟨#[], #[.agg #[.string ByteArray.empty, .int .u32 0, .int .u32 0, .int .u64 0], .agg #[.int .u8 0, .int .u8 0, .int .u32 0, .slice none 0 0, .string ByteArray.empty], .int .u8 0], []⟩ 8 (by kernel_rfl) (by kernel_rfl) (by kernel_rfl) (by kernel_rfl)) ?_
  intro W base args ds gs before hval0 hW hcnd _
  have hval : ∀ (j : Nat) t v, Try.f10.params[j]? = some t → args[j]? = some v → Value.okWide Try.prog W .any base t v := hval0
  have hW' := hW
  obtain ⟨p, q, hA0, hV, rfl, hfz, hnd⟩ := hW
  have hA : DataW.TrodAll enc Try.prog W 0 (fun _ => true) true Try.f10.params.toList args.toList ds p := hA0
  rw [Try.params10] at hA hval
  obtain ⟨v0, vs0, d0, ds0, p0, q0, hargs, rfl, rfl, h0, r0⟩ := trodAll_cons hA
  obtain ⟨v1, vs1, d1, ds1, p1, q1, rfl, rfl, rfl, h1, r1⟩ := trodAll_cons r0
  obtain ⟨v2, vs2, d2, ds2, p2, q2, rfl, rfl, rfl, h2, r2⟩ := trodAll_cons r1
  obtain ⟨rfl, rfl, rfl⟩ := trodAll_nil r2
  obtain rfl : args = #[v0, v1, v2] := by cases args; simp_all
  obtain ⟨rfl, rfl⟩ := trodVars_none hV
  have k0 := h0
  have lt0 : ∀ x ∈ p0, x.block < W.heap.size := by obtain ⟨m, hm⟩ := k0; exact DataW.trod_lt m _ _ _ hm
  obtain ⟨ek0, nx0, tp0, cm0, rfl, w0⟩ := open_end (hval 0 40 v0 rfl rfl) h0
  have k1 := h1
  have lt1 : ∀ x ∈ p1, x.block < W.heap.size := by obtain ⟨m, hm⟩ := k1; exact DataW.trod_lt m _ _ _ hm
  obtain ⟨f1, t1, s1, a1, n1, c1, g1, b1, rfl, w1⟩ := open_letter (hval 1 26 v1 rfl rfl) h1
  obtain ⟨a2, rfl, rfl, rfl, w2⟩ := open_int Try.underlying5 (hval 2 5 v2 rfl rfl) h2
  clear hA0 hval0
  simp only [List.append_nil] at hW'
  refine (walk W ek0 nx0 tp0 cm0 w0 f1 t1 s1 a1 n1 c1 g1 b1 w1 a2 w2).mono fun e W' ⟨he, bel⟩ => ?_
  subst he
  exact ⟨_, rfl, _, _, _, [], _, [], hW', trodAll_mk1 (shut_bool Try.underlying4 _), (trodAll_cons_mk (Below.trod laidOut (by kernel_rfl) (of_decide_eq_true (by kernel_rfl)) k0 bel lt0) (trodAll_cons_mk (Below.trod laidOut (by kernel_rfl) (of_decide_eq_true (by kernel_rfl)) k1 bel lt1) (trodAll_cons_mk (shut_int Try.underlying5 w2) trodAll_mk0))), rfl, bel.frame _, fun h => by cases h⟩

theorem over : Rows.linkMineRow.holds Try.pinned (OpenSpec.ofChange Rows.linkMineSpec) :=
  OpenClaim.holds_of_wide 10 Try.f10 rfl rfl rfl rfl rfl rfl rfl ⟨rfl, rfl, rfl, rfl, rfl⟩ rfl rfl rfl rfl rfl (by kernel_rfl) Try.func10 (by kernel_rfl)
    (of_decide_eq_true (by kernel_rfl)) (by unfold Func.isWrapper; first | (rw [if_pos (by decide +kernel)]; kernel_rfl) | (rw [if_neg (by decide +kernel)]; exact ⟨rfl, rfl⟩))
    (fun os started H enc _ => lifted os started H enc)

end LinkMine

theorem linkMine_holds : Rows.LinkMineSaid := LinkMine.over
#print axioms linkMine_holds
end Go.Proofs.Ytimeggbjmcnnoaa
