/- PackNumbers answers true at every two numbers, whatever the world: a number of its own has as few bytes as it can have, and less numbers have no more. -/
import Derived.Test.YtjcgkljncaphhaaNums
import Derived.Test.YtjcgkljncaphhaaOpen
import Derived.ProofKit
import Derived.OpenShut
import Derived.ShutString
import Derived.ChangeOld
import Derived.Below
namespace Go.Proofs.Ytjcgkljncaphhaa
namespace PackNumbers
open Go.ChangeShapes Go.WideShapes Go.ChangeAt Go.RowKit
open Go.ChangeMaps (open_string shut_string)
set_option linter.unusedVariables false

theorem own : ownKnob Try.prog.godebug = none := by kernel_rfl
theorem laidOut : laidOutB Try.prog = true := by kernel_rfl

set_option maxHeartbeats 2000000 in
theorem core (a b q p : Nat) (w : World) (hq : q ≤ 8) (hp : p ≤ 8) (hm : a ≤ b → q ≤ p)
    (f1 : q ≠ 8 → (a : Int) / 2 ^ (8 * q) = 0) (f2 : q ≠ 0 → 0 < (a : Int) / 2 ^ (8 * (q - 1)))
    (h1 : ∀ w, Calls Try.prog 13 #[.slice (some ⟨w.heap.size, 0, none⟩) 1 1] (w.alloc (.cells #[.int .i64 1, .int .u64 (a : Int), .string ⟨#[]⟩, .float .f64 0] 52)) fun e w' => (∃ v cap, e = .returned (.tuple #[.slice v (3 + q) cap, .int .i64 0])) ∧ Below w.heap.size w w')
    (h2 : ∀ w, Calls Try.prog 13 #[.slice (some ⟨w.heap.size, 0, none⟩) 1 1] (w.alloc (.cells #[.int .i64 1, .int .u64 (b : Int), .string ⟨#[]⟩, .float .f64 0] 52)) fun e w' => (∃ v cap, e = .returned (.tuple #[.slice v (3 + p) cap, .int .i64 0])) ∧ Below w.heap.size w w') :
    Calls Try.prog 9 #[.int .u64 (a : Int), .int .u64 (b : Int)] w fun e w' => e = .returned (.bool true) ∧ Below w.heap.size w w' := by
  have H1 : Aside (∀ w, _) := h1
  have H2 : Aside (∀ w, _) := h2
  have F : Aside (_ ∧ _ ∧ _) := ⟨hm, f1, f2⟩
  clear h1 h2 hm f1 f2
  go_enter Try.func9, Try.ntmps9
  go_wp2_with fail
  refine (alive_any w).mono ?_
  rintro e w1 ⟨rfl, hb1⟩
  go_wp2_with fail
  refine (H1.out w1).mono ?_
  rintro e w2 ⟨⟨v, cap, rfl⟩, hb2⟩
  go_wp2_with fail
  refine (H2.out w2).mono ?_
  rintro e w3 ⟨⟨v2, cap2, rfl⟩, hb3⟩
  have hbb : Below w.heap.size w w3 := hb1.trans ((hb2.mono hb1.size).trans (hb3.mono (Nat.le_trans hb1.size hb2.size)))
  clear hb1 hb2 hb3 H1 H2
  obtain ⟨hm, f1, f2⟩ := F.out
  clear F
  go_wp2
  all_goals
    go_ret
    refine ⟨congrArg (fun z => Ending.returned (.bool z)) ?_, hbb⟩
    by_cases h8 : q = 8
    · subst h8
      have := f2 (by decide)
      first | rfl | (exfalso; omega) | simpa using this
    · by_cases h0 : q = 0
      · subst h0
        first | rfl | (exfalso; omega) | simp
      · have := f2 h0
        first | rfl | (exfalso; omega) | simp [this]

theorem walk (w : World) (a0 : Int) (w0 : (Lit.int .u64 a0).wf = true) (a1 : Int) (w1 : (Lit.int .u64 a1).wf = true) : Calls Try.prog 9 #[.int .u64 a0, .int .u64 a1] w fun e w' => e = .returned (.bool true) ∧ Below w.heap.size w w' := by
  obtain ⟨u0, rfl⟩ := u64_nat w0
  obtain ⟨u1, rfl⟩ := u64_nat w1
  have e0 := num_one u0
  have e1 := num_one u1
  refine core u0.toNat u1.toNat (Pk.nb u0.toNat) (Pk.nb u1.toNat) w (nb_le _ u0.toNat_lt) (nb_le _ u1.toNat_lt) (fun h => nb_mono u1.toNat_lt h) ?_ ?_ ?_ ?_
  · intro _
    have := Pk.lt_nb u0.toNat u0.toNat_lt
    rw [Pk.pow256] at this
    have := Nat.div_eq_of_lt this
    exact_mod_cast this
  · intro h
    have h0 : u0.toNat ≠ 0 := fun e => by rw [e, Pk.nb_zero] at h; exact h rfl
    have := Pk.nb_ge u0.toNat u0.toNat_lt h0
    rw [Pk.pow256] at this
    have := Nat.div_pos this (Nat.pow_pos (by omega))
    exact_mod_cast this
  · intro w
    have h := encode_one ⟨1, u0, ⟨#[]⟩, 0⟩ w
    rw [e0.1, e0.2] at h
    exact h
  · intro w
    have h := encode_one ⟨1, u1, ⟨#[]⟩, 0⟩ w
    rw [e1.1, e1.2] at h
    exact h

set_option maxRecDepth 100000 in
theorem lifted (os : Os) (started : os.Started) (H : Type) (enc : TypeId × Value → H) :
    ReturnsInHanded {} Try.checked os 9 .any (Rows.packNumbersSpec.pre6 enc Try.prog Try.f9 Rows.packNumbersRow.domain false) (Rows.packNumbersSpec.post enc Try.prog Try.f9 false true false false) := by
  refine returnsInHanded_of_change (C := Try.checked) own started (by kernel_rfl) Try.func9
    (ChangeSpec.witness6 (enc := enc) (C := Try.checked) false ⟨#[], #[.int .u64 0, .int .u64 0], []⟩ 8 (by kernel_rfl) (by kernel_rfl) (by kernel_rfl) (by kernel_rfl)) ?_
  intro W base args ds gs before hval0 hW hcnd _
  have hval : ∀ (j : Nat) t v, Try.f9.params[j]? = some t → args[j]? = some v → Value.okWide Try.prog W .any base t v := hval0
  have hW' := hW
  obtain ⟨p, q, hA0, hV, rfl, hfz, hnd⟩ := hW
  have hA : DataW.TrodAll enc Try.prog W 0 (fun _ => true) true Try.f9.params.toList args.toList ds p := hA0
  rw [Try.params9] at hA hval
  obtain ⟨v0, vs0, d0, ds0, p0, q0, hargs, rfl, rfl, h0, r0⟩ := trodAll_cons hA
  obtain ⟨v1, vs1, d1, ds1, p1, q1, rfl, rfl, rfl, h1, r1⟩ := trodAll_cons r0
  obtain ⟨rfl, rfl, rfl⟩ := trodAll_nil r1
  obtain rfl : args = #[v0, v1] := by cases args; simp_all
  obtain ⟨rfl, rfl⟩ := trodVars_none hV
  obtain ⟨a0, rfl, rfl, rfl, w0⟩ := open_int Try.underlying46 (hval 0 46 v0 rfl rfl) h0
  obtain ⟨a1, rfl, rfl, rfl, w1⟩ := open_int Try.underlying46 (hval 1 46 v1 rfl rfl) h1
  clear hA0 hval0
  simp only [List.append_nil] at hW'
  refine (walk W a0 w0 a1 w1).mono fun e W' ⟨he, bel⟩ => ?_
  subst he
  exact ⟨_, rfl, _, _, _, [], _, [], hW', trodAll_mk1 (shut_bool Try.underlying4 _), (trodAll_cons_mk (shut_int Try.underlying46 w0) (trodAll_cons_mk (shut_int Try.underlying46 w1) trodAll_mk0)), rfl, bel.frame _, fun h => by cases h⟩

theorem over : Rows.packNumbersRow.holds Try.pinned (OpenSpec.ofChange Rows.packNumbersSpec) :=
  OpenClaim.holds_of_wide 9 Try.f9 rfl rfl rfl rfl rfl rfl rfl ⟨rfl, rfl, rfl, rfl, rfl⟩ rfl rfl rfl rfl rfl (by kernel_rfl) Try.func9 (by kernel_rfl)
    (of_decide_eq_true (by kernel_rfl)) (by unfold Func.isWrapper; first | (rw [if_pos (by decide +kernel)]; kernel_rfl) | (rw [if_neg (by decide +kernel)]; exact ⟨rfl, rfl⟩))
    (fun os started H enc _ => lifted os started H enc)

end PackNumbers

theorem packNumbers_holds : Rows.PackNumbersSaid := PackNumbers.over
#print axioms packNumbers_holds
end Go.Proofs.Ytjcgkljncaphhaa
