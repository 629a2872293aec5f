/- PackOdd answers true at every word, number and text, whatever the world: a float that is not the one of its kind has no field, nor has a field of one kind what is another one's. -/
import Derived.Test.YtjcgkljncaphhaaNums
import Derived.Test.YtjcgkljncaphhaaOpen
import Derived.ProofKit
import Derived.OpenShut
import Derived.ShutString
import Derived.ChangeOld
import Derived.Below
namespace Go.Proofs.Ytjcgkljncaphhaa
namespace PackOdd
open Go.ChangeShapes Go.WideShapes Go.ChangeAt Go.RowKit
open Go.ChangeMaps (open_string shut_string)
set_option linter.unusedVariables false

theorem own : ownKnob Try.prog.godebug = none := by kernel_rfl
theorem laidOut : laidOutB Try.prog = true := by kernel_rfl

theorem odd_real (u : UInt64) : Pk.encE [⟨3, 0, ⟨#[]⟩, u⟩] = if Fl.can u.toNat = u.toNat then 0 else 2 := by
  have hm : [(⟨3, 0, ⟨#[]⟩, u⟩ : Pk.Fld)].all Pk.may = decide (Fl.can u.toNat = u.toNat) := by
    simp [Pk.may]
    intro _; rfl
  by_cases h : Fl.can u.toNat = u.toNat
  · rw [if_pos h]
    refine Pk.encE_zero.2 ⟨by rw [hm]; simpa using h, by simp, ?_⟩
    unfold Pk.allB Pk.fsB
    simp only [List.flatMap_cons, List.flatMap_nil, List.append_nil, List.length_cons, Pk.encB_3, Pk.lo_length]
    omega
  · rw [if_neg h]
    unfold Pk.encE
    rw [if_pos (by rw [hm]; simpa using h)]
theorem odd_num (u : UInt64) (s : ByteArray) (h : ¬ s.size = 0) : Pk.encE [⟨1, u, s, 0⟩] = 2 := by
  unfold Pk.encE
  rw [if_pos (by simp [Pk.may, h])]
theorem odd_text (u : UInt64) (s : ByteArray) (h : ¬ u.toNat = 0) : Pk.encE [⟨2, u, s, 0⟩] = 2 := by
  unfold Pk.encE
  rw [if_pos (by
    rw [List.all_cons]
    have : Pk.may ⟨2, u, s, 0⟩ = false := by
      unfold Pk.may
      simp only
      rw [if_neg (by decide), if_pos trivial, decide_eq_false h]
      rfl
    rw [this]; rfl)]

set_option maxHeartbeats 2000000 in
theorem early (b n : Nat) (s : ByteArray) (w : World) (h : 100 < s.size ∨ n = 0 ∨ s.toList.isEmpty = true) :
    Calls Try.prog 10 #[.int .u64 (b : Int), .int .u64 (n : Int), .string s] w fun e w' => e = .returned (.bool true) ∧ Below w.heap.size w w' := by
  by_cases h1 : 100 < s.size
  · have t1 : (100 : Int) < (s.size : Int) := by omega
    clear h
    go_enter Try.func10, Try.ntmps10
    go_wp2_with fail
    refine (alive_any w).mono ?_
    rintro e w1 ⟨rfl, hb1⟩
    go_wp2
    go_ret
    exact ⟨rfl, hb1⟩
  · have t1 : ¬ (100 : Int) < (s.size : Int) := by omega
    by_cases h2 : n = 0
    · subst h2
      clear h
      go_enter Try.func10, Try.ntmps10
      go_wp2_with fail
      refine (alive_any w).mono ?_
      rintro e w1 ⟨rfl, hb1⟩
      go_wp2
      go_ret
      exact ⟨rfl, hb1⟩
    · have h3 : s.toList.isEmpty = true := by rcases h with h | h | h <;> first | exact h | omega
      have t2 : ((n : Int) == 0) = false := by
        have : ¬ (n : Int) = 0 := by omega
        simpa using this
      clear h h1 h2
      go_enter Try.func10, Try.ntmps10
      go_wp2_with fail
      refine (alive_any w).mono ?_
      rintro e w1 ⟨rfl, hb1⟩
      go_wp2
      go_ret
      exact ⟨rfl, hb1⟩

set_option maxHeartbeats 2000000 in
theorem late (b n k : Nat) (s : ByteArray) (w : World) (t : Bool) (ec : Nat) (h1 : s.size ≤ 100) (h2 : ¬ n = 0) (h3 : s.toList.isEmpty = false) (ht : ((k : Int) == (b : Int)) = t) (he : ec = if t then 0 else 2)
    (hC : ∀ w, Calls Try.prog 23 #[.int .u64 (b : Int)] w fun e w' => e = .returned (.int .u64 (k : Int)) ∧ w' = w)
    (hE : ∀ w, Calls Try.prog 13 #[.slice (some ⟨w.heap.size, 0, none⟩) 1 1] (w.alloc (.cells #[.int .i64 3, .int .u64 0, .string ⟨#[]⟩, .float .f64 b] 52)) fun e w' => (∃ v m cap, e = .returned (.tuple #[.slice v m cap, .int .i64 (ec : Nat)])) ∧ Below w.heap.size w w')
    (hF : ∀ w, Calls Try.prog 13 #[.slice (some ⟨w.heap.size, 0, none⟩) 1 1] (w.alloc (.cells #[.int .i64 1, .int .u64 (n : Int), .string s, .float .f64 0] 52)) fun e w' => (∃ v m cap, e = .returned (.tuple #[.slice v m cap, .int .i64 2])) ∧ Below w.heap.size w w')
    (hG : ∀ w, Calls Try.prog 13 #[.slice (some ⟨w.heap.size, 0, none⟩) 1 1] (w.alloc (.cells #[.int .i64 2, .int .u64 (n : Int), .string s, .float .f64 0] 52)) fun e w' => (∃ v m cap, e = .returned (.tuple #[.slice v m cap, .int .i64 2])) ∧ Below w.heap.size w w') :
    Calls Try.prog 10 #[.int .u64 (b : Int), .int .u64 (n : Int), .string s] w fun e w' => e = .returned (.bool true) ∧ Below w.heap.size w w' := by
  have t1 : ¬ (100 : Int) < (s.size : Int) := by omega
  have t2 : ((n : Int) == 0) = false := by
    have : ¬ (n : Int) = 0 := by omega
    simpa using this
  have HC : Aside (∀ w, _) := hC
  have HE : Aside (∀ w, _) := hE
  have HF : Aside (∀ w, _) := hF
  have HG : Aside (∀ w, _) := hG
  have hx := fun n W => frombits_run n W
  clear hC hE hF hG h1 h2
  cases t
  all_goals
    simp at he
    subst he
    go_enter Try.func10, Try.ntmps10
    go_wp2_with fail
    refine (alive_any w).mono ?_
    rintro e w1 ⟨rfl, hb1⟩
    go_wp2_with fail
    refine (HE.out w1).mono ?_
    rintro e w2 ⟨⟨v, m, cap, rfl⟩, hb2⟩
    have c2 : Below w.heap.size w w2 := hb1.trans (hb2.mono hb1.size)
    clear hb1 hb2
    go_wp2_with fail
    refine (HF.out w2).mono ?_
    rintro e w3 ⟨⟨v3, m3, cap3, rfl⟩, hb3⟩
    have c3 : Below w.heap.size w w3 := c2.trans (hb3.mono c2.size)
    clear hb3 c2
    go_wp2_with fail
    refine (HG.out w3).mono ?_
    rintro e w4 ⟨⟨v4, m4, cap4, rfl⟩, hb4⟩
    have c4 : Below w.heap.size w w4 := c3.trans (hb4.mono c3.size)
    clear hb4 c3
    go_wp2_with fail
    refine (HC.out w4).mono ?_
    rintro e w5 ⟨rfl, hw⟩
    replace hw := hw.symm; subst hw
    go_wp2
    go_ret
    exact ⟨rfl, c4⟩

theorem walk (w : World) (a0 : Int) (w0 : (Lit.int .u64 a0).wf = true) (a1 : Int) (w1 : (Lit.int .u64 a1).wf = true) (a2 : ByteArray) (w2 : a2.size ≤ maxLen) : Calls Try.prog 10 #[.int .u64 a0, .int .u64 a1, .string a2] w fun e w' => e = .returned (.bool true) ∧ Below w.heap.size w w' := by
  obtain ⟨u0, rfl⟩ := u64_nat w0
  obtain ⟨u1, rfl⟩ := u64_nat w1
  by_cases h : 100 < a2.size ∨ u1.toNat = 0 ∨ a2.toList.isEmpty = true
  · exact early _ _ _ w h
  · have h1 : a2.size ≤ 100 := by omega
    have h2 : ¬ u1.toNat = 0 := fun e => h (.inr (.inl e))
    have h3 : a2.toList.isEmpty = false := by
      cases e : a2.toList.isEmpty with
      | false => rfl
      | true => exact absurd (.inr (.inr e)) h
    have hs : ¬ a2.size = 0 := by
      intro e
      rw [toList_size, decide_eq_true e] at h3
      cases h3
    refine late u0.toNat u1.toNat (Fl.can u0.toNat) a2 w (decide (Fl.can u0.toNat = u0.toNat)) (Pk.encE [⟨3, 0, ⟨#[]⟩, u0⟩]) h1 h2 h3 ?_ ?_ (fun w => rcanon_any _ w) ?_ ?_ ?_
    · by_cases g : Fl.can u0.toNat = u0.toNat
      · rw [decide_eq_true g, g]; simp
      · rw [decide_eq_false g]
        have : ¬ ((Fl.can u0.toNat : Nat) : Int) = ((u0.toNat : Nat) : Int) := by omega
        simpa using this
    · rw [odd_real]
      simp
    · intro w
      refine (encode_one ⟨3, 0, ⟨#[]⟩, u0⟩ w).mono ?_
      rintro e w' ⟨⟨v, cap, rfl⟩, hb⟩
      exact ⟨⟨v, _, cap, rfl⟩, hb⟩
    · intro w
      have h := encode_one ⟨1, u1, a2, 0⟩ w
      rw [odd_num u1 a2 hs] at h
      refine h.mono ?_
      rintro e w' ⟨⟨v, cap, rfl⟩, hb⟩
      exact ⟨⟨v, _, cap, rfl⟩, hb⟩
    · intro w
      have h := encode_one ⟨2, u1, a2, 0⟩ w
      rw [odd_text u1 a2 h2] at h
      refine h.mono ?_
      rintro e w' ⟨⟨v, cap, rfl⟩, hb⟩
      exact ⟨⟨v, _, cap, rfl⟩, hb⟩

set_option maxRecDepth 100000 in
theorem lifted (os : Os) (started : os.Started) (H : Type) (enc : TypeId × Value → H) :
    ReturnsInHanded {} Try.checked os 10 .any (Rows.packOddSpec.pre6 enc Try.prog Try.f10 Rows.packOddRow.domain false) (Rows.packOddSpec.post enc Try.prog Try.f10 false true false false) := by
  refine returnsInHanded_of_change (C := Try.checked) own started (by kernel_rfl) Try.func10
    (ChangeSpec.witness6 (enc := enc) (C := Try.checked) false ⟨#[], #[.int .u64 0, .int .u64 0, .string ByteArray.empty], []⟩ 8 (by kernel_rfl) (by kernel_rfl) (by kernel_rfl) (by kernel_rfl)) ?_
  intro W base args ds gs before hval0 hW hcnd _
  have hval : ∀ (j : Nat) t v, Try.f10.params[j]? = some t → args[j]? = some v → Value.okWide Try.prog W .any base t v := hval0
  have hW' := hW
  obtain ⟨p, q, hA0, hV, rfl, hfz, hnd⟩ := hW
  have hA : DataW.TrodAll enc Try.prog W 0 (fun _ => true) true Try.f10.params.toList args.toList ds p := hA0
  rw [Try.params10] at hA hval
  obtain ⟨v0, vs0, d0, ds0, p0, q0, hargs, rfl, rfl, h0, r0⟩ := trodAll_cons hA
  obtain ⟨v1, vs1, d1, ds1, p1, q1, rfl, rfl, rfl, h1, r1⟩ := trodAll_cons r0
  obtain ⟨v2, vs2, d2, ds2, p2, q2, rfl, rfl, rfl, h2, r2⟩ := trodAll_cons r1
  obtain ⟨rfl, rfl, rfl⟩ := trodAll_nil r2
  obtain rfl : args = #[v0, v1, v2] := by cases args; simp_all
  obtain ⟨rfl, rfl⟩ := trodVars_none hV
  obtain ⟨a0, rfl, rfl, rfl, w0⟩ := open_int Try.underlying46 (hval 0 46 v0 rfl rfl) h0
  obtain ⟨a1, rfl, rfl, rfl, w1⟩ := open_int Try.underlying46 (hval 1 46 v1 rfl rfl) h1
  obtain ⟨a2, rfl, rfl, rfl, w2⟩ := open_string Try.underlying9 (hval 2 9 v2 rfl rfl) h2
  clear hA0 hval0
  simp only [List.append_nil] at hW'
  refine (walk W a0 w0 a1 w1 a2 w2).mono fun e W' ⟨he, bel⟩ => ?_
  subst he
  exact ⟨_, rfl, _, _, _, [], _, [], hW', trodAll_mk1 (shut_bool Try.underlying4 _), (trodAll_cons_mk (shut_int Try.underlying46 w0) (trodAll_cons_mk (shut_int Try.underlying46 w1) (trodAll_cons_mk (shut_string Try.underlying9 w2) trodAll_mk0))), rfl, bel.frame _, fun h => by cases h⟩

theorem over : Rows.packOddRow.holds Try.pinned (OpenSpec.ofChange Rows.packOddSpec) :=
  OpenClaim.holds_of_wide 10 Try.f10 rfl rfl rfl rfl rfl rfl rfl ⟨rfl, rfl, rfl, rfl, rfl⟩ rfl rfl rfl rfl rfl (by kernel_rfl) Try.func10 (by kernel_rfl)
    (of_decide_eq_true (by kernel_rfl)) (by unfold Func.isWrapper; first | (rw [if_pos (by decide +kernel)]; kernel_rfl) | (rw [if_neg (by decide +kernel)]; exact ⟨rfl, rfl⟩))
    (fun os started H enc _ => lifted os started H enc)

end PackOdd

theorem packOdd_holds : Rows.PackOddSaid := PackOdd.over
#print axioms packOdd_holds
end Go.Proofs.Ytjcgkljncaphhaa
