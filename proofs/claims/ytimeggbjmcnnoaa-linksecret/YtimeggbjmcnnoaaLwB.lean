/- The law LinkSecret: true, whatever the world. -/
import Derived.Test.YtimeggbjmcnnoaaLwA
namespace Go.Proofs.Ytimeggbjmcnnoaa
open Go.RowKit

theorem bytes_eq (x y : List UInt8) : ((⟨x.toArray⟩ : ByteArray).toList == (⟨y.toArray⟩ : ByteArray).toList) = decide (x = y) := by
  rw [eq_lists]
theorem key_bool {s : List UInt8} {a b c d : Nat} (h1 : Tm.keyE s a b = 0) (h2 : Tm.keyE s c d = 0) :
    ((⟨(Tm.keyOf s a b).toArray⟩ : ByteArray).toList == (⟨(Tm.keyOf s c d).toArray⟩ : ByteArray).toList) = (((a : Int) == (c : Int)) && ((b : Int) == (d : Int)) || ((a : Int) == (d : Int)) && ((b : Int) == (c : Int))) := by
  rw [bytes_eq]
  have e : ∀ x y : Nat, ((x : Int) == (y : Int)) = decide (x = y) := fun x y => by
    by_cases h : x = y
    · simp [h]
    · have : ¬ (x : Int) = (y : Int) := by omega
      simp [h, this]
  rw [e, e, e, e, ← Bool.decide_and, ← Bool.decide_and, ← Bool.decide_or, decide_eq_decide]
  exact Tm.key_one h1 h2

set_option maxRecDepth 100000 in
set_option maxHeartbeats 16000000 in
theorem secret_walk (sec : ByteArray) (a b c d : Nat) (w : World) :
    Calls Try.prog 7 #[.string sec, .agg #[.int .u8 (a : Int), .int .u8 (b : Int), .int .u8 (c : Int), .int .u8 (d : Int)]] w fun e w' => e = .returned (.bool true) ∧ Below w.heap.size w w' := by
  have AL : Aside (∀ W, _) := fun W => alive_any W
  have CK : Aside (∀ W, _) := fun W => rcheck_any sec W
  have K1 : Aside (∀ W, Calls Try.prog 13 #[.string sec, .int .u8 (a : Int), .int .u8 (b : Int)] W _) := fun W => by have := key_any sec.data.toList a b W; rw [str_of] at this; exact this
  have K2 : Aside (∀ W, Calls Try.prog 13 #[.string sec, .int .u8 (b : Int), .int .u8 (a : Int)] W _) := fun W => by have := key_any sec.data.toList b a W; rw [str_of] at this; exact this
  have K3 : Aside (∀ W, Calls Try.prog 13 #[.string sec, .int .u8 (c : Int), .int .u8 (d : Int)] W _) := fun W => by have := key_any sec.data.toList c d W; rw [str_of] at this; exact this
  unfold KeyPost at K1 K2 K3
  rw [(Tm.key_sym sec.data.toList b a).1, (Tm.key_sym sec.data.toList b a).2] at K2
  have KB : Aside (Tm.keyE sec.data.toList a b = 0 → Tm.keyE sec.data.toList c d = 0 → _) := fun h1 h2 => key_bool h1 h2
  unfold str at *
  generalize (⟨(Tm.keyOf sec.data.toList a b).toArray⟩ : ByteArray) = kz at *
  generalize Tm.keyE sec.data.toList a b = ke at *
  generalize (⟨(Tm.keyOf sec.data.toList c d).toArray⟩ : ByteArray) = kc at *
  generalize Tm.keyE sec.data.toList c d = ce at *
  generalize Tm.chk sec.data.toList = ck at *
  generalize (a : Int) = a1 at *
  generalize (b : Int) = b1 at *
  generalize (c : Int) = c1 at *
  generalize (d : Int) = d1 at *
  have X0 : Aside (E4 _ w.heap.size 60 _ _ _ _) := E4.new w 60 (.int .u8 a1) (.int .u8 b1) (.int .u8 c1) (.int .u8 d1)
  have B0 : Aside (∀ o, Below w.heap.size w (w.alloc o)) := fun o => below_one w o
  go_enter Try.func7, Try.ntmps7
  go_wp2_with fail
  refine (AL.out _).mono ?_
  rintro e w1 ⟨rfl, b1'⟩
  have B1 : Aside (Below w.heap.size w w1) := below_step (B0.out _) b1'
  have X1 : Aside (E4 w1 _ _ _ _ _ _) := X0.out.later b1'
  clear b1' AL X0 B0
  by_cases h1 : sec.size ≤ 1000
  · have t1 : ¬ (1000 : Int) < (sec.size : Int) := by omega
    clear h1
    go_wp2_with fail
    refine (CK.out _).mono ?_
    rintro e w2 ⟨rfl, b2⟩
    have B2 : Aside (Below w.heap.size w w2) := below_step B1.out b2
    have X2 : Aside (E4 w2 _ _ _ _ _ _) := X1.out.later b2
    obtain ⟨x0, x1, x2, x3⟩ := X2.out.cells
    clear b2 CK X1 B1
    by_cases h2 : ck = 0
    · subst h2
      go_wp2_with fail
      refine (K1.out _).mono ?_
      rintro e w3 ⟨rfl, b3⟩
      have B3 : Aside (Below w.heap.size w w3) := below_step B2.out b3
      have X3 : Aside (E4 w3 _ _ _ _ _ _) := X2.out.later b3
      clear x0 x1 x2 x3
      obtain ⟨x0, x1, x2, x3⟩ := X3.out.cells
      clear b3 K1 X2 B2
      go_wp2_with fail
      refine (K2.out _).mono ?_
      rintro e w4 ⟨rfl, b4⟩
      have B4 : Aside (Below w.heap.size w w4) := below_step B3.out b4
      have X4 : Aside (E4 w4 _ _ _ _ _ _) := X3.out.later b4
      clear x0 x1 x2 x3
      obtain ⟨x0, x1, x2, x3⟩ := X4.out.cells
      clear b4 K2 X3 B3
      go_wp2_with fail
      refine (K3.out _).mono ?_
      rintro e w5 ⟨rfl, b5⟩
      have B5 : Aside (Below w.heap.size w w5) := below_step B4.out b5
      have X5 : Aside (E4 w5 _ _ _ _ _ _) := X4.out.later b5
      clear x0 x1 x2 x3
      obtain ⟨x0, x1, x2, x3⟩ := X5.out.cells
      clear b5 K3 X4 B4
      by_cases h3 : ke = 0
      · subst h3
        by_cases h4 : ce = 0
        · subst h4
          have kb := KB.out rfl rfl
          clear KB
          generalize hp : (a1 == c1) = p at *
          generalize hq : (b1 == d1) = q at *
          generalize hr : (a1 == d1) = r at *
          generalize hu : (b1 == c1) = u at *
          cases p <;> cases q <;> cases r <;> cases u
          all_goals
            simp only [Bool.and_true, Bool.and_false, Bool.or_true, Bool.or_false] at kb
            go_wp2
            go_ret
            exact ⟨rfl, B5.out⟩
        · have t4 : ((ce : Int) != 0) = true := by
            have : ¬ (ce : Int) = 0 := by omega
            simpa using this
          clear h4 KB
          go_wp2
          go_ret
          exact ⟨rfl, B5.out⟩
      · have t3 : ((ke : Int) != 0) = true := by
          have : ¬ (ke : Int) = 0 := by omega
          simpa using this
        clear h3 KB
        go_wp2
        go_ret
        exact ⟨rfl, B5.out⟩
    · have t2 : ((ck : Int) != 0) = true := by
        have : ¬ (ck : Int) = 0 := by omega
        simpa using this
      clear h2 KB K1 K2 K3 X2
      go_wp2
      go_ret
      exact ⟨rfl, B2.out⟩
  · have t1 : (1000 : Int) < (sec.size : Int) := by omega
    clear h1 KB K1 K2 K3 X1 CK
    go_wp2
    go_ret
    exact ⟨rfl, B1.out⟩

end Go.Proofs.Ytimeggbjmcnnoaa
