/- What the functions on one float give, each for every word: a contract a function, over the translated program. -/
import Derived.Test.YtkphpdejcmkdeaaRows
import Derived.Test.YtkphpdejcmkdeaaPlain
import Derived.Test.YtkphpdejcmkdeaaBits
import Derived.WalkKit
import Derived.WalkSpells
import Derived.WalkLawsBesides
namespace Go.Proofs.Ytkphpdejcmkdeaa
open Go.RowKit

theorem frombits_run (n : Int) (w : World) : (callFunc 68 #[.int .u64 n]).run Try.prog w = .ok (.value (.float .f64 n.toNat)) w := by
  rw [run_callFunc_extern (e := Extern.MathFloatBits.float64frombits) Try.func68 (by kernel_rfl) (by kernel_rfl) (by kernel_rfl) (by kernel_rfl)]
  rfl

theorem tobits_run (b : Nat) (w : World) : (callFunc 43 #[.float .f64 b]).run Try.prog w = .ok (.value (.int .u64 b)) w := by
  rw [run_callFunc_extern (e := Extern.MathFloatBits.float64bits) Try.func43 (by kernel_rfl) (by kernel_rfl) (by kernel_rfl) (by kernel_rfl)]
  rfl

set_option maxHeartbeats 400000 in
theorem isNaN_any (b : Nat) (w : World) (hb : b < 18446744073709551616) :
    Calls Try.prog 67 #[.float .f64 b] w fun e w' => e = .returned (.bool (Fl.isN b)) ∧ w' = w := by
  have hs := Fl.self_order b hb
  have H : Hid ((FloatKind.f64.format.order b b != some .eq) = Fl.isN b) := hs
  clear hs hb
  go_enter Try.func67, Try.ntmps67
  go_wp2
  go_ret
  rw [← H.out]
  exact ⟨rfl, rfl⟩

set_option maxHeartbeats 400000 in
theorem canon_any (b : Nat) (w : World) (hb : b < 18446744073709551616) :
    Calls Try.prog 56 #[.float .f64 b] w fun e w' => e = .returned (.float .f64 (Fl.can b)) ∧ w' = w := by
  have hi := isNaN_any b w hb
  have hx := fun n W => frombits_run n W
  by_cases hn : Fl.isN b = true
  · have hc := Fl.can_nan hn
    rw [hn] at hi
    generalize Fl.can b = c at hc ⊢
    subst hc
    clear hn hb
    go_enter Try.func56, Try.ntmps56
    go_wp2_with (go_at_call 67; refine hi.mono ?_; rintro e w' ⟨rfl, rfl⟩)
    go_ret
    exact ⟨rfl, rfl⟩
  · have hn : Fl.isN b = false := by simpa using hn
    rw [hn] at hi
    have hz := Fl.zero_order b hb hn
    have hc := Fl.can_num hn
    by_cases h0 : Fl.can b = 0
    · rw [decide_eq_true h0] at hz
      have hz' : (FloatKind.f64.format.order b 0 == some .eq) = true := hz
      rw [h0]
      clear h0 hc hn hz
      go_enter Try.func56, Try.ntmps56
      go_wp2_with (go_at_call 67; refine hi.mono ?_; rintro e w' ⟨rfl, rfl⟩)
      go_ret
      exact ⟨rfl, rfl⟩
    · rw [decide_eq_false h0] at hz
      have hz' : (FloatKind.f64.format.order b 0 == some .eq) = false := hz
      have hcb : Fl.can b = b := by
        rw [hc]; rw [hc] at h0; split at h0
        · omega
        · rw [if_neg ‹_›]
      rw [hcb]
      clear h0 hc hn hz hcb
      go_enter Try.func56, Try.ntmps56
      go_wp2_with (go_at_call 67; refine hi.mono ?_; rintro e w' ⟨rfl, rfl⟩)
      go_ret
      exact ⟨rfl, rfl⟩

theorem ret_u {a b : Int} (h : a = b) : Ending.returned (.int .u64 a) = .returned (.int .u64 b) := by rw [h]

set_option maxHeartbeats 400000 in
theorem rcanon_any (b : Nat) (w : World) :
    Calls Try.prog 48 #[.int .u64 b] w fun e w' => e = .returned (.int .u64 (Fl.can b)) ∧ w' = w := by
  go_enter Try.func48, Try.ntmps48
  go_wp2
  · go_ret
    rename_i h
    have h : (b : Int) = 9223372036854775808 := by simpa using h
    exact ⟨ret_u (by unfold Fl.can; rw [if_pos (by omega)]; rfl), rfl⟩
  · go_ret
    rename_i h g
    have h : ¬ (b : Int) = 9223372036854775808 := by simpa using h
    exact ⟨ret_u (by unfold Fl.can; rw [if_neg (by omega), if_pos (by omega)]; rfl), rfl⟩
  · go_ret
    rename_i h g
    have h : ¬ (b : Int) = 9223372036854775808 := by simpa using h
    exact ⟨ret_u (by unfold Fl.can; rw [if_neg (by omega), if_neg (by omega)]), rfl⟩

set_option maxHeartbeats 400000 in
theorem rcode_any (b : Nat) (w : World) (hb : b < 18446744073709551616) :
    Calls Try.prog 60 #[.int .u64 b] w fun e w' => e = .returned (.int .u64 (Fl.cod b)) ∧ w' = w := by
  have hc := rcanon_any b w
  have hk := Fl.can_lt hb
  unfold Fl.cod
  generalize Fl.can b = k at hc hk ⊢
  clear hb
  by_cases g : 9223372036854775808 ≤ k
  · rw [if_pos g]
    generalize hr : 18446744073709551615 - k = r
    have H : Hid (18446744073709551615 - k = r) := hr
    have g1 : (9223372036854775808 : Int) ≤ (k : Int) := by omega
    have g2 : (k : Int) ≤ 18446744073709551615 := by omega
    have G : Hid (k < 18446744073709551616) := hk
    clear hr g hk
    go_enter Try.func60, Try.ntmps60
    go_wp2_with (go_at_call 48; refine hc.mono ?_; rintro e w' ⟨rfl, rfl⟩)
    go_ret
    exact ⟨ret_u (by have := H.out; have := G.out; omega), rfl⟩
  · rw [if_neg g]
    generalize hr : k + 9223372036854775808 = r
    have H : Hid (k + 9223372036854775808 = r) := hr
    have g1 : (k : Int) < 9223372036854775808 := by omega
    have g2 : 0 ≤ (k : Int) := by omega
    generalize hz : (k : Int) = z at hc g1 g2
    have Z : Hid ((k : Int) = z) := hz
    clear hr g hk hz
    go_enter Try.func60, Try.ntmps60
    go_wp2_with (go_at_call 48; refine hc.mono ?_; rintro e w' ⟨rfl, rfl⟩)
    go_ret
    exact ⟨ret_u (by have := H.out; have := Z.out; omega), rfl⟩

set_option maxHeartbeats 400000 in
theorem code_any (b : Nat) (w : World) (hb : b < 18446744073709551616) :
    Calls Try.prog 47 #[.float .f64 b] w fun e w' => e = .returned (.int .u64 (Fl.cod b)) ∧ w' = w := by
  have hc := canon_any b w hb
  have hk := Fl.can_lt hb
  have hx := fun n W => tobits_run n W
  unfold Fl.cod
  generalize Fl.can b = k at hc hk ⊢
  clear hb
  have hand := Fl.b_and k hk
  have X : Hid (_ = _) := Fl.b_xor k hk
  have N : Hid (_ = _) := Fl.b_not k hk
  clear hk
  by_cases g : 9223372036854775808 ≤ k
  · rw [if_pos g]
    rw [decide_eq_true g] at hand
    have G : Hid (_ ≤ _) := g
    clear g
    generalize 18446744073709551615 - k = r at N ⊢
    go_enter Try.func47, Try.ntmps47
    go_wp2_with (go_at_call 56; refine hc.mono ?_; rintro e w' ⟨rfl, rfl⟩)
    go_ret
    exact ⟨ret_u N.out, rfl⟩
  · rw [if_neg g]
    rw [decide_eq_false g] at hand
    have XX := X.out
    rw [if_neg g] at XX
    have Y : Hid (_ = _) := XX
    clear g XX X
    generalize k + 9223372036854775808 = r at Y ⊢
    go_enter Try.func47, Try.ntmps47
    go_wp2_with (go_at_call 56; refine hc.mono ?_; rintro e w' ⟨rfl, rfl⟩)
    go_ret
    exact ⟨ret_u Y.out, rfl⟩

theorem neq_cast (a b : Nat) (h : (a == b) = false) : ((a : Int) != (b : Int)) = true := by
  have : ¬ a = b := by simpa using h
  rw [bne_iff_ne]; omega
theorem eq_cast (a b : Nat) (h : (a == b) = true) : ((a : Int) != (b : Int)) = false := by
  have : a = b := by simpa using h
  subst this; simp

set_option maxHeartbeats 400000 in
theorem decode_core (c r k : Nat) (w : World) (top ok : Bool) (q : Nat)
    (hand : (bits .and .u64 (c : Int) 9223372036854775808 != 0) = top)
    (hraw : (if top then bits .xor .u64 (c : Int) 9223372036854775808 else bits .xor .u64 IntKind.u64.max (c : Int)) = (r : Int))
    (hcode : Calls Try.prog 47 #[.float .f64 r] w fun e w' => e = .returned (.int .u64 k) ∧ w' = w)
    (hok : ((k : Int) != (c : Int)) = !ok) (hq : q = if ok then r else 0) :
    Calls Try.prog 71 #[.int .u64 c] w fun e w' => e = .returned (.tuple #[.float .f64 q, .bool ok]) ∧ w' = w := by
  have hx := fun n W => frombits_run n W
  cases top <;> cases ok <;> simp at hraw hok hq <;> subst hq
  all_goals
    go_enter Try.func71, Try.ntmps71
    go_wp2_with fail
    refine hcode.mono ?_; rintro e w' ⟨rfl, rfl⟩
    go_wp2
    go_ret2
    exact ⟨rfl, rfl⟩

theorem decode_any (c : Nat) (w : World) (hc : c < 18446744073709551616) :
    Calls Try.prog 71 #[.int .u64 c] w fun e w' => e = .returned (.tuple #[.float .f64 (Fl.dec c), .bool (Fl.decOk c)]) ∧ w' = w := by
  refine decode_core c (Fl.raw c) (Fl.cod (Fl.raw c)) w (decide (9223372036854775808 ≤ c)) (Fl.decOk c) (Fl.dec c) (Fl.b_and c hc) ?_ (code_any _ w (Fl.raw_lt hc)) ?_ ?_
  · rw [Fl.b_xor c hc, Fl.b_not c hc]
    unfold Fl.raw
    by_cases g : 9223372036854775808 ≤ c
    · rw [decide_eq_true g, if_pos g, if_pos rfl, if_pos g]
    · rw [decide_eq_false g, if_neg g, if_neg Bool.false_ne_true, if_neg g]
  · cases h : Fl.decOk c
    · exact neq_cast _ _ h
    · exact eq_cast _ _ h
  · rfl

set_option maxHeartbeats 400000 in
theorem rdecode_core (c r k : Nat) (w : World) (top ok : Bool) (q : Nat) (htop : decide ((9223372036854775808 : Int) ≤ (c : Int)) = top)
    (hraw : (if top then (c : Int) - 9223372036854775808 else 18446744073709551615 - (c : Int)) = (r : Int)) (h0 : (c : Int) ≤ 18446744073709551615)
    (hcode : Calls Try.prog 60 #[.int .u64 r] w fun e w' => e = .returned (.int .u64 k) ∧ w' = w)
    (hok : ((k : Int) != (c : Int)) = !ok) (hq : q = if ok then r else 0) :
    Calls Try.prog 54 #[.int .u64 c] w fun e w' => e = .returned (.tuple #[.int .u64 q, .bool ok]) ∧ w' = w := by
  have g2 : 0 ≤ (c : Int) := by omega
  generalize (c : Int) = z at *
  cases top <;> cases ok <;> simp at htop hraw hok hq <;> subst hq
  all_goals
    go_enter Try.func54, Try.ntmps54
    go_wp2_with fail
    refine hcode.mono ?_; rintro e w' ⟨rfl, rfl⟩
    go_wp2
    go_ret2
    exact ⟨rfl, rfl⟩

theorem rdecode_any (c : Nat) (w : World) (hc : c < 18446744073709551616) :
    Calls Try.prog 54 #[.int .u64 c] w fun e w' => e = .returned (.tuple #[.int .u64 (Fl.dec c), .bool (Fl.decOk c)]) ∧ w' = w := by
  refine rdecode_core c (Fl.raw c) (Fl.cod (Fl.raw c)) w (decide (9223372036854775808 ≤ c)) (Fl.decOk c) (Fl.dec c) ?_ ?_ (by omega) (rcode_any _ w (Fl.raw_lt hc)) ?_ ?_
  · by_cases g : 9223372036854775808 ≤ c
    · rw [decide_eq_true g, decide_eq_true (by omega)]
    · rw [decide_eq_false g, decide_eq_false (by omega)]
  · unfold Fl.raw
    by_cases g : 9223372036854775808 ≤ c
    · rw [decide_eq_true g, if_pos g, if_pos rfl]; omega
    · rw [decide_eq_false g, if_neg g, if_neg Bool.false_ne_true]; omega
  · cases h : Fl.decOk c
    · exact neq_cast _ _ h
    · exact eq_cast _ _ h
  · rfl

end Go.Proofs.Ytkphpdejcmkdeaa
