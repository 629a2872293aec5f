/- What Decode gives, the program's and the document's, for every code; Copysign and Inf at the words that the laws ask. -/
import Derived.Test.YtmggkfebfbnmbaaWalksC
namespace Go.Proofs.Ytmggkfebfbnmbaa
open Go.RowKit

theorem neq_cast (a b : Nat) (h : (a == b) = false) : ((a : Int) != (b : Int)) = true := by
  have : ¬ a = b := by simpa using h
  rw [bne_iff_ne]; omega
theorem eq_cast (a b : Nat) (h : (a == b) = true) : ((a : Int) != (b : Int)) = false := by
  have : a = b := by simpa using h
  subst this; simp

set_option maxHeartbeats 400000 in
theorem decode_core (c r k : Nat) (w : World) (top ok : Bool) (q : Nat)
    (hand : (bits .and .u64 (c : Int) 9223372036854775808 != 0) = top)
    (hraw : (if top then bits .xor .u64 (c : Int) 9223372036854775808 else bits .xor .u64 IntKind.u64.max (c : Int)) = (r : Int))
    (hcode : Calls Try.prog 25 #[.float .f64 r] w fun e w' => e = .returned (.int .u64 k) ∧ w' = w)
    (hok : ((k : Int) != (c : Int)) = !ok) (hq : q = if ok then r else 0) :
    Calls Try.prog 23 #[.int .u64 c] w fun e w' => e = .returned (.tuple #[.float .f64 q, .bool ok]) ∧ w' = w := by
  have hx := fun n W => frombits_run n W
  cases top <;> cases ok <;> simp at hraw hok hq <;> subst hq
  all_goals
    go_enter Try.func23, Try.ntmps23
    go_wp2_with fail
    refine hcode.mono ?_; rintro e w' ⟨rfl, rfl⟩
    go_wp2
    go_ret2
    exact ⟨rfl, rfl⟩

theorem decode_any (c : Nat) (w : World) (hc : c < 18446744073709551616) :
    Calls Try.prog 23 #[.int .u64 c] w fun e w' => e = .returned (.tuple #[.float .f64 (Fl.dec c), .bool (Fl.decOk c)]) ∧ w' = w := by
  refine decode_core c (Fl.raw c) (Fl.cod (Fl.raw c)) w (decide (9223372036854775808 ≤ c)) (Fl.decOk c) (Fl.dec c) (Fl.b_and c hc) ?_ (code_any _ w (Fl.raw_lt hc)) ?_ ?_
  · rw [Fl.b_xor c hc, Fl.b_not c hc]
    unfold Fl.raw
    by_cases g : 9223372036854775808 ≤ c
    · rw [decide_eq_true g, if_pos g, if_pos rfl, if_pos g]
    · rw [decide_eq_false g, if_neg g, if_neg Bool.false_ne_true, if_neg g]
  · cases h : Fl.decOk c
    · exact neq_cast _ _ h
    · exact eq_cast _ _ h
  · rfl

set_option maxHeartbeats 400000 in
theorem rdecode_core (c r k : Nat) (w : World) (top ok : Bool) (q : Nat) (htop : decide ((9223372036854775808 : Int) ≤ (c : Int)) = top)
    (hraw : (if top then (c : Int) - 9223372036854775808 else 18446744073709551615 - (c : Int)) = (r : Int)) (h0 : (c : Int) ≤ 18446744073709551615)
    (hcode : Calls Try.prog 26 #[.int .u64 r] w fun e w' => e = .returned (.int .u64 k) ∧ w' = w)
    (hok : ((k : Int) != (c : Int)) = !ok) (hq : q = if ok then r else 0) :
    Calls Try.prog 24 #[.int .u64 c] w fun e w' => e = .returned (.tuple #[.int .u64 q, .bool ok]) ∧ w' = w := by
  have g2 : 0 ≤ (c : Int) := by omega
  generalize (c : Int) = z at *
  cases top <;> cases ok <;> simp at htop hraw hok hq <;> subst hq
  all_goals
    go_enter Try.func24, Try.ntmps24
    go_wp2_with fail
    refine hcode.mono ?_; rintro e w' ⟨rfl, rfl⟩
    go_wp2
    go_ret2
    exact ⟨rfl, rfl⟩

theorem rdecode_any (c : Nat) (w : World) (hc : c < 18446744073709551616) :
    Calls Try.prog 24 #[.int .u64 c] w fun e w' => e = .returned (.tuple #[.int .u64 (Fl.dec c), .bool (Fl.decOk c)]) ∧ w' = w := by
  refine rdecode_core c (Fl.raw c) (Fl.cod (Fl.raw c)) w (decide (9223372036854775808 ≤ c)) (Fl.decOk c) (Fl.dec c) ?_ ?_ (by omega) (rcode_any _ w (Fl.raw_lt hc)) ?_ ?_
  · by_cases g : 9223372036854775808 ≤ c
    · rw [decide_eq_true g, decide_eq_true (by omega)]
    · rw [decide_eq_false g, decide_eq_false (by omega)]
  · unfold Fl.raw
    by_cases g : 9223372036854775808 ≤ c
    · rw [decide_eq_true g, if_pos g, if_pos rfl]; omega
    · rw [decide_eq_false g, if_neg g, if_neg Bool.false_ne_true]; omega
  · cases h : Fl.decOk c
    · exact neq_cast _ _ h
    · exact eq_cast _ _ h
  · rfl

set_option maxHeartbeats 400000 in
theorem inf_one (w : World) :
    Calls Try.prog 29 #[.int .i64 1] w fun e w' => e = .returned (.float .f64 9218868437227405312) ∧ w' = w := by
  have hx := fun n W => frombits_run n W
  go_enter Try.func29, Try.ntmps29
  go_wp2
  go_ret
  exact ⟨rfl, rfl⟩

set_option maxHeartbeats 400000 in
theorem copysign_zero (w : World) :
    Calls Try.prog 28 #[.float .f64 0, .float .f64 13830554455654793216] w fun e w' => e = .returned (.float .f64 9223372036854775808) ∧ w' = w := by
  have hx := fun n W => frombits_run n W
  have hy := fun n W => tobits_run n W
  go_enter Try.func28, Try.ntmps28
  go_wp2
  go_ret
  exact ⟨rfl, rfl⟩

end Go.Proofs.Ytmggkfebfbnmbaa
