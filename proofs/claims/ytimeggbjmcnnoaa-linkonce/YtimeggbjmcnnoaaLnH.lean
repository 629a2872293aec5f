/- The window of numbers: is one new, what is it behind its coming, and a word shifted up. -/
import Derived.Test.YtimeggbjmcnnoaaLnA
import Derived.Laws.BitsAllLaws
namespace Go.Proofs.Ytimeggbjmcnnoaa
open Go.RowKit

theorem bit_test {x d : Nat} (h : x < 18446744073709551616) : (bits BinOp.and IntKind.u64 ((x : Int) / 2 ^ d) 1 == 0) = !x.testBit d := by
  have e1 : (x : Int) / 2 ^ d = ((x / 2 ^ d : Nat) : Int) := by simp
  have e2 := u64_and_nat (x / 2 ^ d) 1 (Nat.lt_of_le_of_lt (Nat.div_le_self _ _) h) (by decide)
  rw [e1]
  have e3 : bits BinOp.and IntKind.u64 ((x / 2 ^ d : Nat) : Int) 1 = ((x / 2 ^ d &&& 1 : Nat) : Int) := e2
  rw [e3, Nat.and_one_is_mod, Nat.testBit_eq_decide_div_mod_eq]
  rcases Nat.mod_two_eq_zero_or_one (x / 2 ^ d) with g | g <;> simp [g]

set_option maxRecDepth 20000 in
set_option maxHeartbeats 2000000 in
theorem isNew_any (k : ByteArray) (nx tp cm sq : Nat) (w : World) (ht : tp < 4294967296) (hc : cm < 18446744073709551616) (hq : sq < 4294967296) :
    Calls Try.prog 37 #[.agg #[.string k, .int .u32 (nx : Int), .int .u32 (tp : Int), .int .u64 (cm : Int)], .int .u32 (sq : Int)] w fun e w' => e = .returned (.bool (Tm.isNew tp cm sq)) ∧ Below w.heap.size w w' := by
  have B0 : Aside (∀ o, Below w.heap.size w (w.alloc o)) := fun o => (Below.refl _ w).alloc (Nat.le_refl _) o
  by_cases h1 : tp < sq
  · have e : Tm.isNew tp cm sq = true := by unfold Tm.isNew; rw [decide_eq_true h1]; rfl
    rw [e]
    have t1 : (tp : Int) < (sq : Int) := by omega
    clear e h1 ht hc hq
    go_enter Try.func37, Try.ntmps37
    go_wp2
    go_ret
    exact ⟨rfl, B0.out _⟩
  · have t1 : ¬ (tp : Int) < (sq : Int) := by omega
    obtain ⟨d, hd⟩ : ∃ d : Nat, d = tp - sq := ⟨_, rfl⟩
    have t2 : (tp : Int) - (sq : Int) = (d : Int) := by omega
    by_cases h2 : d < 64
    · have t3 : (d : Int) < 64 := by omega
      have t4 : (d : Int) < 4294967296 := by omega
      have e : (bits BinOp.and IntKind.u64 ((cm : Int) / 2 ^ d) 1 == 0) = Tm.isNew tp cm sq := by
        unfold Tm.isNew
        rw [decide_eq_false h1, ← hd, decide_eq_true h2, bit_test hc]
        rfl
      generalize Tm.isNew tp cm sq = R at *
      clear hc hq ht h1 h2 hd
      go_enter Try.func37, Try.ntmps37
      go_wp2
      go_ret
      exact ⟨rfl, B0.out _⟩
    · have t3 : ¬ (d : Int) < 64 := by omega
      have e : Tm.isNew tp cm sq = false := by unfold Tm.isNew; rw [decide_eq_false h1, ← hd, decide_eq_false h2]; rfl
      rw [e]
      have t4 : (d : Int) < 4294967296 := by omega
      clear e h1 h2 ht hc hq hd
      go_enter Try.func37, Try.ntmps37
      go_wp2
      go_ret
      exact ⟨rfl, B0.out _⟩

theorem or_even {n : Nat} (h : n.testBit 0 = false) : n ||| 1 = n + 1 := by
  have h2 : n % 2 = 0 := by
    rw [Nat.testBit_zero] at h
    have := of_decide_eq_false h
    omega
  have e : n = 2 ^ 1 * (n / 2) := by omega
  have := Nat.two_pow_add_eq_or_of_lt (i := 1) (b := 1) (by decide) (n / 2)
  rw [← e] at this
  exact this.symm
theorem shl_min (x d : Nat) : x * 2 ^ min d 64 % 18446744073709551616 = Tm.shl x d := by
  by_cases h : d ≤ 64
  · rw [Nat.min_eq_left h]; rfl
  · rw [Nat.min_eq_right (by omega), Tm.shl_far (by omega)]
    have : x * 2 ^ 64 % 18446744073709551616 = 0 := Nat.mul_mod_left x 18446744073709551616
    exact this
theorem or_up {x d : Nat} (hd : 0 < d) : bits BinOp.or IntKind.u64 (IntKind.u64.wrap ((x : Int) * 2 ^ min d 64)) 1 = ((Tm.shl x d + 1 : Nat) : Int) := by
  have e1 : IntKind.u64.wrap ((x : Int) * 2 ^ min d 64) = ((Tm.shl x d : Nat) : Int) := by
    rw [IntKind.wrap_u64, ← shl_min]
    simp
  rw [e1]
  have e2 := u64_or_nat (Tm.shl x d) 1 (Tm.shl_lt _ _) (by decide)
  have e3 : bits BinOp.or IntKind.u64 ((Tm.shl x d : Nat) : Int) 1 = ((Tm.shl x d ||| 1 : Nat) : Int) := e2
  rw [e3, or_even (Tm.shl_even hd)]
theorem or_bit {x d : Nat} (hx : x < 18446744073709551616) (hd : d < 64) (hb : x.testBit d = false) : bits BinOp.or IntKind.u64 (x : Int) (IntKind.u64.wrap (2 ^ d)) = ((x + 2 ^ d : Nat) : Int) := by
  have hp : 2 ^ d < 18446744073709551616 := Nat.pow_lt_pow_right (a := 2) (by omega) hd
  have e1 : IntKind.u64.wrap (2 ^ d) = ((2 ^ d : Nat) : Int) := by
    rw [IntKind.wrap_u64]
    have : (2 : Int) ^ d = ((2 ^ d : Nat) : Int) := by simp
    rw [this]
    generalize 2 ^ d = pw at *
    omega
  rw [e1, u64_or_nat x (2 ^ d) hx hp]
  congr 1
  refine Nat.eq_of_testBit_eq fun j => ?_
  have hnew : Tm.isNew d x 0 = true := by unfold Tm.isNew; simp [hd, hb]
  have := Tm.accC_test d x 0 j hnew
  unfold Tm.accC at this
  rw [if_neg (by omega), if_neg (by omega), Nat.sub_zero] at this
  rw [Nat.testBit_or, Nat.testBit_two_pow, this]

set_option maxRecDepth 20000 in
set_option maxHeartbeats 2000000 in
theorem withCame_any (k : ByteArray) (nx tp cm sq : Nat) (w : World) (ht : tp < 4294967296) (hc : cm < 18446744073709551616) (hq : sq < 4294967296) (hn : Tm.isNew tp cm sq = true) :
    Calls Try.prog 38 #[.agg #[.string k, .int .u32 (nx : Int), .int .u32 (tp : Int), .int .u64 (cm : Int)], .int .u32 (sq : Int)] w fun e w' => e = .returned (.agg #[.string k, .int .u32 (nx : Int), .int .u32 (Tm.accT tp sq : Nat), .int .u64 (Tm.accC tp cm sq : Nat)]) ∧ Below w.heap.size w w' := by
  have B0 : Aside (∀ o o', Below w.heap.size w ((w.alloc o).alloc o')) := fun o o' => ((Below.refl _ w).alloc (Nat.le_refl _) o).alloc (by simp) o'
  by_cases h1 : tp < sq
  · have t1 : (tp : Int) < (sq : Int) := by omega
    obtain ⟨d, hd⟩ : ∃ d : Nat, d = sq - tp := ⟨_, rfl⟩
    have t2 : (sq : Int) - (tp : Int) = (d : Int) := by omega
    have t4 : (d : Int) < 4294967296 := by omega
    have e1 : Tm.accT tp sq = sq := by unfold Tm.accT; rw [if_pos h1]
    have e2 : Tm.accC tp cm sq = Tm.shl cm d + 1 := by unfold Tm.accC; rw [if_pos h1, hd]
    have e3 := or_up (x := cm) (d := d) (by omega)
    rw [e1, e2]
    generalize Tm.shl cm d + 1 = C at *
    clear hc hq ht h1 hd e1 e2 hn
    go_enter Try.func38, Try.ntmps38
    go_wp2
    refine ⟨rfl, .agg #[.string k, .int .u32 (nx : Int), .int .u32 (sq : Int), .int .u64 (C : Int)], ?_, rfl, B0.out _ _⟩
    simp [results, Try.results38, go_sem]
  · have t1 : ¬ (tp : Int) < (sq : Int) := by omega
    obtain ⟨d, hd⟩ : ∃ d : Nat, d = tp - sq := ⟨_, rfl⟩
    have t2 : (tp : Int) - (sq : Int) = (d : Int) := by omega
    have hn2 := hn
    unfold Tm.isNew at hn2
    rw [decide_eq_false h1, Bool.false_or, Bool.and_eq_true, ← hd] at hn2
    have hd64 := of_decide_eq_true hn2.1
    have t3 : (d : Int) < 64 := by omega
    have t4 : (d : Int) < 4294967296 := by omega
    have e1 : Tm.accT tp sq = tp := by unfold Tm.accT; rw [if_neg h1]
    have e2 : Tm.accC tp cm sq = cm + 2 ^ d := by unfold Tm.accC; rw [if_neg h1, hd]
    have e3 := or_bit hc hd64 (by simpa using hn2.2)
    rw [e1, e2]
    generalize cm + 2 ^ d = C at *
    clear hc hq ht h1 hd e1 e2 hn hn2 hd64
    go_enter Try.func38, Try.ntmps38
    go_wp2
    refine ⟨rfl, .agg #[.string k, .int .u32 (nx : Int), .int .u32 (tp : Int), .int .u64 (C : Int)], ?_, rfl, B0.out _ _⟩
    simp [results, Try.results38, go_sem]

theorem shl_next (x k : Nat) : Tm.shl x (k + 1) = Tm.shl x k * 2 % 18446744073709551616 := by
  unfold Tm.shl
  rw [Nat.pow_succ, ← Nat.mul_assoc, Nat.mul_mod, Nat.mod_mul_mod]
  first
    | done
    | (conv => rhs; rw [Nat.mul_mod])
  try simp
theorem shl_zero {x : Nat} (h : x < 18446744073709551616) : Tm.shl x 0 = x := by unfold Tm.shl; rw [Nat.pow_zero, Nat.mul_one, Nat.mod_eq_of_lt h]

set_option maxRecDepth 20000 in
set_option maxHeartbeats 2000000 in
theorem shifted_any (x n : Nat) (w : World) (hx : x < 18446744073709551616) (hn : n < 4294967296) :
    Calls Try.prog 39 #[.int .u64 (x : Int), .int .u32 (n : Int)] w fun e w' => e = .returned (.int .u64 (Tm.shl x n : Nat)) ∧ w' = w := by
  have H0 : Aside (Tm.shl x 0 = x) := shl_zero hx
  clear hx
  go_enter Try.func39, Try.ntmps39
  go_wp2_with fail
  go_loopw [0, 5] (fun v i wr => ∃ k : Nat, k ≤ n ∧ k ≤ 64 ∧ i = .int .u32 (k : Int) ∧ v = .int .u64 (Tm.shl x k : Nat) ∧ wr = w) (fun _ i _ => 64 - (intOf i).toNat)
  case atStart => exact ⟨0, Nat.zero_le _, by omega, rfl, by rw [H0.out], rfl⟩
  case round =>
    obtain ⟨k, hk, hk6, rfl, rfl, rfl⟩ := hrel
    by_cases h1 : k < n
    · have t1 : (k : Int) < (n : Int) := by omega
      by_cases h2 : k < 64
      · have t2 : (k : Int) < 64 := by omega
        have NX : Aside (Tm.shl x (k + 1) = Tm.shl x k * 2 % 18446744073709551616) := shl_next x k
        generalize Tm.shl x k = y at *
        clear hn
        go_wp2
        go_roundw
        case rel => exact ⟨k + 1, by omega, by omega, by go_num, by rw [NX.out, IntKind.wrap_u64]; congr 1, trivial⟩
        case measure => simp [intOf]; omega
      · have t2 : ¬ (k : Int) < 64 := by omega
        have E : Aside (Tm.shl x k = Tm.shl x n) := by
          show _ = _
          rw [Tm.shl_far (n := k) (by omega), Tm.shl_far (n := n) (by omega)]
        rw [E.out]
        clear hn
        go_wp2
        go_ret
        exact ⟨rfl, rfl⟩
    · obtain rfl : k = n := by omega
      clear hn
      go_wp2
      go_ret
      exact ⟨rfl, rfl⟩

end Go.Proofs.Ytimeggbjmcnnoaa
