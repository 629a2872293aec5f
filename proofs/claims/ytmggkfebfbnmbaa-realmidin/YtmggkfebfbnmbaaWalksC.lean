/- What the document's own functions on bits give, each for every word; and Code and Decode of the program. -/
import Derived.Test.YtmggkfebfbnmbaaWalksB
import Derived.Test.YtmggkfebfbnmbaaBits
namespace Go.Proofs.Ytmggkfebfbnmbaa
open Go.RowKit

theorem ret_u {a b : Int} (h : a = b) : Ending.returned (.int .u64 a) = .returned (.int .u64 b) := by rw [h]

set_option maxHeartbeats 400000 in
theorem rcanon_any (b : Nat) (w : World) :
    Calls Try.prog 16 #[.int .u64 b] w fun e w' => e = .returned (.int .u64 (Fl.can b)) ∧ w' = w := by
  go_enter Try.func16, Try.ntmps16
  go_wp2
  · go_ret
    rename_i h
    have h : (b : Int) = 9223372036854775808 := by simpa using h
    exact ⟨ret_u (by unfold Fl.can; rw [if_pos (by omega)]; rfl), rfl⟩
  · go_ret
    rename_i h g
    have h : ¬ (b : Int) = 9223372036854775808 := by simpa using h
    exact ⟨ret_u (by unfold Fl.can; rw [if_neg (by omega), if_pos (by omega)]; rfl), rfl⟩
  · go_ret
    rename_i h g
    have h : ¬ (b : Int) = 9223372036854775808 := by simpa using h
    exact ⟨ret_u (by unfold Fl.can; rw [if_neg (by omega), if_neg (by omega)]), rfl⟩

set_option maxHeartbeats 400000 in
theorem rcode_any (b : Nat) (w : World) (hb : b < 18446744073709551616) :
    Calls Try.prog 26 #[.int .u64 b] w fun e w' => e = .returned (.int .u64 (Fl.cod b)) ∧ w' = w := by
  have hc := rcanon_any b w
  have hk := Fl.can_lt hb
  unfold Fl.cod
  generalize Fl.can b = k at hc hk ⊢
  clear hb
  by_cases g : 9223372036854775808 ≤ k
  · rw [if_pos g]
    generalize hr : 18446744073709551615 - k = r
    have H : Hid (18446744073709551615 - k = r) := hr
    have g1 : (9223372036854775808 : Int) ≤ (k : Int) := by omega
    have g2 : (k : Int) ≤ 18446744073709551615 := by omega
    have G : Hid (k < 18446744073709551616) := hk
    clear hr g hk
    go_enter Try.func26, Try.ntmps26
    go_wp2_with (go_at_call 16; refine hc.mono ?_; rintro e w' ⟨rfl, rfl⟩)
    go_ret
    exact ⟨ret_u (by have := H.out; have := G.out; omega), rfl⟩
  · rw [if_neg g]
    generalize hr : k + 9223372036854775808 = r
    have H : Hid (k + 9223372036854775808 = r) := hr
    have g1 : (k : Int) < 9223372036854775808 := by omega
    have g2 : 0 ≤ (k : Int) := by omega
    generalize hz : (k : Int) = z at hc g1 g2
    have Z : Hid ((k : Int) = z) := hz
    clear hr g hk hz
    go_enter Try.func26, Try.ntmps26
    go_wp2_with (go_at_call 16; refine hc.mono ?_; rintro e w' ⟨rfl, rfl⟩)
    go_ret
    exact ⟨ret_u (by have := H.out; have := Z.out; omega), rfl⟩

set_option maxHeartbeats 400000 in
theorem rorder_any (a b : Nat) (w : World) (ha : a < 18446744073709551616) (hb : b < 18446744073709551616) :
    Calls Try.prog 18 #[.int .u64 a, .int .u64 b] w fun e w' => e = .returned (.int .i64 (Fl.ord a b)) ∧ w' = w := by
  have h1 := rcode_any a w ha
  have h2 := rcode_any b w hb
  unfold Fl.ord
  generalize Fl.cod a = x at h1 ⊢
  generalize Fl.cod b = y at h2 ⊢
  clear ha hb
  rcases Nat.lt_trichotomy x y with h | h | h
  · rw [if_pos h]
    go_enter Try.func18, Try.ntmps18
    go_wp2_with fail
    refine h1.mono ?_; rintro e w' ⟨rfl, rfl⟩
    go_wp2_with fail
    refine h2.mono ?_; rintro e w' ⟨rfl, rfl⟩
    go_wp2
    go_ret
    exact ⟨rfl, rfl⟩
  · have g1 : ¬ x < y := by omega
    have g2 : ¬ y < x := by omega
    clear h
    rw [if_neg g1, if_neg g2]
    go_enter Try.func18, Try.ntmps18
    go_wp2_with fail
    refine h1.mono ?_; rintro e w' ⟨rfl, rfl⟩
    go_wp2_with fail
    refine h2.mono ?_; rintro e w' ⟨rfl, rfl⟩
    go_wp2
    go_ret
    exact ⟨rfl, rfl⟩
  · have g1 : ¬ x < y := by omega
    rw [if_neg g1, if_pos h]
    go_enter Try.func18, Try.ntmps18
    go_wp2_with fail
    refine h1.mono ?_; rintro e w' ⟨rfl, rfl⟩
    go_wp2_with fail
    refine h2.mono ?_; rintro e w' ⟨rfl, rfl⟩
    go_wp2
    go_ret
    exact ⟨rfl, rfl⟩

set_option maxHeartbeats 400000 in
theorem rclamp_any (x lo hi : Nat) (w : World) (hx : x < 18446744073709551616) (hl : lo < 18446744073709551616) (hh : hi < 18446744073709551616) :
    Calls Try.prog 20 #[.int .u64 x, .int .u64 lo, .int .u64 hi] w fun e w' => e = .returned (.int .u64 (Fl.clampB x lo hi)) ∧ w' = w := by
  have h1 := rorder_any x lo w hx hl
  have h2 := rorder_any x hi w hx hh
  have c1 := rcanon_any lo w
  have c2 := rcanon_any hi w
  have c3 := rcanon_any x w
  unfold Fl.clampB
  generalize Fl.ord x lo = r1 at h1 ⊢
  generalize Fl.ord x hi = r2 at h2 ⊢
  generalize Fl.can lo = k1 at c1 ⊢
  generalize Fl.can hi = k2 at c2 ⊢
  generalize Fl.can x = k3 at c3 ⊢
  clear hx hl hh
  by_cases g1 : r1 < 0
  · rw [if_pos g1]
    clear h2 c2 c3
    go_enter Try.func20, Try.ntmps20
    go_wp2_with fail
    refine h1.mono ?_; rintro e w' ⟨rfl, rfl⟩
    go_wp2_with fail
    refine c1.mono ?_; rintro e w' ⟨rfl, rfl⟩
    go_wp2
    go_ret
    exact ⟨rfl, rfl⟩
  · rw [if_neg g1]
    by_cases g2 : 0 < r2
    · rw [if_pos g2]
      clear c1 c3
      go_enter Try.func20, Try.ntmps20
      go_wp2_with fail
      refine h1.mono ?_; rintro e w' ⟨rfl, rfl⟩
      go_wp2_with fail
      refine h2.mono ?_; rintro e w' ⟨rfl, rfl⟩
      go_wp2_with fail
      refine c2.mono ?_; rintro e w' ⟨rfl, rfl⟩
      go_wp2
      go_ret
      exact ⟨rfl, rfl⟩
    · rw [if_neg g2]
      clear c1 c2
      go_enter Try.func20, Try.ntmps20
      go_wp2_with fail
      refine h1.mono ?_; rintro e w' ⟨rfl, rfl⟩
      go_wp2_with fail
      refine h2.mono ?_; rintro e w' ⟨rfl, rfl⟩
      go_wp2_with fail
      refine c3.mono ?_; rintro e w' ⟨rfl, rfl⟩
      go_wp2
      go_ret
      exact ⟨rfl, rfl⟩

set_option maxHeartbeats 400000 in
theorem code_any (b : Nat) (w : World) (hb : b < 18446744073709551616) :
    Calls Try.prog 25 #[.float .f64 b] w fun e w' => e = .returned (.int .u64 (Fl.cod b)) ∧ w' = w := by
  have hc := canon_any b w hb
  have hk := Fl.can_lt hb
  have hx := fun n W => tobits_run n W
  unfold Fl.cod
  generalize Fl.can b = k at hc hk ⊢
  clear hb
  have hand := Fl.b_and k hk
  have X : Hid (_ = _) := Fl.b_xor k hk
  have N : Hid (_ = _) := Fl.b_not k hk
  clear hk
  by_cases g : 9223372036854775808 ≤ k
  · rw [if_pos g]
    rw [decide_eq_true g] at hand
    have G : Hid (_ ≤ _) := g
    clear g
    generalize 18446744073709551615 - k = r at N ⊢
    go_enter Try.func25, Try.ntmps25
    go_wp2_with (go_at_call 15; refine hc.mono ?_; rintro e w' ⟨rfl, rfl⟩)
    go_ret
    exact ⟨ret_u N.out, rfl⟩
  · rw [if_neg g]
    rw [decide_eq_false g] at hand
    have XX := X.out
    rw [if_neg g] at XX
    have Y : Hid (_ = _) := XX
    clear g XX X
    generalize k + 9223372036854775808 = r at Y ⊢
    go_enter Try.func25, Try.ntmps25
    go_wp2_with (go_at_call 15; refine hc.mono ?_; rintro e w' ⟨rfl, rfl⟩)
    go_ret
    exact ⟨ret_u Y.out, rfl⟩

end Go.Proofs.Ytmggkfebfbnmbaa
