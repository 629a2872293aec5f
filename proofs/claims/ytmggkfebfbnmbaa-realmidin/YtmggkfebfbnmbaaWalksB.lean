/- What Canon, Order, Same and Clamp give, each for every word: a contract a function, over the translated program. -/
import Derived.Test.YtmggkfebfbnmbaaWalksA
namespace Go.Proofs.Ytmggkfebfbnmbaa
open Go.RowKit

set_option maxHeartbeats 400000 in
theorem canon_any (b : Nat) (w : World) (hb : b < 18446744073709551616) :
    Calls Try.prog 15 #[.float .f64 b] w fun e w' => e = .returned (.float .f64 (Fl.can b)) ∧ w' = w := by
  have hi := isNaN_any b w hb
  have hx := fun n W => frombits_run n W
  by_cases hn : Fl.isN b = true
  · have hc := Fl.can_nan hn
    rw [hn] at hi
    generalize Fl.can b = c at hc ⊢
    subst hc
    clear hn hb
    go_enter Try.func15, Try.ntmps15
    go_wp2_with (go_at_call 32; refine hi.mono ?_; rintro e w' ⟨rfl, rfl⟩)
    go_ret
    exact ⟨rfl, rfl⟩
  · have hn : Fl.isN b = false := by simpa using hn
    rw [hn] at hi
    have hz := Fl.zero_order b hb hn
    have hc := Fl.can_num hn
    by_cases h0 : Fl.can b = 0
    · rw [decide_eq_true h0] at hz
      have hz' : (FloatKind.f64.format.order b 0 == some .eq) = true := hz
      rw [h0]
      clear h0 hc hn hz
      go_enter Try.func15, Try.ntmps15
      go_wp2_with (go_at_call 32; refine hi.mono ?_; rintro e w' ⟨rfl, rfl⟩)
      go_ret
      exact ⟨rfl, rfl⟩
    · rw [decide_eq_false h0] at hz
      have hz' : (FloatKind.f64.format.order b 0 == some .eq) = false := hz
      have hcb : Fl.can b = b := by
        rw [hc]; rw [hc] at h0; split at h0
        · omega
        · rw [if_neg ‹_›]
      rw [hcb]
      clear h0 hc hn hz hcb
      go_enter Try.func15, Try.ntmps15
      go_wp2_with (go_at_call 32; refine hi.mono ?_; rintro e w' ⟨rfl, rfl⟩)
      go_ret
      exact ⟨rfl, rfl⟩

/-- Order's walk, its tests decided. -/
theorem order_core (a b : Nat) (w : World) (p q l g : Bool) (r : Int) (hi : Calls Try.prog 32 #[.float .f64 a] w fun e w' => e = .returned (.bool p) ∧ w' = w)
    (hj : Calls Try.prog 32 #[.float .f64 b] w fun e w' => e = .returned (.bool q) ∧ w' = w)
    (hl : (FloatKind.f64.format.order a b == some .lt) = l) (hg : (FloatKind.f64.format.order a b == some .gt) = g)
    (hr : (if p && q then 0 else if p then 1 else if q then -1 else if l then -1 else if g then 1 else 0) = r) :
    Calls Try.prog 17 #[.float .f64 a, .float .f64 b] w fun e w' => e = .returned (.int .i64 r) ∧ w' = w := by
  cases p <;> cases q
  case true.true =>
    simp at hr; subst hr
    clear hl hg
    go_enter Try.func17, Try.ntmps17
    go_wp2_with fail
    refine hi.mono ?_; rintro e w' ⟨rfl, rfl⟩
    go_wp2_with fail
    refine hj.mono ?_; rintro e w' ⟨rfl, rfl⟩
    go_wp2
    go_ret
    exact ⟨rfl, rfl⟩
  case true.false =>
    simp at hr; subst hr
    clear hl hg
    go_enter Try.func17, Try.ntmps17
    go_wp2_with fail
    refine hi.mono ?_; rintro e w' ⟨rfl, rfl⟩
    go_wp2_with fail
    refine hj.mono ?_; rintro e w' ⟨rfl, rfl⟩
    go_wp2
    go_ret
    exact ⟨rfl, rfl⟩
  case false.true =>
    simp at hr; subst hr
    clear hl hg
    go_enter Try.func17, Try.ntmps17
    go_wp2_with fail
    refine hi.mono ?_; rintro e w' ⟨rfl, rfl⟩
    go_wp2_with fail
    refine hj.mono ?_; rintro e w' ⟨rfl, rfl⟩
    go_wp2
    go_ret
    exact ⟨rfl, rfl⟩
  case false.false =>
    cases l
    · cases g
      all_goals
        simp at hr; subst hr
        go_enter Try.func17, Try.ntmps17
        go_wp2_with fail
        refine hi.mono ?_; rintro e w' ⟨rfl, rfl⟩
        go_wp2_with fail
        refine hj.mono ?_; rintro e w' ⟨rfl, rfl⟩
        go_wp2
        go_ret
        exact ⟨rfl, rfl⟩
    · simp at hr; subst hr
      clear hg
      go_enter Try.func17, Try.ntmps17
      go_wp2_with fail
      refine hi.mono ?_; rintro e w' ⟨rfl, rfl⟩
      go_wp2_with fail
      refine hj.mono ?_; rintro e w' ⟨rfl, rfl⟩
      go_wp2
      go_ret
      exact ⟨rfl, rfl⟩

theorem order_any (a b : Nat) (w : World) (ha : a < 18446744073709551616) (hb : b < 18446744073709551616) :
    Calls Try.prog 17 #[.float .f64 a, .float .f64 b] w fun e w' => e = .returned (.int .i64 (Fl.ord a b)) ∧ w' = w := by
  refine order_core a b w (Fl.isN a) (Fl.isN b) _ _ _ (isNaN_any a w ha) (isNaN_any b w hb) rfl rfl ?_
  show (if Fl.isN a && Fl.isN b then 0 else if Fl.isN a then 1 else if Fl.isN b then -1 else if (Ieee.double.order a b == some .lt) then -1 else if (Ieee.double.order a b == some .gt) then 1 else 0) = Fl.ord a b
  cases na : Fl.isN a <;> cases nb : Fl.isN b
  · obtain ⟨o1, o2, o3⟩ := Fl.order_cod a b ha hb (Fl.isN_false na) (Fl.isN_false nb)
    rcases Fl.ord_cases a b with ⟨h, e⟩ | ⟨h, e⟩ | ⟨h, e⟩
    · rw [o1 h, e]; rfl
    · rw [o2 h, e]; rfl
    · rw [o3 h, e]; rfl
  · rw [Fl.ord_lt (by rw [Fl.cod_nan nb]; have := Fl.cod_num ha na; omega)]; rfl
  · rw [Fl.ord_gt (by rw [Fl.cod_nan na]; have := Fl.cod_num hb nb; omega)]; rfl
  · rw [Fl.ord_eq (by rw [Fl.cod_nan na, Fl.cod_nan nb])]; rfl

set_option maxHeartbeats 400000 in
theorem same_any (a b : Nat) (w : World) (ha : a < 18446744073709551616) (hb : b < 18446744073709551616) :
    Calls Try.prog 19 #[.float .f64 a, .float .f64 b] w fun e w' => e = .returned (.bool (Fl.ord a b == 0)) ∧ w' = w := by
  have ho := order_any a b w ha hb
  generalize Fl.ord a b = r at ho ⊢
  clear ha hb
  go_enter Try.func19, Try.ntmps19
  go_wp2_with (go_at_call 17; refine ho.mono ?_; rintro e w' ⟨rfl, rfl⟩)
  go_ret
  exact ⟨rfl, rfl⟩

set_option maxHeartbeats 400000 in
theorem clamp_any (x lo hi : Nat) (w : World) (hx : x < 18446744073709551616) (hl : lo < 18446744073709551616) (hh : hi < 18446744073709551616) :
    Calls Try.prog 12 #[.float .f64 x, .float .f64 lo, .float .f64 hi] w fun e w' => e = .returned (.float .f64 (Fl.clampB x lo hi)) ∧ w' = w := by
  have h1 := order_any x lo w hx hl
  have h2 := order_any x hi w hx hh
  have c1 := canon_any lo w hl
  have c2 := canon_any hi w hh
  have c3 := canon_any x w hx
  unfold Fl.clampB
  generalize Fl.ord x lo = r1 at h1 ⊢
  generalize Fl.ord x hi = r2 at h2 ⊢
  generalize Fl.can lo = k1 at c1 ⊢
  generalize Fl.can hi = k2 at c2 ⊢
  generalize Fl.can x = k3 at c3 ⊢
  clear hx hl hh
  by_cases g1 : r1 < 0
  · rw [if_pos g1]
    clear h2 c2 c3
    go_enter Try.func12, Try.ntmps12
    go_wp2_with fail
    refine h1.mono ?_; rintro e w' ⟨rfl, rfl⟩
    go_wp2_with fail
    refine c1.mono ?_; rintro e w' ⟨rfl, rfl⟩
    go_wp2
    go_ret
    exact ⟨rfl, rfl⟩
  · rw [if_neg g1]
    by_cases g2 : 0 < r2
    · rw [if_pos g2]
      clear c1 c3
      go_enter Try.func12, Try.ntmps12
      go_wp2_with fail
      refine h1.mono ?_; rintro e w' ⟨rfl, rfl⟩
      go_wp2_with fail
      refine h2.mono ?_; rintro e w' ⟨rfl, rfl⟩
      go_wp2_with fail
      refine c2.mono ?_; rintro e w' ⟨rfl, rfl⟩
      go_wp2
      go_ret
      exact ⟨rfl, rfl⟩
    · rw [if_neg g2]
      clear c1 c2
      go_enter Try.func12, Try.ntmps12
      go_wp2_with fail
      refine h1.mono ?_; rintro e w' ⟨rfl, rfl⟩
      go_wp2_with fail
      refine h2.mono ?_; rintro e w' ⟨rfl, rfl⟩
      go_wp2_with fail
      refine c3.mono ?_; rintro e w' ⟨rfl, rfl⟩
      go_wp2
      go_ret
      exact ⟨rfl, rfl⟩

end Go.Proofs.Ytmggkfebfbnmbaa
