/- Two casts compared; may a cast stand in a box of a view? -/
import Derived.Test.YtfjdopmjcddnlaaBtB
set_option linter.unusedVariables false
namespace Go.Proofs.Ytfjdopmjcddnlaa
open Go.RowKit Cn Rl Bt

theorem nan8_any (x : Int) (w : World) : Calls Try.prog 53 #[.int .u8 x] w fun e w' => e = .returned (.bool false) ∧ w' = w := by
  go_enter Try.func53, Try.ntmps53
  go_wp2
  go_ret
  exact ⟨rfl, rfl⟩
def cmpI (x y : Int) : Int := if x < y then -1 else if y < x then 1 else 0
theorem cmpI_lt (x y : Nat) : decide (cmpI (x : Int) (y : Int) < 0) = decide (x < y) := by
  unfold cmpI
  by_cases h1 : x < y
  · rw [if_pos (by omega), decide_eq_true h1]; rfl
  · rw [if_neg (by omega), decide_eq_false h1]
    by_cases h2 : y < x
    · rw [if_pos (by omega)]; rfl
    · rw [if_neg (by omega)]; rfl
theorem cmpI_eq (x y : Nat) : decide (cmpI (x : Int) (y : Int) = 0) = decide (x = y) := by
  unfold cmpI
  by_cases h1 : x < y
  · rw [if_pos (by omega), decide_eq_false (show ¬ x = y by omega)]; rfl
  · rw [if_neg (by omega)]
    by_cases h2 : y < x
    · rw [if_pos (by omega), decide_eq_false (show ¬ x = y by omega)]; rfl
    · rw [if_neg (by omega), decide_eq_true (show x = y by omega)]; rfl
theorem cmp8_any (x y : Int) (w : World) : Calls Try.prog 43 #[.int .u8 x, .int .u8 y] w fun e w' => e = .returned (.int .i64 (cmpI x y)) ∧ w' = w := by
  unfold cmpI
  by_cases h1 : x < y
  · rw [if_pos h1]
    go_enter Try.func43, Try.ntmps43
    go_wp2_with (go_at_call 53; refine (nan8_any _ _).mono ?_; rintro e w' ⟨rfl, rfl⟩)
    go_ret
    exact ⟨rfl, rfl⟩
  · rw [if_neg h1]
    by_cases h2 : y < x
    · rw [if_pos h2]
      go_enter Try.func43, Try.ntmps43
      go_wp2_with (go_at_call 53; refine (nan8_any _ _).mono ?_; rintro e w' ⟨rfl, rfl⟩)
      go_ret
      exact ⟨rfl, rfl⟩
    · rw [if_neg h2]
      go_enter Try.func43, Try.ntmps43
      go_wp2_with (go_at_call 53; refine (nan8_any _ _).mono ?_; rintro e w' ⟨rfl, rfl⟩)
      go_ret
      exact ⟨rfl, rfl⟩

set_option maxHeartbeats 4000000 in
set_option maxRecDepth 100000 in
/-- What order gives. -/
theorem order_any (a b : Ct) (w : World) : Calls Try.prog 28 #[castV a, castV b] w fun e w' => e = .returned (.int .i64 (cmpI (a.1 : Int) (b.1 : Int))) ∧ Below w.heap.size w w' := by
  obtain ⟨f, p, q⟩ := a
  obtain ⟨g, p', q'⟩ := b
  unfold castV
  dsimp only
  obtain ⟨V, hV⟩ : ∃ V, V = (w.alloc (.cells #[.int .u8 (f : Int), .bool p, .int .u8 (q : Int)] 44)).alloc (.cells #[.int .u8 (g : Int), .bool p', .int .u8 (q' : Int)] 44) := ⟨_, rfl⟩
  have X : Aside (X3 V w.heap.size 44 (.int .u8 (f : Int)) (.bool p) (.int .u8 (q : Int)) ∧ X3 V (w.heap.size + 1) 44 (.int .u8 (g : Int)) (.bool p') (.int .u8 (q' : Int)) ∧ Below w.heap.size w V) := by
    rw [hV]; exact ⟨(X3.new w _ _ _ _).alloc _, X3.new1 w _ _ _ _ _, (below_one w _).alloc (by simp) _⟩
  have C1 : Aside (∀ W, Calls Try.prog 43 #[.int .u8 (f : Int), .int .u8 (g : Int)] W fun e w' => e = .returned (.int .i64 (cmpI (f : Int) (g : Int))) ∧ w' = W) := fun W => cmp8_any _ _ W
  generalize cmpI (f : Int) (g : Int) = m at C1 ⊢
  go_enter Try.func28, Try.ntmps28
  go_wp2_with fail
  rw [← hV]
  clear hV
  obtain ⟨x0, -, -⟩ := X.out.1.cells
  obtain ⟨y0, -, -⟩ := X.out.2.1.cells
  go_wp2_with (go_at_call 43; refine (C1.out _).mono ?_; rintro e w' ⟨rfl, rfl⟩)
  go_ret
  exact ⟨rfl, X.out.2.2⟩

set_option maxHeartbeats 4000000 in
set_option maxRecDepth 100000 in
/-- What mayBe gives. -/
theorem maybe_any (v : Int) (s : Nat) (c : Ct) (w : World) (hs : s < 65536) :
    Calls Try.prog 41 #[rollV v s, castV c] w fun e w' => e = .returned (.bool (okC v s c)) ∧ Below w.heap.size w w' := by
  obtain ⟨f, p, q⟩ := c
  have C20 : Aside (∀ W, Calls Try.prog 20 #[.agg #[.int .i64 v, .int .u16 (s : Int)], .agg #[.bool p, .int .u8 (q : Int)]] W fun e w' => e = .returned (.tuple #[.agg #[.int .i64 (appV v s p q), .int .u16 (appS v s p q : Nat)], .int .i64 (appE v s p q : Nat)]) ∧ Below W.heap.size W w') := fun W => apply_any v s p q W hs
  have C26 : Aside (∀ W, Calls Try.prog 26 #[.int .u16 (s : Int), .int .u8 (f : Int)] W fun e w' => e = .returned (.bool (hasS s f)) ∧ w' = W) := fun W => has_any s f W hs
  unfold castV rollV okC
  dsimp only
  generalize appV v s p q = av at C20
  generalize appS v s p q = sv at C20
  generalize appE v s p q = ae at C20 ⊢
  generalize hasS s f = hb at C26 ⊢
  obtain ⟨V, hV⟩ : ∃ V, V = (w.alloc (.cells #[.int .i64 v, .int .u16 (s : Int)] 34)).alloc (.cells #[.int .u8 (f : Int), .bool p, .int .u8 (q : Int)] 44) := ⟨_, rfl⟩
  have X : Aside (P2 V w.heap.size 34 (.int .i64 v) (.int .u16 (s : Int)) ∧ X3 V (w.heap.size + 1) 44 (.int .u8 (f : Int)) (.bool p) (.int .u8 (q : Int)) ∧ Below w.heap.size w V) := by
    rw [hV]; exact ⟨(P2.new w _ _ _).alloc _, X3.new1 w _ _ _ _ _, (below_one w _).alloc (by simp) _⟩
  by_cases h0 : ae = 0
  · subst h0
    rw [decide_eq_true rfl, Bool.true_and]
    go_enter Try.func41, Try.ntmps41
    go_wp2_with fail
    rw [← hV]
    clear hV
    obtain ⟨x0, x1⟩ := X.out.1.cells
    obtain ⟨y0, y1, y2⟩ := X.out.2.1.cells
    go_wp2_with (first | (go_at_call 20; refine (C20.out _).mono ?_; rintro e w2 ⟨rfl, hb1⟩; clear x0 x1 y0 y1 y2; have Y : Aside (P2 (w2.alloc (.cells #[.int .i64 av, .int .u16 (sv : Int)] 34)) w.heap.size 34 _ _ ∧ X3 (w2.alloc (.cells #[.int .i64 av, .int .u16 (sv : Int)] 34)) (w.heap.size + 1) 44 _ _ _ ∧ Below w.heap.size w (w2.alloc (.cells #[.int .i64 av, .int .u16 (sv : Int)] 34))) := ⟨(X.out.1.later hb1).alloc _, (X.out.2.1.later hb1).alloc _, (below_step X.out.2.2 hb1).alloc (below_step X.out.2.2 hb1).size _⟩; clear hb1; obtain ⟨x0, x1⟩ := Y.out.1.cells; obtain ⟨y0, y1, y2⟩ := Y.out.2.1.cells) | (go_at_call 26; refine (C26.out _).mono ?_; rintro e w' ⟨rfl, rfl⟩))
    go_ret
    exact ⟨rfl, Y.out.2.2⟩
  · rw [decide_eq_false h0, Bool.false_and]
    have e1 : ((ae : Int) == 0) = false := by rw [beq_eq_false_iff_ne]; omega
    have e2 : ¬ ((ae : Int) = 0) := by omega
    clear h0
    go_enter Try.func41, Try.ntmps41
    go_wp2_with fail
    rw [← hV]
    clear hV
    obtain ⟨x0, x1⟩ := X.out.1.cells
    obtain ⟨y0, y1, y2⟩ := X.out.2.1.cells
    go_wp2_with (first | (go_at_call 20; refine (C20.out _).mono ?_; rintro e w2 ⟨rfl, hb1⟩; clear x0 x1 y0 y1 y2; have Y : Aside (P2 (w2.alloc (.cells #[.int .i64 av, .int .u16 (sv : Int)] 34)) w.heap.size 34 _ _ ∧ X3 (w2.alloc (.cells #[.int .i64 av, .int .u16 (sv : Int)] 34)) (w.heap.size + 1) 44 _ _ _ ∧ Below w.heap.size w (w2.alloc (.cells #[.int .i64 av, .int .u16 (sv : Int)] 34))) := ⟨(X.out.1.later hb1).alloc _, (X.out.2.1.later hb1).alloc _, (below_step X.out.2.2 hb1).alloc (below_step X.out.2.2 hb1).size _⟩; clear hb1; obtain ⟨x0, x1⟩ := Y.out.1.cells; obtain ⟨y0, y1, y2⟩ := Y.out.2.1.cells) | (go_at_call 26; refine (C26.out _).mono ?_; rintro e w' ⟨rfl, rfl⟩))
    go_ret
    exact ⟨rfl, Y.out.2.2⟩
end Go.Proofs.Ytfjdopmjcddnlaa
