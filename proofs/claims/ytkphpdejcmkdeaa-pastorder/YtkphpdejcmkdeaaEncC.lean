/- What appendField gives, of a field that may be: the bytes that it was given, and behind them the field's. -/
import Derived.Test.YtkphpdejcmkdeaaEncB
import Derived.Test.YtkphpdejcmkdeaaMath
namespace Go.Proofs.Ytkphpdejcmkdeaa
open Go.RowKit

theorem cells_str (s : ByteArray) : Lib.strCells s = bcs s.data.toList := rfl

/-- A box of four that is kept reads as it did. -/
theorem box_cells {w w' : World} {cs : Array Value} (hk : Keep5 (w.alloc (.cells cs 51)) w') (i : Nat) (v : Value) (h : cs[i]? = some v) : w'.cell? ⟨w.heap.size, i, none⟩ = some v := by
  have hb := hk w.heap.size cs 51 (0, 0) (by decide) (heap_alloc_new w _)
  show (match w'.heap[w.heap.size]? with | some (.cells c _ _) => _ | _ => none) = _
  rw [hb]
  exact h

set_option maxRecDepth 20000 in
set_option maxHeartbeats 2000000 in
theorem appendField_num (v : Value) (n B : Nat) (x : Nat) (s : ByteArray) (r : Nat) (bs : List UInt8) (w : World) (hx : x < 18446744073709551616) (hn : n ≤ 800000) (hB : B ≤ w.heap.size) (hv : w.ownsRow B 5 1 v n (bcs bs)) :
    Calls Try.prog 35 #[v, .agg #[.int .i64 1, .int .u64 (x : Int), .string s, .float .f64 r]] w fun e w' => ∃ v', e = .returned v' ∧ w'.ownsRow B 5 1 v' (n + (1 + (Pk.numB x).length)) (bcs (bs ++ 1 :: Pk.numB x)) ∧ Below B w w' := by
  obtain ⟨i0, hi, hz0, hz1, hz2⟩ := info_parts info5
  have I : Aside (Try.prog.info? 5 = some i0 ∧ i0.zero = some (.int .u8 0) ∧ i0.size = 1 ∧ i0.bytes = 1) := ⟨hi, hz0, hz1, hz2⟩
  have V : Aside (w.ownsRow B 5 1 v n (bcs bs)) := hv
  have E : Aside (bcs bs ++ [Value.int .u8 1] = bcs (bs ++ [1])) := by
    unfold Aside
    rw [bcs_append]; rfl
  have A : Aside (∀ v1 w1, B ≤ w1.heap.size → w1.ownsRow B 5 1 v1 (n + 1) (bcs (bs ++ [1])) → Calls Try.prog 45 #[v1, .int .u64 (x : Int)] w1 fun e w' => ∃ v', e = .returned v' ∧ w'.ownsRow B 5 1 v' (n + (1 + (Pk.numB x).length)) (bcs (bs ++ 1 :: Pk.numB x)) ∧ Below B w1 w' ∧ Keep5 w1 w') := by
    intro v1 w1 h1 h2
    have := appendNumber_any v1 (n + 1) x B _ w1 hx (by omega) h1 h2
    rw [List.append_assoc, Nat.add_assoc] at this
    exact this
  generalize 1 + (Pk.numB x).length = L at A ⊢
  generalize bcs (bs ++ 1 :: Pk.numB x) = R at A ⊢
  generalize bcs (bs ++ [1]) = S at A E
  clear hi hz0 hz1 hz2 hv
  go_enter Try.func35, Try.ntmps35
  go_wp2_with (at_builtin; refine wpList_append_own _ rfl _ _ 54 rfl B 5 i0 (.int .u8 0) 1 1 Try.underlying54 I.out.1 I.out.2.1 I.out.2.2.1 I.out.2.2.2 rfl (by decide) _ _ _ rfl ((V.out.alloc _).alloc _) ⟨w.heap.size + 1, 0, none⟩ 1 1 [.int .u8 1] rfl rfl ?c1 ?c2 ?c3 ?c4 ?c5 ?_)
  case c1 =>
    have := cell_one_new (w.alloc (.cells #[.int .i64 1, .int .u64 (x : Int), .string s, .float .f64 r] 51)) (.int .u8 1) 5
    simpa using this
  case c2 => intro u hu; simp at hu; subst hu; rfl
  case c3 => unfold maxLen; omega
  case c4 => omega
  case c5 => simp; omega
  intro v1 w1 hown' hgrow _
  have hbn : Below B w w1 := grown_below (by simp; omega) (V.out.alloc _) ((Below.refl _ w).alloc hB _) hgrow
  have hk1 : Keep5 (w.alloc (.cells #[.int .i64 1, .int .u64 (x : Int), .string s, .float .f64 r] 51)) w1 := keep_step (V.out.alloc _) (Keep5.refl _) hgrow
  have f0 := box_cells hk1 0 _ rfl
  have f1 := box_cells hk1 1 _ rfl
  have f2 := box_cells hk1 2 _ rfl
  have f3 := box_cells hk1 3 _ rfl
  have K1 : Aside (Keep5 (w.alloc (.cells #[.int .i64 1, .int .u64 (x : Int), .string s, .float .f64 r] 51)) w1) := hk1
  have hA := A.out v1 w1 (Nat.le_trans hB hbn.size) (by rw [← E.out]; exact hown')
  clear hgrow hown' A E V hk1
  go_wp2_with fail
  refine hA.mono ?_
  rintro e w2 ⟨v2, rfl, h2, h3, h4⟩
  go_wp2
  go_ret
  exact ⟨_, rfl, h2, hbn.trans h3⟩


set_option maxRecDepth 20000 in
set_option maxHeartbeats 2000000 in
theorem appendField_text (v : Value) (n B : Nat) (x : Nat) (s : ByteArray) (r : Nat) (bs : List UInt8) (w : World) (hs : s.size ≤ 2000) (hn : n ≤ 800000) (hB : B ≤ w.heap.size) (hv : w.ownsRow B 5 1 v n (bcs bs)) :
    Calls Try.prog 35 #[v, .agg #[.int .i64 2, .int .u64 (x : Int), .string s, .float .f64 r]] w fun e w' => ∃ v', e = .returned v' ∧ w'.ownsRow B 5 1 v' (n + (1 + (Pk.numB s.size ++ s.data.toList).length)) (bcs (bs ++ 2 :: (Pk.numB s.size ++ s.data.toList))) ∧ Below B w w' := by
  obtain ⟨i0, hi, hz0, hz1, hz2⟩ := info_parts info5
  have I : Aside (Try.prog.info? 5 = some i0 ∧ i0.zero = some (.int .u8 0) ∧ i0.size = 1 ∧ i0.bytes = 1) := ⟨hi, hz0, hz1, hz2⟩
  have V : Aside (w.ownsRow B 5 1 v n (bcs bs)) := hv
  have E : Aside (bcs bs ++ [Value.int .u8 2] = bcs (bs ++ [2])) := by
    unfold Aside
    rw [bcs_append]; rfl
  have A : Aside (∀ v1 w1, B ≤ w1.heap.size → w1.ownsRow B 5 1 v1 (n + 1) (bcs (bs ++ [2])) → Calls Try.prog 45 #[v1, .int .u64 (s.size : Nat)] w1 fun e w' => ∃ v', e = .returned v' ∧ w'.ownsRow B 5 1 v' (n + (1 + (Pk.numB s.size).length)) (bcs (bs ++ 2 :: Pk.numB s.size)) ∧ Below B w1 w' ∧ Keep5 w1 w') := by
    intro v1 w1 h1 h2
    have := appendNumber_any v1 (n + 1) s.size B _ w1 (by omega) (by omega) h1 h2
    rw [List.append_assoc, Nat.add_assoc] at this
    exact this
  have hlen : 1 + (Pk.numB s.size).length ≤ 10 := by
    rw [numB_length]; have := nb_le s.size (by omega); omega
  have E2 : Aside (bcs (bs ++ 2 :: Pk.numB s.size) ++ Lib.strCells s = bcs (bs ++ 2 :: (Pk.numB s.size ++ s.data.toList))) := by
    unfold Aside
    rw [cells_str, ← bcs_append, List.append_assoc]; rfl
  have E3 : Aside (1 + (Pk.numB s.size ++ s.data.toList).length = 1 + (Pk.numB s.size).length + s.size) := by
    unfold Aside
    rw [List.length_append, Array.length_toList, ← Nat.add_assoc]; rfl
  generalize 1 + (Pk.numB s.size ++ s.data.toList).length = L2 at E3 ⊢
  generalize 1 + (Pk.numB s.size).length = L at A E3 hlen
  generalize bcs (bs ++ 2 :: (Pk.numB s.size ++ s.data.toList)) = R2 at E2 ⊢
  generalize bcs (bs ++ 2 :: Pk.numB s.size) = R at A E2
  generalize bcs (bs ++ [2]) = S at A E
  clear hi hz0 hz1 hz2 hv
  go_enter Try.func35, Try.ntmps35
  go_wp2_with (at_builtin; refine wpList_append_own _ rfl _ _ 54 rfl B 5 i0 (.int .u8 0) 1 1 Try.underlying54 I.out.1 I.out.2.1 I.out.2.2.1 I.out.2.2.2 rfl (by decide) _ _ _ rfl ((V.out.alloc _).alloc _) ⟨w.heap.size + 1, 0, none⟩ 1 1 [.int .u8 2] rfl rfl ?c1 ?c2 ?c3 ?c4 ?c5 ?_)
  case c1 =>
    have := cell_one_new (w.alloc (.cells #[.int .i64 2, .int .u64 (x : Int), .string s, .float .f64 r] 51)) (.int .u8 2) 5
    simpa using this
  case c2 => intro u hu; simp at hu; subst hu; rfl
  case c3 => unfold maxLen; omega
  case c4 => omega
  case c5 => simp; omega
  intro v1 w1 hown' hgrow _
  have hbn : Below B w w1 := grown_below (by simp; omega) (V.out.alloc _) ((Below.refl _ w).alloc hB _) hgrow
  have hk1 : Keep5 (w.alloc (.cells #[.int .i64 2, .int .u64 (x : Int), .string s, .float .f64 r] 51)) w1 := keep_step (V.out.alloc _) (Keep5.refl _) hgrow
  have f0 := box_cells hk1 0 _ rfl
  have f1 := box_cells hk1 1 _ rfl
  have f2 := box_cells hk1 2 _ rfl
  have f3 := box_cells hk1 3 _ rfl
  have K1 : Aside (Keep5 (w.alloc (.cells #[.int .i64 2, .int .u64 (x : Int), .string s, .float .f64 r] 51)) w1) := hk1
  have hA := A.out v1 w1 (Nat.le_trans hB hbn.size) (by rw [← E.out]; exact hown')
  clear hgrow hown' A E V hk1
  go_wp2_with fail
  refine hA.mono ?_
  rintro e w2 ⟨v2, rfl, h2, h3, h4⟩
  have hk2 := K1.out.trans h4
  have g2 := box_cells hk2 2 _ rfl
  clear f0 f1 f2 f3 hk2 h4 hA
  have hB2 : B ≤ w2.heap.size := Nat.le_trans hB (Nat.le_trans hbn.size h3.size)
  go_wp2_with (at_builtin; refine Lib.wpList_append_own_string _ rfl _ _ 54 9 rfl B 5 i0 Try.underlying54 Try.underlying9 I.out.1 I.out.2.1 I.out.2.2.1 I.out.2.2.2 _ _ _ rfl h2 s rfl ?d1 ?d2 ?d3 ?_)
  case d1 => unfold maxLen; omega
  case d2 => omega
  case d3 => exact hB2
  intro v3 w3 hown3 hgrow3 _
  have hb3 : Below B w w3 := grown_below' hB2 h2 (hbn.trans h3) hgrow3
  rw [E2.out, Nat.add_assoc, ← E3.out] at hown3
  clear hgrow3 h2 h3 hbn E2 E3
  go_wp2
  go_ret
  exact ⟨_, rfl, hown3, hb3⟩


set_option maxRecDepth 20000 in
set_option maxHeartbeats 2000000 in
theorem appendField_real (v : Value) (n B : Nat) (x : Nat) (s : ByteArray) (r : Nat) (bs : List UInt8) (w : World) (hr : r < 18446744073709551616) (hn : n ≤ 800000) (hB : B ≤ w.heap.size) (hv : w.ownsRow B 5 1 v n (bcs bs)) :
    Calls Try.prog 35 #[v, .agg #[.int .i64 3, .int .u64 (x : Int), .string s, .float .f64 r]] w fun e w' => ∃ v', e = .returned v' ∧ w'.ownsRow B 5 1 v' (n + (1 + 8)) (bcs (bs ++ 3 :: Pk.lo (Fl.cod r) 8)) ∧ Below B w w' := by
  obtain ⟨i0, hi, hz0, hz1, hz2⟩ := info_parts info5
  have I : Aside (Try.prog.info? 5 = some i0 ∧ i0.zero = some (.int .u8 0) ∧ i0.size = 1 ∧ i0.bytes = 1) := ⟨hi, hz0, hz1, hz2⟩
  have V : Aside (w.ownsRow B 5 1 v n (bcs bs)) := hv
  have E : Aside (bcs bs ++ [Value.int .u8 3] = bcs (bs ++ [3])) := by
    unfold Aside
    rw [bcs_append]; rfl
  have A : Aside (∀ v1 w1, B ≤ w1.heap.size → w1.ownsRow B 5 1 v1 (n + 1) (bcs (bs ++ [3])) → Calls Try.prog 46 #[v1, .int .u64 (Fl.cod r : Nat), .int .i64 8] w1 fun e w' => ∃ v', e = .returned v' ∧ w'.ownsRow B 5 1 v' (n + (1 + 8)) (bcs (bs ++ 3 :: Pk.lo (Fl.cod r) 8)) ∧ Below B w1 w' ∧ Keep5 w1 w') := by
    intro v1 w1 h1 h2
    have := appendLow_any v1 (n + 1) (Fl.cod r) 8 B _ w1 (by omega) (by omega) h1 h2
    rw [List.append_assoc, Nat.add_assoc] at this
    exact this
  have hC : Aside (∀ w1, Calls Try.prog 47 #[.float .f64 r] w1 fun e w' => e = .returned (.int .u64 (Fl.cod r : Nat)) ∧ w' = w1) := fun w1 => code_any r w1 hr
  generalize bcs (bs ++ 3 :: Pk.lo (Fl.cod r) 8) = R at A ⊢
  generalize Fl.cod r = c at A hC
  clear hr
  generalize bcs (bs ++ [3]) = S at A E
  clear hi hz0 hz1 hz2 hv
  go_enter Try.func35, Try.ntmps35
  go_wp2_with (at_builtin; refine wpList_append_own _ rfl _ _ 54 rfl B 5 i0 (.int .u8 0) 1 1 Try.underlying54 I.out.1 I.out.2.1 I.out.2.2.1 I.out.2.2.2 rfl (by decide) _ _ _ rfl ((V.out.alloc _).alloc _) ⟨w.heap.size + 1, 0, none⟩ 1 1 [.int .u8 3] rfl rfl ?c1 ?c2 ?c3 ?c4 ?c5 ?_)
  case c1 =>
    have := cell_one_new (w.alloc (.cells #[.int .i64 3, .int .u64 (x : Int), .string s, .float .f64 r] 51)) (.int .u8 3) 5
    simpa using this
  case c2 => intro u hu; simp at hu; subst hu; rfl
  case c3 => unfold maxLen; omega
  case c4 => omega
  case c5 => simp; omega
  intro v1 w1 hown' hgrow _
  have hbn : Below B w w1 := grown_below (by simp; omega) (V.out.alloc _) ((Below.refl _ w).alloc hB _) hgrow
  have hk1 : Keep5 (w.alloc (.cells #[.int .i64 3, .int .u64 (x : Int), .string s, .float .f64 r] 51)) w1 := keep_step (V.out.alloc _) (Keep5.refl _) hgrow
  have f0 := box_cells hk1 0 _ rfl
  have f1 := box_cells hk1 1 _ rfl
  have f2 := box_cells hk1 2 _ rfl
  have f3 := box_cells hk1 3 _ rfl
  have K1 : Aside (Keep5 (w.alloc (.cells #[.int .i64 3, .int .u64 (x : Int), .string s, .float .f64 r] 51)) w1) := hk1
  have hA := A.out v1 w1 (Nat.le_trans hB hbn.size) (by rw [← E.out]; exact hown')
  clear hgrow hown' A E V hk1
  have hC1 := hC.out w1
  clear hC
  go_wp2_with fail
  refine hC1.mono ?_
  rintro e w2 ⟨rfl, hw⟩
  replace hw := hw.symm; subst hw
  clear hC1
  go_wp2_with fail
  refine hA.mono ?_
  rintro e w2 ⟨v2, rfl, h2, h3, h4⟩
  go_wp2
  go_ret
  exact ⟨_, rfl, h2, hbn.trans h3⟩


theorem encB_length (f : Pk.Fld) : (Pk.encB f).length = 1 + (Pk.body f).length := by unfold Pk.encB; rw [List.length_cons]; omega

theorem appendField_any (f : Pk.Fld) (v : Value) (n B : Nat) (bs : List UInt8) (w : World) (hm : Pk.may f = true) (hn : n ≤ 800000) (hB : B ≤ w.heap.size) (hv : w.ownsRow B 5 1 v n (bcs bs)) :
    Calls Try.prog 35 #[v, .agg #[.int .i64 f.kind, .int .u64 (f.num.toNat : Int), .string f.text, .float .f64 f.real.toNat]] w fun e w' => ∃ v', e = .returned v' ∧ w'.ownsRow B 5 1 v' (n + (Pk.encB f).length) (bcs (bs ++ Pk.encB f)) ∧ Below B w w' := by
  obtain ⟨k, x, s, r⟩ := f
  by_cases h1 : k = 1
  · subst h1
    have h := appendField_num v n B x.toNat s r.toNat bs w (u64_lt _) hn hB hv
    rw [Pk.encB_1, List.length_cons, Nat.add_comm (Pk.numB x.toNat).length 1]
    exact h
  · by_cases h2 : k = 2
    · subst h2
      have hs : s.size ≤ 2000 := by
        unfold Pk.may at hm
        simp only at hm
        rw [if_neg (by decide), if_pos trivial] at hm
        simp only [Bool.and_eq_true, decide_eq_true_eq] at hm
        exact hm.2
      have h := appendField_text v n B x.toNat s r.toNat bs w hs hn hB hv
      rw [Pk.encB_2, List.length_cons, Nat.add_comm (Pk.numB s.size ++ s.data.toList).length 1]
      exact h
    · have h3 : k = 3 := by
        unfold Pk.may at hm
        simp only at hm
        rw [if_neg h1, if_neg h2] at hm
        by_cases h3 : k = 3
        · exact h3
        · rw [if_neg h3] at hm; cases hm
      subst h3
      have h := appendField_real v n B x.toNat s r.toNat bs w (u64_lt _) hn hB hv
      rw [Pk.encB_3, List.length_cons, Pk.lo_length]
      exact h

end Go.Proofs.Ytkphpdejcmkdeaa
