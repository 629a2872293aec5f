/- The changes of texts: what Parse gives, the program's and the document's own. -/
import Derived.Test.YtnheikkpnffinaaDoorRlD
import Derived.LoopN
set_option linter.unusedVariables false
namespace Go.Proofs.YtnheikkpnffinaaDoor
open Go.RowKit
namespace Rl
open Cn

/-- All changes that may be, and which one's text it is. -/
def allC : List (Bool × Nat) := (List.range 16).flatMap fun i => [(true, i), (false, i)]
def parse (s : ByteArray) : Bool × Nat × Nat := match allC.find? fun c => decide (s = txt c.1 c.2) with | some c => (c.1, c.2, 0) | none => (false, 0, 4)
theorem mem_allC (a : Bool) (i : Nat) : (a, i) ∈ allC ↔ i < 16 := by
  unfold allC
  cases a <;> simp [List.mem_flatMap]
theorem parse_yes {s : ByteArray} {a : Bool} {i : Nat} (h : i < 16) (hs : s = txt a i) : parse s = (a, i, 0) := by
  unfold parse
  cases e : allC.find? fun c => decide (s = txt c.1 c.2) with
  | none => exact absurd (decide_eq_true hs) (by simpa using List.find?_eq_none.1 e (a, i) ((mem_allC a i).2 h))
  | some c =>
    have h1 : s = txt c.1 c.2 := of_decide_eq_true (by simpa using List.find?_some e)
    have h2 := (mem_allC c.1 c.2).1 (List.mem_of_find?_eq_some e)
    obtain ⟨rfl, rfl⟩ := txt_inj (by omega) h2 (hs.symm.trans h1)
    rfl
theorem parse_no {s : ByteArray} (h : ∀ a i, i < 16 → s ≠ txt a i) : parse s = (false, 0, 4) := by
  unfold parse
  cases e : allC.find? fun c => decide (s = txt c.1 c.2) with
  | none => rfl
  | some c => exact absurd (of_decide_eq_true (by simpa using List.find?_some e)) (h c.1 c.2 ((mem_allC c.1 c.2).1 (List.mem_of_find?_eq_some e)))

theorem eq_lists (x y : ByteArray) : (x.toList == y.toList) = decide (x = y) := by
  rw [ByteArray.toList_eq, ByteArray.toList_eq]
  by_cases h : x = y
  · rw [h]; simp
  · rw [decide_eq_false h]
    have : ¬ x.data.toList = y.data.toList := fun e => h (ByteArray.ext (Array.toList_inj.1 e))
    simpa using this
theorem index59_0 (a b c d : Value) (W : World) : (Instr.index 59 (.agg #[a, b, c, d]) (.int .i64 0)).run Tryd.prog W = .ok (.agg #[a, b]) W := by kernel_rfl
theorem index59_1 (a b c d : Value) (W : World) : (Instr.index 59 (.agg #[a, b, c, d]) (.int .i64 1)).run Tryd.prog W = .ok (.agg #[c, d]) W := by kernel_rfl

set_option maxHeartbeats 4000000 in
set_option maxRecDepth 100000 in
/-- What Parse gives. -/
theorem parse_any (s : ByteArray) (w : World) :
    Calls Tryd.prog 14 #[.string s] w fun e w' => e = .returned (.tuple #[chV (parse s).1 (parse s).2.1, .int .i64 ((parse s).2.2 : Nat)]) ∧ Below w.heap.size w w' := by
  have PY : Aside (∀ a i, i < 16 → txt a i = s → parse s = (a, i, 0)) := fun a i h hs => parse_yes h hs.symm
  have PN : Aside ((∀ a i, i < 16 → s ≠ txt a i) → parse s = (false, 0, 4)) := parse_no
  generalize parse s = r at PY PN ⊢
  obtain ⟨V, hV⟩ : ∃ V, V = w.alloc (.cells #[.bool false, .int .u8 0] 33) := ⟨_, rfl⟩
  have X : Aside (P2 V w.heap.size 33 (.bool false) (.int .u8 0) ∧ Below w.heap.size w V) := by
    rw [hV]
    exact ⟨P2.new w _ _ _, below_one w _⟩
  have ix0 := fun k W => index59_0 (.bool true) (.int .u8 k) (.bool false) (.int .u8 k) W
  have ix1 := fun k W => index59_1 (.bool true) (.int .u8 k) (.bool false) (.int .u8 k) W
  unfold chV
  go_enter Tryd.func14, Tryd.ntmps14
  go_wp2_with fail
  rw [← hV]
  clear hV
  go_loopw [4, 6, 7] (fun _ _ i wr => ∃ k : Nat, k ≤ 16 ∧ i = .int .u8 k ∧ P2 wr w.heap.size 33 (.bool false) (.int .u8 0) ∧ Below w.heap.size w wr ∧ ∀ a j, j < k → s ≠ txt a j) (fun _ _ i _ => 16 - (intOf i).toNat)
  case atStart => exact ⟨0, by omega, rfl, X.out.1, X.out.2, fun a j h => by omega⟩
  case round =>
    obtain ⟨k, hk, rfl, hp, hb, hno⟩ := hrel
    have HN : Aside (∀ a j, j < k → s ≠ txt a j) := hno
    have HP : Aside (P2 wr w.heap.size 33 (.bool false) (.int .u8 0) ∧ Below w.heap.size w wr) := ⟨hp, hb⟩
    clear hno hp hb
    by_cases hlt : k < 16
    · have t1 : (k : Int) < 16 := by omega
      have T1 : Aside (∀ W, Calls Tryd.prog 16 #[.agg #[.bool true, .int .u8 (k : Int)]] W fun e w' => e = .returned (.string (txt true k)) ∧ Below W.heap.size W w') := fun W => text_any true k W (by omega) (.inl (by omega))
      have T2 : Aside (∀ W, Calls Tryd.prog 16 #[.agg #[.bool false, .int .u8 (k : Int)]] W fun e w' => e = .returned (.string (txt false k)) ∧ Below W.heap.size W w') := fun W => text_any false k W (by omega) (.inl (by omega))
      by_cases h1 : txt true k = s
      · have r1 := PY.out _ _ hlt h1
        subst r1
        rw [h1] at T1
        clear h1 PY PN HN
        obtain ⟨n0, n1⟩ := (P2.new wr 33 (.bool true) (.int .u8 (k : Int))).cells
        go_wp2_with fail
        refine wp_loop_rounds 3 ?_
        rw [rounds_succ]
        go_wp2_with (go_at_call 16; refine (T1.out _).mono ?_; rintro e w1 ⟨rfl, hb1⟩; have Y1 : Aside (P2 w1 w.heap.size 33 _ _ ∧ P2 w1 wr.heap.size 33 _ _ ∧ Below w.heap.size w w1) := ⟨(HP.out.1.alloc _).later hb1, (P2.new wr 33 _ _).later hb1, below_step (HP.out.2.alloc HP.out.2.size _) hb1⟩; clear hb1; obtain ⟨c0, c1⟩ := Y1.out.2.1.cells; obtain ⟨d0, d1⟩ := Y1.out.1.cells; have z0 := Y1.out.1.frozen 0; have z1 := Y1.out.1.frozen 1)
        exact bodyPost_ret (results_cell2 rfl rfl (Tryd.isAgg33 _) (Tryd.sizeOf33 _) (load_two (Y1.out.1.put _ _))) rfl ⟨rfl, below_put Y1.out.2.2 (Nat.le_refl _) _ _⟩
      · have e1 : ((txt true k).toList == s.toList) = false := by rw [eq_lists]; exact decide_eq_false h1
        by_cases h2 : txt false k = s
        · have r1 := PY.out _ _ hlt h2
          subst r1
          rw [h2] at T2
          clear h1 h2 PY PN HN
          generalize txt true k = x1 at T1 e1
          obtain ⟨n0, n1⟩ := (P2.new wr 33 (.bool true) (.int .u8 (k : Int))).cells
          go_wp2_with fail
          refine wp_loop_rounds 3 ?_
          rw [rounds_succ]
          go_wp2_with (go_at_call 16; refine (T1.out _).mono ?_; rintro e w1 ⟨rfl, hb1⟩; have Y1 : Aside (P2 w1 w.heap.size 33 _ _ ∧ P2 w1 wr.heap.size 33 _ _ ∧ Below w.heap.size w w1) := ⟨(HP.out.1.alloc _).later hb1, (P2.new wr 33 _ _).later hb1, below_step (HP.out.2.alloc HP.out.2.size _) hb1⟩; clear hb1; obtain ⟨c0, c1⟩ := Y1.out.2.1.cells; obtain ⟨d0, d1⟩ := Y1.out.1.cells; have z0 := Y1.out.1.frozen 0; have z1 := Y1.out.1.frozen 1)
          obtain ⟨n0, n1⟩ := (P2.new w1 33 (.bool false) (.int .u8 (k : Int))).cells
          have HP1 : Aside (P2 w1 w.heap.size 33 (.bool false) (.int .u8 0) ∧ Below w.heap.size w w1) := ⟨Y1.out.1, Y1.out.2.2⟩
          clear c0 c1 d0 d1 z0 z1 Y1
          rw [rounds_succ]
          go_wp2_with (go_at_call 16; refine (T2.out _).mono ?_; rintro e w2 ⟨rfl, hb2⟩; have Y2 : Aside (P2 w2 w.heap.size 33 _ _ ∧ P2 w2 w1.heap.size 33 _ _ ∧ Below w.heap.size w w2) := ⟨(HP1.out.1.alloc _).later hb2, (P2.new w1 33 _ _).later hb2, below_step (HP1.out.2.alloc HP1.out.2.size _) hb2⟩; clear hb2; obtain ⟨c0, c1⟩ := Y2.out.2.1.cells; obtain ⟨d0, d1⟩ := Y2.out.1.cells; have z0 := Y2.out.1.frozen 0; have z1 := Y2.out.1.frozen 1)
          exact bodyPost_ret (results_cell2 rfl rfl (Tryd.isAgg33 _) (Tryd.sizeOf33 _) (load_two (Y2.out.1.put _ _))) rfl ⟨rfl, below_put Y2.out.2.2 (Nat.le_refl _) _ _⟩
        · have e2 : ((txt false k).toList == s.toList) = false := by rw [eq_lists]; exact decide_eq_false h2
          have hstep : Aside (∀ a j, j < k + 1 → s ≠ txt a j) := fun a j hj hs => by
            by_cases hjk : j = k
            · subst hjk
              cases a
              · exact h2 hs.symm
              · exact h1 hs.symm
            · exact HN.out a j (by omega) hs
          clear h1 h2 HN
          generalize txt true k = x1 at T1 e1
          generalize txt false k = x2 at T2 e2
          have hadd : IntKind.u8.wrap ((k : Int) + 1) = (k : Int) + 1 := by rw [IntKind.wrap_u8]; omega
          obtain ⟨n0, n1⟩ := (P2.new wr 33 (.bool true) (.int .u8 (k : Int))).cells
          go_wp2_with fail
          refine wp_loop_rounds 3 ?_
          rw [rounds_succ]
          go_wp2_with (go_at_call 16; refine (T1.out _).mono ?_; rintro e w1 ⟨rfl, hb1⟩; have Y1 : Aside (P2 w1 w.heap.size 33 _ _ ∧ P2 w1 wr.heap.size 33 _ _ ∧ Below w.heap.size w w1) := ⟨(HP.out.1.alloc _).later hb1, (P2.new wr 33 _ _).later hb1, below_step (HP.out.2.alloc HP.out.2.size _) hb1⟩; clear hb1; obtain ⟨c0, c1⟩ := Y1.out.2.1.cells; obtain ⟨d0, d1⟩ := Y1.out.1.cells; have z0 := Y1.out.1.frozen 0; have z1 := Y1.out.1.frozen 1)
          obtain ⟨n0, n1⟩ := (P2.new w1 33 (.bool false) (.int .u8 (k : Int))).cells
          have HP1 : Aside (P2 w1 w.heap.size 33 (.bool false) (.int .u8 0) ∧ Below w.heap.size w w1) := ⟨Y1.out.1, Y1.out.2.2⟩
          clear c0 c1 d0 d1 z0 z1 Y1
          rw [rounds_succ]
          go_wp2_with (go_at_call 16; refine (T2.out _).mono ?_; rintro e w2 ⟨rfl, hb2⟩; have Y2 : Aside (P2 w2 w.heap.size 33 _ _ ∧ P2 w2 w1.heap.size 33 _ _ ∧ Below w.heap.size w w2) := ⟨(HP1.out.1.alloc _).later hb2, (P2.new w1 33 _ _).later hb2, below_step (HP1.out.2.alloc HP1.out.2.size _) hb2⟩; clear hb2; obtain ⟨c0, c1⟩ := Y2.out.2.1.cells; obtain ⟨d0, d1⟩ := Y2.out.1.cells; have z0 := Y2.out.1.frozen 0; have z1 := Y2.out.1.frozen 1)
          rw [rounds_succ]
          go_wp2_with fail

          go_roundw
          case rel => exact ⟨k + 1, by omega, by go_num, Y2.out.1, Y2.out.2.2, hstep.out⟩
          case measure => simp [intOf]; omega
    · obtain rfl : k = 16 := by omega
      have r1 := PN.out fun a i hi => HN.out a i hi
      subst r1
      clear PY PN HN
      obtain ⟨d0, d1⟩ := HP.out.1.cells
      have z0 := HP.out.1.frozen 0
      have z1 := HP.out.1.frozen 1
      go_wp2
      exact bodyPost_ret (results_cell2 rfl rfl (Tryd.isAgg33 _) (Tryd.sizeOf33 _) (load_two (HP.out.1.put _ _))) rfl ⟨rfl, below_put HP.out.2 (Nat.le_refl _) _ _⟩
end Rl
end Go.Proofs.YtnheikkpnffinaaDoor
