/- The laws on whose a body may be, and on bodies against the document's: what they walk. -/
import Derived.Test.YtkphpdejcmkdeaaPsR
set_option linter.unusedVariables false
namespace Go.Proofs.Ytkphpdejcmkdeaa
open Go.RowKit Go.Shelf
namespace Ps

theorem wpList_bdS35 {w : World} {ops : Array Oper} {rest : List Oper} {o : Oper} {a : Act} {Q : Exit → Act → World → Prop} {z : Bd} (b : Nat) (hb : b = w.heap.size) (hg : o.guard = none) (p y : Operand) (ho : o.op = .store 35 p y)
    (hp : a.eval p = .pointer (some ⟨b, 0, none⟩)) (hx : a.eval y = .agg (bdA z)) (hn : ∀ W, B18 W b 35 z → Below w.heap.size w W → wpList Try.prog ops Q rest (a.put o.dst undef) W) : wpList Try.prog ops Q (o :: rest) a (w.alloc (.cells #[.int .i64 0, .int .u16 0, .int .u16 0, .int .u16 0, .int .u16 0, .int .u16 0, .int .u16 0, .int .u16 0, .int .u16 0, .int .u16 0, .int .u16 0, .int .u16 0, .int .u16 0, .int .u16 0, .int .u16 0, .int .u16 0, .int .u16 0, .string ⟨#[]⟩] 35)) := by
  subst hb
  exact wpList_bd_store35 (B18.zero w 35) hg p y ho hp hx (hn _ ((B18.zero w 35).whole z) (below_cells _ _ ((Below.refl _ w).alloc (Nat.le_refl _) _) (Nat.le_refl _)))
theorem wpList_bdS29 {w : World} {ops : Array Oper} {rest : List Oper} {o : Oper} {a : Act} {Q : Exit → Act → World → Prop} {z : Bd} (b : Nat) (hb : b = w.heap.size) (hg : o.guard = none) (p y : Operand) (ho : o.op = .store 29 p y)
    (hp : a.eval p = .pointer (some ⟨b, 0, none⟩)) (hx : a.eval y = .agg (bdA z)) (hn : ∀ W, B18 W b 29 z → Below w.heap.size w W → wpList Try.prog ops Q rest (a.put o.dst undef) W) : wpList Try.prog ops Q (o :: rest) a (w.alloc (.cells #[.int .i64 0, .int .u16 0, .int .u16 0, .int .u16 0, .int .u16 0, .int .u16 0, .int .u16 0, .int .u16 0, .int .u16 0, .int .u16 0, .int .u16 0, .int .u16 0, .int .u16 0, .int .u16 0, .int .u16 0, .int .u16 0, .int .u16 0, .string ⟨#[]⟩] 29)) := by
  subst hb
  exact wpList_bd_store29 (B18.zero w 29) hg p y ho hp hx (hn _ ((B18.zero w 29).whole z) (below_cells _ _ ((Below.refl _ w).alloc (Nat.le_refl _) _) (Nat.le_refl _)))

set_option maxHeartbeats 8000000 in
set_option maxRecDepth 100000 in
theorem rights_walk (b : Bd) (frm : Nat) (seq : Int) (w : World) (hv : Small b) (hf : frm < 256) : Calls Try.prog 7 #[.agg (bdA b), .int .u8 (frm : Int), .int .i64 seq] w fun e w' => e = .returned (.bool true) ∧ Below w.heap.size w w' := by
  have CA : Aside (∀ W, Calls Try.prog 9 #[] W fun e w' => e = .returned (.bool true) ∧ Below W.heap.size W w') := fun W => alive_any W
  have C14 : Aside (∀ W, Calls Try.prog 14 #[.agg (bdA b)] W fun e w' => e = .returned (.tuple #[.string (encS b), .int .i64 (encK b : Nat)]) ∧ Below W.heap.size W w') := fun W => encode_bd b W hv
  have C18 : Aside (∀ W, Calls Try.prog 18 #[.agg (bdA b), .int .u8 (frm : Int), .int .i64 seq] W fun e w' => e = .returned (.bool (rightB b frm seq)) ∧ Below W.heap.size W w') := fun W => right_any b frm seq W hv
  obtain ⟨V, hV⟩ : ∃ V, V = w.alloc (.cells (bdA b) 29) := ⟨_, rfl⟩
  have X : Aside (B18 V w.heap.size 29 b ∧ Below w.heap.size w V) := by
    rw [hV]; exact ⟨B18.new w 29 b, (Below.refl _ w).alloc (Nat.le_refl _) _⟩
  go_enter Try.func7, Try.ntmps7
  go_wp2_with fail
  rw [← hV]
  clear hV
  refine (CA.out V).mono ?_
  rintro e w1 ⟨rfl, hb1⟩
  have X1 : Aside (B18 w1 w.heap.size 29 b) := X.out.1.later hb1
  have B1 : Aside (Below w.heap.size w w1) := step_below X.out.2 hb1
  have t0 := X1.out.text
  obtain ⟨T, hT⟩ : ∃ T, T = b.text := ⟨_, rfl⟩
  rw [← hT] at t0
  clear hb1 X CA hT
  by_cases h1000 : (1000 : Int) < (T.size : Int)
  · go_wp2
    go_ret
    exact ⟨rfl, B1.out⟩
  go_wp2_with (first
    | (with_reducible refine wpList_bd29 X1.out rfl _ rfl rfl ?_)
    | ((with_reducible refine wpList_bdS35 w1.heap.size rfl rfl _ _ rfl rfl rfl (fun W2 hW hb2 => ?_)); have Y2 : Aside (B18 W2 w1.heap.size 35 b) := hW; have X2 : Aside (B18 W2 w.heap.size 29 b) := X1.out.later hb2; have B2 : Aside (Below w.heap.size w W2) := step_below B1.out hb2; clear hW hb2 X1 B1 t0)
    | (with_reducible refine wpList_bd35 Y2.out rfl _ rfl rfl ?_))
  refine (C14.out W2).mono ?_
  rintro e w3 ⟨rfl, hb3⟩
  have Y3 : Aside (B18 w3 w1.heap.size 35 b) := Y2.out.later hb3
  have X3 : Aside (B18 w3 w.heap.size 29 b) := X2.out.later hb3
  have B3 : Aside (Below w.heap.size w w3) := step_below B2.out hb3
  clear hb3 Y2 X2 B2 C14
  generalize encS b = E
  rcases hm : may b with _ | _
  · have hk : encK b = 2 := by unfold encK; rw [hm]; rfl
    rw [hk]
    have hr : rightB b frm seq = false := by unfold rightB; rw [hm]; rfl
    rw [hr] at C18
    clear hk hr
    go_wp2_with (first
      | (with_reducible refine wpList_bd35 Y3.out rfl _ rfl rfl ?_)
      | (go_at_call 18; refine (C18.out _).mono ?_; rintro e w4 ⟨rfl, hb4⟩; have B4 : Aside (Below w.heap.size w w4) := step_below B3.out hb4; clear hb4))
    go_ret
    exact ⟨rfl, B4.out⟩
  · have hk : encK b = 0 := by unfold encK; rw [hm]; rfl
    rw [hk]
    by_cases h16 : frm < 16
    · have hr : rightB b frm seq = decide (((b.past frm : Nat) : Int) = seq) := by unfold rightB; rw [hm, decide_eq_true h16]; rfl
      rw [hr] at C18
      have hq := hv frm h16
      have px : Aside (∀ w4, Below w3.heap.size w3 w4 → w4.cell? ⟨w.heap.size, 1 + frm, none⟩ = some (.int .u16 ((b.past frm : Nat) : Int))) := fun w4 hb => (X3.out.later hb).past h16
      generalize b.past frm = q at C18 hq px
      have hwq : wrap64 (q : Int) = (q : Int) := by unfold wrap64; omega
      have f1 : (frm : Int) < 16 := by omega
      have f0 : (0 : Int) ≤ (frm : Int) := by omega
      have f2 : (frm : Int) % 16 = (frm : Int) := by omega
      have f3 : (frm : Int).tmod 16 = (frm : Int) := by rw [Int.tmod_eq_emod_of_nonneg (by omega)]; omega
      have f4 : (seq == (q : Int)) = decide ((q : Int) = seq) := by
        by_cases h : (q : Int) = seq
        · simp [h]
        · rw [decide_eq_false h, beq_eq_false_iff_ne]; exact fun e => h e.symm
      generalize decide ((q : Int) = seq) = r at C18 f4
      clear hk hr hv hm
      go_wp2_with (first
        | (with_reducible refine wpList_bd35 Y3.out rfl _ rfl rfl ?_)
        | (go_at_call 18; refine (C18.out _).mono ?_; rintro e w4 ⟨rfl, hb4⟩; have B4 : Aside (Below w.heap.size w w4) := step_below B3.out hb4; have c4 := px.out _ hb4; clear hb4))
      go_ret
      exact ⟨rfl, B4.out⟩
    · have hr : rightB b frm seq = false := by unfold rightB; rw [decide_eq_false h16, Bool.and_false, Bool.false_and]
      rw [hr] at C18
      have f1 : ¬ (frm : Int) < 16 := by omega
      clear hk hr hm
      go_wp2_with (first
        | (with_reducible refine wpList_bd35 Y3.out rfl _ rfl rfl ?_)
        | (go_at_call 18; refine (C18.out _).mono ?_; rintro e w4 ⟨rfl, hb4⟩; have B4 : Aside (Below w.heap.size w w4) := step_below B3.out hb4; clear hb4))
      go_ret
      exact ⟨rfl, B4.out⟩

set_option maxHeartbeats 8000000 in
set_option maxRecDepth 100000 in
theorem bodies_walk (b : Bd) (vw : Int) (frm : Nat) (seq : Int) (s : ByteArray) (w : World) (hv : Small b) (hf : frm < 256) :
    Calls Try.prog 4 #[.agg (bdA b), .agg #[.int .i64 vw, .int .u8 (frm : Int), .int .i64 seq], .string s] w fun e w' => e = .returned (.bool true) ∧ Below w.heap.size w w' := by
  have CA : Aside (∀ W, Calls Try.prog 9 #[] W fun e w' => e = .returned (.bool true) ∧ Below W.heap.size W w') := fun W => alive_any W
  obtain ⟨E, hE⟩ : ∃ E, E = encS b := ⟨_, rfl⟩
  obtain ⟨k, hk⟩ : ∃ k : Int, k = (encK b : Nat) := ⟨_, rfl⟩
  have C14 : Aside (∀ W, Calls Try.prog 14 #[.agg (bdA b)] W fun e w' => e = .returned (.tuple #[.string E, .int .i64 k]) ∧ Below W.heap.size W w') := fun W => by rw [hE, hk]; exact encode_bd b W hv
  have C15 : Aside (∀ W, Calls Try.prog 15 #[.agg (bdA b)] W fun e w' => e = .returned (.tuple #[.string E, .int .i64 k]) ∧ Below W.heap.size W w') := fun W => by rw [hE, hk]; exact rencode_bd b W hv
  obtain ⟨D, hD⟩ : ∃ D, D = decB s.data.toList := ⟨_, rfl⟩
  obtain ⟨d, hd⟩ : ∃ d : Int, d = (decK s.data.toList : Nat) := ⟨_, rfl⟩
  have C16 : Aside (∀ W, Calls Try.prog 16 #[.string s] W fun e w' => e = .returned (.tuple #[.agg (bdA D), .int .i64 d]) ∧ Below W.heap.size W w') := fun W => by rw [hD, hd]; exact decode_bd s W
  have C17 : Aside (∀ W, Calls Try.prog 17 #[.string s] W fun e w' => e = .returned (.tuple #[.agg (bdA D), .int .i64 d]) ∧ Below W.heap.size W w') := fun W => by rw [hD, hd]; exact rdecode_bd s W
  obtain ⟨r, hr⟩ : ∃ r, r = rightB b frm seq := ⟨_, rfl⟩
  have C18 : Aside (∀ W, Calls Try.prog 18 #[.agg (bdA b), .int .u8 (frm : Int), .int .i64 seq] W fun e w' => e = .returned (.bool r) ∧ Below W.heap.size W w') := fun W => by rw [hr]; exact right_any b frm seq W hv
  have C19 : Aside (∀ W, Calls Try.prog 19 #[.agg (bdA b), .int .u8 (frm : Int), .int .i64 seq] W fun e w' => e = .returned (.bool r) ∧ Below W.heap.size W w') := fun W => by rw [hr]; exact rright_any b frm seq W hv
  have q2 : ∀ W, (binOp .eql 29 (.agg (bdA D)) (.agg (bdA D))).run Try.prog W = .ok (.bool true) W := fun W => by
    have := eql_bd29 D D W
    rw [eqB_alike (Alike.refl D)] at this; exact this
  have g2 := fun x y xs ys W => guard_eql29 x y xs ys W
  clear hE hk hD hd hr
  obtain ⟨V, hV⟩ : ∃ V, V = (w.alloc (.cells (bdA b) 29)).alloc (.cells #[.int .i64 vw, .int .u8 (frm : Int), .int .i64 seq] 31) := ⟨_, rfl⟩
  have X : Aside (B18 V w.heap.size 29 b ∧ V.heap[w.heap.size + 1]? = some (.cells #[.int .i64 vw, .int .u8 (frm : Int), .int .i64 seq] 31 (0, 0)) ∧ Below w.heap.size w V) := by
    rw [hV]
    refine ⟨(B18.new w 29 b).alloc _, ?_, ((Below.refl _ w).alloc (Nat.le_refl _) _).alloc (by simp) _⟩
    have := heap_alloc_new (w.alloc (.cells (bdA b) 29)) (.cells #[.int .i64 vw, .int .u8 (frm : Int), .int .i64 seq] 31)
    rwa [World.size_alloc] at this
  go_enter Try.func4, Try.ntmps4
  go_wp2_with fail
  rw [← hV]
  clear hV
  refine (CA.out V).mono ?_
  rintro e w1 ⟨rfl, hb1⟩
  have X1 : Aside (B18 w1 w.heap.size 29 b) := X.out.1.later hb1
  have N1 : Aside (w1.heap[w.heap.size + 1]? = some (.cells #[.int .i64 vw, .int .u8 (frm : Int), .int .i64 seq] 31 (0, 0))) := (hb1.block _ (Array.getElem?_eq_some_iff.1 X.out.2.1).1).trans X.out.2.1
  have B1 : Aside (Below w.heap.size w w1) := step_below X.out.2.2 hb1
  have t0 := X1.out.text
  obtain ⟨T, hT⟩ : ∃ T, T = b.text := ⟨_, rfl⟩
  rw [← hT] at t0
  clear hb1 X CA hT
  by_cases h1000 : (1000 : Int) < (T.size : Int)
  · go_wp2
    go_ret
    exact ⟨rfl, B1.out⟩
  by_cases h1001 : (1000 : Int) < (s.size : Int)
  · go_wp2
    go_ret
    exact ⟨rfl, B1.out⟩
  go_wp2_with (first
    | (with_reducible refine wpList_bd29 X1.out rfl _ rfl rfl ?_)
    | (go_at_call 14; refine (C14.out _).mono ?_; rintro e w2 ⟨rfl, hb2⟩; have X2 : Aside (B18 w2 w.heap.size 29 b) := X1.out.later hb2; have B2 : Aside (Below w1.heap.size w1 w2) := hb2; clear hb2 C14 t0)
    | (with_reducible refine wpList_bd29 X2.out rfl _ rfl rfl ?_)
    | (go_at_call 15; refine (C15.out _).mono ?_; rintro e w3 ⟨rfl, hb3⟩; have B3 : Aside (Below w1.heap.size w1 w3) := step_below B2.out hb3; clear hb3 C15)
    | (go_at_call 16; refine (C16.out _).mono ?_; rintro e w4 ⟨rfl, hb4⟩; have B4 : Aside (Below w1.heap.size w1 w4) := step_below B3.out hb4; clear hb4 C16)
    | ((with_reducible refine wpList_bdS35 w4.heap.size rfl rfl _ _ rfl rfl rfl (fun W5 hW hb5 => ?_)); have Y5 : Aside (B18 W5 w4.heap.size 35 D) := hW; have B5 : Aside (Below w1.heap.size w1 W5) := step_below B4.out hb5; clear hW hb5)
    | (go_at_call 17; refine (C17.out _).mono ?_; rintro e w6 ⟨rfl, hb6⟩; have Y6 : Aside (B18 w6 w4.heap.size 35 D) := Y5.out.later hb6; have B6 : Aside (Below w1.heap.size w1 w6) := step_below B5.out hb6; clear hb6 C17)
    | ((with_reducible refine wpList_bdS29 w6.heap.size rfl rfl _ _ rfl rfl rfl (fun W7 hW hb7 => ?_)); have Z7 : Aside (B18 W7 w6.heap.size 29 D) := hW; have Y7 : Aside (B18 W7 w4.heap.size 35 D) := Y6.out.later hb7; have B7 : Aside (Below w1.heap.size w1 W7) := step_below B6.out hb7; clear hW hb7))
  have X7 : Aside (B18 W7 w.heap.size 29 b) := X1.out.later B7.out
  have N7 : W7.heap[w.heap.size + 1]? = some (.cells #[.int .i64 vw, .int .u8 (frm : Int), .int .i64 seq] 31 (0, 0)) := (B7.out.block _ (Array.getElem?_eq_some_iff.1 N1.out).1).trans N1.out
  have n1 : ∀ p : Bw W7, p.w'.cell? ⟨w.heap.size + 1, 1, none⟩ = some (.int .u8 (frm : Int)) := fun p => cell_of_row p.w' _ 1 _ 31 _ ((p.h.block _ (Array.getElem?_eq_some_iff.1 N7).1).trans N7)
  have n2 : ∀ p : Bw W7, p.w'.cell? ⟨w.heap.size + 1, 2, none⟩ = some (.int .i64 seq) := fun p => cell_of_row p.w' _ 2 _ 31 _ ((p.h.block _ (Array.getElem?_eq_some_iff.1 N7).1).trans N7)
  have BZ : Aside (Below w.heap.size w W7) := step_below B1.out B7.out
  clear N7 N1 X1 X2 B1 B2 B3 B4 B5 B6 B7 Y5 Y6
  have hne := Bw.some W7
  refine wp_region_wq (by kernel_rfl) (by kernel_rfl) ?_
  first | (refine wq_bd29 X7.out (.tmp 3) rfl rfl ?_ ?_; (focus (go_simp; done)); dsimp only [Act.put, Array.setIfInBounds]) | (refine wq_step (fun K hK => ?_); go_simp; refine hK _ ?_; clear hK K)
  (refine wq_step (fun K hK => ?_); go_simp; refine hK _ ?_; clear hK K)
  (refine wq_step (fun K hK => ?_); go_simp; refine hK _ ?_; clear hK K)
  (refine wq_step (fun K hK => ?_); go_simp; refine hK _ ?_; clear hK K)
  (refine wq_step (fun K hK => ?_); go_simp; refine hK _ ?_; clear hK K)
  (refine wq_step (fun K hK => ?_); go_simp; first | (refine hK _ ?_; clear hK K) | (apply Exists.intro; refine ⟨fun _ => ?_, hK _ ?_⟩; (go_at_call 18; exact Calls.bw_of (C18.out _)); clear hK K))
  first | (refine wq_bd29 X7.out (.tmp 3) rfl rfl ?_ ?_; (focus (go_simp; done)); dsimp only [Act.put, Array.setIfInBounds]) | (refine wq_step (fun K hK => ?_); go_simp; refine hK _ ?_; clear hK K)
  (refine wq_step (fun K hK => ?_); go_simp; refine hK _ ?_; clear hK K)
  (refine wq_step (fun K hK => ?_); go_simp; refine hK _ ?_; clear hK K)
  (refine wq_step (fun K hK => ?_); go_simp; refine hK _ ?_; clear hK K)
  (refine wq_step (fun K hK => ?_); go_simp; refine hK _ ?_; clear hK K)
  (refine wq_step (fun K hK => ?_); go_simp; first | (refine hK _ ?_; clear hK K) | (apply Exists.intro; refine ⟨fun _ => ?_, hK _ ?_⟩; (go_at_call 19; exact Calls.bw_of (C19.out _)); clear hK K))
  (refine wq_step (fun K hK => ?_); go_simp; refine hK _ ?_; clear hK K)
  (refine wq_step (fun K hK => ?_); go_simp; refine hK _ ?_; clear hK K)
  (refine wq_step (fun K hK => ?_); go_simp; refine hK _ ?_; clear hK K)
  (refine wq_step (fun K hK => ?_); go_simp; refine hK _ ?_; clear hK K)
  (refine wq_step (fun K hK => ?_); go_simp; refine hK _ ?_; clear hK K)
  (refine wq_step (fun K hK => ?_); go_simp; refine hK _ ?_; clear hK K)
  (refine wq_step (fun K hK => ?_); go_simp; refine hK _ ?_; clear hK K)
  (refine wq_step (fun K hK => ?_); go_simp; refine hK _ ?_; clear hK K)
  (refine wq_step (fun K hK => ?_); go_simp; refine hK _ ?_; clear hK K)
  (refine wq_step (fun K hK => ?_); go_simp; refine hK _ ?_; clear hK K)
  (refine wq_step (fun K hK => ?_); go_simp; refine hK _ ?_; clear hK K)
  (refine wq_step (fun K hK => ?_); go_simp; refine hK _ ?_; clear hK K)
  first | (refine wq_bd35 Y7.out (.tmp 11) rfl rfl ?_ ?_; (focus (go_simp; done)); dsimp only [Act.put, Array.setIfInBounds]) | (refine wq_step (fun K hK => ?_); go_simp; refine hK _ ?_; clear hK K)
  first | (refine wq_bd29 Z7.out (.tmp 13) rfl rfl ?_ ?_; (focus (go_simp; done)); dsimp only [Act.put, Array.setIfInBounds]) | (refine wq_step (fun K hK => ?_); go_simp; refine hK _ ?_; clear hK K)
  (refine wq_step (fun K hK => ?_); go_simp; refine hK _ ?_; clear hK K)
  (refine wq_step (fun K hK => ?_); go_simp; refine hK _ ?_; clear hK K)
  (refine wq_step (fun K hK => ?_); go_simp; refine hK _ ?_; clear hK K)
  (refine wq_step (fun K hK => ?_); go_simp; refine hK _ ?_; clear hK K)
  (refine wq_step (fun K hK => ?_); go_simp; refine hK _ ?_; clear hK K)
  (refine wq_step (fun K hK => ?_); go_simp; refine hK _ ?_; clear hK K)
  (refine wq_step (fun K hK => ?_); go_simp; refine hK _ ?_; clear hK K)
  (refine wq_step (fun K hK => ?_); go_simp; refine hK _ ?_; clear hK K)
  refine wq_nil ?_
  intro _ hw'
  obtain ⟨pq, hw''⟩ := hw'
  subst hw''
  go_wp2
  go_ret
  exact ⟨rfl, step_below BZ.out pq.h⟩
end Ps
end Go.Proofs.Ytkphpdejcmkdeaa
