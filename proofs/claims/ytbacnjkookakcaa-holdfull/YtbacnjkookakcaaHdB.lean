/- Which items are ready: the program's answer and the document's; the same item as the program's. -/
import Derived.Test.YtbacnjkookakcaaHdA
set_option linter.unusedVariables false
namespace Go.Proofs.Ytbacnjkookakcaa
open Go.RowKit
namespace Hd
open Ps

def readyI (f : Nat → Nat) (x : It) : Bool := mayI x && decide ((f x.frm : Int) = x.seq) && belowB x.body.past f
theorem ready_may {f : Nat → Nat} {x : It} (h : readyI f x = true) : mayI x = true ∧ (f x.frm : Int) = x.seq ∧ belowB x.body.past f = true := by
  unfold readyI at h
  simp only [Bool.and_eq_true, decide_eq_true_eq] at h; exact ⟨h.1.1, h.1.2, h.2⟩

set_option maxHeartbeats 4000000 in
set_option maxRecDepth 100000 in
/-- What the program's Ready gives. -/
theorem ready15_any (f : Nat → Nat) (x : It) (w : World) (hf : ∀ i, i < 16 → f i < 65536) (hv : Small x.body) :
    Calls Try.prog 15 #[.agg (vecA f), .agg (itA x)] w fun e w' => e = .returned (.bool (readyI f x)) ∧ Below w.heap.size w w' := by
  have CM : Aside (∀ W, Calls Try.prog 27 #[.agg (itA x)] W fun e w' => e = .returned (.bool (mayI x)) ∧ Below W.heap.size W w') := fun W => may27_any x W hv
  have CB : Aside (∀ W, Calls Try.prog 35 #[.agg (vecA x.body.past), .agg (vecA f)] W fun e w' => e = .returned (.bool (belowB x.body.past f)) ∧ Below W.heap.size W w') := fun W => below_any x.body.past f W
  obtain ⟨V, hV⟩ : ∃ V, V = (w.alloc (.cells (vecA f) 24)).alloc (.cells (itA x) 43) := ⟨_, rfl⟩
  have X : Aside (V16 V w.heap.size f ∧ I20 V (w.heap.size + 1) 43 x ∧ Below w.heap.size w V) := by
    rw [hV]
    refine ⟨(V16.new w f).alloc _, ?_, ((Below.refl _ w).alloc (Nat.le_refl _) _).alloc (by simp) _⟩
    have := I20.new (w.alloc (.cells (vecA f) 24)) 43 x
    simpa only [World.size_alloc] using this
  have RR : readyI f x = (mayI x && decide ((f x.frm : Int) = x.seq) && belowB x.body.past f) := rfl
  have FR : Aside (mayI x = true → x.frm < 16) := may_frm
  cases hm : mayI x with
  | false =>
    rw [RR, hm, Bool.false_and, Bool.false_and]
    rw [hm] at CM
    clear RR FR hm
    go_enter Try.func15, Try.ntmps15
    go_wp2_with fail
    rw [← hV]
    clear hV
    have hne := Bw.some V
    refine wp_region_wq (by kernel_rfl) (by kernel_rfl) ?_
    repeat (first
      | (refine wq_it43 X.out.2.1 (.tmp 3) rfl rfl (by go_simp) ?_; dsimp only [Act.put, Array.setIfInBounds])
      | (refine wq_step (fun K hK => ?_); go_simp; first
        | (refine hK _ ?_; clear hK K)
        | (apply Exists.intro; refine ⟨fun _ => ?_, hK _ ?_⟩; (first | (go_at_call 27; exact Calls.bw_of (CM.out _))); clear hK K)))
    refine wq_nil ?_
    intro _ hw'
    obtain ⟨pq, hw''⟩ := hw'
    subst hw''
    go_wp2
    go_ret
    exact ⟨rfl, step_below X.out.2.2 pq.h⟩
  | true =>
    have hx := FR.out hm
    have p0 : ∀ p : Bw V, p.w'.cell? ⟨w.heap.size + 1, 0, none⟩ = some (.int .u8 (x.frm : Int)) := fun p => (X.out.2.1.later p.h).frm
    have p1 : ∀ p : Bw V, p.w'.cell? ⟨w.heap.size + 1, 1, none⟩ = some (.int .i64 x.seq) := fun p => (X.out.2.1.later p.h).seq
    have p2 : ∀ p : Bw V, p.w'.cell? ⟨w.heap.size, x.frm, none⟩ = some (.int .u16 ((f x.frm : Nat) : Int)) := fun p => (X.out.1.later p.h).at_ hx
    have h0 : (0 : Int) ≤ (x.frm : Int) := by omega
    have h1 : (x.frm : Int) < 16 := by omega
    have hq := hf x.frm hx
    rw [RR, hm, Bool.true_and]
    rw [hm] at CM
    have hw : wrap64 ((f x.frm : Nat) : Int) = ((f x.frm : Nat) : Int) := by unfold wrap64; omega
    have hw2 : IntKind.i64.wrap ((f x.frm : Nat) : Int) = ((f x.frm : Nat) : Int) := by rw [IntKind.wrap_i64]; omega
    generalize f x.frm = q at p2 hw hw2 ⊢
    generalize x.frm = fr at p0 p2 h0 h1
    generalize x.seq = sq at p1 ⊢
    clear RR FR hm hq hx hf
    by_cases he : (q : Int) = sq
    · have d1 : ((q : Int) == sq) = true := by simp [he]
      rw [decide_eq_true he, Bool.true_and]
      generalize belowB x.body.past f = r at CB ⊢
      subst he
      go_enter Try.func15, Try.ntmps15
      go_wp2_with fail
      rw [← hV]
      clear hV
      have hne := Bw.some V
      refine wp_region_wq (by kernel_rfl) (by kernel_rfl) ?_
      repeat (first
        | (refine wq_it43 X.out.2.1 (.tmp 3) rfl rfl (by go_simp) ?_; dsimp only [Act.put, Array.setIfInBounds])
        | (refine wq_vec X.out.1 (.tmp 2) rfl rfl (by go_simp) ?_; dsimp only [Act.put, Array.setIfInBounds])
        | (refine wq_vec3 X.out.2.1 (.tmp 19) rfl rfl (by go_simp) ?_; dsimp only [Act.put, Array.setIfInBounds])
        | (refine wq_step (fun K hK => ?_); go_simp; first
          | (refine hK _ ?_; clear hK K)
          | (apply Exists.intro; refine ⟨fun _ => ?_, hK _ ?_⟩; (first | (go_at_call 27; exact Calls.bw_of (CM.out _)) | (go_at_call 35; exact Calls.bw_of (CB.out _))); clear hK K)))
      refine wq_nil ?_
      intro _ hw'
      obtain ⟨pq, hw''⟩ := hw'
      subst hw''
      go_wp2
      go_ret
      exact ⟨rfl, step_below X.out.2.2 pq.h⟩
    · have d1 : ((q : Int) == sq) = false := by simp [he]
      rw [decide_eq_false he, Bool.false_and]
      clear he
      go_enter Try.func15, Try.ntmps15
      go_wp2_with fail
      rw [← hV]
      clear hV
      have hne := Bw.some V
      refine wp_region_wq (by kernel_rfl) (by kernel_rfl) ?_
      repeat (first
        | (refine wq_it43 X.out.2.1 (.tmp 3) rfl rfl (by go_simp) ?_; dsimp only [Act.put, Array.setIfInBounds])
        | (refine wq_step (fun K hK => ?_); go_simp; first
          | (refine hK _ ?_; clear hK K)
          | (apply Exists.intro; refine ⟨fun _ => ?_, hK _ ?_⟩; (first | (go_at_call 27; exact Calls.bw_of (CM.out _))); clear hK K)))
      refine wq_nil ?_
      intro _ hw'
      obtain ⟨pq, hw''⟩ := hw'
      subst hw''
      go_wp2
      go_ret
      exact ⟨rfl, step_below X.out.2.2 pq.h⟩

set_option maxHeartbeats 4000000 in
set_option maxRecDepth 100000 in
/-- What the document's Ready gives. -/
theorem ready16_any (f : Nat → Nat) (x : It) (w : World) (hf : ∀ i, i < 16 → f i < 65536) (hv : Small x.body) :
    Calls Try.prog 16 #[.agg (vecA f), .agg (itA x)] w fun e w' => e = .returned (.bool (readyI f x)) ∧ Below w.heap.size w w' := by
  have CM : Aside (∀ W, Calls Try.prog 31 #[.agg (itA x)] W fun e w' => e = .returned (.bool (mayI x)) ∧ Below W.heap.size W w') := fun W => may31_any x W hv
  have CB : Aside (∀ W, Calls Try.prog 23 #[.agg (vecA x.body.past), .agg (vecA f)] W fun e w' => e = .returned (.bool (belowB x.body.past f)) ∧ Below W.heap.size W w') := fun W => rbelow_any x.body.past f W
  obtain ⟨V, hV⟩ : ∃ V, V = (w.alloc (.cells (vecA f) 24)).alloc (.cells (itA x) 31) := ⟨_, rfl⟩
  have X : Aside (V16 V w.heap.size f ∧ I20 V (w.heap.size + 1) 31 x ∧ Below w.heap.size w V) := by
    rw [hV]
    refine ⟨(V16.new w f).alloc _, ?_, ((Below.refl _ w).alloc (Nat.le_refl _) _).alloc (by simp) _⟩
    have := I20.new (w.alloc (.cells (vecA f) 24)) 31 x
    simpa only [World.size_alloc] using this
  have RR : readyI f x = (mayI x && decide ((f x.frm : Int) = x.seq) && belowB x.body.past f) := rfl
  have FR : Aside (mayI x = true → x.frm < 16) := may_frm
  cases hm : mayI x with
  | false =>
    rw [RR, hm, Bool.false_and, Bool.false_and]
    rw [hm] at CM
    clear RR FR hm
    go_enter Try.func16, Try.ntmps16
    go_wp2_with fail
    rw [← hV]
    clear hV
    have hne := Bw.some V
    refine wp_region_wq (by kernel_rfl) (by kernel_rfl) ?_
    repeat (first
      | (refine wq_it31 X.out.2.1 (.tmp 3) rfl rfl (by go_simp) ?_; dsimp only [Act.put, Array.setIfInBounds])
      | (refine wq_step (fun K hK => ?_); go_simp; first
        | (refine hK _ ?_; clear hK K)
        | (apply Exists.intro; refine ⟨fun _ => ?_, hK _ ?_⟩; (first | (go_at_call 31; exact Calls.bw_of (CM.out _))); clear hK K)))
    refine wq_nil ?_
    intro _ hw'
    obtain ⟨pq, hw''⟩ := hw'
    subst hw''
    go_wp2
    go_ret
    exact ⟨rfl, step_below X.out.2.2 pq.h⟩
  | true =>
    have hx := FR.out hm
    have p0 : ∀ p : Bw V, p.w'.cell? ⟨w.heap.size + 1, 0, none⟩ = some (.int .u8 (x.frm : Int)) := fun p => (X.out.2.1.later p.h).frm
    have p1 : ∀ p : Bw V, p.w'.cell? ⟨w.heap.size + 1, 1, none⟩ = some (.int .i64 x.seq) := fun p => (X.out.2.1.later p.h).seq
    have p2 : ∀ p : Bw V, p.w'.cell? ⟨w.heap.size, x.frm, none⟩ = some (.int .u16 ((f x.frm : Nat) : Int)) := fun p => (X.out.1.later p.h).at_ hx
    have h0 : (0 : Int) ≤ (x.frm : Int) := by omega
    have h1 : (x.frm : Int) < 16 := by omega
    have hq := hf x.frm hx
    rw [RR, hm, Bool.true_and]
    rw [hm] at CM
    have hw : wrap64 ((f x.frm : Nat) : Int) = ((f x.frm : Nat) : Int) := by unfold wrap64; omega
    have hw2 : IntKind.i64.wrap ((f x.frm : Nat) : Int) = ((f x.frm : Nat) : Int) := by rw [IntKind.wrap_i64]; omega
    generalize f x.frm = q at p2 hw hw2 ⊢
    generalize x.frm = fr at p0 p2 h0 h1
    generalize x.seq = sq at p1 ⊢
    clear RR FR hm hq hx hf
    by_cases he : (q : Int) = sq
    · have d1 : ((q : Int) == sq) = true := by simp [he]
      rw [decide_eq_true he, Bool.true_and]
      generalize belowB x.body.past f = r at CB ⊢
      subst he
      go_enter Try.func16, Try.ntmps16
      go_wp2_with fail
      rw [← hV]
      clear hV
      have hne := Bw.some V
      refine wp_region_wq (by kernel_rfl) (by kernel_rfl) ?_
      repeat (first
        | (refine wq_it31 X.out.2.1 (.tmp 3) rfl rfl (by go_simp) ?_; dsimp only [Act.put, Array.setIfInBounds])
        | (refine wq_vec X.out.1 (.tmp 2) rfl rfl (by go_simp) ?_; dsimp only [Act.put, Array.setIfInBounds])
        | (refine wq_vec3 X.out.2.1 (.tmp 19) rfl rfl (by go_simp) ?_; dsimp only [Act.put, Array.setIfInBounds])
        | (refine wq_step (fun K hK => ?_); go_simp; first
          | (refine hK _ ?_; clear hK K)
          | (apply Exists.intro; refine ⟨fun _ => ?_, hK _ ?_⟩; (first | (go_at_call 31; exact Calls.bw_of (CM.out _)) | (go_at_call 23; exact Calls.bw_of (CB.out _))); clear hK K)))
      refine wq_nil ?_
      intro _ hw'
      obtain ⟨pq, hw''⟩ := hw'
      subst hw''
      go_wp2
      go_ret
      exact ⟨rfl, step_below X.out.2.2 pq.h⟩
    · have d1 : ((q : Int) == sq) = false := by simp [he]
      rw [decide_eq_false he, Bool.false_and]
      clear he
      go_enter Try.func16, Try.ntmps16
      go_wp2_with fail
      rw [← hV]
      clear hV
      have hne := Bw.some V
      refine wp_region_wq (by kernel_rfl) (by kernel_rfl) ?_
      repeat (first
        | (refine wq_it31 X.out.2.1 (.tmp 3) rfl rfl (by go_simp) ?_; dsimp only [Act.put, Array.setIfInBounds])
        | (refine wq_step (fun K hK => ?_); go_simp; first
          | (refine hK _ ?_; clear hK K)
          | (apply Exists.intro; refine ⟨fun _ => ?_, hK _ ?_⟩; (first | (go_at_call 31; exact Calls.bw_of (CM.out _))); clear hK K)))
      refine wq_nil ?_
      intro _ hw'
      obtain ⟨pq, hw''⟩ := hw'
      subst hw''
      go_wp2
      go_ret
      exact ⟨rfl, step_below X.out.2.2 pq.h⟩

/-- A value built of others, as one step of a plain region. -/
theorem wpList_build3 {P : Program} {w : World} {ops : Array Oper} {rest : List Oper} {o : Oper} {a : Act} {Q : Exit → Act → World → Prop} (hg : o.guard = none) (t : TypeId) (p0 p1 p2 : Operand) (ho : o.op = .build t #[(0, p0), (1, p1), (2, p2)]) (v0 v1 v2 v : Value)
    (hr : (Instr.build t #[(0, v0), (1, v1), (2, v2)]).run P w = .ok v w) (h0 : a.eval p0 = v0) (h1 : a.eval p1 = v1) (h2 : a.eval p2 = v2) (h : wpList P ops Q rest (a.put o.dst v) w) : wpList P ops Q (o :: rest) a w := by
  refine wpList_plain hg fun K hK => ?_
  unfold Oper.wp
  have : (execOp a.eval o).run P w = .ok (.value v) w := by
    generalize a.eval = ev at h0 h1 h2 ⊢
    generalize hB : Instr.build t #[(0, v0), (1, v1), (2, v2)] = B at hr
    have hB' : Instr.build t ((#[(0, p0), (1, p1), (2, p2)] : Array (Nat × Operand)).map fun x => match x with | (i, x) => (i, ev x)) = B := by
      rw [← hB, ← h0, ← h1, ← h2]; congr 1; simp
    simp only [execOp, ho]
    rw [hB']
    simp [hr]
  rw [this]
  exact hK _ _ h
theorem I20.zeroT (w : World) (t : TypeId) : I20 (w.alloc (.cells #[.int .u8 0, .int .i64 0, .int .i64 0, .int .u16 0, .int .u16 0, .int .u16 0, .int .u16 0, .int .u16 0, .int .u16 0, .int .u16 0, .int .u16 0, .int .u16 0, .int .u16 0, .int .u16 0, .int .u16 0, .int .u16 0, .int .u16 0, .int .u16 0, .int .u16 0, .string ⟨#[]⟩] t)) w.heap.size t ⟨0, 0, ⟨0, fun _ => 0, ⟨#[]⟩⟩⟩ := I20.new w t ⟨0, 0, ⟨0, fun _ => 0, ⟨#[]⟩⟩⟩
theorem wpList_it_store {w : World} {ops : Array Oper} {rest : List Oper} {o : Oper} {a : Act} {Q : Exit → Act → World → Prop} {b : Nat} {x y : It} (h : I20 w b 43 x) (hg : o.guard = none) (p z : Operand) (ho : o.op = .store 43 p z)
    (hp : a.eval p = .pointer (some ⟨b, 0, none⟩)) (hx : a.eval z = .agg (itA y)) (hn : wpList Try.prog ops Q rest (a.put o.dst undef) (w.setCells b 0 (itA y).toList)) : wpList Try.prog ops Q (o :: rest) a w := by
  refine wpList_store hg 43 20 p z ho (Try.sizeOf43 w) (itA y).toList rfl b 0 hp (by simpa using hx) (fun j hj => ?_) (fun j _ => h.frozen _) (itA_one y) hn
  have hj : j < 20 := hj
  rw [Nat.zero_add, cell_of_row w b j _ 43 _ h, Array.getElem?_eq_getElem (show j < (itA x).size from hj)]; rfl
theorem build43 (x : It) (w : World) : (Instr.build 43 #[(0, .int .u8 (x.frm : Int)), (1, .int .i64 x.seq), (2, .agg (bdA x.body))]).run Try.prog w = .ok (.agg (itA x)) w := run_build w 43 _ _ (by kernel_rfl)
set_option maxHeartbeats 2000000 in
set_option maxRecDepth 100000 in
/-- What theirs gives: the same item. -/
theorem theirs_any (x : It) (w : World) :
    Calls Try.prog 13 #[.agg (itA x)] w fun e w' => e = .returned (.agg (itA x)) ∧ Below w.heap.size w w' := by
  obtain ⟨V, hV⟩ : ∃ V, V = (w.alloc (.cells (itA x) 31)).alloc (.cells #[.int .u8 0, .int .i64 0, .int .i64 0, .int .u16 0, .int .u16 0, .int .u16 0, .int .u16 0, .int .u16 0, .int .u16 0, .int .u16 0, .int .u16 0, .int .u16 0, .int .u16 0, .int .u16 0, .int .u16 0, .int .u16 0, .int .u16 0, .int .u16 0, .int .u16 0, .string ⟨#[]⟩] 43) := ⟨_, rfl⟩
  have X : Aside (I20 V w.heap.size 31 x ∧ I20 V (w.heap.size + 1) 43 ⟨0, 0, ⟨0, fun _ => 0, ⟨#[]⟩⟩⟩ ∧ Below w.heap.size w V) := by
    rw [hV]
    refine ⟨(I20.new w 31 x).alloc _, ?_, ((Below.refl _ w).alloc (Nat.le_refl _) _).alloc (by simp) _⟩
    have := I20.zeroT (w.alloc (.cells (itA x) 31)) 43
    simpa only [World.size_alloc] using this
  have c0 := X.out.1.frm
  have c1 := X.out.1.seq
  rw [hV] at c0 c1
  have X1 : Aside (I20 ((w.alloc (.cells (itA x) 31)).alloc (.cells #[.int .u8 0, .int .i64 0, .int .i64 0, .int .u16 0, .int .u16 0, .int .u16 0, .int .u16 0, .int .u16 0, .int .u16 0, .int .u16 0, .int .u16 0, .int .u16 0, .int .u16 0, .int .u16 0, .int .u16 0, .int .u16 0, .int .u16 0, .int .u16 0, .int .u16 0, .string ⟨#[]⟩] 43)) w.heap.size 31 x) := by rw [← hV]; exact X.out.1
  have X2 : Aside (I20 ((w.alloc (.cells (itA x) 31)).alloc (.cells #[.int .u8 0, .int .i64 0, .int .i64 0, .int .u16 0, .int .u16 0, .int .u16 0, .int .u16 0, .int .u16 0, .int .u16 0, .int .u16 0, .int .u16 0, .int .u16 0, .int .u16 0, .int .u16 0, .int .u16 0, .int .u16 0, .int .u16 0, .int .u16 0, .int .u16 0, .string ⟨#[]⟩] 43)) (w.heap.size + 1) 43 ⟨0, 0, ⟨0, fun _ => 0, ⟨#[]⟩⟩⟩) := by rw [← hV]; exact X.out.2.1
  go_enter Try.func13, Try.ntmps13
  go_wp2_with (first
    | (with_reducible refine wpList_body29 X1.out rfl _ rfl rfl ?_)
    | (with_reducible refine wpList_build3 rfl 43 _ _ _ rfl _ _ _ (.agg (itA x)) (build43 x _) rfl rfl rfl ?_)
    | (with_reducible refine wpList_it_store X2.out rfl _ _ rfl rfl rfl ?_))
  rw [← hV]
  have Z := X.out.2.1.whole x
  exact bodyPost_ret (results_cell rfl rfl (Try.isAgg43 _) (Try.sizeOf43 _) (load_it Z)) rfl ⟨rfl, below_cells _ _ X.out.2.2 (by omega)⟩
end Hd
end Go.Proofs.Ytbacnjkookakcaa
