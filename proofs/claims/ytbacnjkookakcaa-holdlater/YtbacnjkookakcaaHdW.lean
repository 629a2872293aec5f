/- The walk of HoldLater. -/
import Derived.Test.YtbacnjkookakcaaHdV
set_option linter.unusedVariables false
namespace Go.Proofs.Ytbacnjkookakcaa
open Go.RowKit
namespace Hd
open Ps

theorem below_step' {w w1 w2 : World} (h : Below w.heap.size w w1) (k : Below w1.heap.size w1 w2) : Below w.heap.size w w2 := h.trans (k.mono h.size)
/-- How far all that a body's past means was told. -/
def upK (f : Nat → Nat) (x : It) (k : Nat) : Bool := (List.range k).all fun i => decide (x.body.past i ≤ f i)
theorem upK_succ (f : Nat → Nat) (x : It) (k : Nat) : upK f x (k + 1) = (upK f x k && decide (x.body.past k ≤ f k)) := by
  unfold upK
  rw [List.range_succ, List.all_append]
  simp
theorem upK_all (f : Nat → Nat) (x : It) : upK f x 16 = belowB x.body.past f := by
  rw [Bool.eq_iff_iff, belowB_iff]
  unfold upK
  simp
theorem later_true {f : Nat → Nat} {x : It} (h : mayI x = true) : readyI f x = (upK f x 16 && decide ((f x.frm : Int) = x.seq)) := by
  unfold readyI
  rw [h, Bool.true_and, upK_all, Bool.and_comm]

set_option maxHeartbeats 16000000 in
set_option maxRecDepth 100000 in
theorem later_walk (f : Nat → Nat) (x : It) (w : World) (hv : ∀ i, i < 16 → f i < 65536) (hx : Fit x) :
    Calls Try.prog 7 #[.agg (vecA f), .agg (itA x)] w fun e w' => e = .returned (.bool true) ∧ Below w.heap.size w w' := by
  have C9 : Aside (∀ W, _) := alive_any
  have C10 : Aside (∀ W, Calls Try.prog 10 #[.agg (itA x)] W fun e w' => e = .returned (.bool (decide ((x.body.text.size : Int) ≤ 500))) ∧ Below W.heap.size W w') := few_any x
  have C13 : Aside (∀ W, Calls Try.prog 13 #[.agg (itA x)] W fun e w' => e = .returned (.agg (itA x)) ∧ Below W.heap.size W w') := theirs_any x
  have C15 : Aside (∀ W, Calls Try.prog 15 #[.agg (vecA f), .agg (itA x)] W fun e w' => e = .returned (.bool (readyI f x)) ∧ Below W.heap.size W w') := fun W => ready15_any f x W hv hx.2.2.2
  have C25 : Aside (∀ W, Calls Try.prog 25 #[.agg (bdA x.body), .int .u8 (x.frm : Int), .int .i64 x.seq] W fun e w' => e = .returned (.bool (mayI x)) ∧ Below W.heap.size W w') := fun W => right_any x.body x.frm x.seq W hx.2.2.2
  have FT : Aside ((∀ i, i < 16 → f i < 65536) ∧ Fit x) := ⟨hv, hx⟩
  obtain ⟨V, hV⟩ : ∃ V, V = (w.alloc (.cells (vecA f) 24)).alloc (.cells (itA x) 31) := ⟨_, rfl⟩
  have X : Aside (V16 V w.heap.size f ∧ I20 V (w.heap.size + 1) 31 x ∧ Below w.heap.size w V) := by
    rw [hV]
    refine ⟨(V16.new w f).alloc _, ?_, ((Below.refl _ w).alloc (Nat.le_refl _) _).alloc (by simp) _⟩
    have := I20.new (w.alloc (.cells (vecA f) 24)) 31 x
    rwa [World.size_alloc] at this
  clear hv hx
  have A9 : True := trivial
  cases hf : decide ((x.body.text.size : Int) ≤ 500) with
  | false =>
    rw [hf] at C10
    clear hf
    go_enter Try.func7, Try.ntmps7
    go_wp2_with fail
    rw [← hV]
    clear hV
    go_wp2_with (first
      | (go_at_call 9; (with_reducible refine (C9.out _).mono ?_); rintro e w1 ⟨rfl, hb⟩; have LS : Aside (V16 w1 w.heap.size f ∧ I20 w1 (w.heap.size + 1) 31 x ∧ Below w.heap.size w w1) := ⟨X.out.1.later hb, X.out.2.1.later hb, below_step' X.out.2.2 hb⟩; clear hb)
      | (with_reducible refine wpList_it31 LS.out.2.1 rfl _ rfl rfl ?_)
      | (go_at_call 10; (with_reducible refine (C10.out _).mono ?_); rintro e w10 ⟨rfl, hb⟩; have B : Aside (Below w.heap.size w w10) := below_step' LS.out.2.2 hb; clear hb))
    go_ret
    exact ⟨rfl, B.out⟩
  | true =>
    rw [hf] at C10
    clear hf
    cases hm : mayI x with
    | false =>
      have hr : readyI f x = false := by unfold readyI; rw [hm]; rfl
      rw [hm] at C25
      rw [hr] at C15
      clear hm hr
      go_enter Try.func7, Try.ntmps7
      go_wp2_with fail
      rw [← hV]
      clear hV
      go_wp2_with (first
        | (go_at_call 9; (with_reducible refine (C9.out _).mono ?_); rintro e w1 ⟨rfl, hb⟩; have LS : Aside (V16 w1 w.heap.size f ∧ I20 w1 (w.heap.size + 1) 31 x ∧ Below w.heap.size w w1) := ⟨X.out.1.later hb, X.out.2.1.later hb, below_step' X.out.2.2 hb⟩; clear hb)
        | (with_reducible refine wpList_it31 LS.out.2.1 rfl _ rfl rfl ?_)
        | (go_at_call 10; (with_reducible refine (C10.out _).mono ?_); rintro e w10 ⟨rfl, hb⟩; replace LS : Aside (V16 w10 w.heap.size f ∧ I20 w10 (w.heap.size + 1) 31 x ∧ Below w.heap.size w w10) := ⟨LS.out.1.later hb, LS.out.2.1.later hb, below_step' LS.out.2.2 hb⟩; clear hb; have c0 := LS.out.2.1.frm; have c1 := LS.out.2.1.seq))
      have hne := Bw.some w10
      refine wp_region_wq (by kernel_rfl) (by kernel_rfl) ?_
      repeat (first
        | (refine wq_vec LS.out.1 (.tmp 2) rfl rfl (by go_simp) ?_; dsimp only [Act.put, Array.setIfInBounds])
        | (refine wq_it31 LS.out.2.1 (.tmp 3) rfl rfl (by go_simp) ?_; dsimp only [Act.put, Array.setIfInBounds])
        | (refine wq_step (fun K hK => ?_); go_simp; first
          | (refine hK _ ?_; clear hK K)
          | (apply Exists.intro; refine ⟨fun _ => ?_, hK _ ?_⟩; (first | (go_at_call 13; with_reducible exact Calls.bw_of (C13.out _)) | (go_at_call 15; with_reducible exact Calls.bw_of (C15.out _))); clear hK K)))
      refine wq_nil ?_
      intro _ hw'
      obtain ⟨pq, hw''⟩ := hw'
      subst hw''
      have LS5 : Aside (V16 pq.w' w.heap.size f ∧ I20 pq.w' (w.heap.size + 1) 31 x ∧ Below w.heap.size w pq.w') := ⟨LS.out.1.later pq.h, LS.out.2.1.later pq.h, below_step' LS.out.2.2 pq.h⟩
      generalize pq.w' = w5 at LS5 ⊢
      clear LS c0 c1
      have LS := LS5
      clear LS5
      have c0 := LS.out.2.1.frm
      have c1 := LS.out.2.1.seq

      go_wp2_with (first
        | (with_reducible refine wpList_body29 LS.out.2.1 rfl _ rfl rfl ?_)
        | (go_at_call 25; (with_reducible refine (C25.out _).mono ?_); rintro e w25 ⟨rfl, hb⟩; have B : Aside (Below w.heap.size w w25) := below_step' LS.out.2.2 hb; clear hb))
      go_ret
      exact ⟨rfl, B.out⟩
    | true =>
      have hr := later_true (f := f) hm
      have hfr := (may_seq hm).2
      rw [hm] at C25
      rw [hr] at C15
      clear hm hr
      go_enter Try.func7, Try.ntmps7
      go_wp2_with fail
      rw [← hV]
      clear hV
      go_wp2_with (first
        | (go_at_call 9; (with_reducible refine (C9.out _).mono ?_); rintro e w1 ⟨rfl, hb⟩; have LS : Aside (V16 w1 w.heap.size f ∧ I20 w1 (w.heap.size + 1) 31 x ∧ Below w.heap.size w w1) := ⟨X.out.1.later hb, X.out.2.1.later hb, below_step' X.out.2.2 hb⟩; clear hb)
        | (with_reducible refine wpList_it31 LS.out.2.1 rfl _ rfl rfl ?_)
        | (go_at_call 10; (with_reducible refine (C10.out _).mono ?_); rintro e w10 ⟨rfl, hb⟩; replace LS : Aside (V16 w10 w.heap.size f ∧ I20 w10 (w.heap.size + 1) 31 x ∧ Below w.heap.size w w10) := ⟨LS.out.1.later hb, LS.out.2.1.later hb, below_step' LS.out.2.2 hb⟩; clear hb; have c0 := LS.out.2.1.frm; have c1 := LS.out.2.1.seq))
      have hne := Bw.some w10
      refine wp_region_wq (by kernel_rfl) (by kernel_rfl) ?_
      repeat (first
        | (refine wq_vec LS.out.1 (.tmp 2) rfl rfl (by go_simp) ?_; dsimp only [Act.put, Array.setIfInBounds])
        | (refine wq_it31 LS.out.2.1 (.tmp 3) rfl rfl (by go_simp) ?_; dsimp only [Act.put, Array.setIfInBounds])
        | (refine wq_step (fun K hK => ?_); go_simp; first
          | (refine hK _ ?_; clear hK K)
          | (apply Exists.intro; refine ⟨fun _ => ?_, hK _ ?_⟩; (first | (go_at_call 13; with_reducible exact Calls.bw_of (C13.out _)) | (go_at_call 15; with_reducible exact Calls.bw_of (C15.out _))); clear hK K)))
      refine wq_nil ?_
      intro _ hw'
      obtain ⟨pq, hw''⟩ := hw'
      subst hw''
      have LS5 : Aside (V16 pq.w' w.heap.size f ∧ I20 pq.w' (w.heap.size + 1) 31 x ∧ Below w.heap.size w pq.w') := ⟨LS.out.1.later pq.h, LS.out.2.1.later pq.h, below_step' LS.out.2.2 pq.h⟩
      generalize pq.w' = w5 at LS5 ⊢
      clear LS c0 c1
      have LS := LS5
      clear LS5
      have c0 := LS.out.2.1.frm
      have c1 := LS.out.2.1.seq

      generalize hrd : (upK f x 16 && decide ((f x.frm : Int) = x.seq)) = rd
      have RD : Aside ((upK f x 16 && decide ((f x.frm : Int) = x.seq)) = rd) := hrd
      clear hrd
      go_wp2_with (first
        | (with_reducible refine wpList_body29 LS.out.2.1 rfl _ rfl rfl ?_)
        | (go_at_call 25; (with_reducible refine (C25.out _).mono ?_); rintro e w25 ⟨rfl, hb⟩; replace LS : Aside (V16 w25 w.heap.size f ∧ I20 w25 (w.heap.size + 1) 31 x ∧ Below w.heap.size w w25) := ⟨LS.out.1.later hb, LS.out.2.1.later hb, below_step' LS.out.2.2 hb⟩; clear hb c0 c1))
      go_loopw [6, 7, 27] (fun t6 _ i wr => ∃ k : Nat, k ≤ 16 ∧ i = .int .i64 (k : Nat) ∧ t6 = .bool (upK f x k) ∧ Aside (V16 wr w.heap.size f ∧ I20 wr (w.heap.size + 1) 31 x ∧ Below w.heap.size w wr)) (fun _ _ i _ => 16 - (intOf i).toNat)
      case atStart => exact ⟨0, by omega, rfl, rfl, LS⟩
      case round =>
        obtain ⟨k, hk, rfl, rfl, HC⟩ := hrel
        by_cases hlt : k < 16
        · have t1 : (k : Int) < 16 := by omega
          have t0 : (0 : Int) ≤ (k : Int) := by omega
          have US := upK_succ f x k
          have p0 : ∀ p : Bw wr, p.w'.cell? ⟨w.heap.size + 1, 3 + k, none⟩ = some (.int .u16 ((x.body.past k : Nat) : Int)) := fun p => (HC.out.2.1.later p.h).past hlt
          have p1 : ∀ p : Bw wr, p.w'.cell? ⟨w.heap.size, k, none⟩ = some (.int .u16 ((f k : Nat) : Int)) := fun p => (HC.out.1.later p.h).at_ hlt
          have NX : ∀ p : Bw wr, Aside (V16 p.w' w.heap.size f ∧ I20 p.w' (w.heap.size + 1) 31 x ∧ Below w.heap.size w p.w') := fun p => ⟨HC.out.1.later p.h, HC.out.2.1.later p.h, below_step' HC.out.2.2 p.h⟩
          generalize x.body.past k = pk at p0 US
          generalize f k = fk at p1 US
          cases hu : upK f x k with
          | false =>
            rw [hu, Bool.false_and] at US
            clear hu
            go_wp2_with fail
            have hne := Bw.some wr
            refine wp_region_wq (by kernel_rfl) (by kernel_rfl) ?_
            repeat (refine wq_step (fun K hK => ?_); go_simp; first
              | (refine hK _ ?_; clear hK K)
              | (apply Exists.intro; refine ⟨fun _ => ?_, hK _ ?_⟩; fail; clear hK K))
            refine wq_nil ?_
            intro _ hw'
            obtain ⟨pq, hw''⟩ := hw'
            subst hw''
            have NX := NX pq
            clear p0 p1
            go_wp2
            go_roundw
            case rel => exact ⟨k + 1, by omega, by go_num, by rw [US], NX⟩
            case measure => simp [intOf]; omega
          | true =>
            rw [hu, Bool.true_and] at US
            clear hu
            by_cases hle : pk ≤ fk
            · have l1 : (pk : Int) ≤ (fk : Int) := by omega
              rw [decide_eq_true hle] at US
              go_wp2_with fail
              have hne := Bw.some wr
              refine wp_region_wq (by kernel_rfl) (by kernel_rfl) ?_
              repeat (refine wq_step (fun K hK => ?_); go_simp; first
                | (refine hK _ ?_; clear hK K)
                | (apply Exists.intro; refine ⟨fun _ => ?_, hK _ ?_⟩; fail; clear hK K))
              refine wq_nil ?_
              intro _ hw'
              obtain ⟨pq, hw''⟩ := hw'
              subst hw''
              have NX := NX pq
              clear p0 p1
              go_wp2
              go_roundw
              case rel => exact ⟨k + 1, by omega, by go_num, by rw [US], NX⟩
              case measure => simp [intOf]; omega
            · have l1 : ¬ (pk : Int) ≤ (fk : Int) := by omega
              have l2 : decide (pk ≤ fk) = false := decide_eq_false hle
              rw [decide_eq_false hle] at US
              go_wp2_with fail
              have hne := Bw.some wr
              refine wp_region_wq (by kernel_rfl) (by kernel_rfl) ?_
              repeat (refine wq_step (fun K hK => ?_); go_simp; first
                | (refine hK _ ?_; clear hK K)
                | (apply Exists.intro; refine ⟨fun _ => ?_, hK _ ?_⟩; fail; clear hK K))
              refine wq_nil ?_
              intro _ hw'
              obtain ⟨pq, hw''⟩ := hw'
              subst hw''
              have NX := NX pq
              clear p0 p1
              go_wp2
              go_roundw
              case rel => exact ⟨k + 1, by omega, by go_num, by rw [US], NX⟩
              case measure => simp [intOf]; omega
        · obtain rfl : k = 16 := by omega
          have p0 : ∀ p : Bw wr, p.w'.cell? ⟨w.heap.size + 1, 0, none⟩ = some (.int .u8 (x.frm : Int)) := fun p => (HC.out.2.1.later p.h).frm
          have p1 : ∀ p : Bw wr, p.w'.cell? ⟨w.heap.size + 1, 1, none⟩ = some (.int .i64 x.seq) := fun p => (HC.out.2.1.later p.h).seq
          have p2 : ∀ p : Bw wr, p.w'.cell? ⟨w.heap.size, x.frm, none⟩ = some (.int .u16 ((f x.frm : Nat) : Int)) := fun p => (HC.out.1.later p.h).at_ hfr
          have BB : ∀ p : Bw wr, Aside (Below w.heap.size w p.w') := fun p => below_step' HC.out.2.2 p.h
          have hq := FT.out.1 x.frm hfr
          have i1 : (0 : Int) ≤ (x.frm : Int) := by omega
          have i2 : (x.frm : Int) < 16 := by omega
          have ht : Int.tmod (x.frm : Int) 16 = (x.frm : Int) := Int.tmod_eq_of_lt i1 i2
          have m1 : wrap64 ((f x.frm : Nat) : Int) = ((f x.frm : Nat) : Int) := IntWalk.wrap64_in _ ⟨by omega, by omega⟩
          have m2 : IntKind.i64.wrap ((f x.frm : Nat) : Int) = ((f x.frm : Nat) : Int) := by rw [IntWalk.i64_left]; exact m1
          have RR := RD.out
          clear RD hq
          generalize upK f x 16 = u at RR
          generalize f x.frm = q at p2 m1 m2 RR
          generalize x.seq = sq at p1 RR
          cases u with
          | false =>
            rw [Bool.false_and] at RR
            subst RR
            go_wp2_with fail
            have hne := Bw.some wr
            refine wp_region_wq (by kernel_rfl) (by kernel_rfl) ?_
            repeat (refine wq_step (fun K hK => ?_); go_simp; first
              | (refine hK _ ?_; clear hK K)
              | (apply Exists.intro; refine ⟨fun _ => ?_, hK _ ?_⟩; fail; clear hK K))
            refine wq_nil ?_
            intro _ hw'
            obtain ⟨pq, hw''⟩ := hw'
            subst hw''
            have B := BB pq
            go_wp2
            go_ret
            exact ⟨rfl, B.out⟩
          | true =>
            rw [Bool.true_and] at RR
            by_cases he : (q : Int) = sq
            · rw [decide_eq_true he] at RR
              subst RR
              subst he
              go_wp2_with fail
              have hne := Bw.some wr
              refine wp_region_wq (by kernel_rfl) (by kernel_rfl) ?_
              repeat (refine wq_step (fun K hK => ?_); go_simp; first
                | (refine hK _ ?_; clear hK K)
                | (apply Exists.intro; refine ⟨fun _ => ?_, hK _ ?_⟩; fail; clear hK K))
              refine wq_nil ?_
              intro _ hw'
              obtain ⟨pq, hw''⟩ := hw'
              subst hw''
              have B := BB pq
              go_wp2
              go_ret
              exact ⟨rfl, B.out⟩
            · rw [decide_eq_false he] at RR
              subst RR
              have he2 : ((q : Int) == sq) = false := by simp [he]
              go_wp2_with fail
              have hne := Bw.some wr
              refine wp_region_wq (by kernel_rfl) (by kernel_rfl) ?_
              repeat (refine wq_step (fun K hK => ?_); go_simp; first
                | (refine hK _ ?_; clear hK K)
                | (apply Exists.intro; refine ⟨fun _ => ?_, hK _ ?_⟩; fail; clear hK K))
              refine wq_nil ?_
              intro _ hw'
              obtain ⟨pq, hw''⟩ := hw'
              subst hw''
              have B := BB pq
              go_wp2
              go_ret
              exact ⟨rfl, B.out⟩
end Hd
end Go.Proofs.Ytbacnjkookakcaa
