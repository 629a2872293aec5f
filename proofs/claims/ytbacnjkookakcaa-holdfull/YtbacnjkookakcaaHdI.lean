/- The first that is ready, as the closure of tell finds it. -/
import Derived.Test.YtbacnjkookakcaaHdH
set_option linter.unusedVariables false
namespace Go.Proofs.Ytbacnjkookakcaa
open Go.RowKit
namespace Hd
open Ps

theorem wq_told {ops : Array Oper} {Q : Act → Prop} {a : Act} {o : Oper} {rest : List Oper} {W : World} {b : Nat} {t : TypeId} {f : Nat → Nat} {s : Value} (h : H17 W b t f s) (p : Operand) (ho : o.op = .load 24 p) (hp : a.eval p = .pointer (some ⟨b, 0, none⟩)) (hw : Region.wanted o (yielded ops a.tmps) = true)
    (hn : WQ Try.prog ops (fun w' => ∃ p : Bw W, w' = p.w') Q rest (a.put o.dst (.agg (vecA f)))) : WQ Try.prog ops (fun w' => ∃ p : Bw W, w' = p.w') Q (o :: rest) a := by
  refine wq_run (.agg (vecA f)) hw (fun w' hw' => ?_) hn
  obtain ⟨q, rfl⟩ := hw'
  exact exec_load 24 16 q.w' (Try.isAgg24 _) (Try.sizeOf24 _) (vecA f) _ (load_told (h.later q.h)) a o p ho hp
theorem wq_row43 {ops : Array Oper} {Q : Act → Prop} {a : Act} {o : Oper} {rest : List Oper} {W : World} {b off : Nat} {x : It} (h : ∀ i u, (itA x)[i]? = some u → W.cell? ⟨b, off + i, none⟩ = some u) (p : Operand) (ho : o.op = .load 43 p) (hp : a.eval p = .pointer (some ⟨b, off, none⟩)) (hw : Region.wanted o (yielded ops a.tmps) = true)
    (hn : WQ Try.prog ops (fun w' => ∃ p : Bw W, w' = p.w') Q rest (a.put o.dst (.agg (itA x)))) : WQ Try.prog ops (fun w' => ∃ p : Bw W, w' = p.w') Q (o :: rest) a := by
  refine wq_run (.agg (itA x)) hw (fun w' hw' => ?_) hn
  obtain ⟨q, rfl⟩ := hw'
  exact exec_load 43 20 q.w' (Try.isAgg43 _) (Try.sizeOf43 _) (itA x) _ (load_row fun i u hu => cell_later q.h (h i u hu)) a o p ho hp
theorem wpList_told {w : World} {ops : Array Oper} {rest : List Oper} {o : Oper} {a : Act} {Q : Exit → Act → World → Prop} {b : Nat} {t : TypeId} {f : Nat → Nat} {s : Value} (h : H17 w b t f s) (hg : o.guard = none) (p : Operand) (ho : o.op = .load 24 p)
    (hp : a.eval p = .pointer (some ⟨b, 0, none⟩)) (hn : wpList Try.prog ops Q rest (a.put o.dst (.agg (vecA f))) w) : wpList Try.prog ops Q (o :: rest) a w :=
  wpList_loadr hg 24 16 p ho (Try.isAgg24 _) (Try.sizeOf24 _) _ _ hp (load_told h) hn

set_option maxHeartbeats 8000000 in
set_option maxRecDepth 100000 in
theorem first_any (hb mb b : Nat) (f : Nat → Nat) (a : Option Addr) (c : Nat) (l : List It) (w : World) (hH : H17 w hb 36 f (.slice a l.length c)) (hc : w.cell? ⟨mb, 0, none⟩ = some (.map (some b))) (hM : MapH w b l.length (wtK l l.length)) (ha : AtI w a l) (hf : ∀ x ∈ l, Fit x) (hv : ∀ i, i < 16 → f i < 65536) (hn : l.length ≤ 1000)
    (hap : ∀ i j x y, i < j → j < l.length → l[i]? = some x → l[j]? = some y → ¬ sameK x y) :
    Calls Try.prog 39 #[.pointer (some ⟨hb, 0, none⟩), .pointer (some ⟨mb, 0, none⟩)] w fun e w' => e = .returned (.int .i64 ((fstR f l : Nat) : Int)) ∧ Below w.heap.size w w' := by
  have FZ := fstK_zero f l
  have F16 : Aside (fstK f l 16 = fstR f l) := fstK_all f l
  have FS : Aside (∀ k, (wtK l l.length k (f k : Int) = none → fstK f l (k + 1) = fstK f l k) ∧ (∀ i : Nat, wtK l l.length k (f k : Int) = some (i : Int) → ∃ x, l[i]? = some x ∧ x.frm = k ∧ fstK f l (k + 1) = if i < fstK f l k ∧ readyI f x = true then i else fstK f l k)) := fun k => fstK_step hap k
  have FL : Aside (∀ k, fstK f l k ≤ l.length) := fun k => fstK_le f l k
  have WS : Aside (∀ k i, wtK l l.length k (f k : Int) = some i → ∃ j : Nat, i = (j : Int) ∧ j < l.length) := fun k i h => by
    obtain ⟨j, x, h1, h2, _⟩ := wtK_some l _ _ l.length i (Nat.le_refl _) h
    exact ⟨j, h1, h2⟩
  have H0 : Aside (H17 w hb 36 f (.slice a l.length c) ∧ AtI w a l ∧ MapH w b l.length (wtK l l.length) ∧ (∀ x ∈ l, Fit x) ∧ (∀ i, i < 16 → f i < 65536) ∧ w.cell? ⟨mb, 0, none⟩ = some (.map (some b))) := ⟨hH, ha, hM, hf, hv, hc⟩
  have c16 := hH.wait
  have CR : Aside (∀ x, x ∈ l → ∀ W, Calls Try.prog 15 #[.agg (vecA f), .agg (itA x)] W fun e w' => e = .returned (.bool (readyI f x)) ∧ Below W.heap.size W w') := fun x hx W => ready15_any f x W hv (hf x hx).2.2.2
  clear hH hM ha hf hv hc
  obtain ⟨n, en⟩ : ∃ n, n = l.length := ⟨_, rfl⟩
  have HN : Aside (n = l.length) := en
  rw [← en] at FZ FS FL WS H0 c16 hn
  clear en hap
  go_enter Try.func39, Try.ntmps39
  go_wp2_with (with_reducible refine wpList_told H0.out.1 rfl _ rfl rfl ?_)
  clear c16
  go_loopw [3, 13] (fun p i wr => ∃ k : Nat, k ≤ 16 ∧ i = .int .i64 (k : Nat) ∧ p = .int .i64 ((fstK f l k : Nat) : Int) ∧ Aside (Below w.heap.size w wr)) (fun _ i _ => 16 - (intOf i).toNat)
  case atStart => exact ⟨0, by omega, rfl, by rw [FZ], Below.refl _ _⟩
  case round =>
    obtain ⟨k, hk, rfl, rfl, hB⟩ := hrel
    clear FZ
    by_cases hlt : k < 16
    · have t1 : (k : Int) < 16 := by omega
      have t0 : (0 : Int) ≤ (k : Int) := by omega
      have ix := index_vec f hlt
      have w8 : IntKind.u8.wrap (k : Int) = (k : Int) := by rw [IntKind.wrap_u8]; omega
      have hfk := H0.out.2.2.2.2.1 k hlt
      have w64 : wrap64 ((f k : Nat) : Int) = ((f k : Nat) : Int) := by unfold wrap64; omega
      have m0 := cell_later hB.out H0.out.2.2.2.2.2
      have HM := H0.out.2.2.1.kept (hB.out.block b H0.out.2.2.1.lt)
      have lk := HM.look (f := k) (s := ((f k : Nat) : Int)) ⟨by omega, by omega, by omega⟩
      have FK := FS.out k
      have FB := FL.out k
      have WK := WS.out k
      have FKA : Aside ((wtK l n k ((f k : Nat) : Int) = none → fstK f l (k + 1) = fstK f l k) ∧ (∀ i : Nat, wtK l n k ((f k : Nat) : Int) = some (i : Int) → ∃ x, l[i]? = some x ∧ x.frm = k ∧ fstK f l (k + 1) = if i < fstK f l k ∧ readyI f x = true then i else fstK f l k)) := FK
      have WKA : Aside (∀ i, wtK l n k ((f k : Nat) : Int) = some i → ∃ j : Nat, i = (j : Int) ∧ j < n) := WK
      clear FK WK HM hfk
      generalize hq : wtK l n k ((f k : Nat) : Int) = q at lk FKA WKA
      clear hq
      obtain ⟨pn, hpn⟩ : ∃ pn, pn = fstK f l (k + 1) := ⟨_, rfl⟩
      have HPN : Aside (pn = fstK f l (k + 1)) := hpn
      rw [← hpn] at FKA
      clear hpn
      generalize fstK f l k = pk at FKA FB ⊢
      have H1 : Aside (H17 wr hb 36 f (.slice a n c) ∧ AtI wr a l) := ⟨H0.out.1.later hB.out, H0.out.2.1.later hB.out⟩
      unfold keyV at lk
      generalize hfq : ((f k : Nat) : Int) = fk at ix w64 lk
      cases q with
      | none =>
        have hp := FKA.out.1 rfl
        subst hp
        clear FKA WKA
        simp only [Option.getD_none, Option.isSome_none] at lk
        go_wp2_with fail
        obtain ⟨WV, hWV⟩ : ∃ WV, WV = wr := ⟨_, rfl⟩
        subst hWV
        have hne := Bw.some WV
        refine wp_region_wq (by kernel_rfl) (by kernel_rfl) ?_
        repeat (first
          | (refine wq_step (fun K hK => ?_); go_simp; first
            | (refine hK _ ?_; clear hK K)))
        refine wq_nil ?_
        intro _ hw'
        obtain ⟨pq, hw''⟩ := hw'
        subst hw''
        go_wp2
        go_roundw
        case rel => exact ⟨k + 1, by omega, by go_num, by rw [← HPN.out], step_below hB.out pq.h⟩
        case measure => simp [intOf]; omega
      | some i =>
        obtain ⟨j, rfl, hj⟩ := WKA.out i rfl
        obtain ⟨x, hx, hxk, hp⟩ := FKA.out.2 j rfl
        have hp : pn = if j < pk ∧ readyI f x = true then j else pk := hp
        clear FKA WKA
        simp only [Option.getD_some, Option.isSome_some] at lk
        by_cases hjp : j < pk
        · have r0 : (j : Int) < (pk : Int) := by omega
          have r0d : decide ((j : Int) < (pk : Int)) = true := decide_eq_true r0
          have r1 : (0 : Int) ≤ (j : Int) := by omega
          have r2 : (j : Int) < (n : Int) := by omega
          have CRx : Aside (∀ W, Calls Try.prog 15 #[.agg (vecA f), .agg (itA x)] W fun e w' => e = .returned (.bool (readyI f x)) ∧ Below W.heap.size W w') := CR.out x (List.mem_of_getElem? hx)
          obtain ⟨b9, off9, y, rfl, hy, hcs⟩ := H1.out.2.get (j := j) (by rw [← HN.out]; exact hj)
          have hyx : y = x := by rw [hx] at hy; exact (Option.some.inj hy).symm
          subst hyx
          have HR : Aside (∀ i u, (itA y)[i]? = some u → wr.cell? ⟨b9, off9 + j * 20 + i, none⟩ = some u) := hcs
          have HV : Aside (H17 wr hb 36 f (.slice (some ⟨b9, off9, none⟩) n c) ∧ True) := ⟨H1.out.1, trivial⟩
          have p16 : ∀ p : Bw wr, p.w'.cell? ⟨hb, 16, none⟩ = some (.slice (some ⟨b9, off9, none⟩) n c) := fun p => (HV.out.1.later p.h).wait
          have PN : Aside (pn = if j < pk ∧ readyI f y = true then j else pk) := hp
          clear hx hy hcs hp H1
          generalize readyI f y = r at CRx PN
          go_wp2_with fail
          obtain ⟨WV, hWV⟩ : ∃ WV, WV = wr := ⟨_, rfl⟩
          subst hWV
          have hne := Bw.some WV
          refine wp_region_wq (by kernel_rfl) (by kernel_rfl) ?_
          repeat (first
            | (refine wq_told HV.out.1 (.tmp 34) rfl rfl (by go_simp) ?_; dsimp only [Act.put, Array.setIfInBounds])
            | (refine wq_row43 HR.out (.tmp 39) rfl rfl (by go_simp) ?_; dsimp only [Act.put, Array.setIfInBounds])
            | (refine wq_step (fun K hK => ?_); go_simp; first
              | (refine hK _ ?_; clear hK K)
              | (apply Exists.intro; refine ⟨fun _ => ?_, hK _ ?_⟩; (first | (go_at_call 15; exact Calls.bw_of (CRx.out _))); clear hK K)))
          refine wq_nil ?_
          intro _ hw'
          obtain ⟨pq, hw''⟩ := hw'
          subst hw''
          cases r with
          | true =>
            have hpj : pn = j := by rw [PN.out, if_pos ⟨hjp, rfl⟩]
            go_wp2
            go_roundw
            case rel => exact ⟨k + 1, by omega, by go_num, by rw [← HPN.out, hpj], step_below hB.out pq.h⟩
            case measure => simp [intOf]; omega
          | false =>
            have hpj : pn = pk := by rw [PN.out, if_neg (by simp)]
            go_wp2
            go_roundw
            case rel => exact ⟨k + 1, by omega, by go_num, by rw [← HPN.out, hpj], step_below hB.out pq.h⟩
            case measure => simp [intOf]; omega
        · have r0 : ¬ ((j : Int) < (pk : Int)) := by omega
          have r0d : decide ((j : Int) < (pk : Int)) = false := decide_eq_false r0
          have hpj : pn = pk := by rw [hp, if_neg (fun h => hjp h.1)]
          clear hp hx
          go_wp2_with fail
          obtain ⟨WV, hWV⟩ : ∃ WV, WV = wr := ⟨_, rfl⟩
          subst hWV
          have hne := Bw.some WV
          refine wp_region_wq (by kernel_rfl) (by kernel_rfl) ?_
          repeat (first
            | (refine wq_step (fun K hK => ?_); go_simp; first
              | (refine hK _ ?_; clear hK K)))
          refine wq_nil ?_
          intro _ hw'
          obtain ⟨pq, hw''⟩ := hw'
          subst hw''
          go_wp2
          go_roundw
          case rel => exact ⟨k + 1, by omega, by go_num, by rw [← HPN.out, hpj], step_below hB.out pq.h⟩
          case measure => simp [intOf]; omega
    · obtain rfl : k = 16 := by omega
      have hF := F16.out
      have BB : Aside (Below w.heap.size w wr) := hB.out
      generalize fstK f l 16 = p16 at hF
      go_wp2_with fail
      go_ret
      rw [hF]
      exact ⟨rfl, BB.out⟩
end Hd
end Go.Proofs.Ytbacnjkookakcaa
