/- May a box be? What right gives. -/
import Derived.Test.YtfjdopmjcddnlaaBtC
set_option linter.unusedVariables false
namespace Go.Proofs.Ytfjdopmjcddnlaa
open Go.RowKit Cn Rl Bt

namespace Bt
open Classical in
noncomputable def rightY (v : Int) (s : Nat) (l : List Ct) : Bool := decide (RightX v s l)
theorem rightY_true {v : Int} {s : Nat} {l : List Ct} (h : RightX v s l) : rightY v s l = true := by unfold rightY; exact @decide_eq_true _ (Classical.propDecidable _) h
theorem rightY_false {v : Int} {s : Nat} {l : List Ct} (h : ¬ RightX v s l) : rightY v s l = false := by unfold rightY; exact @decide_eq_false _ (Classical.propDecidable _) h
theorem rightY_iff {v : Int} {s : Nat} {l : List Ct} : rightY v s l = true ↔ RightX v s l := by unfold rightY; exact @decide_eq_true_iff _ (Classical.propDecidable _)
/-- What was looked at may be. -/
def Pre (v : Int) (s : Nat) (l : List Ct) (k : Nat) : Prop := (∀ c ∈ l.take k, okC v s c = true) ∧ Srt (l.take k)
theorem pre_zero (v : Int) (s : Nat) (l : List Ct) : Pre v s l 0 := ⟨fun c hc => by simp at hc, by rw [List.take_zero]; exact List.Pairwise.nil⟩
theorem pre_all {v : Int} {s : Nat} {l : List Ct} {n : Nat} (hr : rightB v s = true) (hn : n = l.length) (h : Pre v s l n) : RightX v s l := by
  unfold Pre at h
  rw [List.take_of_length_le (by omega)] at h
  exact ⟨hr, h.1, h.2⟩
theorem pre_next {v : Int} {s : Nat} {l : List Ct} {k : Nat} {e : Ct} (h : Pre v s l k) (he : l[k]? = some e) (ho : okC v s e = true) (hp : ∀ p, 0 < k → l[k - 1]? = some p → p.1 < e.1) : Pre v s l (k + 1) := by
  obtain ⟨h1, h2⟩ := h
  have e1 : l.take (k + 1) = l.take k ++ [e] := by rw [List.take_add_one, he]; rfl
  unfold Pre
  rw [e1]
  refine ⟨fun c hc => ?_, ?_⟩
  · rcases List.mem_append.1 hc with hc | hc
    · exact h1 c hc
    · rw [List.mem_singleton] at hc; subst hc; exact ho
  · unfold Srt
    rw [List.pairwise_append]
    refine ⟨h2, List.pairwise_singleton _ _, fun a ha b hb => ?_⟩
    rw [List.mem_singleton] at hb; subst hb
    obtain ⟨j, hj, rfl⟩ := List.getElem_of_mem ha
    rw [List.length_take] at hj
    have hkl := (List.getElem?_eq_some_iff.1 he).1
    have hq : l[k - 1]? = some l[k - 1] := List.getElem?_eq_getElem (by omega)
    have hlast := hp _ (by omega) hq
    by_cases e : j = k - 1
    · subst e
      rw [List.getElem_take]; exact hlast
    · have := List.pairwise_iff_getElem.1 h2 j (k - 1) (by rw [List.length_take]; omega) (by rw [List.length_take]; omega) (by omega)
      rw [List.getElem_take, List.getElem_take] at this
      rw [List.getElem_take]; omega
theorem not_ok {v : Int} {s : Nat} {l : List Ct} {k : Nat} {e : Ct} (he : l[k]? = some e) (ho : okC v s e = false) : ¬ RightX v s l := fun h => by
  have := h.2.1 e (List.mem_of_getElem? he)
  rw [ho] at this; cases this
theorem not_srt {v : Int} {s : Nat} {l : List Ct} {k : Nat} {p e : Ct} (hp : l[k]? = some p) (he : l[k + 1]? = some e) (hn : ¬ p.1 < e.1) : ¬ RightX v s l := fun h => by
  obtain ⟨h1, rfl⟩ := List.getElem?_eq_some_iff.1 hp
  obtain ⟨h2, rfl⟩ := List.getElem?_eq_some_iff.1 he
  exact hn (List.pairwise_iff_getElem.1 h.2.2 k (k + 1) h1 h2 (by omega))
end Bt

set_option maxHeartbeats 8000000 in
set_option maxRecDepth 100000 in
/-- What right gives. -/
theorem bright_any (v : Int) (s : Nat) (a : Option Addr) (c : Nat) (l : List Ct) (w : World) (hl : AtC w a l) (hs : s < 65536) (hn : l.length ≤ 1000) :
    Calls Try.prog 25 #[boxV v s (.slice a l.length c)] w fun e w' => e = .returned (.bool (rightY v s l)) ∧ Below w.heap.size w w' := by
  have RF : Aside (∀ w', ¬ RightX v s l → Below w.heap.size w w' → (fun (e : Ending) (w' : World) => e = .returned (.bool (rightY v s l)) ∧ Below w.heap.size w w') (.returned (.bool false)) w') := fun w' h hb => ⟨by rw [rightY_false h], hb⟩
  have RT : Aside (∀ w', RightX v s l → Below w.heap.size w w' → (fun (e : Ending) (w' : World) => e = .returned (.bool (rightY v s l)) ∧ Below w.heap.size w w') (.returned (.bool true)) w') := fun w' h hb => ⟨by rw [rightY_true h], hb⟩
  generalize (fun (e : Ending) (w' : World) => e = .returned (.bool (rightY v s l)) ∧ Below w.heap.size w w') = Q at RF RT ⊢
  obtain ⟨n, en⟩ : ∃ n, n = l.length := ⟨_, rfl⟩
  rw [← en] at hn ⊢
  have HA : Aside (AtC w a l ∧ n = l.length) := ⟨hl, en⟩
  clear hl en
  have CM : Aside (∀ (e : Ct) (W : World), Calls Try.prog 41 #[.agg #[.int .i64 v, .int .u16 (s : Int)], .agg #[.int .u8 (e.1 : Int), .bool e.2.1, .int .u8 (e.2.2 : Int)]] W fun z w' => z = .returned (.bool (okC v s e)) ∧ Below W.heap.size W w') := fun e W => maybe_any v s e W hs
  have CR : Aside (∀ W : World, Calls Try.prog 37 #[.agg #[.int .i64 v, .int .u16 (s : Int)]] W fun z w' => z = .returned (.bool (rightB v s)) ∧ Below W.heap.size W w') := fun W => right_any v s W
  have RB : Aside (∀ b, rightB v s = b → (b = false → ¬ RightX v s l)) := fun b h1 h2 h3 => by rw [h3.1] at h1; rw [← h1] at h2; cases h2
  obtain ⟨V0, hV⟩ : ∃ V, V = w.alloc (.cells #[.int .i64 v, .int .u16 (s : Int), .slice a n c] 37) := ⟨_, rfl⟩
  have X0 : Aside (X3 V0 w.heap.size 37 (.int .i64 v) (.int .u16 (s : Int)) (.slice a n c) ∧ Below w.heap.size w V0) := by rw [hV]; exact ⟨X3.new w _ _ _ _, below_one w _⟩
  unfold boxV
  cases hrb : rightB v s with
  | false =>
    have NB := RB.out _ hrb rfl
    rw [hrb] at CR
    clear hrb RB RT CM
    have NBA : Aside (¬ RightX v s l) := NB
    clear NB
    go_enter Try.func25, Try.ntmps25
    go_wp2_with fail
    rw [← hV]
    clear hV
    obtain ⟨x0, x1, x2⟩ := X0.out.1.cells
    go_wp2_with (go_at_call 37; refine (CR.out _).mono ?_; rintro e w1 ⟨rfl, hb1⟩; have Q1 : Aside (Q (.returned (.bool false)) w1) := RF.out w1 NBA.out (below_step X0.out.2 hb1); clear hb1 x0 x1 x2 RF)
    exact Q1.out
  | true =>
    rw [hrb] at CR
    have HR : Aside (rightB v s = true) := hrb
    clear hrb RB
    go_enter Try.func25, Try.ntmps25
    go_wp2_with fail
    rw [← hV]
    clear hV
    obtain ⟨x0, x1, x2⟩ := X0.out.1.cells
    go_wp2_with (go_at_call 37; refine (CR.out _).mono ?_; rintro e V ⟨rfl, hb1⟩; clear x0 x1 x2; have XV : Aside (X3 V w.heap.size 37 (.int .i64 v) (.int .u16 (s : Int)) (.slice a n c) ∧ Below w.heap.size w V) := ⟨X0.out.1.later hb1, below_step X0.out.2 hb1⟩; clear hb1 X0; obtain ⟨x0, x1, x2⟩ := XV.out.1.cells)
    clear x0 x1 x2
    go_loopw [12] (fun i wr2 => ∃ k : Nat, k ≤ n ∧ i = .int .i64 (k : Nat) ∧ Aside (Below V.heap.size V wr2) ∧ Aside (Pre v s l k)) (fun i _ => n - (intOf i).toNat)
    case atStart => exact ⟨0, Nat.zero_le _, rfl, Below.refl _ _, pre_zero v s l⟩
    case round =>
      obtain ⟨k, hk, rfl, hB, HS⟩ := hrel
      by_cases hlt : k < n
      · have t1 : (k : Int) < (n : Int) := by omega
        have t0 : (0 : Int) ≤ (k : Int) := by omega
        obtain ⟨e, hke⟩ : ∃ e, l[k]? = some e := ⟨_, List.getElem?_eq_getElem (by have := HA.out.2; omega)⟩
        obtain ⟨b, off, rfl, y0, y1, y2⟩ := AtC.get (HA.out.1.later (below_step XV.out.2 hB.out)) hke
        have KE : Aside (l[k]? = some e) := hke
        clear hke
        go_wp2_with fail
        refine (?_ : ∀ W, (Below V.heap.size V W ∧ X3 W wr.heap.size 44 (.int .u8 (e.1 : Int)) (.bool e.2.1) (.int .u8 (e.2.2 : Int))) → Code.wp _ _ _ _ W) _ ⟨hB.out.alloc hB.out.size _, X3.new wr _ _ _ _⟩
        intro W hW
        have HW : Aside _ := hW
        clear hW y0 y1 y2
        have X1 : Aside (X3 W w.heap.size 37 (.int .i64 v) (.int .u16 (s : Int)) (.slice (some ⟨b, off, none⟩) n c)) := XV.out.1.later HW.out.1
        have BP : Aside (∀ p : Bw W, Below V.heap.size V p.w') := fun p => below_step HW.out.1 p.h
        have OM : Aside (∀ W' : World, Calls Try.prog 41 #[.agg #[.int .i64 v, .int .u16 (s : Int)], .agg #[.int .u8 (e.1 : Int), .bool e.2.1, .int .u8 (e.2.2 : Int)]] W' fun z w' => z = .returned (.bool (okC v s e)) ∧ Below W'.heap.size W' w') := fun W' => CM.out e W'
        obtain ⟨bo, hbo⟩ : ∃ bo, bo = okC v s e := ⟨_, rfl⟩
        rw [← hbo] at OM
        have OB : Aside (okC v s e = bo) := hbo.symm
        clear hbo
        have p0 : ∀ p : Bw W, p.w'.cell? ⟨w.heap.size, 0, none⟩ = some (.int .i64 v) := fun p => (X1.out.later p.h).cells.1
        have p1 : ∀ p : Bw W, p.w'.cell? ⟨w.heap.size, 1, none⟩ = some (.int .u16 (s : Int)) := fun p => (X1.out.later p.h).cells.2.1
        have p2 : ∀ p : Bw W, p.w'.cell? ⟨w.heap.size, 2, none⟩ = some (.slice (some ⟨b, off, none⟩) n c) := fun p => (X1.out.later p.h).cells.2.2
        have r0 : ∀ p : Bw W, p.w'.cell? ⟨wr.heap.size, 0, none⟩ = some (.int .u8 (e.1 : Int)) := fun p => (HW.out.2.later p.h).cells.1
        have r1 : ∀ p : Bw W, p.w'.cell? ⟨wr.heap.size, 1, none⟩ = some (.bool e.2.1) := fun p => (HW.out.2.later p.h).cells.2.1
        have r2 : ∀ p : Bw W, p.w'.cell? ⟨wr.heap.size, 2, none⟩ = some (.int .u8 (e.2.2 : Int)) := fun p => (HW.out.2.later p.h).cells.2.2
        cases k with
        | zero =>
          cases bo with
          | false =>
            have Q1 : Aside (∀ p : Bw W, Q (.returned (.bool false)) p.w') := fun p => RF.out p.w' (not_ok KE.out OB.out) (below_step XV.out.2 (BP.out p))
            clear RF RT
            have hne := Bw.some W
            refine wp_region_wq (by kernel_rfl) (by kernel_rfl) ?_
            repeat (refine wq_step (fun K hK => ?_); go_simp; first | (refine hK _ ?_; clear hK K) | (apply Exists.intro; refine ⟨fun _ => ?_, hK _ ?_⟩; (first | (go_at_call 41; exact Calls.bw_of (OM.out _))); clear hK K))
            refine wq_nil ?_
            intro _ hw'
            obtain ⟨pq, hw''⟩ := hw'
            subst hw''
            go_wp2
            exact Q1.out _
          | true =>
            have N1 : Aside (∀ p : Bw W, Below V.heap.size V p.w' ∧ Pre v s l (0 + 1)) := fun p => ⟨BP.out p, pre_next HS.out KE.out OB.out (fun p hp => absurd hp (by decide))⟩
            clear RF RT
            have hne := Bw.some W
            refine wp_region_wq (by kernel_rfl) (by kernel_rfl) ?_
            repeat (refine wq_step (fun K hK => ?_); go_simp; first | (refine hK _ ?_; clear hK K) | (apply Exists.intro; refine ⟨fun _ => ?_, hK _ ?_⟩; (first | (go_at_call 41; exact Calls.bw_of (OM.out _))); clear hK K))
            refine wq_nil ?_
            intro _ hw'
            obtain ⟨pq, hw''⟩ := hw'
            subst hw''
            go_wp2
            exact ⟨⟨0 + 1, by omega, by go_num, (N1.out pq).1, (N1.out pq).2⟩, by simp [intOf]; omega⟩
        | succ k1 =>
          obtain ⟨ep, hpe⟩ : ∃ e, l[k1]? = some e := ⟨_, List.getElem?_eq_getElem (by have := HA.out.2; omega)⟩
          obtain ⟨b', off', eq', q0, q1, q2⟩ := AtC.get (HA.out.1.later (below_step XV.out.2 HW.out.1)) hpe
          have eb : b = b' := congrArg Addr.block (Option.some.inj eq')
          have eo : off = off' := congrArg Addr.off (Option.some.inj eq')
          subst eb eo
          clear eq'
          have O1 : Aside (∀ W' : World, Calls Try.prog 28 #[.agg #[.int .u8 (ep.1 : Int), .bool ep.2.1, .int .u8 (ep.2.2 : Int)], .agg #[.int .u8 (e.1 : Int), .bool e.2.1, .int .u8 (e.2.2 : Int)]] W' fun z w' => z = .returned (.int .i64 (cmpI (ep.1 : Int) (e.1 : Int))) ∧ Below W'.heap.size W' w') := fun W' => order_any ep e W'
          have CE : Aside (decide (cmpI (ep.1 : Int) (e.1 : Int) < 0) = decide (ep.1 < e.1)) := cmpI_lt _ _
          have KP : Aside (l[k1]? = some ep) := hpe
          clear hpe
          generalize cmpI (ep.1 : Int) (e.1 : Int) = cv at O1 CE
          have d0 : ∀ p : Bw W, p.w'.cell? ⟨b, off + k1 * 3, none⟩ = some (.int .u8 (ep.1 : Int)) := fun p => cell_later p.h q0
          have d1 : ∀ p : Bw W, p.w'.cell? ⟨b, off + k1 * 3 + 1, none⟩ = some (.bool ep.2.1) := fun p => cell_later p.h q1
          have d2 : ∀ p : Bw W, p.w'.cell? ⟨b, off + k1 * 3 + 2, none⟩ = some (.int .u8 (ep.2.2 : Int)) := fun p => cell_later p.h q2
          clear q0 q1 q2
          have u0 : (0 : Int) ≤ (k1 : Int) := by omega
          have u1 : (k1 : Int) < (n : Int) := by omega
          have wk2 : IntKind.i64.wrap ((k1 : Int) + 1 - 1) = (k1 : Int) := by rw [IntKind.wrap_i64]; omega
          have wk3 : (k1 : Int) + 1 - 1 = (k1 : Int) := by omega
          have wk5 : IntKind.i64.wrap (k1 : Int) = (k1 : Int) := by rw [IntKind.wrap_i64]; omega
          by_cases hcv : cv < 0
          · have hge : ¬ (0 ≤ cv) := by omega
            have LT : Aside (ep.1 < e.1) := by have h : decide (cv < 0) = decide (ep.1 < e.1) := CE.out; rw [decide_eq_true hcv] at h; exact of_decide_eq_true (p := ep.1 < e.1) h.symm
            clear CE
            cases bo with
            | false =>
              have Q1 : Aside (∀ p : Bw W, Q (.returned (.bool false)) p.w') := fun p => RF.out p.w' (not_ok KE.out OB.out) (below_step XV.out.2 (BP.out p))
              clear RF RT
              have hne := Bw.some W
              refine wp_region_wq (by kernel_rfl) (by kernel_rfl) ?_
              repeat (refine wq_step (fun K hK => ?_); go_simp; first | (refine hK _ ?_; clear hK K) | (apply Exists.intro; refine ⟨fun _ => ?_, hK _ ?_⟩; (first | (go_at_call 28; exact Calls.bw_of (O1.out _)) | (go_at_call 41; exact Calls.bw_of (OM.out _))); clear hK K))
              refine wq_nil ?_
              intro _ hw'
              obtain ⟨pq, hw''⟩ := hw'
              subst hw''
              go_wp2
              exact Q1.out _
            | true =>
              have N1 : Aside (∀ p : Bw W, Below V.heap.size V p.w' ∧ Pre v s l (k1 + 1 + 1)) := fun p => ⟨BP.out p, pre_next HS.out KE.out OB.out (fun p _ hp => by rw [Nat.add_sub_cancel, KP.out] at hp; rw [← Option.some.inj hp]; exact LT.out)⟩
              clear RF RT
              have hne := Bw.some W
              refine wp_region_wq (by kernel_rfl) (by kernel_rfl) ?_
              repeat (refine wq_step (fun K hK => ?_); go_simp; first | (refine hK _ ?_; clear hK K) | (apply Exists.intro; refine ⟨fun _ => ?_, hK _ ?_⟩; (first | (go_at_call 28; exact Calls.bw_of (O1.out _)) | (go_at_call 41; exact Calls.bw_of (OM.out _))); clear hK K))
              refine wq_nil ?_
              intro _ hw'
              obtain ⟨pq, hw''⟩ := hw'
              subst hw''
              go_wp2
              exact ⟨⟨k1 + 1 + 1, by omega, by go_num, (N1.out pq).1, (N1.out pq).2⟩, by simp [intOf]; omega⟩
          · have hge : 0 ≤ cv := by omega
            have Q1 : Aside (∀ p : Bw W, Q (.returned (.bool false)) p.w') := fun p => RF.out p.w' (not_srt KP.out KE.out (by have h : decide (cv < 0) = decide (ep.1 < e.1) := CE.out; rw [decide_eq_false hcv] at h; exact of_decide_eq_false h.symm)) (below_step XV.out.2 (BP.out p))
            clear RF RT CE
            have hne := Bw.some W
            refine wp_region_wq (by kernel_rfl) (by kernel_rfl) ?_
            repeat (refine wq_step (fun K hK => ?_); go_simp; first | (refine hK _ ?_; clear hK K) | (apply Exists.intro; refine ⟨fun _ => ?_, hK _ ?_⟩; (first | (go_at_call 28; exact Calls.bw_of (O1.out _))); clear hK K))
            refine wq_nil ?_
            intro _ hw'
            obtain ⟨pq, hw''⟩ := hw'
            subst hw''
            go_wp2
            exact Q1.out _
      · obtain rfl : k = n := by omega
        have Q1 : Aside (Q (.returned (.bool true)) wr) := RT.out wr (pre_all HR.out HA.out.2 HS.out) (below_step XV.out.2 hB.out)
        clear RF RT
        go_wp2_with fail
        exact Q1.out
end Go.Proofs.Ytfjdopmjcddnlaa
