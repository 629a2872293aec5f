/- May there be such a table? The program's own answer. -/
import Derived.Test.YtmhjmeedoajkjaaTbM
set_option linter.unusedVariables false
namespace Go.Proofs.Ytmhjmeedoajkjaa
open Go.RowKit Go.Shelf

theorem rightOpen_dec (v : Int) (ms : Nat) (bs : Nat → Nat) (s : Value) (e : En) (w : World) (he : EnAt w e) (hms : ms < 65536) (hb16 : ∀ i, i < 16 → bs i < 65536) (b : Bool) (hb : b = true ↔ Tb.OkO ms bs e.o) :
    Calls Try.prog 35 #[.agg (tabL v ms bs s), .agg (encE e).toArray] w fun z w' => z = .returned (.bool b) ∧ Below w.heap.size w w' :=
  (rightOpen_any v ms bs s e w he hms hb16).mono fun e w' ⟨b', h1, h2, h3⟩ => ⟨by rw [h1]; congr 2; cases b <;> cases b' <;> simp_all, h3⟩
theorem dec_bool (P : Prop) : ∃ b : Bool, b = true ↔ P := by
  by_cases h : P
  · exact ⟨true, ⟨fun _ => h, fun _ => rfl⟩⟩
  · exact ⟨false, ⟨(fun h => nomatch h), fun h2 => absurd h2 h⟩⟩
set_option maxRecDepth 100000 in
/-- A vector's number. -/
theorem vec_index (bs : Nat → Nat) (k : Nat) (hk : k < 16) (W : World) : (Instr.index 27 (.agg #[.int .u16 ((bs 0 : Nat) : Int), .int .u16 ((bs 1 : Nat) : Int), .int .u16 ((bs 2 : Nat) : Int), .int .u16 ((bs 3 : Nat) : Int), .int .u16 ((bs 4 : Nat) : Int), .int .u16 ((bs 5 : Nat) : Int), .int .u16 ((bs 6 : Nat) : Int), .int .u16 ((bs 7 : Nat) : Int), .int .u16 ((bs 8 : Nat) : Int), .int .u16 ((bs 9 : Nat) : Int), .int .u16 ((bs 10 : Nat) : Int), .int .u16 ((bs 11 : Nat) : Int), .int .u16 ((bs 12 : Nat) : Int), .int .u16 ((bs 13 : Nat) : Int), .int .u16 ((bs 14 : Nat) : Int), .int .u16 ((bs 15 : Nat) : Int)]) (.int .i64 (k : Nat))).run Try.prog W = .ok (.int .u16 ((bs k : Nat) : Int)) W := by
  have : k = 0 ∨ k = 1 ∨ k = 2 ∨ k = 3 ∨ k = 4 ∨ k = 5 ∨ k = 6 ∨ k = 7 ∨ k = 8 ∨ k = 9 ∨ k = 10 ∨ k = 11 ∨ k = 12 ∨ k = 13 ∨ k = 14 ∨ k = 15 := by omega
  rcases this with rfl | rfl | rfl | rfl | rfl | rfl | rfl | rfl | rfl | rfl | rfl | rfl | rfl | rfl | rfl | rfl <;> first | rfl | (clear hk; kernel_rfl) | (simp [go_sem]; done)
theorem srt_adj {l : List Tb.Op} (h : ∀ k a b, l[k]? = some a → l[k + 1]? = some b → Tb.ahead b.frm b.seq a = true) : Tb.Srt l := by
  induction l with
  | nil => exact List.Pairwise.nil
  | cons a l ih =>
    have ih := ih fun k x y hx hy => h (k + 1) x y (by simpa using hx) (by simpa using hy)
    refine List.pairwise_cons.2 ⟨fun b hb => ?_, ih⟩
    cases l with
    | nil => exact absurd hb List.not_mem_nil
    | cons c l =>
      have h0 := h 0 a c rfl rfl
      rcases List.mem_cons.1 hb with rfl | hb
      · exact h0
      · exact Tb.ahead_trans h0 ((List.pairwise_cons.1 ih).1 b hb)
theorem srt_at {l : List Tb.Op} (h : Tb.Srt l) {k : Nat} {a b : Tb.Op} (ha : l[k]? = some a) (hb : l[k + 1]? = some b) : Tb.ahead b.frm b.seq a = true := by
  obtain ⟨h1, h2⟩ := List.getElem?_eq_some_iff.1 ha
  obtain ⟨h3, h4⟩ := List.getElem?_eq_some_iff.1 hb
  have := List.pairwise_iff_getElem.1 h k (k + 1) h1 h3 (by omega)
  rw [h2, h4] at this; exact this

set_option maxHeartbeats 40000000 in
set_option maxRecDepth 100000 in
theorem right8_any (v : Int) (ms : Nat) (bs : Nat → Nat) (a : Option Addr) (c : Nat) (l : List En) (w : World) (hr : AtR w a l) (he : ∀ e ∈ l, EnAt w e) (hn : l.length ≤ 500) (hms : ms < 65536) (hb16 : ∀ i, i < 16 → bs i < 65536) :
    Calls Try.prog 17 #[.agg (tabL v ms bs (.slice a l.length c))] w (OpPost (Tb.Rt ⟨v, ms, bs, ops l⟩) w) := by
  have RF : Aside (∀ w', ¬ Tb.Rt ⟨v, ms, bs, ops l⟩ → Below w.heap.size w w' → OpPost (Tb.Rt ⟨v, ms, bs, ops l⟩) w (.returned (.bool false)) w') := fun w' h hb => ⟨false, rfl, ⟨(fun h => nomatch h), fun h2 => absurd h2 h⟩, hb⟩
  have RT : Aside (∀ w', Tb.Rt ⟨v, ms, bs, ops l⟩ → Below w.heap.size w w' → OpPost (Tb.Rt ⟨v, ms, bs, ops l⟩) w (.returned (.bool true)) w') := fun w' h hb => ⟨true, rfl, ⟨fun _ => h, fun _ => rfl⟩, hb⟩
  generalize OpPost (Tb.Rt ⟨v, ms, bs, ops l⟩) w = Q at RF RT ⊢
  obtain ⟨n, en⟩ : ∃ n, n = l.length := ⟨_, rfl⟩
  rw [← en] at hn ⊢
  have HA : Aside (AtR w a l ∧ (∀ e ∈ l, EnAt w e) ∧ n = l.length ∧ ∀ i, i < 16 → bs i < 65536) := ⟨hr, he, en, hb16⟩
  clear hr he en hb16
  have X1 := X19.new w 30 v ms bs (.slice a n c)
  obtain ⟨V, hV⟩ : ∃ V, V = w.alloc (.cells (tabL v ms bs (.slice a n c)) 30) := ⟨_, rfl⟩
  have XV : Aside (X19 V w.heap.size 30 v ms bs (.slice a n c) ∧ Below w.heap.size w V) := by rw [hV]; exact ⟨X1, (Below.refl _ w).alloc (Nat.le_refl _) _⟩
  clear X1
  have CH : Aside (∀ (k : Nat) (W : World), Calls Try.prog 30 #[.int .u16 (ms : Nat), .int .u8 (k : Nat)] W fun z w' => z = .returned (.bool (Cn.hasS ms k)) ∧ w' = W) := fun k W => has_any ms k W hms
  obtain ⟨x0, x1, x2, x3, x4, x5, x6, x7, x8, x9, x10, x11, x12, x13, x14, x15, x16, x17, x18⟩ := XV.out.1.cells
  have x0' := x0
  rw [hV] at x0
  by_cases c1 : v < 0
  · have Q1 : Aside (Q (.returned (.bool false)) V) := RF.out V (fun h => by have := h.v0; change 0 ≤ v at this; omega) XV.out.2
    rw [hV] at Q1
    clear RF RT x0' x1 x2 x3 x4 x5 x6 x7 x8 x9 x10 x11 x12 x13 x14 x15 x16 x17 x18
    go_enter Try.func17, Try.ntmps17
    go_wp2
    exact Q1.out
  by_cases c2 : (1000 : Int) < v
  · have Q1 : Aside (Q (.returned (.bool false)) V) := RF.out V (fun h => by have := h.v1; change v ≤ 1000 at this; omega) XV.out.2
    rw [hV] at Q1
    clear RF RT x0' x1 x2 x3 x4 x5 x6 x7 x8 x9 x10 x11 x12 x13 x14 x15 x16 x17 x18
    go_enter Try.func17, Try.ntmps17
    go_wp2
    exact Q1.out
  rw [hV] at x1 x2 x3 x4 x5 x6 x7 x8 x9 x10 x11 x12 x13 x14 x15 x16 x17 x18
  go_enter Try.func17, Try.ntmps17
  go_wp2_with fail
  clear x0' x0 x1 x2 x3 x4 x5 x6 x7 x8 x9 x10 x11 x12 x13 x14 x15 x16 x17 x18
  rw [← hV]
  clear hV
  go_loopw [17] (fun i wr => ∃ k : Nat, k ≤ 16 ∧ i = .int .i64 (k : Nat) ∧ wr = V ∧ Aside (∀ j, j < k → bs j ≤ 1000 ∧ (0 < bs j → Cn.hasS ms j = true))) (fun i _ => 16 - (intOf i).toNat)
  case atStart => exact ⟨0, by decide, rfl, rfl, fun j hj => absurd hj (Nat.not_lt_zero _)⟩
  case round =>
    obtain ⟨k, hk, rfl, hwr, Z⟩ := hrel
    replace hwr := hwr.symm
    subst hwr
    have x1 := XV.out.1.cells.2.1
    by_cases hlt : k < 16
    · have t1 : (k : Int) < 16 := by omega
      have t0 : (0 : Int) ≤ (k : Int) := by omega
      have ix := vec_index bs k hlt
      have hb16 := HA.out.2.2.2 k hlt
      obtain ⟨B, hB⟩ : ∃ B, B = bs k := ⟨_, rfl⟩
      rw [← hB] at ix hb16
      have w8 : IntKind.u8.wrap (k : Int) = (k : Int) := by rw [IntKind.wrap_u8]; omega
      have BB : Aside (B = bs k) := hB
      clear hB
      have RF2 : Aside (∀ W, ¬ (bs k ≤ 1000 ∧ (0 < bs k → Cn.hasS ms k = true)) → Below w.heap.size w W → Q (.returned (.bool false)) W) := fun W h hb => RF.out W (fun h2 => h (h2.base k hlt)) hb
      have ZN : Aside (bs k ≤ 1000 ∧ (0 < bs k → Cn.hasS ms k = true) → ∀ j, j < k + 1 → bs j ≤ 1000 ∧ (0 < bs j → Cn.hasS ms j = true)) := fun h j hj => by
        by_cases e : j = k
        · subst e; exact h
        · exact Z.out j (by omega)
      by_cases b1 : 1000 < B
      · have Q1 : Aside (Q (.returned (.bool false)) V) := RF2.out _ (fun h => by rw [← BB.out] at h; omega) XV.out.2
        have b1' : (1000 : Int) < (B : Int) := by omega
        clear RF RT RF2 ZN
        go_wp2_with fail
        exact Q1.out
      have b1' : ¬ (1000 : Int) < (B : Int) := by omega
      by_cases b2 : 0 < B
      · have b2' : (0 : Int) < (B : Int) := by omega
        cases hh : Cn.hasS ms k with
        | false =>
          have Q1 : Aside (Q (.returned (.bool false)) V) := RF2.out _ (fun h => by have := h.2 (by rw [← BB.out]; exact b2); rw [hh] at this; cases this) XV.out.2
          have C1 := CH.out k V
          rw [hh] at C1
          clear RF RT RF2 ZN CH hh
          go_wp2_with (go_at_call 30; refine C1.mono ?_; rintro z w' ⟨rfl, hw⟩; replace hw := hw.symm; subst hw)
          exact Q1.out
        | true =>
          have C1 := CH.out k V
          rw [hh] at C1
          have Z2 : Aside (∀ j, j < k + 1 → bs j ≤ 1000 ∧ (0 < bs j → Cn.hasS ms j = true)) := ZN.out ⟨by rw [← BB.out]; omega, fun _ => hh⟩
          clear RF RT RF2 ZN CH hh
          go_wp2_with (go_at_call 30; refine C1.mono ?_; rintro z w' ⟨rfl, hw⟩; replace hw := hw.symm; subst hw)
          go_roundw
          case rel => exact ⟨k + 1, by omega, by go_num, by first | rfl | trivial, Z2⟩
          case measure => simp [intOf]; omega
      · have b2' : ¬ (0 : Int) < (B : Int) := by omega
        have b3' : B = 0 := by omega
        have Z2 : Aside (∀ j, j < k + 1 → bs j ≤ 1000 ∧ (0 < bs j → Cn.hasS ms j = true)) := ZN.out ⟨by rw [← BB.out]; omega, fun h => by rw [← BB.out] at h; omega⟩
        clear RF RT RF2 ZN CH BB
        subst b3'
        go_wp2_with fail
        go_roundw
        case rel => exact ⟨k + 1, by omega, by go_num, by first | rfl | trivial, Z2⟩
        case measure => simp [intOf]; omega
    · obtain rfl : k = 16 := by omega
      have x18 := XV.out.1.cells.2.2.2.2.2.2.2.2.2.2.2.2.2.2.2.2.2.2
      clear x1
      go_wp2_with fail
      go_loopw [39] (fun i wr2 => ∃ k : Nat, k ≤ n ∧ i = .int .i64 (k : Nat) ∧ Aside (Below V.heap.size V wr2) ∧ Aside ((∀ j x y, j + 1 < k → (ops l)[j]? = some x → (ops l)[j + 1]? = some y → Tb.ahead y.frm y.seq x = true) ∧ ∀ (j : Nat) (e : En), j < k → l[j]? = some e → Tb.OkO ms bs e.o)) (fun i _ => n - (intOf i).toNat)
      case atStart => exact ⟨0, Nat.zero_le _, rfl, Below.refl _ _, (⟨fun j x y h => absurd h (Nat.not_lt_zero _), fun j e h => absurd h (Nat.not_lt_zero _)⟩ : _ ∧ _)⟩
      case round =>
        obtain ⟨k, hk, rfl, hB, HS⟩ := hrel
        clear x18
        by_cases hlt : k < n
        · have t1 : (k : Int) < (n : Int) := by omega
          have t0 : (0 : Int) ≤ (k : Int) := by omega
          obtain ⟨e, hke⟩ : ∃ e, l[k]? = some e := ⟨_, List.getElem?_eq_getElem (by have := HA.out.2.2.1; omega)⟩
          obtain ⟨b, off, rfl, y0, y1, y2, y3, y4, y5, y6⟩ := AtR.get (HA.out.1.later (below_step XV.out.2 hB.out)) hke
          have KE : Aside (l[k]? = some e ∧ EnAt w e) := ⟨hke, HA.out.2.1 e (List.mem_of_getElem? hke)⟩
          clear hke
          go_wp2_with fail
          refine (?_ : ∀ W, (Below V.heap.size V W ∧ X7 W wr.heap.size (.int .u8 (e.o.frm : Int)) (.int .i64 e.o.seq) (.bool e.o.c.echoed) (.bool e.o.c.readied) (.bool e.o.c.done) (.slice e.a1 e.o.c.echoes.length e.k1) (.slice e.a2 e.o.c.readies.length e.k2)) → Code.wp _ _ _ _ W) _ ⟨hB.out.alloc hB.out.size _, X7.new wr _ _ _ _ _ _ _⟩
          intro W hW
          have HW : Aside _ := hW
          clear hW y0 y1 y2 y3 y4 y5 y6
          have X1 : Aside (X19 W w.heap.size 30 v ms bs (.slice (some ⟨b, off, none⟩) n c)) := XV.out.1.later HW.out.1
          have BP : Aside (∀ p : Bw W, Below V.heap.size V p.w') := fun p => below_step HW.out.1 p.h
          obtain ⟨bo, hb0⟩ := dec_bool (Tb.OkO ms bs e.o)
          have hbo : Aside (bo = true ↔ Tb.OkO ms bs e.o) := hb0
          clear hb0
          have O35 : Aside (∀ (W' : World), Below V.heap.size V W' → Calls Try.prog 35 #[.agg (tabL v ms bs (.slice (some ⟨b, off, none⟩) n c)), .agg (encE e).toArray] W' fun z w' => z = .returned (.bool bo) ∧ Below W'.heap.size W' w') := fun W' hb => rightOpen_dec v ms bs _ e W' (KE.out.2.later (below_step XV.out.2 hb)) hms HA.out.2.2.2 bo hbo.out
          have NOK : Aside (¬ Tb.OkO ms bs e.o → ∀ W', Below V.heap.size V W' → Q (.returned (.bool false)) W') := fun h W' hb => RF.out W' (fun h2 => h (h2.ok e.o (List.mem_map.2 ⟨e, List.mem_of_getElem? KE.out.1, rfl⟩))) (below_step XV.out.2 hb)
          unfold encE at O35
          have p0 : ∀ p : Bw W, p.w'.cell? ⟨w.heap.size, 0, none⟩ = some (.int .i64 v) := fun p => (X1.out.later p.h).cells.1
          have p1 : ∀ p : Bw W, p.w'.cell? ⟨w.heap.size, 1, none⟩ = some (.int .u16 (ms : Int)) := fun p => (X1.out.later p.h).cells.2.1
          have p2 : ∀ p : Bw W, p.w'.cell? ⟨w.heap.size, 2, none⟩ = some (.int .u16 ((bs 0 : Nat) : Int)) := fun p => (X1.out.later p.h).cells.2.2.1
          have p3 : ∀ p : Bw W, p.w'.cell? ⟨w.heap.size, 3, none⟩ = some (.int .u16 ((bs 1 : Nat) : Int)) := fun p => (X1.out.later p.h).cells.2.2.2.1
          have p4 : ∀ p : Bw W, p.w'.cell? ⟨w.heap.size, 4, none⟩ = some (.int .u16 ((bs 2 : Nat) : Int)) := fun p => (X1.out.later p.h).cells.2.2.2.2.1
          have p5 : ∀ p : Bw W, p.w'.cell? ⟨w.heap.size, 5, none⟩ = some (.int .u16 ((bs 3 : Nat) : Int)) := fun p => (X1.out.later p.h).cells.2.2.2.2.2.1
          have p6 : ∀ p : Bw W, p.w'.cell? ⟨w.heap.size, 6, none⟩ = some (.int .u16 ((bs 4 : Nat) : Int)) := fun p => (X1.out.later p.h).cells.2.2.2.2.2.2.1
          have p7 : ∀ p : Bw W, p.w'.cell? ⟨w.heap.size, 7, none⟩ = some (.int .u16 ((bs 5 : Nat) : Int)) := fun p => (X1.out.later p.h).cells.2.2.2.2.2.2.2.1
          have p8 : ∀ p : Bw W, p.w'.cell? ⟨w.heap.size, 8, none⟩ = some (.int .u16 ((bs 6 : Nat) : Int)) := fun p => (X1.out.later p.h).cells.2.2.2.2.2.2.2.2.1
          have p9 : ∀ p : Bw W, p.w'.cell? ⟨w.heap.size, 9, none⟩ = some (.int .u16 ((bs 7 : Nat) : Int)) := fun p => (X1.out.later p.h).cells.2.2.2.2.2.2.2.2.2.1
          have p10 : ∀ p : Bw W, p.w'.cell? ⟨w.heap.size, 10, none⟩ = some (.int .u16 ((bs 8 : Nat) : Int)) := fun p => (X1.out.later p.h).cells.2.2.2.2.2.2.2.2.2.2.1
          have p11 : ∀ p : Bw W, p.w'.cell? ⟨w.heap.size, 11, none⟩ = some (.int .u16 ((bs 9 : Nat) : Int)) := fun p => (X1.out.later p.h).cells.2.2.2.2.2.2.2.2.2.2.2.1
          have p12 : ∀ p : Bw W, p.w'.cell? ⟨w.heap.size, 12, none⟩ = some (.int .u16 ((bs 10 : Nat) : Int)) := fun p => (X1.out.later p.h).cells.2.2.2.2.2.2.2.2.2.2.2.2.1
          have p13 : ∀ p : Bw W, p.w'.cell? ⟨w.heap.size, 13, none⟩ = some (.int .u16 ((bs 11 : Nat) : Int)) := fun p => (X1.out.later p.h).cells.2.2.2.2.2.2.2.2.2.2.2.2.2.1
          have p14 : ∀ p : Bw W, p.w'.cell? ⟨w.heap.size, 14, none⟩ = some (.int .u16 ((bs 12 : Nat) : Int)) := fun p => (X1.out.later p.h).cells.2.2.2.2.2.2.2.2.2.2.2.2.2.2.1
          have p15 : ∀ p : Bw W, p.w'.cell? ⟨w.heap.size, 15, none⟩ = some (.int .u16 ((bs 13 : Nat) : Int)) := fun p => (X1.out.later p.h).cells.2.2.2.2.2.2.2.2.2.2.2.2.2.2.2.1
          have p16 : ∀ p : Bw W, p.w'.cell? ⟨w.heap.size, 16, none⟩ = some (.int .u16 ((bs 14 : Nat) : Int)) := fun p => (X1.out.later p.h).cells.2.2.2.2.2.2.2.2.2.2.2.2.2.2.2.2.1
          have p17 : ∀ p : Bw W, p.w'.cell? ⟨w.heap.size, 17, none⟩ = some (.int .u16 ((bs 15 : Nat) : Int)) := fun p => (X1.out.later p.h).cells.2.2.2.2.2.2.2.2.2.2.2.2.2.2.2.2.2.1
          have p18 : ∀ p : Bw W, p.w'.cell? ⟨w.heap.size, 18, none⟩ = some (.slice (some ⟨b, off, none⟩) n c) := fun p => (X1.out.later p.h).cells.2.2.2.2.2.2.2.2.2.2.2.2.2.2.2.2.2.2
          have r0 : ∀ p : Bw W, p.w'.cell? ⟨wr.heap.size, 0, none⟩ = some (.int .u8 (e.o.frm : Int)) := fun p => (HW.out.2.later p.h).cells.1
          have r1 : ∀ p : Bw W, p.w'.cell? ⟨wr.heap.size, 1, none⟩ = some (.int .i64 e.o.seq) := fun p => (HW.out.2.later p.h).cells.2.1
          have r2 : ∀ p : Bw W, p.w'.cell? ⟨wr.heap.size, 2, none⟩ = some (.bool e.o.c.echoed) := fun p => (HW.out.2.later p.h).cells.2.2.1
          have r3 : ∀ p : Bw W, p.w'.cell? ⟨wr.heap.size, 3, none⟩ = some (.bool e.o.c.readied) := fun p => (HW.out.2.later p.h).cells.2.2.2.1
          have r4 : ∀ p : Bw W, p.w'.cell? ⟨wr.heap.size, 4, none⟩ = some (.bool e.o.c.done) := fun p => (HW.out.2.later p.h).cells.2.2.2.2.1
          have r5 : ∀ p : Bw W, p.w'.cell? ⟨wr.heap.size, 5, none⟩ = some (.slice e.a1 e.o.c.echoes.length e.k1) := fun p => (HW.out.2.later p.h).cells.2.2.2.2.2.1
          have r6 : ∀ p : Bw W, p.w'.cell? ⟨wr.heap.size, 6, none⟩ = some (.slice e.a2 e.o.c.readies.length e.k2) := fun p => (HW.out.2.later p.h).cells.2.2.2.2.2.2
          cases k with
          | zero =>
            have NXT : Aside (Tb.OkO ms bs e.o → (∀ j x y, j + 1 < 0 + 1 → (ops l)[j]? = some x → (ops l)[j + 1]? = some y → Tb.ahead y.frm y.seq x = true) ∧ ∀ (j : Nat) (e : En), j < 0 + 1 → l[j]? = some e → Tb.OkO ms bs e.o) := fun h => ⟨fun j x y hj => by omega, fun j e' hj he' => by
              obtain rfl : j = 0 := by omega
              rw [KE.out.1] at he'; rw [← Option.some.inj he']; exact h⟩
            have O1 : Aside (∀ W : World, True) := fun _ => trivial
            cases bo with
            | false =>
              have Q1 : Aside (∀ p : Bw W, Q (.returned (.bool false)) p.w') := fun p => NOK.out (fun h => by have := hbo.out.2 h; cases this) _ (BP.out p)
              clear RF RT NOK NXT
              have hne := Bw.some W
              refine wp_region_wq (by kernel_rfl) (by kernel_rfl) ?_
              repeat (first | (refine wq_tab X1.out (.tmp 1) rfl rfl (by go_simp) ?_; dsimp only [Act.put, Array.setIfInBounds]) | (refine wq_step (fun K hK => ?_); go_simp; first | (refine hK _ ?_; clear hK K) | (apply Exists.intro; refine ⟨fun _ => ?_, hK _ ?_⟩; (first | (go_at_call 35; exact Calls.bw_of (O35.out _ (BP.out _)))); clear hK K)))
              refine wq_nil ?_
              intro _ hw'
              obtain ⟨pq, hw''⟩ := hw'
              subst hw''
              go_wp2
              exact Q1.out _
            | true =>
              have N1 : Aside (∀ p : Bw W, Below V.heap.size V p.w' ∧ _) := fun p => ⟨BP.out p, NXT.out (hbo.out.1 rfl)⟩
              clear RF RT NOK NXT
              have hne := Bw.some W
              refine wp_region_wq (by kernel_rfl) (by kernel_rfl) ?_
              repeat (first | (refine wq_tab X1.out (.tmp 1) rfl rfl (by go_simp) ?_; dsimp only [Act.put, Array.setIfInBounds]) | (refine wq_step (fun K hK => ?_); go_simp; first | (refine hK _ ?_; clear hK K) | (apply Exists.intro; refine ⟨fun _ => ?_, hK _ ?_⟩; (first | (go_at_call 35; exact Calls.bw_of (O35.out _ (BP.out _)))); clear hK K)))
              refine wq_nil ?_
              intro _ hw'
              obtain ⟨pq, hw''⟩ := hw'
              subst hw''
              go_wp2
              refine ⟨⟨_, _, _, _, ⟨0 + 1, by omega, by go_num, (N1.out pq).1, (N1.out pq).2⟩, rfl, rfl, rfl, by go_num⟩, by simp [intOf]; omega⟩
          | succ k1 =>
            obtain ⟨ep, hpe⟩ : ∃ e, l[k1]? = some e := ⟨_, List.getElem?_eq_getElem (by have := HA.out.2.2.1; omega)⟩
            obtain ⟨b', off', eq', q0, q1, q2, q3, q4, q5, q6⟩ := AtR.get (HA.out.1.later (below_step XV.out.2 HW.out.1)) hpe
            have eb : b = b' := congrArg Addr.block (Option.some.inj eq')
            have eo : off = off' := congrArg Addr.off (Option.some.inj eq')
            subst eb eo
            clear eq'
            have O1 : Aside (∀ W' : World, Calls Try.prog 34 #[.agg #[.int .u8 (ep.o.frm : Int), .int .i64 ep.o.seq, .bool ep.o.c.echoed, .bool ep.o.c.readied, .bool ep.o.c.done, .slice ep.a1 ep.o.c.echoes.length ep.k1, .slice ep.a2 ep.o.c.readies.length ep.k2], .agg #[.int .u8 (e.o.frm : Int), .int .i64 e.o.seq, .bool e.o.c.echoed, .bool e.o.c.readied, .bool e.o.c.done, .slice e.a1 e.o.c.echoes.length e.k1, .slice e.a2 e.o.c.readies.length e.k2]] W' fun z w' => z = .returned (.int .i64 (Tb.cmpO ep.o e.o)) ∧ Below W'.heap.size W' w') := fun W' => order_any ep.o e.o _ _ _ _ _ _ _ _ _ _ W'
            have CE : Aside (decide (Tb.cmpO ep.o e.o < 0) = Tb.ahead e.o.frm e.o.seq ep.o) := Tb.cmp_neg _ _
            have KP : Aside (l[k1]? = some ep) := hpe
            clear hpe
            generalize Tb.cmpO ep.o e.o = cv at O1 CE
            have d0 : ∀ p : Bw W, p.w'.cell? ⟨b, off + k1 * 7, none⟩ = some (.int .u8 (ep.o.frm : Int)) := fun p => cell_later p.h q0
            have d1 : ∀ p : Bw W, p.w'.cell? ⟨b, off + k1 * 7 + 1, none⟩ = some (.int .i64 ep.o.seq) := fun p => cell_later p.h q1
            have d2 : ∀ p : Bw W, p.w'.cell? ⟨b, off + k1 * 7 + 2, none⟩ = some (.bool ep.o.c.echoed) := fun p => cell_later p.h q2
            have d3 : ∀ p : Bw W, p.w'.cell? ⟨b, off + k1 * 7 + 3, none⟩ = some (.bool ep.o.c.readied) := fun p => cell_later p.h q3
            have d4 : ∀ p : Bw W, p.w'.cell? ⟨b, off + k1 * 7 + 4, none⟩ = some (.bool ep.o.c.done) := fun p => cell_later p.h q4
            have d5 : ∀ p : Bw W, p.w'.cell? ⟨b, off + k1 * 7 + 5, none⟩ = some (.slice ep.a1 ep.o.c.echoes.length ep.k1) := fun p => cell_later p.h q5
            have d6 : ∀ p : Bw W, p.w'.cell? ⟨b, off + k1 * 7 + 6, none⟩ = some (.slice ep.a2 ep.o.c.readies.length ep.k2) := fun p => cell_later p.h q6
            clear q0 q1 q2 q3 q4 q5 q6
            have u0 : (0 : Int) ≤ (k1 : Int) := by omega
            have u1 : (k1 : Int) < (n : Int) := by omega
            have wk2 : IntKind.i64.wrap ((k1 : Int) + 1 - 1) = (k1 : Int) := by rw [IntKind.wrap_i64]; omega
            have wk3 : (k1 : Int) + 1 - 1 = (k1 : Int) := by omega
            have wk5 : IntKind.i64.wrap (k1 : Int) = (k1 : Int) := by rw [IntKind.wrap_i64]; omega
            by_cases hcv : cv < 0
            · have NXT : Aside (Tb.OkO ms bs e.o → (∀ j x y, j + 1 < k1 + 1 + 1 → (ops l)[j]? = some x → (ops l)[j + 1]? = some y → Tb.ahead y.frm y.seq x = true) ∧ ∀ (j : Nat) (e : En), j < k1 + 1 + 1 → l[j]? = some e → Tb.OkO ms bs e.o) := fun h => ⟨fun j x y hj hx hy => by
                by_cases ej : j = k1
                · subst ej
                  rw [ops_get KP.out] at hx
                  rw [ops_get KE.out.1] at hy
                  rw [← Option.some.inj hx, ← Option.some.inj hy, ← CE.out]; exact decide_eq_true hcv
                · exact HS.out.1 j x y (by omega) hx hy, fun j e' hj he' => by
                by_cases ej : j = k1 + 1
                · subst ej; rw [KE.out.1] at he'; rw [← Option.some.inj he']; exact h
                · exact HS.out.2 j e' (by omega) he'⟩
              cases bo with
              | false =>
                have Q1 : Aside (∀ p : Bw W, Q (.returned (.bool false)) p.w') := fun p => NOK.out (fun h => by have := hbo.out.2 h; cases this) _ (BP.out p)
                clear RF RT NOK NXT
                have hne := Bw.some W
                refine wp_region_wq (by kernel_rfl) (by kernel_rfl) ?_
                repeat (first | (refine wq_tab X1.out (.tmp 1) rfl rfl (by go_simp) ?_; dsimp only [Act.put, Array.setIfInBounds]) | (refine wq_step (fun K hK => ?_); go_simp; first | (refine hK _ ?_; clear hK K) | (apply Exists.intro; refine ⟨fun _ => ?_, hK _ ?_⟩; (first | (go_at_call 34; exact Calls.bw_of (O1.out _)) | (go_at_call 35; exact Calls.bw_of (O35.out _ (BP.out _)))); clear hK K)))
                refine wq_nil ?_
                intro _ hw'
                obtain ⟨pq, hw''⟩ := hw'
                subst hw''
                go_wp2
                exact Q1.out _
              | true =>
                have N1 : Aside (∀ p : Bw W, Below V.heap.size V p.w' ∧ _) := fun p => ⟨BP.out p, NXT.out (hbo.out.1 rfl)⟩
                clear RF RT NOK NXT
                have hne := Bw.some W
                refine wp_region_wq (by kernel_rfl) (by kernel_rfl) ?_
                repeat (first | (refine wq_tab X1.out (.tmp 1) rfl rfl (by go_simp) ?_; dsimp only [Act.put, Array.setIfInBounds]) | (refine wq_step (fun K hK => ?_); go_simp; first | (refine hK _ ?_; clear hK K) | (apply Exists.intro; refine ⟨fun _ => ?_, hK _ ?_⟩; (first | (go_at_call 34; exact Calls.bw_of (O1.out _)) | (go_at_call 35; exact Calls.bw_of (O35.out _ (BP.out _)))); clear hK K)))
                refine wq_nil ?_
                intro _ hw'
                obtain ⟨pq, hw''⟩ := hw'
                subst hw''
                go_wp2
                refine ⟨⟨_, _, _, _, ⟨k1 + 1 + 1, by omega, by go_num, (N1.out pq).1, (N1.out pq).2⟩, rfl, rfl, rfl, by go_num⟩, by simp [intOf]; omega⟩
            · have Q1 : Aside (∀ p : Bw W, Q (.returned (.bool false)) p.w') := fun p => RF.out _ (fun h => by
                have := srt_at h.srt (ops_get KP.out) (ops_get KE.out.1)
                rw [← CE.out] at this
                exact hcv (of_decide_eq_true this)) (below_step XV.out.2 (BP.out p))
              clear RF RT NOK
              have hne := Bw.some W
              refine wp_region_wq (by kernel_rfl) (by kernel_rfl) ?_
              repeat ((refine wq_step (fun K hK => ?_); go_simp; first | (refine hK _ ?_; clear hK K) | (apply Exists.intro; refine ⟨fun _ => ?_, hK _ ?_⟩; (first | (go_at_call 34; exact Calls.bw_of (O1.out _))); clear hK K)))
              refine wq_nil ?_
              intro _ hw'
              obtain ⟨pq, hw''⟩ := hw'
              subst hw''
              go_wp2
              exact Q1.out _
        · obtain rfl : k = n := by omega
          have Q1 : Aside (Q (.returned (.bool true)) wr) := RT.out wr ⟨by show 0 ≤ v; omega, by show v ≤ 1000; omega, fun i hi => Z.out i hi, srt_adj fun j x y h1 h2 => HS.out.1 j x y (by have := (List.getElem?_eq_some_iff.1 h2).1; rw [ops_len, ← HA.out.2.2.1] at this; exact this) h1 h2, fun o ho => by
            obtain ⟨e, h1, rfl⟩ := List.mem_map.1 ho
            obtain ⟨j, hj⟩ := List.getElem?_of_mem h1
            exact HS.out.2 j e (by have := (List.getElem?_eq_some_iff.1 hj).1; rw [← HA.out.2.2.1] at this; exact this) hj⟩ (below_step XV.out.2 hB.out)
          clear RF RT HS
          go_wp2
          exact Q1.out
end Go.Proofs.Ytmhjmeedoajkjaa
