/- TableBase, walked. -/
import Derived.Test.YtmhjmeedoajkjaaTbW
set_option linter.unusedVariables false
namespace Go.Proofs.Ytmhjmeedoajkjaa
open Go.RowKit Go.Shelf

/-- The state of the loop of TableBase behind k acts. -/
structure BaS (w w1 wr : World) (k ms : Nat) (nv : Int) (nf : Nat) (ns : Int) (T : Tb.Tab) (p : Option Addr) (q : Nat) (es : List En) : Prop where
  box : X19 wr w1.heap.size 30 T.view T.ms T.base (.slice p es.length q)
  ta : TaAt wr k T p es
  nm : wr.heap[w.heap.size]? = some (.cells #[.int .i64 nv, .int .u8 (nf : Int), .int .i64 ns] 33 (0, 0))
  lo : w.heap.size < w1.heap.size
  below : Below w.heap.size w wr
  same : T.ms = ms ∧ T.view = 0
  fr : Fr w1.heap.size p ∧ ∀ e ∈ es, FrE w1.heap.size e
theorem BaS.later {w w1 wr wr' : World} {k m ms : Nat} {nv : Int} {nf : Nat} {ns : Int} {T : Tb.Tab} {p : Option Addr} {q : Nat} {es : List En} (h : BaS w w1 wr k ms nv nf ns T p q es) (hb : Below wr.heap.size wr wr') (hm : k ≤ m) : BaS w w1 wr' m ms nv nf ns T p q es :=
  ⟨h.box.later hb, (h.ta.later hb).more hm, (hb.block _ (Array.getElem?_eq_some_iff.1 h.nm).1).trans h.nm, h.lo, below_step h.below hb, h.same, h.fr⟩

theorem below_drew_n (w : World) (q : Nat) : Below w.heap.size w (w.drewN q) := by
  have h := Below.refl w.heap.size w
  exact ⟨h.os, h.tape, h.output, h.size, h.block⟩
/-- A value built of one part, as one step of a plain region. -/
theorem wpList_build1 {P : Program} {w : World} {ops : Array Oper} {rest : List Oper} {o : Oper} {a : Act} {Q : Exit → Act → World → Prop} (hg : o.guard = none) (t : TypeId) (i : Nat) (p0 : Operand) (ho : o.op = .build t #[(i, p0)]) (v0 v : Value)
    (hr : (Instr.build t #[(i, v0)]).run P w = .ok v w) (h0 : a.eval p0 = v0) (h : wpList P ops Q rest (a.put o.dst v) w) : wpList P ops Q (o :: rest) a w := by
  refine wpList_plain hg fun K hK => ?_
  unfold Oper.wp
  have : (execOp a.eval o).run P w = .ok (.value v) w := by
    generalize a.eval = ev at h0 ⊢
    generalize hB : Instr.build t #[(i, v0)] = B at hr
    have hB' : Instr.build t ((#[(i, p0)] : Array (Nat × Operand)).map fun x => match x with | (i, x) => (i, ev x)) = B := by
      rw [← hB, ← h0]; congr 1; simp
    simp only [execOp, ho]
    rw [hB']
    simp [hr]
  rw [this]
  exact hK _ _ h
theorem wpList_name {w : World} {ops : Array Oper} {rest : List Oper} {o : Oper} {a : Act} {Q : Exit → Act → World → Prop} {b : Nat} {v f s : Value} (h0 : w.cell? ⟨b, 0, none⟩ = some v) (h1 : w.cell? ⟨b, 1, none⟩ = some f) (h2 : w.cell? ⟨b, 2, none⟩ = some s) (hg : o.guard = none) (p : Operand) (ho : o.op = .load 33 p)
    (hp : a.eval p = .pointer (some ⟨b, 0, none⟩)) (hn : wpList Try.prog ops Q rest (a.put o.dst (.agg #[v, f, s])) w) : wpList Try.prog ops Q (o :: rest) a w := by
  refine wpList_loadw 33 3 p ho Try.isAgg33 Try.sizeOf33 [v, f, s] rfl b 0 (fun j u hj => ?_) hp (by simp [Region.wanted, hg]) hn
  match j, hj with
  | 0, hj => cases hj; exact h0
  | 1, hj => cases hj; exact h1
  | 2, hj => cases hj; exact h2
  | j + 3, hj => simp at hj

theorem row_set0 {w : World} {b : Nat} {v0 v1 v2 u : Value} (h : w.heap[b]? = some (.cells #[v0, v1, v2] 33 (0, 0))) : (w.setCell ⟨b, 0, none⟩ u).heap[b]? = some (.cells #[u, v1, v2] 33 (0, 0)) := row_set h u
theorem BaS.ending {w w1 wr : World} {k ms : Nat} {nv : Int} {nf : Nat} {ns : Int} {T : Tb.Tab} {p : Option Addr} {q : Nat} {es : List En} (h : BaS w w1 wr k ms nv nf ns T p q es) (hk : k ≤ 80) : BaS w w1 (wr.setCell ⟨w.heap.size, 0, none⟩ (.int .i64 0)) 80 ms 0 nf ns T p q es :=
  ⟨h.box.far (by have := h.lo; omega) _, (h.ta.more hk).sets (fun ad e => by have := h.fr.1 ad e; have := h.lo; omega) (fun e he => fr_offs (h.fr.2 e he) h.lo) [.int .i64 0] 0, row_set0 h.nm, h.lo, h.below.setCell (p := ⟨w.heap.size, 0, none⟩) (Nat.le_refl _) _, h.same, h.fr⟩
theorem BaS.name {w w1 wr : World} {k ms : Nat} {nv : Int} {nf : Nat} {ns : Int} {T : Tb.Tab} {p : Option Addr} {q : Nat} {es : List En} (h : BaS w w1 wr k ms nv nf ns T p q es) : wr.cell? ⟨w.heap.size, 0, none⟩ = some (.int .i64 nv) ∧ wr.cell? ⟨w.heap.size, 1, none⟩ = some (.int .u8 (nf : Int)) ∧ wr.cell? ⟨w.heap.size, 2, none⟩ = some (.int .i64 ns) :=
  ⟨cell_of_row wr _ 0 _ 33 _ h.nm, cell_of_row wr _ 1 _ 33 _ h.nm, cell_of_row wr _ 2 _ 33 _ h.nm⟩
/-- Behind the loop, the name's view nought. -/
def BaE (w w1 wr : World) (ms : Nat) (nf : Nat) (ns : Int) (T : Tb.Tab) (p : Option Addr) (q : Nat) (es : List En) : Prop := BaS w w1 wr 80 ms 0 nf ns T p q es
theorem BaE.name {w w1 wr : World} {ms : Nat} {nf : Nat} {ns : Int} {T : Tb.Tab} {p : Option Addr} {q : Nat} {es : List En} (h : BaE w w1 wr ms nf ns T p q es) : wr.cell? ⟨w.heap.size, 0, none⟩ = some (.int .i64 0) ∧ wr.cell? ⟨w.heap.size, 1, none⟩ = some (.int .u8 (nf : Int)) ∧ wr.cell? ⟨w.heap.size, 2, none⟩ = some (.int .i64 ns) := BaS.name h
theorem BaE.below {w w1 wr : World} {ms : Nat} {nf : Nat} {ns : Int} {T : Tb.Tab} {p : Option Addr} {q : Nat} {es : List En} (h : BaE w w1 wr ms nf ns T p q es) : Below w.heap.size w wr := BaS.below h

set_option maxHeartbeats 8000000 in
set_option maxRecDepth 100000 in
theorem base_walk (w : World) (ms : Nat) (a : Option Addr) (len cap : Nat) (z : List Ac) (nv : Int) (nf : Nat) (ns : Int) (hz : AtA w a z) (hl : z.length = len) (hid : ∀ v ∈ z, v.nf < 256 ∧ v.who < 256) (hms : ms < 65536) (hnf : nf < 256) :
    Calls Try.prog 5 #[.int .u16 (ms : Int), .slice a len cap, .agg #[.int .i64 nv, .int .u8 (nf : Int), .int .i64 ns]] w fun e w' => e = .returned (.bool true) ∧ Below w.heap.size w w' := by
  have HZ : Aside (AtA w a z ∧ z.length = len ∧ (∀ v ∈ z, v.nf < 256 ∧ v.who < 256) ∧ ms < 65536 ∧ nf < 256) := ⟨hz, hl, hid, hms, hnf⟩
  have hN0 := heap_alloc_new w (.cells #[.int .i64 nv, .int .u8 (nf : Int), .int .i64 ns] 33)
  have HA := alive8_any (w.alloc (.cells #[.int .i64 nv, .int .u8 (nf : Int), .int .i64 ns] 33))
  clear hz hl hid hms hnf
  go_enter Try.func5, Try.ntmps5
  go_wp2_with fail
  refine HA.mono ?_
  rintro e w1 ⟨rfl, hb1⟩
  have hN1 : w1.heap[w.heap.size]? = some (.cells #[.int .i64 nv, .int .u8 (nf : Int), .int .i64 ns] 33 (0, 0)) := (hb1.block _ (by simp)).trans hN0
  have hbw1 : Below w.heap.size w w1 := below_step ((Below.refl _ w).alloc (Nat.le_refl _) _) hb1
  have hlo : w.heap.size < w1.heap.size := (Array.getElem?_eq_some_iff.1 hN1).1
  have Z0 : Aside (X19 (w1.alloc (.cells #[.int .i64 0, .int .u16 0, .int .u16 0, .int .u16 0, .int .u16 0, .int .u16 0, .int .u16 0, .int .u16 0, .int .u16 0, .int .u16 0, .int .u16 0, .int .u16 0, .int .u16 0, .int .u16 0, .int .u16 0, .int .u16 0, .int .u16 0, .int .u16 0, .slice none 0 0] 30)) w1.heap.size 30 0 0 (fun _ => 0) (.slice none 0 0)) := X19.zero w1
  obtain ⟨V, hV⟩ : ∃ V, V = (w1.alloc (.cells #[.int .i64 0, .int .u16 0, .int .u16 0, .int .u16 0, .int .u16 0, .int .u16 0, .int .u16 0, .int .u16 0, .int .u16 0, .int .u16 0, .int .u16 0, .int .u16 0, .int .u16 0, .int .u16 0, .int .u16 0, .int .u16 0, .int .u16 0, .int .u16 0, .slice none 0 0] 30)).setCells w1.heap.size 0 (tabL 0 ms (fun _ => 0) (.slice none 0 0)).toList := ⟨_, rfl⟩
  have hbV : Below w1.heap.size w1 V := by rw [hV]; exact below_cells _ _ ((Below.refl _ w1).alloc (Nat.le_refl _) _) (Nat.le_refl _)
  have ST0 : Aside (BaS w w1 V 0 ms nv nf ns ⟨0, ms, fun _ => 0, []⟩ none 0 []) := by
    refine ⟨?_, TaAt.zero V ms HZ.out.2.2.2.1, (hbV.block _ hlo).trans hN1, hlo, below_step hbw1 hbV, ⟨rfl, rfl⟩, (fun _ h => nomatch h), (fun _ h => nomatch h)⟩
    rw [hV]; exact Z0.out.whole
  clear HA hN0 hN1 hb1 hbw1 hlo hbV
  go_wp2_with (first
    | (with_reducible refine wpList_build1 rfl 30 1 _ rfl _ (.agg (tabL 0 ms (fun _ => 0) (.slice none 0 0))) (build30 ms _) rfl ?_)
    | ((with_reducible refine wpList_tab_store Z0.out rfl _ _ rfl rfl rfl ?_); rw [← hV]; clear hV Z0))
  go_loopw [8] (fun i wr => ∃ k T p q es, k ≤ len ∧ k ≤ 80 ∧ i = .int .i64 (k : Nat) ∧ Aside (BaS w w1 wr k ms nv nf ns T p q es)) (fun i _ => 80 - (intOf i).toNat)
  case atStart => exact ⟨0, _, _, _, _, by omega, by omega, rfl, ST0.out⟩
  case round =>
    obtain ⟨k, T, p, q, es, hk1, hk2, rfl, ST⟩ := hrel
    clear ST0
    by_cases hlt : k < len
    · by_cases hk80 : k < 80
      · have t1 : (k : Int) < (len : Int) := by omega
        have t2 : (k : Int) < 80 := by omega
        have t3 : (0 : Int) ≤ (k : Int) := by omega
        obtain ⟨b9, off9, x, rfl, hx, hcs⟩ := (HZ.out.1.later ST.out.below).get (by rw [HZ.out.2.1]; exact hlt)
        have HX : Aside (x.nf < 256 ∧ x.who < 256) := HZ.out.2.2.1 x (List.mem_of_getElem? hx)
        have HC : Aside (∀ i u, (acC x)[i]? = some u → (wr.alloc (.cells #[.int .i64 0, .int .u8 0, .int .i64 0, .int .i64 0, .int .u8 0, .string ⟨#[]⟩] 35)).cell? ⟨b9, off9 + k * 6 + i, none⟩ = some u) := fun i u hu => cell_later ((Below.refl _ wr).alloc (Nat.le_refl _) _) (hcs i u hu)
        have HC0 : Aside (∀ i u, (acC x)[i]? = some u → wr.cell? ⟨b9, off9 + k * 6 + i, none⟩ = some u) := hcs
        have ZB : Aside (A6 (wr.alloc (.cells #[.int .i64 0, .int .u8 0, .int .i64 0, .int .i64 0, .int .u8 0, .string ⟨#[]⟩] 35)) wr.heap.size ac0) := A6.zero wr
        obtain ⟨W2, hW2⟩ : ∃ W2, W2 = (wr.alloc (.cells #[.int .i64 0, .int .u8 0, .int .i64 0, .int .i64 0, .int .u8 0, .string ⟨#[]⟩] 35)).setCells wr.heap.size 0 (acC x) := ⟨_, rfl⟩
        have S2 : Aside (BaS w w1 W2 k ms nv nf ns T p q es ∧ A6 W2 wr.heap.size x) := by
          have hb : Below wr.heap.size wr W2 := by rw [hW2]; exact below_cells _ _ ((Below.refl _ wr).alloc (Nat.le_refl _) _) (Nat.le_refl _)
          exact ⟨ST.out.later hb (Nat.le_refl _), by rw [hW2]; exact ZB.out.whole x⟩
        obtain ⟨d0, d1, d2, d3, d4, d5⟩ := S2.out.2.cells
        clear ST hx hcs
        by_cases hbig : (1100 : Int) < (x.body.size : Int)
        · go_wp2_with (first
            | (with_reducible refine wpList_act HC0.out rfl _ rfl rfl ?_)
            | (with_reducible refine wpList_act HC.out rfl _ rfl rfl ?_)
            | ((with_reducible refine wpList_act_store ZB.out rfl _ _ rfl rfl rfl ?_); rw [← hW2]; clear hW2 ZB HC HC0))
          go_roundw
          case rel => exact ⟨k + 1, T, p, q, es, by omega, by omega, by go_num, S2.out.1.later (Below.refl _ _) (by omega)⟩
          case measure => simp [intOf]; omega
        · obtain ⟨u, hu⟩ : ∃ u, Tb.take T x.nv x.nf x.ns x.kind x.who x.body = u := ⟨_, rfl⟩
          have CT := take8_ta (q := q) S2.out.1.ta (by omega) HX.out.1 hu
          have UF : Aside ((∀ i, T.base i ≤ u.t.base i ∧ u.t.base i ≤ T.base i + 8) ∧ u.t.ms = ms ∧ u.t.view = 0 ∧ ∀ i, i < 16 → T.base i ≤ 1000) := by
            refine ⟨fun i => by rw [← hu]; exact Tb.take_base S2.out.1.ta.rt _ _ _ _ _ _ i, ?_, ?_, fun i hi => (S2.out.1.ta.rt.base i hi).1⟩
            · rw [← hu, (Tb.take_ms _ _ _ _ _ _ _).1]; exact S2.out.1.same.1
            · rw [← hu, (Tb.take_ms _ _ _ _ _ _ _).2]; exact S2.out.1.same.2
          clear hu
          go_wp2_with (first
            | (with_reducible refine wpList_act HC0.out rfl _ rfl rfl ?_)
            | (with_reducible refine wpList_act HC.out rfl _ rfl rfl ?_)
            | ((with_reducible refine wpList_act_store ZB.out rfl _ _ rfl rfl rfl ?_); rw [← hW2]; clear hW2 ZB HC HC0)
            | (with_reducible refine wpList_tab S2.out.1.box rfl _ rfl rfl ?_)
            | (with_reducible refine wpList_name d0 d1 d2 rfl _ rfl rfl ?_))
          refine CT.mono ?_
          rintro zz w4 ⟨p', q', es', ao, co, rfl, hA⟩
          have Z4 : Aside (X19 (w4.alloc (.cells #[.int .i64 0, .int .u16 0, .int .u16 0, .int .u16 0, .int .u16 0, .int .u16 0, .int .u16 0, .int .u16 0, .int .u16 0, .int .u16 0, .int .u16 0, .int .u16 0, .int .u16 0, .int .u16 0, .int .u16 0, .int .u16 0, .int .u16 0, .int .u16 0, .slice none 0 0] 30)) w4.heap.size 30 0 0 (fun _ => 0) (.slice none 0 0)) := X19.zero w4
          obtain ⟨W5, hW5⟩ : ∃ W5, W5 = (w4.alloc (.cells #[.int .i64 0, .int .u16 0, .int .u16 0, .int .u16 0, .int .u16 0, .int .u16 0, .int .u16 0, .int .u16 0, .int .u16 0, .int .u16 0, .int .u16 0, .int .u16 0, .int .u16 0, .int .u16 0, .int .u16 0, .int .u16 0, .int .u16 0, .int .u16 0, .slice none 0 0] 30)).setCells w4.heap.size 0 (tabL u.t.view u.t.ms u.t.base (.slice p' es'.length q')).toList := ⟨_, rfl⟩
          have S5 : Aside (X19 W5 w1.heap.size 30 T.view T.ms T.base (.slice p es.length q) ∧ X19 W5 w4.heap.size 30 u.t.view u.t.ms u.t.base (.slice p' es'.length q') ∧ TaAt W5 (k + 1) u.t p' es' ∧ W5.heap[w.heap.size]? = some (.cells #[.int .i64 nv, .int .u8 (nf : Int), .int .i64 ns] 33 (0, 0)) ∧ Below w.heap.size w W5 ∧ w.heap.size < w1.heap.size ∧ w1.heap.size < w4.heap.size ∧ wr.heap.size < w4.heap.size ∧ (∀ ad, p' = some ad → ad.block ≠ w1.heap.size) ∧ (∀ e ∈ es', Offs w1.heap.size e) ∧ Fr w1.heap.size p' ∧ ∀ e ∈ es', FrE w1.heap.size e) := by
            have hb : Below w4.heap.size w4 W5 := by rw [hW5]; exact below_cells _ _ ((Below.refl _ w4).alloc (Nat.le_refl _) _) (Nat.le_refl _)
            have hb2 := below_step hA.out.2.2.1 hb
            refine ⟨S2.out.1.box.later hb2, by rw [hW5]; exact Z4.out.whole, hA.out.1.later hb, (hb2.block _ (Array.getElem?_eq_some_iff.1 S2.out.1.nm).1).trans S2.out.1.nm, below_step S2.out.1.below hb2, S2.out.1.lo, ?_, ?_, fun ad e => ?_, fun e he => fr_offs (hA.out.2.2.2.2.1 e he) S2.out.1.box.lt, fun ad e => ?_, fun e he => (hA.out.2.2.2.2.1 e he).from_ (Nat.le_of_lt S2.out.1.box.lt)⟩
            · exact (S2.out.1.box.later hA.out.2.2.1).lt
            · have := (S2.out.2.later hA.out.2.2.1).lt; exact this
            · have h1 := hA.out.2.2.2.1 ad e; have h2 := S2.out.1.box.lt; omega
            · have h1 := hA.out.2.2.2.1 ad e; have h2 := S2.out.1.box.lt; omega
          clear CT hA d0 d1 d2 d3 d4 d5 S2
          go_wp2_with ((with_reducible refine wpList_tab_store Z4.out rfl _ _ rfl rfl rfl ?_); rw [← hW5]; clear hW5 Z4)
          go_loopw [60] (fun j wv => ∃ m : Nat, m ≤ 16 ∧ j = .int .i64 (m : Nat) ∧ Aside (Below W5.heap.size W5 wv)) (fun j _ => 16 - (intOf j).toNat)
          case atStart => exact ⟨0, by omega, rfl, Below.refl _ _⟩
          case round =>
            obtain ⟨m, hm, rfl, hB⟩ := hrel
            by_cases hlt2 : m < 16
            · have e0 := (S5.out.1.later hB.out).base hlt2
              have e1 := (S5.out.2.1.later hB.out).base hlt2
              have hle := UF.out.1 m
              have hle2 := UF.out.2.2.2 m hlt2
              generalize T.base m = bt at e0 hle hle2
              generalize u.t.base m = bu at e1 hle
              have r0 : (0 : Int) ≤ (m : Int) := by omega
              have r1 : (m : Int) < 16 := by omega
              have r2 : ¬ ((bu : Int) < (bt : Int)) := by omega
              have r3 : ¬ ((bt : Int) + 8 < (bu : Int)) := by omega
              have r4 : IntKind.u16.wrap ((bt : Int) + 8) = (bt : Int) + 8 := by rw [IntKind.wrap_u16]; omega
              have r5 : ¬ (bu < bt) := by omega
              have r6 : decide (bu < bt) = false := decide_eq_false r5
              have r7 : decide ((bu : Int) < (bt : Int)) = false := decide_eq_false r2
              clear hle hle2
              go_wp2_with fail
              go_quiet (fail)
              go_wp2
              go_roundw
              case rel => exact ⟨m + 1, by omega, by go_num, below_step hB.out (below_drew_n _ _)⟩
              case measure => simp [intOf]; omega
            · have Z5 : Aside (X19 wr w1.heap.size 30 T.view T.ms T.base (.slice p es.length q) ∧ X19 wr w4.heap.size 30 u.t.view u.t.ms u.t.base (.slice p' es'.length q')) := ⟨S5.out.1.later hB.out, S5.out.2.1.later hB.out⟩
              have SN : Aside (BaS w w1 (wr.setCells w1.heap.size 0 (tabL u.t.view u.t.ms u.t.base (.slice p' es'.length q')).toList) (k + 1) ms nv nf ns u.t p' q' es') := by
                have h1 := S5.out.2.2.2.2.2.1
                exact ⟨Z5.out.1.whole, (S5.out.2.2.1.later hB.out).sets S5.out.2.2.2.2.2.2.2.2.1 S5.out.2.2.2.2.2.2.2.2.2.1 _ _, (heap_cells_far _ _ _ (by omega)).trans ((hB.out.block _ (Array.getElem?_eq_some_iff.1 S5.out.2.2.2.1).1).trans S5.out.2.2.2.1), h1, below_cells _ _ (below_step S5.out.2.2.2.2.1 hB.out) (by omega), ⟨UF.out.2.1, UF.out.2.2.1⟩, S5.out.2.2.2.2.2.2.2.2.2.2⟩
              obtain rfl : m = 16 := by omega
              go_wp2_with (first
                | (with_reducible refine wpList_tab Z5.out.2 rfl _ rfl rfl ?_)
                | (with_reducible refine wpList_tab_store Z5.out.1 rfl _ _ rfl rfl rfl ?_))
              go_roundw
              case rel => exact ⟨k + 1, u.t, p', q', es', by omega, by omega, by go_num, SN.out⟩
              case measure => simp [intOf]; omega
      · have t1 : (k : Int) < (len : Int) := by omega
        obtain rfl : k = 80 := by omega
        obtain ⟨V3, hV3⟩ : ∃ V3, V3 = wr.setCell ⟨w.heap.size, 0, none⟩ (.int .i64 0) := ⟨_, rfl⟩
        have S3 : Aside (BaE w w1 V3 ms nf ns T p q es) := by
          rw [hV3]; exact ST.out.ending (by omega)
        obtain ⟨n0, n1, n2⟩ := ST.out.name
        obtain ⟨m0, m1, m2⟩ := S3.out.name
        have nz := frozen_of_row wr w.heap.size 0 _ 33 ST.out.nm
        have hN : Aside (V3 = wr.setCell ⟨w.heap.size, 0, none⟩ (.int .i64 0)) := hV3
        clear ST hV3
        by_cases c1 : 15 < nf
        · have c1' : (15 : Int) < (nf : Int) := by omega
          have BB : Aside (Below w.heap.size w V3) := S3.out.below
          clear S3
          go_wp2_with fail
          rw [← hN.out]
          go_ret
          exact ⟨rfl, BB.out⟩
        have c1' : ¬ ((15 : Int) < (nf : Int)) := by omega
        have hbit := has_bit ms nf (by omega)
        have s0 : (0 : Int) ≤ (nf : Int) := by omega
        have s1 : (nf : Int) ≤ 16 := by omega
        cases hh : Cn.hasS ms nf with
        | false =>
          rw [hh] at hbit
          have hbit : ((ms : Int) / 2 ^ nf).tmod 2 = 0 := hbit
          have BB : Aside (Below w.heap.size w V3) := S3.out.below
          clear S3 hh
          go_wp2_with fail
          rw [← hN.out]
          go_ret
          exact ⟨rfl, BB.out⟩
        | true =>
          rw [hh] at hbit
          have hbit : ((ms : Int) / 2 ^ nf).tmod 2 = 1 := hbit
          by_cases c2 : ns < 0
          · have BB : Aside (Below w.heap.size w V3) := S3.out.below
            clear S3 hh
            go_wp2_with fail
            rw [← hN.out]
            go_ret
            exact ⟨rfl, BB.out⟩
          by_cases c3 : 1000 ≤ ns
          · have BB : Aside (Below w.heap.size w V3) := S3.out.below
            clear S3 hh
            go_wp2_with fail
            rw [← hN.out]
            go_ret
            exact ⟨rfl, BB.out⟩
          have c2' : (0 : Int) ≤ ns := by omega
          have c3' : ns < 1000 := by omega
          obtain ⟨u, hu⟩ : ∃ u, Tb.take T 0 nf ns 3 nf ⟨#[120]⟩ = u := ⟨_, rfl⟩
          have CT : Aside (Calls Try.prog 9 #[.agg (tabL T.view T.ms T.base (.slice p es.length q)), .agg #[.int .i64 0, .int .u8 (nf : Int), .int .i64 ns], .int .i64 3, .int .u8 (nf : Nat), .string ⟨#[120]⟩] V3 (TkLet V3 80 u)) := take8_ta (q := q) S3.out.ta (by omega) HZ.out.2.2.2.2 hu
          have UO : Aside ((ns < (T.base nf : Int) → u.e = 6) ∧ ((T.base nf : Int) + 8 ≤ ns → u.e = 7)) := by
            rw [← hu]
            have := Tb.take_old (t := T) (f := nf) (s := ns) (by rw [S3.out.same.1]; exact hh) c2' c3' 3 nf ⟨#[120]⟩
            rw [S3.out.same.2] at this; exact this
          have hb1 := (S3.out.ta.rt.base nf (by omega)).1
          have hnf16 : nf < 16 := by omega
          have SX : Aside (X19 (wr.setCell ⟨w.heap.size, 0, none⟩ (.int .i64 0)) w1.heap.size 30 T.view T.ms T.base (.slice p es.length q)) := by rw [← hN.out]; exact S3.out.box
          clear hu hh
          go_wp2_with (first
            | ((with_reducible refine wpList_tab SX.out rfl _ rfl rfl ?_); rw [← hN.out])
            | ((with_reducible refine wpList_name m0 m1 m2 rfl _ rfl rfl ?_)))
          refine CT.out.mono ?_
          rintro zz w4 ⟨p', q', es', ao, co, rfl, hA⟩
          have Z4 : Aside (X19 (w4.alloc (.cells #[.int .i64 0, .int .u16 0, .int .u16 0, .int .u16 0, .int .u16 0, .int .u16 0, .int .u16 0, .int .u16 0, .int .u16 0, .int .u16 0, .int .u16 0, .int .u16 0, .int .u16 0, .int .u16 0, .int .u16 0, .int .u16 0, .int .u16 0, .int .u16 0, .slice none 0 0] 30)) w4.heap.size 30 0 0 (fun _ => 0) (.slice none 0 0)) := X19.zero w4
          obtain ⟨W5, hW5⟩ : ∃ W5, W5 = (w4.alloc (.cells #[.int .i64 0, .int .u16 0, .int .u16 0, .int .u16 0, .int .u16 0, .int .u16 0, .int .u16 0, .int .u16 0, .int .u16 0, .int .u16 0, .int .u16 0, .int .u16 0, .int .u16 0, .int .u16 0, .int .u16 0, .int .u16 0, .int .u16 0, .int .u16 0, .slice none 0 0] 30)).setCells w4.heap.size 0 (tabL u.t.view u.t.ms u.t.base (.slice p' es'.length q')).toList := ⟨_, rfl⟩
          have hb5 : Below V3.heap.size V3 W5 := below_step hA.out.2.2.1 (by rw [hW5]; exact below_cells _ _ ((Below.refl _ w4).alloc (Nat.le_refl _) _) (Nat.le_refl _))
          have BB : Aside (Below w.heap.size w W5) := below_step S3.out.below hb5
          have y0 := (S3.out.box.later hb5).base hnf16
          have y1 := cell_later hb5 m1
          have y2 := cell_later hb5 m2
          have r0 : (0 : Int) ≤ (nf : Int) := by omega
          have r1 : (nf : Int) < 16 := by omega
          generalize T.base nf = B at y0 UO hb1
          have hw : wrap64 (B : Int) = (B : Int) := by unfold wrap64; omega
          have hw8 : wrap64 ((B : Int) + 8) = (B : Int) + 8 := by unfold wrap64; omega
          obtain ⟨E, hE⟩ : ∃ E, E = u.e := ⟨_, rfl⟩
          rw [← hE] at UO ⊢
          clear CT hA hE S3 SX m0 m1 m2 hb5 hN
          by_cases d1 : ns < (B : Int)
          · have e6 := UO.out.1 d1
            have d2 : ns < (B : Int) + 8 := by omega
            subst e6
            clear UO
            go_wp2_with ((with_reducible refine wpList_tab_store Z4.out rfl _ _ rfl rfl rfl ?_); rw [← hW5]; clear hW5 Z4)
            go_ret
            exact ⟨rfl, BB.out⟩
          · by_cases d2 : (B : Int) + 8 ≤ ns
            · have e7 := UO.out.2 d2
              have d3 : ¬ (ns < (B : Int) + 8) := by omega
              subst e7
              clear UO
              go_wp2_with ((with_reducible refine wpList_tab_store Z4.out rfl _ _ rfl rfl rfl ?_); rw [← hW5]; clear hW5 Z4)
              go_ret
              exact ⟨rfl, BB.out⟩
            · have d3 : ns < (B : Int) + 8 := by omega
              have d4 : (B : Int) ≤ ns := by omega
              clear UO
              go_wp2_with ((with_reducible refine wpList_tab_store Z4.out rfl _ _ rfl rfl rfl ?_); rw [← hW5]; clear hW5 Z4)
              go_ret
              exact ⟨rfl, BB.out⟩
    · have t1 : ¬ ((k : Int) < (len : Int)) := by omega
      obtain ⟨V3, hV3⟩ : ∃ V3, V3 = wr.setCell ⟨w.heap.size, 0, none⟩ (.int .i64 0) := ⟨_, rfl⟩
      have S3 : Aside (BaE w w1 V3 ms nf ns T p q es) := by
        rw [hV3]; exact ST.out.ending (by omega)
      obtain ⟨n0, n1, n2⟩ := ST.out.name
      obtain ⟨m0, m1, m2⟩ := S3.out.name
      have nz := frozen_of_row wr w.heap.size 0 _ 33 ST.out.nm
      have hN : Aside (V3 = wr.setCell ⟨w.heap.size, 0, none⟩ (.int .i64 0)) := hV3
      clear ST hV3
      by_cases c1 : 15 < nf
      · have c1' : (15 : Int) < (nf : Int) := by omega
        have BB : Aside (Below w.heap.size w V3) := S3.out.below
        clear S3
        go_wp2_with fail
        rw [← hN.out]
        go_ret
        exact ⟨rfl, BB.out⟩
      have c1' : ¬ ((15 : Int) < (nf : Int)) := by omega
      have hbit := has_bit ms nf (by omega)
      have s0 : (0 : Int) ≤ (nf : Int) := by omega
      have s1 : (nf : Int) ≤ 16 := by omega
      cases hh : Cn.hasS ms nf with
      | false =>
        rw [hh] at hbit
        have hbit : ((ms : Int) / 2 ^ nf).tmod 2 = 0 := hbit
        have BB : Aside (Below w.heap.size w V3) := S3.out.below
        clear S3 hh
        go_wp2_with fail
        rw [← hN.out]
        go_ret
        exact ⟨rfl, BB.out⟩
      | true =>
        rw [hh] at hbit
        have hbit : ((ms : Int) / 2 ^ nf).tmod 2 = 1 := hbit
        by_cases c2 : ns < 0
        · have BB : Aside (Below w.heap.size w V3) := S3.out.below
          clear S3 hh
          go_wp2_with fail
          rw [← hN.out]
          go_ret
          exact ⟨rfl, BB.out⟩
        by_cases c3 : 1000 ≤ ns
        · have BB : Aside (Below w.heap.size w V3) := S3.out.below
          clear S3 hh
          go_wp2_with fail
          rw [← hN.out]
          go_ret
          exact ⟨rfl, BB.out⟩
        have c2' : (0 : Int) ≤ ns := by omega
        have c3' : ns < 1000 := by omega
        obtain ⟨u, hu⟩ : ∃ u, Tb.take T 0 nf ns 3 nf ⟨#[120]⟩ = u := ⟨_, rfl⟩
        have CT : Aside (Calls Try.prog 9 #[.agg (tabL T.view T.ms T.base (.slice p es.length q)), .agg #[.int .i64 0, .int .u8 (nf : Int), .int .i64 ns], .int .i64 3, .int .u8 (nf : Nat), .string ⟨#[120]⟩] V3 (TkLet V3 80 u)) := take8_ta (q := q) S3.out.ta (by omega) HZ.out.2.2.2.2 hu
        have UO : Aside ((ns < (T.base nf : Int) → u.e = 6) ∧ ((T.base nf : Int) + 8 ≤ ns → u.e = 7)) := by
          rw [← hu]
          have := Tb.take_old (t := T) (f := nf) (s := ns) (by rw [S3.out.same.1]; exact hh) c2' c3' 3 nf ⟨#[120]⟩
          rw [S3.out.same.2] at this; exact this
        have hb1 := (S3.out.ta.rt.base nf (by omega)).1
        have hnf16 : nf < 16 := by omega
        have SX : Aside (X19 (wr.setCell ⟨w.heap.size, 0, none⟩ (.int .i64 0)) w1.heap.size 30 T.view T.ms T.base (.slice p es.length q)) := by rw [← hN.out]; exact S3.out.box
        clear hu hh
        go_wp2_with (first
          | ((with_reducible refine wpList_tab SX.out rfl _ rfl rfl ?_); rw [← hN.out])
          | ((with_reducible refine wpList_name m0 m1 m2 rfl _ rfl rfl ?_)))
        refine CT.out.mono ?_
        rintro zz w4 ⟨p', q', es', ao, co, rfl, hA⟩
        have Z4 : Aside (X19 (w4.alloc (.cells #[.int .i64 0, .int .u16 0, .int .u16 0, .int .u16 0, .int .u16 0, .int .u16 0, .int .u16 0, .int .u16 0, .int .u16 0, .int .u16 0, .int .u16 0, .int .u16 0, .int .u16 0, .int .u16 0, .int .u16 0, .int .u16 0, .int .u16 0, .int .u16 0, .slice none 0 0] 30)) w4.heap.size 30 0 0 (fun _ => 0) (.slice none 0 0)) := X19.zero w4
        obtain ⟨W5, hW5⟩ : ∃ W5, W5 = (w4.alloc (.cells #[.int .i64 0, .int .u16 0, .int .u16 0, .int .u16 0, .int .u16 0, .int .u16 0, .int .u16 0, .int .u16 0, .int .u16 0, .int .u16 0, .int .u16 0, .int .u16 0, .int .u16 0, .int .u16 0, .int .u16 0, .int .u16 0, .int .u16 0, .int .u16 0, .slice none 0 0] 30)).setCells w4.heap.size 0 (tabL u.t.view u.t.ms u.t.base (.slice p' es'.length q')).toList := ⟨_, rfl⟩
        have hb5 : Below V3.heap.size V3 W5 := below_step hA.out.2.2.1 (by rw [hW5]; exact below_cells _ _ ((Below.refl _ w4).alloc (Nat.le_refl _) _) (Nat.le_refl _))
        have BB : Aside (Below w.heap.size w W5) := below_step S3.out.below hb5
        have y0 := (S3.out.box.later hb5).base hnf16
        have y1 := cell_later hb5 m1
        have y2 := cell_later hb5 m2
        have r0 : (0 : Int) ≤ (nf : Int) := by omega
        have r1 : (nf : Int) < 16 := by omega
        generalize T.base nf = B at y0 UO hb1
        have hw : wrap64 (B : Int) = (B : Int) := by unfold wrap64; omega
        have hw8 : wrap64 ((B : Int) + 8) = (B : Int) + 8 := by unfold wrap64; omega
        obtain ⟨E, hE⟩ : ∃ E, E = u.e := ⟨_, rfl⟩
        rw [← hE] at UO ⊢
        clear CT hA hE S3 SX m0 m1 m2 hb5 hN
        by_cases d1 : ns < (B : Int)
        · have e6 := UO.out.1 d1
          have d2 : ns < (B : Int) + 8 := by omega
          subst e6
          clear UO
          go_wp2_with ((with_reducible refine wpList_tab_store Z4.out rfl _ _ rfl rfl rfl ?_); rw [← hW5]; clear hW5 Z4)
          go_ret
          exact ⟨rfl, BB.out⟩
        · by_cases d2 : (B : Int) + 8 ≤ ns
          · have e7 := UO.out.2 d2
            have d3 : ¬ (ns < (B : Int) + 8) := by omega
            subst e7
            clear UO
            go_wp2_with ((with_reducible refine wpList_tab_store Z4.out rfl _ _ rfl rfl rfl ?_); rw [← hW5]; clear hW5 Z4)
            go_ret
            exact ⟨rfl, BB.out⟩
          · have d3 : ns < (B : Int) + 8 := by omega
            have d4 : (B : Int) ≤ ns := by omega
            clear UO
            go_wp2_with ((with_reducible refine wpList_tab_store Z4.out rfl _ _ rfl rfl rfl ?_); rw [← hW5]; clear hW5 Z4)
            go_ret
            exact ⟨rfl, BB.out⟩
end Go.Proofs.Ytmhjmeedoajkjaa
