/- Tables kept through votes; alive. -/
import Derived.Test.YtmhjmeedoajkjaaTbT
set_option linter.unusedVariables false
namespace Go.Proofs.Ytmhjmeedoajkjaa
open Go.RowKit Go.Shelf

namespace Tb
theorem close_sub {f : Nat} : ∀ (k : Nat) (l : List Op) (b : Nat), (∀ o ∈ (closeO f k l b).1, o ∈ l) ∧ (closeO f k l b).1.length ≤ l.length
  | 0, l, b => ⟨fun o h => h, Nat.le_refl _⟩
  | k + 1, l, b => by
    unfold closeO
    split
    · have ih := close_sub k (remO l f (b : Int)) (b + 1) (f := f)
      have hl : (remO l f (b : Int)).length ≤ l.length := List.length_filter_le _ _
      exact ⟨fun o h => (mem_rem.1 (ih.1 o h)).1, by omega⟩
    · exact ⟨fun o h => h, Nat.le_refl _⟩
theorem filter_two {α : Type} (p q : α → Bool) (h : ∀ x, p x = true → q x = false) : ∀ l : List α, (l.filter p).length + (l.filter q).length ≤ l.length
  | [] => by simp
  | x :: l => by
    have ih := filter_two p q h l
    cases hp : p x with
    | true =>
      have hq := h x hp
      rw [List.filter_cons_of_pos hp, List.filter_cons_of_neg (by rw [hq]; decide)]
      simp only [List.length_cons]; omega
    | false =>
      rw [List.filter_cons_of_neg (by rw [hp]; decide)]
      cases hq : q x with
      | true => rw [List.filter_cons_of_pos hq]; simp only [List.length_cons]; omega
      | false => rw [List.filter_cons_of_neg (by rw [hq]; decide)]; simp only [List.length_cons]; omega
theorem put_len1 (l : List Op) (o : Op) : (putO l o).length ≤ l.length + 1 := by
  unfold putO
  rw [List.length_append, List.length_cons]
  have := filter_two (ahead o.frm o.seq) (behind o.frm o.seq) (fun x hx => by
    rcases ways o.frm o.seq x with ⟨e1, e2, e3⟩ | ⟨e1, e2, e3⟩ | ⟨e1, e2, e3⟩ <;> simp_all) l
  omega
/-- How many ballots there are, and how many open. -/
structure Fewer (k : Nat) (l : List Op) : Prop where
  n : l.length ≤ k
  b : ∀ o ∈ l, o.c.echoes.length ≤ k ∧ o.c.readies.length ≤ k
theorem find_few {k : Nat} {l : List Op} (h : ∀ o ∈ l, o.c.echoes.length ≤ k ∧ o.c.readies.length ≤ k) (f : Nat) (s : Int) : (findC l f s).echoes.length ≤ k ∧ (findC l f s).readies.length ≤ k := by
  unfold findC
  cases e : l.find? (isN f s) with
  | none => exact ⟨Nat.zero_le _, Nat.zero_le _⟩
  | some o => exact h o (List.mem_of_find?_eq_some e)
theorem take_few {t : Tab} {k : Nat} (h : Fewer k t.opn) (v : Int) (f : Nat) (s : Int) (kind : Int) (id : Nat) (x : ByteArray) : Fewer (k + 1) (take t v f s kind id x).t.opn := by
  rcases take_ways t v f s kind id x with ⟨e, _, he⟩ | ⟨u, hm, hu, _, he⟩ <;> rw [he]
  · exact ⟨Nat.le_succ_of_le h.n, fun o ho => ⟨Nat.le_succ_of_le (h.b o ho).1, Nat.le_succ_of_le (h.b o ho).2⟩⟩
  · have hc := close_sub (f := f) (putO t.opn ⟨f, s, u.c⟩).length (putO t.opn ⟨f, s, u.c⟩) (t.base f)
    refine ⟨?_, fun o ho => ?_⟩
    · have := put_len1 t.opn ⟨f, s, u.c⟩
      have := h.n
      exact Nat.le_trans hc.2 (by omega)
    · rcases mem_put.1 (hc.1 o ho) with rfl | ⟨h1, _⟩
      · have h2 := find_few h.b f s
        have h3 := Vt.take_len (findC t.opn f s) t.ms f kind id x
        rw [← hu] at h3
        exact ⟨by show u.c.echoes.length ≤ k + 1; omega, by show u.c.readies.length ≤ k + 1; omega⟩
      · exact ⟨Nat.le_succ_of_le (h.b o h1).1, Nat.le_succ_of_le (h.b o h1).2⟩
theorem take_ms (t : Tab) (v : Int) (f : Nat) (s : Int) (kind : Int) (id : Nat) (x : ByteArray) : (take t v f s kind id x).t.ms = t.ms ∧ (take t v f s kind id x).t.view = t.view := by
  rcases take_ways t v f s kind id x with ⟨e, _, he⟩ | ⟨u, _, _, _, he⟩ <;> rw [he] <;> exact ⟨rfl, rfl⟩
end Tb

/-- A table in memory, its open broadcasts behind p. -/
structure TaAt (w : World) (k : Nat) (T : Tb.Tab) (p : Option Addr) (es : List En) : Prop where
  row : AtR w p es
  ats : ∀ e ∈ es, EnAt w e
  ops : ops es = T.opn
  few : Tb.Fewer k T.opn
  ms : T.ms < 65536
  rt : Tb.Rt T
theorem TaAt.later {w w' : World} {k : Nat} {T : Tb.Tab} {p : Option Addr} {es : List En} (h : TaAt w k T p es) (hb : Below w.heap.size w w') : TaAt w' k T p es := ⟨h.row.later hb, fun e he => (h.ats e he).later hb, h.ops, h.few, h.ms, h.rt⟩
theorem TaAt.len {w : World} {k : Nat} {T : Tb.Tab} {p : Option Addr} {es : List En} (h : TaAt w k T p es) : es.length ≤ k := by have := h.few.n; rw [← h.ops, ops_len] at this; exact this
theorem TaAt.zero (w : World) (ms : Nat) (h : ms < 65536) : TaAt w 0 ⟨0, ms, fun _ => 0, []⟩ none [] := ⟨.inl rfl, fun e he => (by cases he), rfl, ⟨Nat.le_refl _, fun o ho => (by cases ho)⟩, h, Tb.rt_empty ms⟩
theorem TaAt.more {w : World} {k m : Nat} {T : Tb.Tab} {p : Option Addr} {es : List En} (h : TaAt w k T p es) (hm : k ≤ m) : TaAt w m T p es := ⟨h.row, h.ats, h.ops, ⟨Nat.le_trans h.few.n hm, fun o ho => ⟨Nat.le_trans (h.few.b o ho).1 hm, Nat.le_trans (h.few.b o ho).2 hm⟩⟩, h.ms, h.rt⟩
theorem AtR.sets {w : World} {a : Option Addr} {l : List En} {g : Nat} (h : AtR w a l) (hg : ∀ ad, a = some ad → ad.block ≠ g) (us : List Value) (o : Nat) : AtR (w.setCells g o us) a l := by
  rcases h with rfl | ⟨b, off, rfl, hc⟩
  · exact .inl rfl
  · refine .inr ⟨b, off, rfl, fun j u hu => ?_⟩
    have hk : (w.setCells g o us).heap[b]? = w.heap[b]? := heap_cells_far us o w (hg ⟨b, off, none⟩ rfl)
    rw [World.cell?_of_block (w := w) (w' := w.setCells g o us) (a := ⟨b, off + j, none⟩) hk]
    exact hc j u hu
theorem EnAt.sets {w : World} {e : En} {g : Nat} (h : EnAt w e) (ho : Offs g e) (us : List Value) (o : Nat) : EnAt (w.setCells g o us) e :=
  ⟨⟨At.sets ho.1 us o h.at_.e, At.sets ho.2 us o h.at_.r, h.at_.small, h.at_.n1, h.at_.n2⟩, h.frm⟩
theorem TaAt.sets {w : World} {k g : Nat} {T : Tb.Tab} {p : Option Addr} {es : List En} (h : TaAt w k T p es) (hg : ∀ ad, p = some ad → ad.block ≠ g) (ho : ∀ e ∈ es, Offs g e) (us : List Value) (o : Nat) : TaAt (w.setCells g o us) k T p es :=
  ⟨h.row.sets hg us o, fun e he => (h.ats e he).sets (ho e he) us o, h.ops, h.few, h.ms, h.rt⟩
theorem mem_ops {es : List En} {e : En} (h : e ∈ es) : e.o ∈ ops es := List.mem_map_of_mem h
theorem TaAt.b16 {w : World} {k : Nat} {T : Tb.Tab} {p : Option Addr} {es : List En} (h : TaAt w k T p es) : ∀ i, i < 16 → T.base i < 65536 := fun i hi => by have := (h.rt.base i hi).1; omega

/-- What Take answers of a table that may be. -/
def TkLet (w : World) (k : Nat) (u : Tb.TTold) (z : Ending) (w' : World) : Prop :=
  ∃ p' q' es' ao co, z = .returned (.tuple #[.agg (tabL u.t.view u.t.ms u.t.base (.slice p' (List.length (α := En) es') q')), .slice ao u.outs.length co, .string u.body, .bool u.is, .int .i64 (u.e : Int)]) ∧
    Aside (TaAt w' (k + 1) u.t p' es' ∧ AtO w' ao u.outs ∧ Below w.heap.size w w' ∧ Fr w.heap.size p' ∧ (∀ e ∈ es', FrE w.heap.size e) ∧ Fr w.heap.size ao)
theorem take8_ta {w : World} {k : Nat} {T : Tb.Tab} {p : Option Addr} {q : Nat} {es : List En} {nv : Int} {nf : Nat} {ns kind : Int} {id : Nat} {x : ByteArray} {u : Tb.TTold} (h : TaAt w k T p es) (hk : k ≤ 500) (hnf : nf < 256) (hu : Tb.take T nv nf ns kind id x = u) :
    Calls Try.prog 9 #[.agg (tabL T.view T.ms T.base (.slice p es.length q)), .agg #[.int .i64 nv, .int .u8 (nf : Int), .int .i64 ns], .int .i64 kind, .int .u8 (id : Nat), .string x] w (TkLet w k u) := by
  have hT : (⟨T.view, T.ms, T.base, ops es⟩ : Tb.Tab) = T := by rw [h.ops]
  have := take8_any T.view T.ms T.base p q es nv nf ns kind id x w u h.row h.ats (by have := h.len; omega) h.ms h.b16 hnf (fun e he => by
    have h1 := mem_ops he
    rw [h.ops] at h1
    have := h.few.b _ h1
    omega) (fun _ => by rw [hT]; exact hu.symm) (fun hn => by rw [hT] at hn; exact absurd h.rt hn)
  refine this.mono fun z w' ⟨p', q', es', ao, co, h1, h2, h3, h4, h5, h6, h7⟩ => ⟨p', q', es', ao, co, h1, ⟨?_, h3.ats, h2, ?_, ?_, ?_⟩, h5, h7, (fun ad e => (h3.row.lt ad.block (by rw [e]; rfl)).1), h4, h6⟩
  · exact (own_row h3.row).2.1
  · rw [← hu]; exact Tb.take_few h.few _ _ _ _ _ _
  · rw [← hu, (Tb.take_ms _ _ _ _ _ _ _).1]; exact h.ms
  · rw [← hu]; exact Tb.take_rt h.rt _ _ _ _ _ _
theorem right8_ta {w : World} {k : Nat} {T : Tb.Tab} {p : Option Addr} {q : Nat} {es : List En} (h : TaAt w k T p es) (hk : k ≤ 500) :
    Calls Try.prog 17 #[.agg (tabL T.view T.ms T.base (.slice p es.length q))] w fun z w' => z = .returned (.bool true) ∧ Below w.heap.size w w' := by
  refine (right8_any T.view T.ms T.base p q es w h.row h.ats (by have := h.len; omega) h.ms h.b16).mono fun z w' ⟨b, h1, h2, h3⟩ => ?_
  have hT : (⟨T.view, T.ms, T.base, ops es⟩ : Tb.Tab) = T := by rw [h.ops]
  rw [hT] at h2
  rw [h2.2 h.rt] at h1
  exact ⟨h1, h3⟩
theorem build30 (ms : Nat) (w : World) : (Instr.build 30 #[(1, .int .u16 (ms : Int))]).run Try.prog w = .ok (.agg (tabL 0 ms (fun _ => 0) (.slice none 0 0))) w := run_build w 30 _ _ (by kernel_rfl)

namespace Al8
def tx : ByteArray := ⟨#[120]⟩
def T0 : Tb.Tab := ⟨0, 1, fun _ => 0, []⟩
def B1 : Nat → Nat := Tb.updB (fun _ => 0) 0 1
def T1 : Tb.Tab := ⟨0, 1, B1, []⟩
theorem t1 : Tb.take T0 0 0 0 3 0 tx = ⟨T1, [(3, tx)], tx, true, 0⟩ := by kernel_rfl
theorem t2 : Tb.take T1 0 0 9 3 0 tx = Tb.errT T1 7 := by kernel_rfl
theorem t3 : Tb.take T1 0 0 0 3 0 tx = Tb.errT T1 6 := by kernel_rfl
end Al8

set_option maxHeartbeats 8000000 in
set_option maxRecDepth 100000 in
theorem alive8_any (w : World) : Calls Try.prog 8 #[] w fun e w' => e = .returned (.bool true) ∧ Below w.heap.size w w' := by
  have C1 : Aside (∀ W, Calls Try.prog 9 #[.agg (tabL 0 1 (fun _ => 0) (.slice none 0 0)), .agg #[.int .i64 0, .int .u8 0, .int .i64 0], .int .i64 3, .int .u8 0, .string ⟨#[120]⟩] W fun z w' => ∃ p q ao co, z = .returned (.tuple #[.agg (tabL 0 1 Al8.B1 (.slice p 0 q)), .slice ao 1 co, .string ⟨#[120]⟩, .bool true, .int .i64 0]) ∧ Aside (TaAt w' 1 Al8.T1 p [] ∧ Below W.heap.size W w')) := fun W => by
    refine (take8_ta (TaAt.zero W 1 (by decide)) (by decide) (by decide) Al8.t1 (q := 0)).mono ?_
    rintro z w' ⟨p, q, es, ao, co, rfl, hA⟩
    have he : es = [] := by have := hA.out.1.ops; unfold ops at this; exact List.map_eq_nil_iff.1 this
    subst he
    exact ⟨p, q, ao, co, rfl, hA.out.1, hA.out.2.2.1⟩
  have C2 : Aside (∀ W p q, TaAt W 1 Al8.T1 p [] → Calls Try.prog 9 #[.agg (tabL 0 1 Al8.B1 (.slice p 0 q)), .agg #[.int .i64 0, .int .u8 0, .int .i64 9], .int .i64 3, .int .u8 0, .string ⟨#[120]⟩] W fun z w' => ∃ p' q' ao co, z = .returned (.tuple #[.agg (tabL 0 1 Al8.B1 (.slice p' 0 q')), .slice ao 0 co, .string Vt.none, .bool false, .int .i64 7]) ∧ Aside (Below W.heap.size W w')) := fun W p q hW => by
    refine (take8_ta hW (by decide) (by decide) Al8.t2 (q := q)).mono ?_
    rintro z w' ⟨p', q', es, ao, co, rfl, hA⟩
    have he : es = [] := by have := hA.out.1.ops; unfold ops at this; exact List.map_eq_nil_iff.1 this
    subst he
    exact ⟨p', q', ao, co, rfl, hA.out.2.2.1⟩
  have C3 : Aside (∀ W p q, TaAt W 1 Al8.T1 p [] → Calls Try.prog 9 #[.agg (tabL 0 1 Al8.B1 (.slice p 0 q)), .agg #[.int .i64 0, .int .u8 0, .int .i64 0], .int .i64 3, .int .u8 0, .string ⟨#[120]⟩] W fun z w' => ∃ p' q' ao co, z = .returned (.tuple #[.agg (tabL 0 1 Al8.B1 (.slice p' 0 q')), .slice ao 0 co, .string Vt.none, .bool false, .int .i64 6]) ∧ Aside (Below W.heap.size W w')) := fun W p q hW => by
    refine (take8_ta hW (by decide) (by decide) Al8.t3 (q := q)).mono ?_
    rintro z w' ⟨p', q', es, ao, co, rfl, hA⟩
    have he : es = [] := by have := hA.out.1.ops; unfold ops at this; exact List.map_eq_nil_iff.1 this
    subst he
    exact ⟨p', q', ao, co, rfl, hA.out.2.2.1⟩
  have C4 : Aside (∀ W p q, TaAt W 1 Al8.T1 p [] → Calls Try.prog 17 #[.agg (tabL 0 1 Al8.B1 (.slice p 0 q))] W fun z w' => z = .returned (.bool true) ∧ Below W.heap.size W w') := fun W p q hW => by
    have := right8_ta (q := q) hW (by decide)
    exact this
  have B30 : ∀ W, (Instr.build 30 #[(1, .int .u16 1)]).run Try.prog W = .ok (.agg (tabL 0 1 (fun _ => 0) (.slice none 0 0))) W := fun W => build30 1 W
  have B33 : ∀ W, (Instr.build 33 #[]).run Try.prog W = .ok (.agg #[.int .i64 0, .int .u8 0, .int .i64 0]) W := fun W => run_build W 33 _ _ (by kernel_rfl)
  have B39 : ∀ W, (Instr.build 33 #[(2, .int .i64 9)]).run Try.prog W = .ok (.agg #[.int .i64 0, .int .u8 0, .int .i64 9]) W := fun W => run_build W 33 _ _ (by kernel_rfl)
  go_enter Try.func8, Try.ntmps8
  go_wp2_with fail
  refine (C1.out w).mono ?_
  rintro z w1 ⟨p, q, ao, co, rfl, hA⟩
  have TA1 : Aside (TaAt w1 1 Al8.T1 p [] ∧ Below w.heap.size w w1) := hA.out
  clear hA C1
  have Z1 : Aside (X19 (w1.alloc (.cells #[.int .i64 0, .int .u16 0, .int .u16 0, .int .u16 0, .int .u16 0, .int .u16 0, .int .u16 0, .int .u16 0, .int .u16 0, .int .u16 0, .int .u16 0, .int .u16 0, .int .u16 0, .int .u16 0, .int .u16 0, .int .u16 0, .int .u16 0, .int .u16 0, .slice none 0 0] 30)) w1.heap.size 30 0 0 (fun _ => 0) (.slice none 0 0)) := X19.zero w1
  obtain ⟨V1, hV1⟩ : ∃ V, V = (w1.alloc (.cells #[.int .i64 0, .int .u16 0, .int .u16 0, .int .u16 0, .int .u16 0, .int .u16 0, .int .u16 0, .int .u16 0, .int .u16 0, .int .u16 0, .int .u16 0, .int .u16 0, .int .u16 0, .int .u16 0, .int .u16 0, .int .u16 0, .int .u16 0, .int .u16 0, .slice none 0 0] 30)).setCells w1.heap.size 0 (tabL 0 1 Al8.B1 (.slice p 0 q)).toList := ⟨_, rfl⟩
  have G1 : Aside (X19 V1 w1.heap.size 30 0 1 Al8.B1 (.slice p 0 q) ∧ Below w1.heap.size w1 V1) := by rw [hV1]; exact ⟨Z1.out.whole, below_cells _ _ ((Below.refl _ w1).alloc (Nat.le_refl _) _) (Nat.le_refl _)⟩
  go_wp2_with (first
    | ((with_reducible refine wpList_tab_store Z1.out rfl _ _ rfl rfl rfl ?_); rw [← hV1]; clear hV1 Z1)
    | (with_reducible refine wpList_tab G1.out.1 rfl _ rfl rfl ?_))
  refine (C2.out V1 p q (TA1.out.1.later G1.out.2)).mono ?_
  rintro z w2 ⟨p2, q2, ao2, co2, rfl, hA⟩
  have TA2 : Aside (TaAt w2 1 Al8.T1 p [] ∧ Below w.heap.size w w2 ∧ X19 w2 w1.heap.size 30 0 1 Al8.B1 (.slice p 0 q)) := ⟨(TA1.out.1.later G1.out.2).later hA.out, below_step (below_step TA1.out.2 G1.out.2) hA.out, G1.out.1.later hA.out⟩
  clear hA C2 TA1 G1
  have Z2 : Aside (X19 (w2.alloc (.cells #[.int .i64 0, .int .u16 0, .int .u16 0, .int .u16 0, .int .u16 0, .int .u16 0, .int .u16 0, .int .u16 0, .int .u16 0, .int .u16 0, .int .u16 0, .int .u16 0, .int .u16 0, .int .u16 0, .int .u16 0, .int .u16 0, .int .u16 0, .int .u16 0, .slice none 0 0] 30)) w2.heap.size 30 0 0 (fun _ => 0) (.slice none 0 0)) := X19.zero w2
  obtain ⟨V2, hV2⟩ : ∃ V, V = (w2.alloc (.cells #[.int .i64 0, .int .u16 0, .int .u16 0, .int .u16 0, .int .u16 0, .int .u16 0, .int .u16 0, .int .u16 0, .int .u16 0, .int .u16 0, .int .u16 0, .int .u16 0, .int .u16 0, .int .u16 0, .int .u16 0, .int .u16 0, .int .u16 0, .int .u16 0, .slice none 0 0] 30)).setCells w2.heap.size 0 (tabL 0 1 Al8.B1 (.slice p2 0 q2)).toList := ⟨_, rfl⟩
  have G2 : Aside (X19 V2 w2.heap.size 30 0 1 Al8.B1 (.slice p2 0 q2) ∧ Below w2.heap.size w2 V2) := by rw [hV2]; exact ⟨Z2.out.whole, below_cells _ _ ((Below.refl _ w2).alloc (Nat.le_refl _) _) (Nat.le_refl _)⟩
  have G2b : Aside (X19 V2 w1.heap.size 30 0 1 Al8.B1 (.slice p 0 q)) := TA2.out.2.2.later G2.out.2
  go_wp2_with (first
    | ((with_reducible refine wpList_tab_store Z2.out rfl _ _ rfl rfl rfl ?_); rw [← hV2]; clear hV2 Z2)
    | (with_reducible refine wpList_tab G2b.out rfl _ rfl rfl ?_))
  refine (C3.out V2 p q (TA2.out.1.later G2.out.2)).mono ?_
  rintro z w3 ⟨p3, q3, ao3, co3, rfl, hA⟩
  have TA3 : Aside (TaAt w3 1 Al8.T1 p [] ∧ Below w.heap.size w w3 ∧ X19 w3 w1.heap.size 30 0 1 Al8.B1 (.slice p 0 q)) := ⟨(TA2.out.1.later G2.out.2).later hA.out, below_step (below_step TA2.out.2.1 G2.out.2) hA.out, G2b.out.later hA.out⟩
  clear hA C3 TA2 G2 G2b
  have Z3 : Aside (X19 (w3.alloc (.cells #[.int .i64 0, .int .u16 0, .int .u16 0, .int .u16 0, .int .u16 0, .int .u16 0, .int .u16 0, .int .u16 0, .int .u16 0, .int .u16 0, .int .u16 0, .int .u16 0, .int .u16 0, .int .u16 0, .int .u16 0, .int .u16 0, .int .u16 0, .int .u16 0, .slice none 0 0] 30)) w3.heap.size 30 0 0 (fun _ => 0) (.slice none 0 0)) := X19.zero w3
  obtain ⟨V3, hV3⟩ : ∃ V, V = (w3.alloc (.cells #[.int .i64 0, .int .u16 0, .int .u16 0, .int .u16 0, .int .u16 0, .int .u16 0, .int .u16 0, .int .u16 0, .int .u16 0, .int .u16 0, .int .u16 0, .int .u16 0, .int .u16 0, .int .u16 0, .int .u16 0, .int .u16 0, .int .u16 0, .int .u16 0, .slice none 0 0] 30)).setCells w3.heap.size 0 (tabL 0 1 Al8.B1 (.slice p3 0 q3)).toList := ⟨_, rfl⟩
  have G3 : Aside (X19 V3 w3.heap.size 30 0 1 Al8.B1 (.slice p3 0 q3) ∧ Below w3.heap.size w3 V3) := by rw [hV3]; exact ⟨Z3.out.whole, below_cells _ _ ((Below.refl _ w3).alloc (Nat.le_refl _) _) (Nat.le_refl _)⟩
  have G3b : Aside (X19 V3 w1.heap.size 30 0 1 Al8.B1 (.slice p 0 q)) := TA3.out.2.2.later G3.out.2
  have C5 := C4.out V3 p q (TA3.out.1.later G3.out.2)
  have y2 : V3.cell? ⟨w1.heap.size, 2, none⟩ = some (.int .u16 1) := G3b.out.cells.2.2.1
  have y18 := G3b.out.cells.2.2.2.2.2.2.2.2.2.2.2.2.2.2.2.2.2.2
  have BV : Aside (Below w.heap.size w V3) := below_step TA3.out.2.1 G3.out.2
  clear C4 TA3 G3
  go_wp2_with (first
    | ((with_reducible refine wpList_tab_store Z3.out rfl _ _ rfl rfl rfl ?_); rw [← hV3]; clear hV3 Z3)
    | (with_reducible refine wpList_tab G3b.out rfl _ rfl rfl ?_)
    | (refine wpList_loadw 30 19 _ rfl Try.isAgg30 Try.sizeOf30 (tabL 0 1 Al8.B1 (.slice p 0 q)).toList rfl w1.heap.size 0 (tabL_cells G3b.out) rfl (by go_simp) ?_))
  refine C5.mono ?_
  rintro z w4 ⟨rfl, hb4⟩
  have BB : Aside (Below w.heap.size w w4) := below_step BV.out hb4
  clear hb4 BV
  go_wp2
  go_ret
  exact ⟨rfl, BB.out⟩
end Go.Proofs.Ytmhjmeedoajkjaa
