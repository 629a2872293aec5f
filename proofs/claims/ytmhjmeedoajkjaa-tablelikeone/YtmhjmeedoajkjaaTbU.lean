/- A case stored into a row of one's own (five cells). -/
import Derived.Test.YtmhjmeedoajkjaaTbS
import Derived.Test.YtmhjmeedoajkjaaVtO
set_option linter.unusedVariables false
namespace Go.Proofs.Ytmhjmeedoajkjaa
open Go.RowKit Go.Shelf

/-- What lies behind an address lies there still. -/
def Kp (w w' : World) (a : Option Addr) : Prop := ∀ ad, a = some ad → ad.block < w.heap.size → w'.heap[ad.block]? = w.heap[ad.block]?
theorem Kp.refl (w : World) (a : Option Addr) : Kp w w a := fun _ _ _ => rfl
theorem Kp.below {w w' w'' : World} {a : Option Addr} (h : Kp w w' a) (hs : w.heap.size ≤ w'.heap.size) (hb : Below w'.heap.size w' w'') : Kp w w'' a := fun ad e hl => (hb.block _ (by omega)).trans (h ad e hl)
theorem Kp.grown {w w' w'' : World} {a : Option Addr} {r : Option Nat} (h : Kp w w' a) (hs : w.heap.size ≤ w'.heap.size) (hb : w'.grownBy w'' r) (hr : ∀ ad, a = some ad → ad.block < w.heap.size → some ad.block ≠ r) : Kp w w'' a := fun ad e hl => (hb.block _ (by omega) (hr ad e hl)).trans (h ad e hl)
theorem Kp.set {w w' : World} {a : Option Addr} {b j : Nat} {u : Value} (h : Kp w w' a) (hr : ∀ ad, a = some ad → ad.block < w.heap.size → ad.block ≠ b) : Kp w (w'.setCell ⟨b, j, none⟩ u) a := fun ad e hl => (row_far (hr ad e hl) u).trans (h ad e hl)
theorem Kp.sets {w w' : World} {a : Option Addr} {b j : Nat} {us : List Value} (h : Kp w w' a) (hr : ∀ ad, a = some ad → ad.block < w.heap.size → ad.block ≠ b) : Kp w (w'.setCells b j us) a := fun ad e hl => (heap_cells_far us j w' (hr ad e hl)).trans (h ad e hl)
theorem At.kp {w w' : World} {a : Option Addr} {l : Vt.Bal} (h : Vt.At w a l) (k : Kp w w' a) : Vt.At w' a l := by
  rcases h with rfl | ⟨b, off, rfl, hc⟩
  · exact .inl rfl
  · refine .inr ⟨b, off, rfl, fun i v hi => ?_⟩
    have h0 := hc i v hi
    have hk : w'.heap[b]? = w.heap[b]? := k _ rfl (World.block_lt_of_cell? w ⟨b, off + i, none⟩ h0)
    rw [World.cell?_of_block (w := w) (w' := w') (a := ⟨b, off + i, none⟩) hk]
    exact h0
theorem At.sets {a : Option Addr} {l : Vt.Bal} {g : Nat} (hg : l ≠ [] → ∀ ad, a = some ad → ad.block ≠ g) : ∀ (us : List Value) (o : Nat) {w : World}, Vt.At w a l → Vt.At (w.setCells g o us) a l
  | [], _, _, h => h
  | u :: us, o, w, h => At.sets hg us (o + 1) (At.set h hg u)
theorem AtO.kp {w w' : World} {a : Option Addr} {l : List (Nat × ByteArray)} (h : AtO w a l) (k : Kp w w' a) : AtO w' a l := by
  rcases h with rfl | ⟨b, off, rfl, hc⟩
  · exact .inl rfl
  · refine .inr ⟨b, off, rfl, fun j n x hx => ?_⟩
    have h0 := hc j n x hx
    have hk : w'.heap[b]? = w.heap[b]? := k _ rfl (World.block_lt_of_cell? w ⟨b, off + j * 2, none⟩ h0.1)
    rw [World.cell?_of_block (w := w) (w' := w') (a := ⟨b, off + j * 2, none⟩) hk, World.cell?_of_block (w := w) (w' := w') (a := ⟨b, off + j * 2 + 1, none⟩) hk]
    exact h0

/-- A case in a box, stored and loaded whole. -/
theorem wpList_case_store {w : World} {ops : Array Oper} {rest : List Oper} {o : Oper} {a : Act} {Q : Exit → Act → World → Prop} {b : Nat} {v0 v1 v2 v3 v4 : Value} {e r d : Bool} {p1 p2 : Option Addr} {n1 n2 c1 c2 : Nat} (h : C5 w b v0 v1 v2 v3 v4) (hg : o.guard = none) (p y : Operand) (ho : o.op = .store 48 p y)
    (hp : a.eval p = .pointer (some ⟨b, 0, none⟩)) (hx : a.eval y = .agg #[.bool e, .bool r, .bool d, .slice p1 n1 c1, .slice p2 n2 c2]) (hn : wpList Try.prog ops Q rest (a.put o.dst undef) (w.setCells b 0 [.bool e, .bool r, .bool d, .slice p1 n1 c1, .slice p2 n2 c2])) : wpList Try.prog ops Q (o :: rest) a w := by
  refine wpList_store hg 48 5 p y ho (Try.sizeOf48 w) [.bool e, .bool r, .bool d, .slice p1 n1 c1, .slice p2 n2 c2] rfl b 0 hp (by simpa using hx) (fun j hj => ?_) (fun j _ => h.frozen _) (fun u hu => ?_) hn
  · have hj : j < 5 := hj
    rw [Nat.zero_add, cell_of_row w b j _ 48 _ h, Array.getElem?_eq_getElem (show j < (#[v0, v1, v2, v3, v4] : Array Value).size from hj)]; rfl
  · simp only [List.mem_cons, List.not_mem_nil, or_false] at hu
    rcases hu with rfl | rfl | rfl | rfl | rfl <;> rfl
theorem C5.whole {w : World} {b : Nat} {v0 v1 v2 v3 v4 : Value} (h : C5 w b v0 v1 v2 v3 v4) (u0 u1 u2 u3 u4 : Value) : C5 (w.setCells b 0 [u0, u1, u2, u3, u4]) b u0 u1 u2 u3 u4 := h.set u0 u1 u2 u3 u4
theorem wpList_case_load {w : World} {ops : Array Oper} {rest : List Oper} {o : Oper} {a : Act} {Q : Exit → Act → World → Prop} {b : Nat} {v0 v1 v2 v3 v4 : Value} (h : C5 w b v0 v1 v2 v3 v4) (hg : o.guard = none) (p : Operand) (ho : o.op = .load 48 p)
    (hp : a.eval p = .pointer (some ⟨b, 0, none⟩)) (hn : wpList Try.prog ops Q rest (a.put o.dst (.agg #[v0, v1, v2, v3, v4])) w) : wpList Try.prog ops Q (o :: rest) a w := by
  refine wpList_loadw 48 5 p ho Try.isAgg48 Try.sizeOf48 [v0, v1, v2, v3, v4] rfl b 0 (fun j v hj => ?_) hp (by simp [Region.wanted, hg]) hn
  rw [Nat.zero_add, cell_of_row w b j _ 48 _ h]
  simpa using hj
/-- A case loaded out of a row, and stored there. -/
theorem wpList_case_get {w : World} {ops : Array Oper} {rest : List Oper} {o : Oper} {a : Act} {Q : Exit → Act → World → Prop} {l : List En} {b off k : Nat} {e : En} (h : ∀ j u, (rowC l)[j]? = some u → w.cell? ⟨b, off + j, none⟩ = some u) (hk : l[k]? = some e) (hg : o.guard = none) (p : Operand) (ho : o.op = .load 48 p)
    (hp : a.eval p = .pointer (some ⟨b, off + k * 7 + 2, none⟩)) (hn : wpList Try.prog ops Q rest (a.put o.dst (.agg #[.bool e.o.c.echoed, .bool e.o.c.readied, .bool e.o.c.done, .slice e.a1 e.o.c.echoes.length e.k1, .slice e.a2 e.o.c.readies.length e.k2])) w) : wpList Try.prog ops Q (o :: rest) a w := by
  refine wpList_loadw 48 5 p ho Try.isAgg48 Try.sizeOf48 [.bool e.o.c.echoed, .bool e.o.c.readied, .bool e.o.c.done, .slice e.a1 e.o.c.echoes.length e.k1, .slice e.a2 e.o.c.readies.length e.k2] rfl b (off + k * 7 + 2) (fun j v hj => ?_) hp (by simp [Region.wanted, hg]) hn
  have hj5 : j < 5 := (List.getElem?_eq_some_iff.1 hj).1
  rw [show off + k * 7 + 2 + j = off + (k * 7 + (2 + j)) by omega]
  refine h _ _ ?_
  rw [rowC_get hk (by omega)]
  show (encE e)[2 + j]? = some v
  rw [← hj]
  unfold encE
  rw [show 2 + j = j + 1 + 1 by omega]
  rfl
theorem wpList_case_put {w : World} {ops : Array Oper} {rest : List Oper} {o : Oper} {a : Act} {Q : Exit → Act → World → Prop} {B g n c k : Nat} {es : List En} (h : OwnT w B (.slice (some ⟨g, 0, none⟩) n c) es) (hk : k < es.length) {e r d : Bool} {p1 p2 : Option Addr} {n1 n2 c1 c2 : Nat} (hg : o.guard = none) (p y : Operand) (ho : o.op = .store 48 p y)
    (hp : a.eval p = .pointer (some ⟨g, k * 7 + 2, none⟩)) (hx : a.eval y = .agg #[.bool e, .bool r, .bool d, .slice p1 n1 c1, .slice p2 n2 c2]) (hn : wpList Try.prog ops Q rest (a.put o.dst undef) (w.setCells g (k * 7 + 2) [.bool e, .bool r, .bool d, .slice p1 n1 c1, .slice p2 n2 c2])) : wpList Try.prog ops Q (o :: rest) a w := by
  obtain ⟨cur, hcur, hlen⟩ : ∃ cur, w.heap[g]? = some (.cells cur 50 (0, 0)) ∧ es.length * 7 ≤ cur.size := by
    rcases h.row.2 with ⟨e0, _⟩ | ⟨g', cap, cur, e0, _, hh, hcap, _, hsz, _⟩
    · cases e0
    · cases e0; exact ⟨cur, hh, by rw [hsz]; exact Nat.mul_le_mul_right 7 hcap⟩
  refine wpList_store hg 48 5 p y ho (Try.sizeOf48 w) [.bool e, .bool r, .bool d, .slice p1 n1 c1, .slice p2 n2 c2] rfl g (k * 7 + 2) hp (by simpa using hx) (fun j hj => ?_) (fun j _ => frozen_of_row w g _ _ 50 hcur) (fun u hu => ?_) hn
  · have hj : j < 5 := hj
    rw [cell_of_row w g _ _ 50 _ hcur, Array.getElem?_eq_getElem (show k * 7 + 2 + j < cur.size by omega)]; rfl
  · simp only [List.mem_cons, List.not_mem_nil, or_false] at hu
    rcases hu with rfl | rfl | rfl | rfl | rfl <;> rfl
/-- The cells of a row, one broadcast's case elsewhere. -/
theorem rowC_put {l : List En} : ∀ {k : Nat} {e e' : En}, l[k]? = some e → e'.o.frm = e.o.frm → e'.o.seq = e.o.seq →
    rowC (l.set k e') = (((((rowC l).set (k * 7 + 2) (.bool e'.o.c.echoed)).set (k * 7 + 2 + 1) (.bool e'.o.c.readied)).set (k * 7 + 2 + 2) (.bool e'.o.c.done)).set (k * 7 + 2 + 3) (.slice e'.a1 e'.o.c.echoes.length e'.k1)).set (k * 7 + 2 + 4) (.slice e'.a2 e'.o.c.readies.length e'.k2) := by
  induction l with
  | nil => intro k e e' h; simp at h
  | cons b l ih =>
    intro k e e' h h1 h2
    cases k with
    | zero =>
      simp at h; subst h
      simp only [List.set_cons_zero, rowC, encE, h1, h2]
      rfl
    | succ k =>
      have h' : l[k]? = some e := by simpa using h
      have := ih h' h1 h2
      rw [List.set_cons_succ]
      simp only [rowC]
      have e7 : (encE b).length = 7 := rfl
      rw [this, show (k + 1) * 7 + 2 = k * 7 + 2 + 7 by omega]
      rw [show k * 7 + 2 + 7 + 1 = k * 7 + 2 + 1 + 7 by omega, show k * 7 + 2 + 7 + 2 = k * 7 + 2 + 2 + 7 by omega, show k * 7 + 2 + 7 + 3 = k * 7 + 2 + 3 + 7 by omega, show k * 7 + 2 + 7 + 4 = k * 7 + 2 + 4 + 7 by omega]
      rw [List.set_append_right _ _ (by omega), List.set_append_right _ _ (by omega), List.set_append_right _ _ (by omega), List.set_append_right _ _ (by omega), List.set_append_right _ _ (by omega), e7]
      simp only [Nat.add_sub_cancel]
theorem OwnT.put5 {w : World} {B g n c k : Nat} {es : List En} {e e' : En} (h : OwnT w B (.slice (some ⟨g, 0, none⟩) n c) es) (hn : es.length = n) (hk : es[k]? = some e) (h1 : e'.o.frm = e.o.frm) (h2 : e'.o.seq = e.o.seq) (ha : EnAt w e') (ho : Offs g e') :
    OwnT (w.setCells g (k * 7 + 2) [.bool e'.o.c.echoed, .bool e'.o.c.readied, .bool e'.o.c.done, .slice e'.a1 e'.o.c.echoes.length e'.k1, .slice e'.a2 e'.o.c.readies.length e'.k2]) B (.slice (some ⟨g, 0, none⟩) n c) (es.set k e') := by
  subst hn
  have hlt := (List.getElem?_eq_some_iff.1 hk).1
  have hr := own_put (own_put (own_put (own_put (own_put h.row (j := k * 7 + 2) (by omega) (.bool e'.o.c.echoed)) (j := k * 7 + 2 + 1) (by omega) (.bool e'.o.c.readied)) (j := k * 7 + 2 + 2) (by omega) (.bool e'.o.c.done)) (j := k * 7 + 2 + 3) (by omega) (.slice e'.a1 e'.o.c.echoes.length e'.k1)) (j := k * 7 + 2 + 4) (by omega) (.slice e'.a2 e'.o.c.readies.length e'.k2)
  have off1 : ∀ g', (Value.slice (some ⟨g, 0, none⟩) es.length c).ownBlock = some g' → ∀ x ∈ es.set k e', Offs g' x := fun g' hg' x hx => by
    obtain rfl : g = g' := by simpa [Value.ownBlock] using hg'
    rcases List.mem_or_eq_of_mem_set hx with hx | rfl
    · exact h.off g rfl x hx
    · exact ho
  show OwnT (((((w.setCell ⟨g, k * 7 + 2, none⟩ (.bool e'.o.c.echoed)).setCell ⟨g, k * 7 + 2 + 1, none⟩ (.bool e'.o.c.readied)).setCell ⟨g, k * 7 + 2 + 2, none⟩ (.bool e'.o.c.done)).setCell ⟨g, k * 7 + 2 + 3, none⟩ (.slice e'.a1 e'.o.c.echoes.length e'.k1)).setCell ⟨g, k * 7 + 2 + 4, none⟩ (.slice e'.a2 e'.o.c.readies.length e'.k2)) B _ _
  refine ⟨?_, fun x hx => ?_, off1⟩
  · rw [List.length_set, rowC_put hk h1 h2]; exact hr
  · have hox : Offs g x := off1 g rfl x hx
    refine EnAt.set (EnAt.set (EnAt.set (EnAt.set (EnAt.set ?_ hox _) hox _) hox _) hox _) hox _
    rcases List.mem_or_eq_of_mem_set hx with hx | rfl
    · exact h.ats x hx
    · exact ha
theorem OwnT.addr {w : World} {B n q k : Nat} {p : Option Addr} {es : List En} (h : OwnT w B (.slice p n q) es) (hk : k < es.length) : ∃ g, p = some ⟨g, 0, none⟩ := by
  rcases h.row.2 with ⟨e, h0⟩ | ⟨g, cap, cur, e, _⟩
  · omega
  · cases e; exact ⟨g, rfl⟩
theorem ops_put {l : List En} {k : Nat} {e' : En} : ops (l.set k e') = (ops l).set k e'.o := by unfold ops; rw [List.map_set]

theorem below_of_grown {B : Nat} {w w' w'' : World} {r : Option Nat} (h : Below B w w') (hg : w'.grownBy w'' r) (hs : B ≤ w'.heap.size) (hr : ∀ k, r = some k → B ≤ k) : Below B w w'' :=
  ⟨hg.os.trans h.os, hg.tape.trans h.tape, hg.output.trans h.output, Nat.le_trans h.size hg.size, fun k hk => (hg.block k (by omega) (fun e => by have := hr k e.symm; omega)).trans (h.block k hk)⟩
theorem ins_set {α : Type} (l : List α) {k : Nat} (hk : k ≤ l.length) (a b : α) : (l.take k ++ a :: l.drop k).set k b = l.take k ++ b :: l.drop k := by
  have h : (l.take k).length = k := by rw [List.length_take]; omega
  rw [List.set_append_right _ _ (by omega), h, Nat.sub_self, List.set_cons_zero]
theorem ins_get {α : Type} (l : List α) {k : Nat} (hk : k ≤ l.length) (a : α) : (l.take k ++ a :: l.drop k)[k]? = some a := by
  have h : (l.take k).length = k := by rw [List.length_take]; omega
  rw [List.getElem?_append_right (by omega), h, Nat.sub_self]; rfl
theorem build50 (f : Nat) (s : Int) (w : World) : (Instr.build 50 #[(0, .int .u8 (f : Int)), (1, .int .i64 s)]).run Try.prog w = .ok (.agg #[.int .u8 (f : Int), .int .i64 s, .bool false, .bool false, .bool false, .slice none 0 0, .slice none 0 0]) w := run_build w 50 _ _ (by kernel_rfl)
/-- The end of a vote that is taken: what closed answers, stored. -/
theorem tk_done {w W7 W10 w11 : World} {v : Int} {ms nf g c : Nat} {bs : Nat → Nat} {es1 : List En} {e : Ending} {ao : Option Addr} {outs : List (Nat × ByteArray)}
    (hx : ClPost W10 (w.heap.size + 5) nf es1 v ms bs (some ⟨g, 0, none⟩) c e w11) (hfr : ∀ e ∈ es1, FrE (w.heap.size + 5) e) (hao : AtO W7 ao outs) (hkp : Kp W7 W10 ao) (hne : ∀ ad, ao = some ad → ad.block < W7.heap.size → ad.block ≠ g ∧ ad.block ≠ w.heap.size + 1 + 1)
    (h7 : W7.heap.size ≤ W10.heap.size) (hb : Below w.heap.size w W10) (hg : w.heap.size + 5 ≤ g) :
    ∃ es2, e = .returned (.agg (tabL v ms (Tb.updB bs nf (Tb.closeO nf (ops es1).length (ops es1) (bs nf)).2) (.slice (some ⟨g, 0, none⟩) es2.length c))) ∧ W10.grownBy w11 (some g) ∧ ops es2 = (Tb.closeO nf (ops es1).length (ops es1) (bs nf)).1 ∧
      ∀ us : List Value, OwnT (w11.setCells (w.heap.size + 1 + 1) 0 us) w.heap.size (.slice (some ⟨g, 0, none⟩) es2.length c) es2 ∧ (∀ e ∈ es2, FrE w.heap.size e) ∧ AtO (w11.setCells (w.heap.size + 1 + 1) 0 us) ao outs ∧ Below w.heap.size w (w11.setCells (w.heap.size + 1 + 1) 0 us) := by
  obtain ⟨es2, h1, h2, h3, h4, h5⟩ := hx
  have h5' : W10.grownBy w11 (some g) := h5
  refine ⟨es2, h1, h5', h2, fun us => ⟨?_, fun x hx => (hfr x (h3 x hx)).from_ (by omega), ?_, ?_⟩⟩
  · refine (OwnT.cells us 0 h4 ?_ fun x hx => fr_offs (hfr x (h3 x hx)) (by omega)).from_ (by omega)
    intro he; have := (h4.row.lt _ he).1; omega
  · exact hao.kp ((hkp.grown h7 h5' fun ad ha hl he => (hne ad ha hl).1 (Option.some.inj he)).sets fun ad ha hl => (hne ad ha hl).2)
  · exact below_cells _ _ (below_of_grown hb h5' hb.size fun k hk => by have := Option.some.inj hk; omega) (by omega)

namespace Tb
theorem take_err {T : Tab} {nv : Int} {nf : Nat} {ns kind : Int} {id : Nat} {x : ByteArray} {u : Vt.Told} (hm : may T nv nf ns = 0) (hu : Vt.take (findC T.opn nf ns) T.ms nf kind id x = u) (h : u.e ≠ 0) : take T nv nf ns kind id x = errT T u.e := by
  unfold take; rw [if_neg (by rw [hm]; decide), hu, if_pos h]
theorem take_ok {T : Tab} {nv : Int} {nf : Nat} {ns kind : Int} {id : Nat} {x : ByteArray} {u : Vt.Told} (hm : may T nv nf ns = 0) (hu : Vt.take (findC T.opn nf ns) T.ms nf kind id x = u) (h : u.e = 0) {L : List Op} (hL : putO T.opn ⟨nf, ns, u.c⟩ = L) :
    take T nv nf ns kind id x = ⟨⟨T.view, T.ms, updB T.base nf (closeO nf L.length L (T.base nf)).2, (closeO nf L.length L (T.base nf)).1⟩, u.outs, u.body, u.is, 0⟩ := by
  unfold take; rw [if_neg (by rw [hm]; decide), hu, if_neg (by simp [h]), hL]
end Tb
end Go.Proofs.Ytmhjmeedoajkjaa
