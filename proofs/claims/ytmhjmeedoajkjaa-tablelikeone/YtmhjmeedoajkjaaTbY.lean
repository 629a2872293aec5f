/- TableLikeOne, walked: a broadcast in a table goes as it goes by itself. -/
import Derived.Test.YtmhjmeedoajkjaaTbX
set_option linter.unusedVariables false
namespace Go.Proofs.Ytmhjmeedoajkjaa
open Go.RowKit Go.Shelf

namespace Vt
theorem outs_le (c : Cs) (ms frm : Nat) (kind : Int) (id : Nat) (x : ByteArray) : (take c ms frm kind id x).outs.length ≤ 1 := by
  rcases take_full c ms frm kind id x with ⟨e, he0, ht⟩ | ⟨_, _, _, _, ht⟩ | ⟨_, _, _, ht⟩ | ⟨_, _, _, _, ht⟩ | ⟨_, _, _, _, _, ht⟩ <;> rw [ht]
  · exact Nat.zero_le _
  · exact Nat.le_refl _
  · show (echoT c (Cn.sizeS ms) id x).2.length ≤ 1
    unfold echoT ready; dsimp only; split <;> simp
  · show (readyT c (Cn.sizeS ms) id x).2.length ≤ 1
    unfold readyT ready; dsimp only; split <;> simp
  · show (readyT c (Cn.sizeS ms) id x).2.length ≤ 1
    unfold readyT ready; dsimp only; split <;> simp
end Vt
namespace Tb
theorem like_one {T : Tab} (hR : Rt T) {f : Nat} (hf : Cn.hasS T.ms f = true) (hv : T.view = 0) (hb : T.base f = 0) {c : Vt.Cs} (hc : findC T.opn f 0 = c) (kind : Int) (id : Nat) (x : ByteArray) {u : TTold} {v : Vt.Told} (hu : take T 0 f 0 kind id x = u) (hv2 : Vt.take c T.ms f kind id x = v) :
    u.e = v.e ∧ u.body = v.body ∧ u.is = v.is ∧ u.outs = v.outs ∧ (v.c.done = false → u.t.base f = 0 ∧ findC u.t.opn f 0 = v.c) := by
  have hm : may T 0 f 0 = 0 := by
    unfold may; rw [if_neg (by rw [hv]; simp), if_neg (by rw [hf]; decide), if_neg (by omega), hb]; rfl
  have hvf : Vt.take (findC T.opn f 0) T.ms f kind id x = v := by rw [hc]; exact hv2
  by_cases he : v.e = 0
  · have h1 := take_ok hm hvf he rfl
    rw [hu] at h1
    have hs := put_srt hR.srt ⟨f, 0, v.c⟩
    have hfd : findC (putO T.opn ⟨f, 0, v.c⟩) f 0 = v.c := find_mem hs (o := ⟨f, 0, v.c⟩) (mem_put.2 (.inl rfl)) (isN_iff.2 ⟨rfl, rfl⟩)
    rw [h1]
    refine ⟨he.symm, rfl, rfl, rfl, fun hd => ?_⟩
    have hst := close_stop (f := f) (l := putO T.opn ⟨f, 0, v.c⟩) (b := T.base f) (by rw [hb]; show (findC _ f 0).done = false; rw [hfd]; exact hd) (putO T.opn ⟨f, 0, v.c⟩).length
    show updB T.base f (closeO f _ _ (T.base f)).2 f = 0 ∧ findC (closeO f _ _ (T.base f)).1 f 0 = v.c
    rw [hst, updB_at]
    exact ⟨hb, hfd⟩
  · have h1 := take_err hm hvf he
    rw [hu] at h1
    rcases Vt.take_full c T.ms f kind id x with ⟨e, he0, ht⟩ | ⟨_, _, _, _, ht⟩ | ⟨_, _, _, ht⟩ | ⟨_, _, _, _, ht⟩ | ⟨_, _, _, _, _, ht⟩ <;> rw [hv2] at ht
    · rw [h1, ht]
      refine ⟨rfl, rfl, rfl, rfl, fun hd => ⟨hb, hc⟩⟩
    all_goals (exfalso; apply he; rw [ht])
end Tb

/-- One step of a region that draws: a value out of what lies there; a store. -/
theorem step_value {P : Program} {ops : Array Oper} {o : Oper} {a : Act} {w : World} {K : Act → World → Prop} {Q : Exit → Act → World → Prop} {E : Prop} {v : Value} (hg : o.guard = none) (hr : (execOp a.eval o).run P w = .ok (.value v) w) (hK : K (a.put o.dst v) w) :
    if Region.wanted o (yielded ops a.tmps) = true then Oper.wp P o a w K Q else E := by
  have hw : Region.wanted o (yielded ops a.tmps) = true := by simp [Region.wanted, hg]
  rw [if_pos hw]
  unfold Oper.wp
  rw [hr]; exact hK
theorem step_skip {P : Program} {ops : Array Oper} {o : Oper} {a : Act} {w w' : World} {K : Act → World → Prop} {Q : Exit → Act → World → Prop} {E : Prop} (hg : o.guard = none) (hr : (execOp a.eval o).run P w = .ok .skip w') (hK : K (a.put o.dst undef) w') :
    if Region.wanted o (yielded ops a.tmps) = true then Oper.wp P o a w K Q else E := by
  have hw : Region.wanted o (yielded ops a.tmps) = true := by simp [Region.wanted, hg]
  rw [if_pos hw]
  unfold Oper.wp
  rw [hr]; exact hK
theorem exec_store {P : Program} {w : World} {a : Act} {o : Oper} (T k : Nat) (p x : Operand) (ho : o.op = .store T p x) (zE : (Go.sizeOf T).run P w = .ok k w) (cs : List Value) (hk : cs.length = k) (b off : Nat) (hp : a.eval p = .pointer (some ⟨b, off, none⟩)) (hx : a.eval x = .agg cs.toArray)
    (hc : ∀ j, j < cs.length → (w.cell? ⟨b, off + j, none⟩).isSome = true) (hf : ∀ j, j < cs.length → w.frozen? ⟨b, off + j, none⟩ = false) (h1 : ∀ v ∈ cs, v.oneCell' = true) : (execOp a.eval o).run P w = .ok .skip (w.setCells b off cs) := by
  have hst := run_storeCells_cells (P := P) b off cs 0 w (by simpa using hc) (by simpa using hf) h1
  simp only [Nat.add_zero] at hst
  generalize a.eval = ev at hp hx ⊢
  simp [execOp, ho, hp, hx, Instr.storeAt, Instr.sureAddr, storeVar, zE, hk, hst, go_sem]
theorem tab_load {w : World} {a : Act} {o : Oper} {b : Nat} {v : Int} {ms : Nat} {bs : Nat → Nat} {s : Value} (h : X19 w b 30 v ms bs s) (p : Operand) (ho : o.op = .load 30 p) (hp : a.eval p = .pointer (some ⟨b, 0, none⟩)) : (execOp a.eval o).run Try.prog w = .ok (.value (.agg (tabL v ms bs s))) w := by
  have := exec_load 30 19 Try.isAgg30 Try.sizeOf30 (tabL v ms bs s).toList rfl b 0 w (tabL_cells h) a o p ho hp
  simpa using this
theorem case_load {w : World} {a : Act} {o : Oper} {b : Nat} {v0 v1 v2 v3 v4 : Value} (h : C5 w b v0 v1 v2 v3 v4) (p : Operand) (ho : o.op = .load 48 p) (hp : a.eval p = .pointer (some ⟨b, 0, none⟩)) : (execOp a.eval o).run Try.prog w = .ok (.value (.agg #[v0, v1, v2, v3, v4])) w :=
  exec_load 48 5 Try.isAgg48 Try.sizeOf48 [v0, v1, v2, v3, v4] rfl b 0 w (fun j v hj => by rw [Nat.zero_add, cell_of_row w b j _ 48 _ h]; simpa using hj) a o p ho hp
theorem tab_store {w : World} {a : Act} {o : Oper} {b : Nat} {v v' : Int} {ms ms' : Nat} {bs bs' : Nat → Nat} {s : Value} {sa : Option Addr} {sl sc : Nat} (h : X19 w b 30 v ms bs s) (p y : Operand) (ho : o.op = .store 30 p y) (hp : a.eval p = .pointer (some ⟨b, 0, none⟩)) (hx : a.eval y = .agg (tabL v' ms' bs' (.slice sa sl sc))) :
    (execOp a.eval o).run Try.prog w = .ok .skip (w.setCells b 0 (tabL v' ms' bs' (.slice sa sl sc)).toList) := by
  refine exec_store 30 19 p y ho (Try.sizeOf30 w) (tabL v' ms' bs' (.slice sa sl sc)).toList rfl b 0 hp (by simpa using hx) (fun j hj => ?_) (fun j _ => h.frozen _) (tabL_one v' ms' bs' _ rfl)
  have hj : j < 19 := hj
  rw [Nat.zero_add, cell_of_row w b j _ 30 _ h, Array.getElem?_eq_getElem (show j < (tabL v ms bs s).size from hj)]; rfl
theorem case_store {w : World} {a : Act} {o : Oper} {b : Nat} {v0 v1 v2 v3 v4 : Value} {e r d : Bool} {p1 p2 : Option Addr} {n1 n2 c1 c2 : Nat} (h : C5 w b v0 v1 v2 v3 v4) (p y : Operand) (ho : o.op = .store 48 p y)
    (hp : a.eval p = .pointer (some ⟨b, 0, none⟩)) (hx : a.eval y = .agg #[.bool e, .bool r, .bool d, .slice p1 n1 c1, .slice p2 n2 c2]) : (execOp a.eval o).run Try.prog w = .ok .skip (w.setCells b 0 [.bool e, .bool r, .bool d, .slice p1 n1 c1, .slice p2 n2 c2]) := by
  refine exec_store 48 5 p y ho (Try.sizeOf48 w) [.bool e, .bool r, .bool d, .slice p1 n1 c1, .slice p2 n2 c2] rfl b 0 hp (by simpa using hx) (fun j hj => ?_) (fun j _ => h.frozen _) (fun u hu => ?_)
  · have hj : j < 5 := hj
    rw [Nat.zero_add, cell_of_row w b j _ 48 _ h, Array.getElem?_eq_getElem (show j < (#[v0, v1, v2, v3, v4] : Array Value).size from hj)]; rfl
  · simp only [List.mem_cons, List.not_mem_nil, or_false] at hu
    rcases hu with rfl | rfl | rfl | rfl | rfl <;> rfl

theorem size_cells {b : Nat} : ∀ (us : List Value) (o : Nat) (w : World), (w.setCells b o us).heap.size = w.heap.size
  | [], _, _ => rfl
  | u :: us, o, w => by
    show ((w.setCell ⟨b, o, none⟩ u).setCells b (o + 1) us).heap.size = _
    rw [size_cells us (o + 1)]; simp
theorem neq68 (x : ByteArray) (s : Int) (w : World) :
    (binOp .neq 68 (.agg #[.int .i64 s, .string x]) (.agg #[.int .i64 s, .string x])).run Try.prog w = .ok (.bool false) w := by
  have u9 := Try.underlying9
  have a9 := Try.isAgg9
  have z9 := Try.sizeOf9
  have u3 := Try.underlying3
  have a3 := Try.isAgg3
  have z3 := Try.sizeOf3
  have hS : Try.prog.underlying 68 = some (.struct (Try.prog.fieldsOf 68)) := by kernel_rfl
  have hp : Try.prog.stoodInHeld 68 = false := by kernel_rfl
  rw [run_neq_struct, show (10000 : Nat) = 9999 + 1 from rfl, run_equalIn_agg w 9999 68 _ _ hS hp]
  simp only [Program.fieldsOf, Try.underlying68]
  go_simp
theorem guard68 (x y : Operand) (xs ys : Array Value) (w : World) : (eqGuard .neq 68 x y (.agg xs) (.agg ys)).run Try.prog w = .ok () w :=
  run_eqGuard_agg w .neq 68 x y xs ys (by kernel_rfl)
/-- A vote as it comes in, in a box. -/
def V3 (w : World) (b : Nat) (k : Int) (i : Nat) (x : ByteArray) : Prop := w.heap[b]? = some (.cells #[.int .i64 k, .int .u8 (i : Int), .string x] 64 (0, 0))
theorem wpList_vote {w : World} {ops : Array Oper} {rest : List Oper} {o : Oper} {a : Act} {Q : Exit → Act → World → Prop} {b off : Nat} {v0 v1 v2 : Value} (h0 : w.cell? ⟨b, off, none⟩ = some v0) (h1 : w.cell? ⟨b, off + 1, none⟩ = some v1) (h2 : w.cell? ⟨b, off + 2, none⟩ = some v2) (hg : o.guard = none) (p : Operand) (ho : o.op = .load 64 p)
    (hp : a.eval p = .pointer (some ⟨b, off, none⟩)) (hn : wpList Try.prog ops Q rest (a.put o.dst (.agg #[v0, v1, v2])) w) : wpList Try.prog ops Q (o :: rest) a w := by
  refine wpList_loadw 64 3 p ho Try.isAgg64 Try.sizeOf64 [v0, v1, v2] rfl b off (fun j u hj => ?_) hp (by simp [Region.wanted, hg]) hn
  match j, hj with
  | 0, hj => cases hj; exact h0
  | 1, hj => cases hj; exact h1
  | 2, hj => cases hj; exact h2
  | j + 3, hj => simp at hj
theorem wpList_vote_store {w : World} {ops : Array Oper} {rest : List Oper} {o : Oper} {a : Act} {Q : Exit → Act → World → Prop} {b : Nat} {u0 u1 u2 : Value} {k : Int} {i : Nat} {x : ByteArray} (h : w.heap[b]? = some (.cells #[u0, u1, u2] 64 (0, 0))) (hg : o.guard = none) (p y : Operand) (ho : o.op = .store 64 p y)
    (hp : a.eval p = .pointer (some ⟨b, 0, none⟩)) (hx : a.eval y = .agg #[.int .i64 k, .int .u8 (i : Int), .string x]) (hn : wpList Try.prog ops Q rest (a.put o.dst undef) (w.setCells b 0 [.int .i64 k, .int .u8 (i : Int), .string x])) : wpList Try.prog ops Q (o :: rest) a w := by
  refine wpList_store hg 64 3 p y ho (Try.sizeOf64 w) [.int .i64 k, .int .u8 (i : Int), .string x] rfl b 0 hp (by simpa using hx) (fun j hj => ?_) (fun j _ => frozen_of_row w b _ _ 64 h) (fun u hu => ?_) hn
  · have hj : j < 3 := hj
    rw [Nat.zero_add, cell_of_row w b j _ 64 _ h, Array.getElem?_eq_getElem (show j < (#[u0, u1, u2] : Array Value).size from hj)]; rfl
  · simp only [List.mem_cons, List.not_mem_nil, or_false] at hu
    rcases hu with rfl | rfl | rfl <;> rfl
theorem V3.whole {w : World} {b : Nat} {u0 u1 u2 : Value} {k : Int} {i : Nat} {x : ByteArray} (h : w.heap[b]? = some (.cells #[u0, u1, u2] 64 (0, 0))) : V3 (w.setCells b 0 [.int .i64 k, .int .u8 (i : Int), .string x]) b k i x :=
  row_whole (cs := #[.int .i64 k, .int .u8 (i : Int), .string x]) h rfl
theorem V3.later {w w' : World} {b : Nat} {k : Int} {i : Nat} {x : ByteArray} (h : V3 w b k i x) (hb : Below w.heap.size w w') : V3 w' b k i x := (hb.block b (Array.getElem?_eq_some_iff.1 h).1).trans h
theorem V3.lt' {w : World} {b : Nat} {k : Int} {i : Nat} {x : ByteArray} (h : V3 w b k i x) : b < w.heap.size := (Array.getElem?_eq_some_iff.1 h).1
theorem V3.cells {w : World} {b : Nat} {k : Int} {i : Nat} {x : ByteArray} (h : V3 w b k i x) : w.cell? ⟨b, 0, none⟩ = some (.int .i64 k) ∧ w.cell? ⟨b, 1, none⟩ = some (.int .u8 (i : Int)) ∧ w.cell? ⟨b, 2, none⟩ = some (.string x) :=
  ⟨cell_of_row w b 0 _ 64 _ h, cell_of_row w b 1 _ 64 _ h, cell_of_row w b 2 _ 64 _ h⟩
theorem build33f (f : Nat) (w : World) : (Instr.build 33 #[(1, .int .u8 (f : Int))]).run Try.prog w = .ok (.agg #[.int .i64 0, .int .u8 (f : Int), .int .i64 0]) w := run_build w 33 _ _ (by kernel_rfl)
/-- The state of the loop behind k votes. -/
structure LkS (w w1 wr : World) (k ms frm : Nat) (T : Tb.Tab) (p : Option Addr) (q : Nat) (es : List En) (c : Vt.Cs) (a1 a2 : Option Addr) (c1 c2 : Nat) : Prop where
  box : X19 wr w1.heap.size 30 T.view T.ms T.base (.slice p es.length q)
  ta : TaAt wr k T p es
  cs : CaseIn wr (w1.heap.size + 1) c a1 a2 c1 c2
  small : c.Small ∧ c.echoes.length ≤ k ∧ c.readies.length ≤ k
  below : Below w.heap.size w wr
  lo : w.heap.size ≤ w1.heap.size
  same : T.ms = ms ∧ T.view = 0
  fr : Fr w1.heap.size p ∧ ∀ e ∈ es, FrE w1.heap.size e
  fr2 : (∀ ad, p = some ad → ad.block ≠ w1.heap.size ∧ ad.block ≠ w1.heap.size + 1) ∧ ∀ e ∈ es, Offs w1.heap.size e ∧ Offs (w1.heap.size + 1) e
  fr3 : (c.echoes ≠ [] → ∀ ad, a1 = some ad → ad.block ≠ w1.heap.size ∧ ad.block ≠ w1.heap.size + 1) ∧ (c.readies ≠ [] → ∀ ad, a2 = some ad → ad.block ≠ w1.heap.size ∧ ad.block ≠ w1.heap.size + 1)
  like : c.done = false → T.base frm = 0 ∧ Tb.findC T.opn frm 0 = c
theorem LkS.later {w w1 wr wr' : World} {k m ms frm : Nat} {T : Tb.Tab} {p : Option Addr} {q : Nat} {es : List En} {c : Vt.Cs} {a1 a2 : Option Addr} {c1 c2 : Nat} (h : LkS w w1 wr k ms frm T p q es c a1 a2 c1 c2) (hb : Below wr.heap.size wr wr') (hm : k ≤ m) : LkS w w1 wr' m ms frm T p q es c a1 a2 c1 c2 :=
  ⟨h.box.later hb, (h.ta.later hb).more hm, h.cs.later hb, ⟨h.small.1, Nat.le_trans h.small.2.1 hm, Nat.le_trans h.small.2.2 hm⟩, below_step h.below hb, h.lo, h.same, h.fr, h.fr2, h.fr3, h.like⟩

set_option maxHeartbeats 8000000 in
set_option maxRecDepth 100000 in
theorem like_walk (w : World) (ms frm : Nat) (a : Option Addr) (len cap : Nat) (z : List (Int × Nat × ByteArray)) (hz : AtV w a z) (hl : z.length = len) (hid : ∀ v ∈ z, v.2.1 < 256) (hms : ms < 65536) (hfr : frm < 256) :
    Calls Try.prog 6 #[.int .u16 (ms : Int), .int .u8 (frm : Int), .slice a len cap] w fun e w' => e = .returned (.bool true) ∧ Below w.heap.size w w' := by
  have HZ : Aside (AtV w a z ∧ z.length = len ∧ (∀ v ∈ z, v.2.1 < 256) ∧ ms < 65536 ∧ frm < 256) := ⟨hz, hl, hid, hms, hfr⟩
  have HA := alive8_any w
  clear hz hl hid hms hfr
  go_enter Try.func6, Try.ntmps6
  go_wp2_with fail
  refine HA.mono ?_
  rintro e w1 ⟨rfl, hb1⟩
  have Z0 : Aside (X19 (w1.alloc (.cells #[.int .i64 0, .int .u16 0, .int .u16 0, .int .u16 0, .int .u16 0, .int .u16 0, .int .u16 0, .int .u16 0, .int .u16 0, .int .u16 0, .int .u16 0, .int .u16 0, .int .u16 0, .int .u16 0, .int .u16 0, .int .u16 0, .int .u16 0, .int .u16 0, .slice none 0 0] 30)) w1.heap.size 30 0 0 (fun _ => 0) (.slice none 0 0)) := X19.zero w1
  obtain ⟨V, hV⟩ : ∃ V, V = (w1.alloc (.cells #[.int .i64 0, .int .u16 0, .int .u16 0, .int .u16 0, .int .u16 0, .int .u16 0, .int .u16 0, .int .u16 0, .int .u16 0, .int .u16 0, .int .u16 0, .int .u16 0, .int .u16 0, .int .u16 0, .int .u16 0, .int .u16 0, .int .u16 0, .int .u16 0, .slice none 0 0] 30)).setCells w1.heap.size 0 (tabL 0 ms (fun _ => 0) (.slice none 0 0)).toList := ⟨_, rfl⟩
  have hbV : Below w1.heap.size w1 V := by rw [hV]; exact below_cells _ _ ((Below.refl _ w1).alloc (Nat.le_refl _) _) (Nat.le_refl _)
  have hszV : V.heap.size = w1.heap.size + 1 := by rw [hV, size_cells]; simp
  obtain ⟨V2, hV2⟩ : ∃ V2, V2 = V.alloc (.cells #[.bool false, .bool false, .bool false, .slice none 0 0, .slice none 0 0] 48) := ⟨_, rfl⟩
  have ST0 : Aside (LkS w w1 V2 0 ms frm ⟨0, ms, fun _ => 0, []⟩ none 0 [] Vt.Cs.none none none 0 0) := by
    have hb2 : Below V.heap.size V V2 := by rw [hV2]; exact (Below.refl _ V).alloc (Nat.le_refl _) _
    refine ⟨?_, TaAt.zero V2 ms HZ.out.2.2.2.1, ?_, ⟨none_small, Nat.le_refl _, Nat.le_refl _⟩, below_step hb1 (below_step hbV hb2), hb1.size, ⟨rfl, rfl⟩, ⟨(fun _ h => nomatch h), (fun _ h => nomatch h)⟩, ⟨(fun _ h => nomatch h), (fun _ h => nomatch h)⟩, ⟨(fun h => absurd rfl h), (fun h => absurd rfl h)⟩, fun _ => ⟨rfl, rfl⟩⟩
    · refine X19.later (w := V) ?_ hb2
      rw [hV]; exact Z0.out.whole
    · rw [hV2, ← hszV]; exact CaseIn.zero V
  clear HA hbV hb1
  go_wp2_with (first
    | (with_reducible refine wpList_build1 rfl 30 1 _ rfl _ (.agg (tabL 0 ms (fun _ => 0) (.slice none 0 0))) (build30 ms _) rfl ?_)
    | ((with_reducible refine wpList_tab_store Z0.out rfl _ _ rfl rfl rfl ?_); rw [← hV]; clear hV Z0))
  rw [← hV2]
  clear hV2 hszV
  go_loopw [9] (fun i wr => ∃ k T p q es c a1 a2 c1 c2, k ≤ len ∧ k ≤ 80 ∧ i = .int .i64 (k : Nat) ∧ Aside (LkS w w1 wr k ms frm T p q es c a1 a2 c1 c2)) (fun i _ => 80 - (intOf i).toNat)
  case atStart => exact ⟨0, _, _, _, _, _, _, _, _, _, by omega, by omega, rfl, ST0.out⟩
  case round =>
    obtain ⟨k, T, p, q, es, c, a1, a2, c1, c2, hk1, hk2, rfl, ST⟩ := hrel
    clear ST0
    by_cases hlt : k < len
    · by_cases hk80 : k < 80
      · have t1 : (k : Int) < (len : Int) := by omega
        have t2 : (k : Int) < 80 := by omega
        have t3 : (0 : Int) ≤ (k : Int) := by omega
        obtain ⟨b9, off9, kd, id, x, rfl, hx, hc0, hc1, hc2⟩ := (HZ.out.1.later ST.out.below).get (by rw [HZ.out.2.1]; exact hlt)
        have HID : Aside (id < 256) := HZ.out.2.2.1 _ (List.mem_of_getElem? hx)
        have HC : Aside ((wr.alloc (.cells #[.int .i64 0, .int .u8 0, .string ⟨#[]⟩] 64)).cell? ⟨b9, off9 + k * 3, none⟩ = some (.int .i64 kd) ∧ (wr.alloc (.cells #[.int .i64 0, .int .u8 0, .string ⟨#[]⟩] 64)).cell? ⟨b9, off9 + k * 3 + 1, none⟩ = some (.int .u8 (id : Int)) ∧ (wr.alloc (.cells #[.int .i64 0, .int .u8 0, .string ⟨#[]⟩] 64)).cell? ⟨b9, off9 + k * 3 + 2, none⟩ = some (.string x)) :=
          ⟨cell_later ((Below.refl _ wr).alloc (Nat.le_refl _) _) hc0, cell_later ((Below.refl _ wr).alloc (Nat.le_refl _) _) hc1, cell_later ((Below.refl _ wr).alloc (Nat.le_refl _) _) hc2⟩
        have HC0 : Aside (wr.cell? ⟨b9, off9 + k * 3, none⟩ = some (.int .i64 kd) ∧ wr.cell? ⟨b9, off9 + k * 3 + 1, none⟩ = some (.int .u8 (id : Int)) ∧ wr.cell? ⟨b9, off9 + k * 3 + 2, none⟩ = some (.string x)) := ⟨hc0, hc1, hc2⟩
        have ZB : Aside ((wr.alloc (.cells #[.int .i64 0, .int .u8 0, .string ⟨#[]⟩] 64)).heap[wr.heap.size]? = some (.cells #[.int .i64 0, .int .u8 0, .string ⟨#[]⟩] 64 (0, 0))) := heap_alloc_new wr _
        obtain ⟨W2, hW2⟩ : ∃ W2, W2 = (wr.alloc (.cells #[.int .i64 0, .int .u8 0, .string ⟨#[]⟩] 64)).setCells wr.heap.size 0 [.int .i64 kd, .int .u8 (id : Int), .string x] := ⟨_, rfl⟩
        have S2 : Aside (LkS w w1 W2 k ms frm T p q es c a1 a2 c1 c2 ∧ V3 W2 wr.heap.size kd id x ∧ w1.heap.size + 1 < wr.heap.size) := by
          have hb : Below wr.heap.size wr W2 := by rw [hW2]; exact below_cells _ _ ((Below.refl _ wr).alloc (Nat.le_refl _) _) (Nat.le_refl _)
          exact ⟨ST.out.later hb (Nat.le_refl _), by rw [hW2]; exact V3.whole ZB.out, ST.out.cs.1.lt⟩
        obtain ⟨d0, d1, d2⟩ := S2.out.2.1.cells
        obtain ⟨e0, e1, e2, e3, e4⟩ := S2.out.1.cs.1.cells
        clear ST hx hc0 hc1 hc2
        by_cases hskip : (1100 : Int) < (x.size : Int) ∨ 15 < frm ∨ Cn.hasS ms frm = false ∨ c.done = true
        · rcases Classical.em ((1100 : Int) < (x.size : Int)) with g1 | g1
          · go_wp2_with (first
              | (with_reducible refine wpList_vote HC0.out.1 HC0.out.2.1 HC0.out.2.2 rfl _ rfl rfl ?_)
              | (with_reducible refine wpList_vote HC.out.1 HC.out.2.1 HC.out.2.2 rfl _ rfl rfl ?_)
              | ((with_reducible refine wpList_vote_store ZB.out rfl _ _ rfl rfl rfl ?_); rw [← hW2]; clear hW2 ZB HC HC0))
            go_roundw
            case rel => exact ⟨k + 1, T, p, q, es, c, a1, a2, c1, c2, by omega, by omega, by go_num, S2.out.1.later (Below.refl _ _) (by omega)⟩
            case measure => simp [intOf]; omega
          rcases Classical.em (15 < frm) with g2 | g2
          · have g2' : (15 : Int) < (frm : Int) := by omega
            go_wp2_with (first
              | (with_reducible refine wpList_vote HC0.out.1 HC0.out.2.1 HC0.out.2.2 rfl _ rfl rfl ?_)
              | (with_reducible refine wpList_vote HC.out.1 HC.out.2.1 HC.out.2.2 rfl _ rfl rfl ?_)
              | ((with_reducible refine wpList_vote_store ZB.out rfl _ _ rfl rfl rfl ?_); rw [← hW2]; clear hW2 ZB HC HC0))
            go_roundw
            case rel => exact ⟨k + 1, T, p, q, es, c, a1, a2, c1, c2, by omega, by omega, by go_num, S2.out.1.later (Below.refl _ _) (by omega)⟩
            case measure => simp [intOf]; omega
          have g2' : ¬ ((15 : Int) < (frm : Int)) := by omega
          have hbit := has_bit ms frm (by omega)
          have s0 : (0 : Int) ≤ (frm : Int) := by omega
          have s1 : (frm : Int) ≤ 16 := by omega
          cases hh : Cn.hasS ms frm with
          | false =>
            rw [hh] at hbit
            have hbit : ((ms : Int) / 2 ^ frm).tmod 2 = 0 := hbit
            go_wp2_with (first
              | (with_reducible refine wpList_vote HC0.out.1 HC0.out.2.1 HC0.out.2.2 rfl _ rfl rfl ?_)
              | (with_reducible refine wpList_vote HC.out.1 HC.out.2.1 HC.out.2.2 rfl _ rfl rfl ?_)
              | ((with_reducible refine wpList_vote_store ZB.out rfl _ _ rfl rfl rfl ?_); rw [← hW2]; clear hW2 ZB HC HC0))
            go_roundw
            case rel => exact ⟨k + 1, T, p, q, es, c, a1, a2, c1, c2, by omega, by omega, by go_num, S2.out.1.later (Below.refl _ _) (by omega)⟩
            case measure => simp [intOf]; omega
          | true =>
            rw [hh] at hbit
            have hbit : ((ms : Int) / 2 ^ frm).tmod 2 = 1 := hbit
            have hcd : c.done = true := by
              rcases hskip with h | h | h | h
              · exact absurd h g1
              · exact absurd h g2
              · rw [hh] at h; cases h
              · exact h
            rw [hcd] at e2
            go_wp2_with (first
              | (with_reducible refine wpList_vote HC0.out.1 HC0.out.2.1 HC0.out.2.2 rfl _ rfl rfl ?_)
              | (with_reducible refine wpList_vote HC.out.1 HC.out.2.1 HC.out.2.2 rfl _ rfl rfl ?_)
              | ((with_reducible refine wpList_vote_store ZB.out rfl _ _ rfl rfl rfl ?_); rw [← hW2]; clear hW2 ZB HC HC0))
            go_roundw
            case rel => exact ⟨k + 1, T, p, q, es, c, a1, a2, c1, c2, by omega, by omega, by go_num, S2.out.1.later (Below.refl _ _) (by omega)⟩
            case measure => simp [intOf]; omega
        · have g1 : ¬ ((1100 : Int) < (x.size : Int)) := fun h => hskip (.inl h)
          have g2 : ¬ 15 < frm := fun h => hskip (.inr (.inl h))
          have g2' : ¬ ((15 : Int) < (frm : Int)) := by omega
          have hbit := has_bit ms frm (by omega)
          have s0 : (0 : Int) ≤ (frm : Int) := by omega
          have s1 : (frm : Int) ≤ 16 := by omega
          have hh : Cn.hasS ms frm = true := by
            cases h : Cn.hasS ms frm with
            | true => rfl
            | false => exact absurd (.inr (.inr (.inl h))) hskip
          have hcd : c.done = false := by
            cases h : c.done with
            | false => rfl
            | true => exact absurd (.inr (.inr (.inr h))) hskip
          rw [hh] at hbit
          have hbit : ((ms : Int) / 2 ^ frm).tmod 2 = 1 := hbit
          obtain ⟨u, hu⟩ : ∃ u, Tb.take T 0 frm 0 kd id x = u := ⟨_, rfl⟩
          obtain ⟨v, hv⟩ : ∃ v, Vt.take c ms frm kd id x = v := ⟨_, rfl⟩
          have hv2 : Vt.take c T.ms frm kd id x = v := by rw [S2.out.1.same.1]; exact hv
          have HV1 : Aside (v.outs.length ≤ 1) := by rw [← hv]; exact Vt.outs_le _ _ _ _ _ _
          have LO := Tb.like_one S2.out.1.ta.rt (by rw [S2.out.1.same.1]; exact hh) S2.out.1.same.2 (S2.out.1.like hcd).1 (S2.out.1.like hcd).2 kd id x hu hv2
          clear hv2
          have CT : Aside (Calls Try.prog 9 #[.agg (tabL T.view T.ms T.base (.slice p es.length q)), .agg #[.int .i64 0, .int .u8 (frm : Int), .int .i64 0], .int .i64 kd, .int .u8 (id : Nat), .string x] W2 fun z w' => ∃ p' q' es' ao co, z = .returned (.tuple #[.agg (tabL u.t.view u.t.ms u.t.base (.slice p' (List.length (α := En) es') q')), .slice ao v.outs.length co, .string v.body, .bool v.is, .int .i64 (v.e : Int)]) ∧
              Aside (TaAt w' (k + 1) u.t p' es' ∧ AtO w' ao v.outs ∧ Below W2.heap.size W2 w' ∧ Fr W2.heap.size p' ∧ (∀ e ∈ es', FrE W2.heap.size e) ∧ Fr W2.heap.size ao)) := by
            refine (take8_ta (q := q) S2.out.1.ta (by omega) HZ.out.2.2.2.2 hu).mono ?_
            rintro zz w' ⟨p', q', es', ao, co, rfl, hA⟩
            refine ⟨p', q', es', ao, co, ?_, ?_⟩
            · rw [← LO.1, ← LO.2.1, ← LO.2.2.1, ← LO.2.2.2.1]
            · have := hA.out; rw [LO.2.2.2.1] at this; exact this
          have CV : Aside (∀ W, Below W2.heap.size W2 W → _) := fun W hb => take_let (c1 := c1) (c2 := c2) (w := W) hv ⟨S2.out.1.cs.2.1.later hb, S2.out.1.cs.2.2.later hb, S2.out.1.small.1, Nat.le_trans S2.out.1.small.2.1 (by omega), Nat.le_trans S2.out.1.small.2.2 (by omega)⟩ HZ.out.2.2.2.1
          have UF : Aside (u.t.ms = ms ∧ u.t.view = 0 ∧ (v.c.done = false → u.t.base frm = 0 ∧ Tb.findC u.t.opn frm 0 = v.c) ∧ v.c.Small ∧ v.c.echoes.length ≤ k + 1 ∧ v.c.readies.length ≤ k + 1) := by
            have h1 := Vt.take_small S2.out.1.small.1 ms frm kd id x
            have h2 := Vt.take_len c ms frm kd id x
            rw [hv] at h1 h2
            have h3 := S2.out.1.small.2
            refine ⟨?_, ?_, LO.2.2.2.2, h1, by omega, by omega⟩
            · rw [← hu, (Tb.take_ms _ _ _ _ _ _ _).1]; exact S2.out.1.same.1
            · rw [← hu, (Tb.take_ms _ _ _ _ _ _ _).2]; exact S2.out.1.same.2
          rw [hcd] at e2
          clear hu hv LO
          have HD : Aside (c.done = false) := hcd
          clear hcd hskip
          go_wp2_with (first
            | (with_reducible refine wpList_vote HC0.out.1 HC0.out.2.1 HC0.out.2.2 rfl _ rfl rfl ?_)
            | (with_reducible refine wpList_vote HC.out.1 HC.out.2.1 HC.out.2.2 rfl _ rfl rfl ?_)
            | ((with_reducible refine wpList_vote_store ZB.out rfl _ _ rfl rfl rfl ?_); rw [← hW2]; clear hW2 ZB HC HC0)
            | (with_reducible refine wpList_tab S2.out.1.box rfl _ rfl rfl ?_)
            | (with_reducible refine wpList_build1 rfl 33 1 _ rfl _ (.agg #[.int .i64 0, .int .u8 (frm : Int), .int .i64 0]) (build33f frm _) rfl ?_))
          refine CT.out.mono ?_
          rintro zz w4 ⟨p', q', es', ao, co, rfl, hA⟩
          have Z4 : Aside (X19 (w4.alloc (.cells #[.int .i64 0, .int .u16 0, .int .u16 0, .int .u16 0, .int .u16 0, .int .u16 0, .int .u16 0, .int .u16 0, .int .u16 0, .int .u16 0, .int .u16 0, .int .u16 0, .int .u16 0, .int .u16 0, .int .u16 0, .int .u16 0, .int .u16 0, .int .u16 0, .slice none 0 0] 30)) w4.heap.size 30 0 0 (fun _ => 0) (.slice none 0 0)) := X19.zero w4
          obtain ⟨W5, hW5⟩ : ∃ W5, W5 = (w4.alloc (.cells #[.int .i64 0, .int .u16 0, .int .u16 0, .int .u16 0, .int .u16 0, .int .u16 0, .int .u16 0, .int .u16 0, .int .u16 0, .int .u16 0, .int .u16 0, .int .u16 0, .int .u16 0, .int .u16 0, .int .u16 0, .int .u16 0, .int .u16 0, .int .u16 0, .slice none 0 0] 30)).setCells w4.heap.size 0 (tabL u.t.view u.t.ms u.t.base (.slice p' es'.length q')).toList := ⟨_, rfl⟩
          have hb45 : Below w4.heap.size w4 W5 := by rw [hW5]; exact below_cells _ _ ((Below.refl _ w4).alloc (Nat.le_refl _) _) (Nat.le_refl _)
          have S5 : Aside (Below W2.heap.size W2 W5 ∧ X19 W5 w4.heap.size 30 u.t.view u.t.ms u.t.base (.slice p' es'.length q') ∧ TaAt W5 (k + 1) u.t p' es' ∧ AtO W5 ao v.outs ∧ W2.heap.size ≤ w4.heap.size ∧ Fr W2.heap.size p' ∧ (∀ e ∈ es', FrE W2.heap.size e) ∧ Fr W2.heap.size ao) :=
            ⟨below_step hA.out.2.2.1 hb45, by rw [hW5]; exact Z4.out.whole, hA.out.1.later hb45, hA.out.2.1.later hb45, hA.out.2.2.1.size, hA.out.2.2.2.1, hA.out.2.2.2.2.1, hA.out.2.2.2.2.2⟩
          have C8 : Aside (C5 W5 (w1.heap.size + 1) (.bool c.echoed) (.bool c.readied) (.bool c.done) (.slice a1 c.echoes.length c1) (.slice a2 c.readies.length c2)) := S2.out.1.cs.1.later S5.out.1
          obtain ⟨d0, d1, d2⟩ := (S2.out.2.1.later S5.out.1).cells
          have CW := CV.out W5 S5.out.1
          clear CT hA hb45 CV e0 e1 e2 e3 e4
          go_wp2_with (first
            | ((with_reducible refine wpList_tab_store Z4.out rfl _ _ rfl rfl rfl ?_); rw [← hW5]; clear hW5 Z4)
            | (with_reducible refine wpList_case_load C8.out rfl _ rfl rfl ?_))
          refine CW.mono ?_
          rintro zz w6 ⟨b1, k1, b2, k2, ao2, co2, rfl, hA⟩
          have Z6 : Aside (C5 (w6.alloc (.cells #[.bool false, .bool false, .bool false, .slice none 0 0, .slice none 0 0] 48)) w6.heap.size (.bool false) (.bool false) (.bool false) (.slice none 0 0) (.slice none 0 0)) := C5.new w6 _ _ _ _ _
          obtain ⟨W7, hW7⟩ : ∃ W7, W7 = (w6.alloc (.cells #[.bool false, .bool false, .bool false, .slice none 0 0, .slice none 0 0] 48)).setCells w6.heap.size 0 [.bool v.c.echoed, .bool v.c.readied, .bool v.c.done, .slice b1 v.c.echoes.length k1, .slice b2 v.c.readies.length k2] := ⟨_, rfl⟩
          have hb67 : Below w6.heap.size w6 W7 := by rw [hW7]; exact below_cells _ _ ((Below.refl _ w6).alloc (Nat.le_refl _) _) (Nat.le_refl _)
          have S7 : Aside (Below W5.heap.size W5 W7 ∧ C5 W7 w6.heap.size (.bool v.c.echoed) (.bool v.c.readied) (.bool v.c.done) (.slice b1 v.c.echoes.length k1) (.slice b2 v.c.readies.length k2) ∧ Vt.At W7 b1 v.c.echoes ∧ Vt.At W7 b2 v.c.readies ∧ AtO W7 ao2 v.outs ∧ W5.heap.size ≤ w6.heap.size ∧ Fr W5.heap.size b1 ∧ Fr W5.heap.size b2 ∧ Fr W5.heap.size ao2) :=
            ⟨below_step hA.out.2.2.2.1 hb67, by rw [hW7]; exact Z6.out.whole _ _ _ _ _, hA.out.1.later hb67, hA.out.2.1.later hb67, hA.out.2.2.1.later hb67, hA.out.2.2.2.1.size, hA.out.2.2.2.2.1, hA.out.2.2.2.2.2.1, hA.out.2.2.2.2.2.2⟩
          clear CW hA hb67 d0 d1 d2
          go_wp2_with (first
            | ((with_reducible refine wpList_case_store Z6.out rfl _ _ rfl rfl rfl ?_); rw [← hW7]; clear hW7 Z6))
          obtain ⟨VF, hVF⟩ : ∃ VF, VF = (W7.drew.setCells w1.heap.size 0 (tabL u.t.view u.t.ms u.t.base (.slice p' es'.length q')).toList).setCells (w1.heap.size + 1) 0 [.bool v.c.echoed, .bool v.c.readied, .bool v.c.done, .slice b1 v.c.echoes.length k1, .slice b2 v.c.readies.length k2] := ⟨_, rfl⟩
          have XW : Aside (X19 W7 w4.heap.size 30 u.t.view u.t.ms u.t.base (.slice p' es'.length q') ∧ X19 W7 w1.heap.size 30 T.view T.ms T.base (.slice p es.length q) ∧ C5 W7 (w1.heap.size + 1) (.bool c.echoed) (.bool c.readied) (.bool c.done) (.slice a1 c.echoes.length c1) (.slice a2 c.readies.length c2) ∧ w1.heap.size + 1 < w4.heap.size ∧ w4.heap.size < w6.heap.size) := by
            have h1 := S5.out.2.1.lt
            have h2 := S7.out.2.2.2.2.2.1
            have h3 := S2.out.2.2
            have h4 := S5.out.2.2.2.2.1
            have h5 := (S2.out.2.1.lt')
            exact ⟨S5.out.2.1.later S7.out.1, (S2.out.1.box.later S5.out.1).later S7.out.1, C8.out.later S7.out.1, by omega, by omega⟩
          have SF : Aside (LkS w w1 VF (k + 1) ms frm u.t p' q' es' v.c b1 b2 k1 k2 ∧ AtO VF ao v.outs ∧ AtO VF ao2 v.outs) := by
            have h3 := S2.out.2.2
            have h5 := (S2.out.2.1.lt')
            have hs2 := S5.out.1.size
            have n1 : ∀ b, W2.heap.size ≤ b → b ≠ w1.heap.size ∧ b ≠ w1.heap.size + 1 := fun b hb => by omega
            have kp : ∀ ad, Fr W2.heap.size ad → Kp W7.drew VF ad := fun ad hf => by
              rw [hVF]
              exact ((Kp.refl _ _).sets fun a e _ => (n1 _ (hf a e)).1).sets fun a e _ => (n1 _ (hf a e)).2
            have f1 : Fr W2.heap.size b1 := fun a e => Nat.le_trans hs2 (S7.out.2.2.2.2.2.2.1 a e)
            have f2 : Fr W2.heap.size b2 := fun a e => Nat.le_trans hs2 (S7.out.2.2.2.2.2.2.2.1 a e)
            have f3 : Fr W2.heap.size ao2 := fun a e => Nat.le_trans hs2 (S7.out.2.2.2.2.2.2.2.2 a e)
            have hT : TaAt VF (k + 1) u.t p' es' := by
              rw [hVF]
              have h0 : TaAt W7.drew (k + 1) u.t p' es' := (S5.out.2.2.1.later S7.out.1).later (Below.refl _ W7).drew
              exact (h0.sets (fun a e => (n1 _ (S5.out.2.2.2.2.2.1 a e)).1) (fun e he => fr_offs (S5.out.2.2.2.2.2.2.1 e he) (by omega)) _ _).sets (fun a e => (n1 _ (S5.out.2.2.2.2.2.1 a e)).2) (fun e he => fr_offs (S5.out.2.2.2.2.2.2.1 e he) (by omega)) _ _
            refine ⟨⟨?_, hT, ⟨?_, ?_, ?_⟩, UF.out.2.2.2, ?_, S2.out.1.lo, ⟨UF.out.1, UF.out.2.1⟩, ⟨fun a e => ?_, fun e he => ?_⟩, ⟨fun a e => n1 _ (S5.out.2.2.2.2.2.1 a e), fun e he => ⟨fr_offs (S5.out.2.2.2.2.2.2.1 e he) (by omega), fr_offs (S5.out.2.2.2.2.2.2.1 e he) (by omega)⟩⟩, ⟨fun _ a e => n1 _ (f1 a e), fun _ a e => n1 _ (f2 a e)⟩, UF.out.2.2.1⟩, ?_, ?_⟩
            · rw [hVF]; exact (heap_cells_far _ _ _ (by omega)).trans (show X19 W7.drew w1.heap.size 30 _ _ _ _ from XW.out.2.1).whole
            · rw [hVF]
              refine C5.whole (v0 := .bool c.echoed) (v1 := .bool c.readied) (v2 := .bool c.done) (v3 := .slice a1 c.echoes.length c1) (v4 := .slice a2 c.readies.length c2) ?_ _ _ _ _ _
              exact (heap_cells_far _ _ _ (by omega)).trans XW.out.2.2.1
            · exact At.kp (w := W7.drew) S7.out.2.2.1 (kp _ f1)
            · exact At.kp (w := W7.drew) S7.out.2.2.2.1 (kp _ f2)
            · rw [hVF]
              have h0 := (below_step (below_step S2.out.1.below S5.out.1) S7.out.1).drew
              exact below_cells _ _ (below_cells _ _ h0 S2.out.1.lo) (by have := S2.out.1.lo; omega)
            · have := S5.out.2.2.2.2.2.1 a e; omega
            · exact (S5.out.2.2.2.2.2.2.1 e he).from_ (by omega)
            · exact AtO.kp (w := W7.drew) ((S5.out.2.2.2.1.later S7.out.1).later (Below.refl _ W7).drew) (kp _ S5.out.2.2.2.2.2.2.2)
            · exact AtO.kp (w := W7.drew) S7.out.2.2.2.2.1 (kp _ f3)
          have LOAD : ∀ W, (∀ b, b ≠ w1.heap.size → b ≠ w1.heap.size + 1 → W.heap[b]? = W7.heap[b]?) → X19 W w4.heap.size 30 u.t.view u.t.ms u.t.base (.slice p' es'.length q') ∧ C5 W w6.heap.size (.bool v.c.echoed) (.bool v.c.readied) (.bool v.c.done) (.slice b1 v.c.echoes.length k1) (.slice b2 v.c.readies.length k2) := fun W h => by
            have hx := XW.out
            exact ⟨(h _ (by omega) (by omega)).trans hx.1, (h _ (by omega) (by omega)).trans S7.out.2.1⟩
          have L0 : Aside (X19 W7.drew w4.heap.size 30 u.t.view u.t.ms u.t.base (.slice p' es'.length q') ∧ C5 W7.drew w6.heap.size (.bool v.c.echoed) (.bool v.c.readied) (.bool v.c.done) (.slice b1 v.c.echoes.length k1) (.slice b2 v.c.readies.length k2)) := LOAD W7.drew fun _ _ _ => rfl
          obtain ⟨W8, hW8⟩ : ∃ W8, W8 = W7.drew.setCells w1.heap.size 0 (tabL u.t.view u.t.ms u.t.base (.slice p' es'.length q')).toList := ⟨_, rfl⟩
          have L1 : Aside (X19 W7.drew w1.heap.size 30 T.view T.ms T.base (.slice p es.length q) ∧ C5 W8 w6.heap.size (.bool v.c.echoed) (.bool v.c.readied) (.bool v.c.done) (.slice b1 v.c.echoes.length k1) (.slice b2 v.c.readies.length k2) ∧ C5 W8 (w1.heap.size + 1) (.bool c.echoed) (.bool c.readied) (.bool c.done) (.slice a1 c.echoes.length c1) (.slice a2 c.readies.length c2)) := by
            refine ⟨XW.out.2.1, (LOAD W8 fun b h1 h2 => by rw [hW8]; exact heap_cells_far _ _ _ h1).2, ?_⟩
            rw [hW8]; exact (heap_cells_far _ _ _ (by omega)).trans XW.out.2.2.1
          rw [← hW8] at hVF
          clear LOAD XW S7 S5 S2 UF C8
          refine wp_region_any (by kernel_rfl) ?_
          change wpAny _ _ _ _ _ _ _ W7.drew
          refine wpAny_ready (rs := [0, 1]) (by kernel_rfl) (by simp) ?_
          refine AllReady.cons rfl (fun K hK => ?_) (AllReady.cons rfl (fun K hK => ?_) AllReady.nil)
          · refine step_value rfl (tab_load L0.out.1 (.tmp 11) rfl (by simp [Act.eval])) (hK _ _ ?_)
            clear hK K
            refine wpAny_ready (rs := [1, 2]) (by kernel_rfl) (by simp) ?_
            refine AllReady.cons rfl (fun K hK => ?_) (AllReady.cons rfl (fun K hK => ?_) AllReady.nil)
            · refine step_value rfl (case_load L0.out.2 (.tmp 16) rfl (by simp [Act.eval, Act.put])) (hK _ _ ?_)
              clear hK K
              refine wpAny_ready (rs := [2]) (by kernel_rfl) (by simp) ?_
              refine AllReady.cons rfl (fun K hK => ?_) AllReady.nil
              refine step_skip rfl (tab_store (v' := u.t.view) (ms' := u.t.ms) (bs' := u.t.base) (sa := p') (sl := es'.length) (sc := q') L1.out.1 (.tmp 7) (.tmp 91) rfl (by simp [Act.eval, Act.put]) (by simp [Act.eval, Act.put])) (hK _ _ ?_)
              clear hK K
              rw [← hW8]
              refine wpAny_ready (rs := [3]) (by kernel_rfl) (by simp) ?_
              refine AllReady.cons rfl (fun K hK => ?_) AllReady.nil
              refine step_skip rfl (case_store (e := v.c.echoed) (r := v.c.readied) (d := v.c.done) (p1 := b1) (p2 := b2) (n1 := v.c.echoes.length) (n2 := v.c.readies.length) (c1 := k1) (c2 := k2) L1.out.2.2 (.tmp 8) (.tmp 92) rfl (by simp [Act.eval, Act.put]) (by simp [Act.eval, Act.put])) (hK _ _ ?_)
              clear hK K
              rw [← hVF]
              refine wpAny_done (by kernel_rfl) ?_ _
              obtain ⟨n, hn⟩ : ∃ n, n = v.outs.length := ⟨_, rfl⟩
              have HN : Aside (n = v.outs.length) := hn
              have hn1 : n ≤ 1 := by rw [hn]; exact HV1.out
              rw [← hn]
              clear hn hVF hW8 L0 L1
              go_wp2_with fail
              go_loopw [115] (fun j wv => ∃ m : Nat, m ≤ n ∧ j = .int .i64 (m : Nat) ∧ Aside (Below VF.heap.size VF wv)) (fun j _ => n - (intOf j).toNat)
              case atStart => exact ⟨0, by omega, rfl, Below.refl _ _⟩
              case round =>
                obtain ⟨m, hm, rfl, hB⟩ := hrel
                by_cases hlt2 : m < n
                · have r0 : (0 : Int) ≤ (m : Int) := by omega
                  have r1 : (m : Int) < (n : Int) := by omega
                  obtain ⟨kk, xx, hkx⟩ : ∃ kk xx, v.outs[m]? = some (kk, xx) := ⟨_, _, List.getElem?_eq_getElem (by rw [← HN.out]; exact hlt2)⟩
                  obtain ⟨bo, oo, rfl, ho⟩ : ∃ b off, ao = some ⟨b, off, none⟩ ∧ ∀ (j : Nat) (k : Nat) (x : ByteArray), v.outs[j]? = some (k, x) → VF.cell? ⟨b, off + j * 2, none⟩ = some (.int .i64 (k : Int)) ∧ VF.cell? ⟨b, off + j * 2 + 1, none⟩ = some (.string x) := by
                    rcases SF.out.2.1 with h | h
                    · rw [h] at hkx; simp at hkx
                    · exact h
                  obtain ⟨bp, op, rfl, hp⟩ : ∃ b off, ao2 = some ⟨b, off, none⟩ ∧ ∀ (j : Nat) (k : Nat) (x : ByteArray), v.outs[j]? = some (k, x) → VF.cell? ⟨b, off + j * 2, none⟩ = some (.int .i64 (k : Int)) ∧ VF.cell? ⟨b, off + j * 2 + 1, none⟩ = some (.string x) := by
                    rcases SF.out.2.2 with h | h
                    · rw [h] at hkx; simp at hkx
                    · exact h
                  have y0 := cell_later hB.out (ho m kk xx hkx).1
                  have y1 := cell_later hB.out (ho m kk xx hkx).2
                  have z0 := cell_later hB.out (hp m kk xx hkx).1
                  have z1 := cell_later hB.out (hp m kk xx hkx).2
                  have nq := neq68
                  have gq := guard68
                  clear ho hp hkx
                  go_wp2_with fail
                  go_quiet (fail)
                  go_wp2
                  go_roundw
                  case rel => exact ⟨m + 1, by omega, by go_num, below_step hB.out (below_drew_n _ _)⟩
                  case measure => simp [intOf]; omega
                · obtain rfl : m = n := by omega
                  go_wp2_with fail
                  go_roundw
                  case rel => exact ⟨k + 1, u.t, p', q', es', v.c, b1, b2, k1, k2, by omega, by omega, by go_num, SF.out.1.later hB.out (Nat.le_refl _)⟩
                  case measure => simp [intOf]; omega
            · refine step_skip rfl (tab_store (v' := u.t.view) (ms' := u.t.ms) (bs' := u.t.base) (sa := p') (sl := es'.length) (sc := q') L1.out.1 (.tmp 7) (.tmp 91) rfl (by simp [Act.eval, Act.put]) (by simp [Act.eval, Act.put])) (hK _ _ ?_)
              clear hK K
              rw [← hW8]
              refine wpAny_ready (rs := [1]) (by kernel_rfl) (by simp) ?_
              refine AllReady.cons rfl (fun K hK => ?_) AllReady.nil
              refine step_value rfl (case_load L1.out.2.1 (.tmp 16) rfl (by simp [Act.eval, Act.put])) (hK _ _ ?_)
              clear hK K
              refine wpAny_ready (rs := [3]) (by kernel_rfl) (by simp) ?_
              refine AllReady.cons rfl (fun K hK => ?_) AllReady.nil
              refine step_skip rfl (case_store (e := v.c.echoed) (r := v.c.readied) (d := v.c.done) (p1 := b1) (p2 := b2) (n1 := v.c.echoes.length) (n2 := v.c.readies.length) (c1 := k1) (c2 := k2) L1.out.2.2 (.tmp 8) (.tmp 92) rfl (by simp [Act.eval, Act.put]) (by simp [Act.eval, Act.put])) (hK _ _ ?_)
              clear hK K
              rw [← hVF]
              refine wpAny_done (by kernel_rfl) ?_ _
              obtain ⟨n, hn⟩ : ∃ n, n = v.outs.length := ⟨_, rfl⟩
              have HN : Aside (n = v.outs.length) := hn
              have hn1 : n ≤ 1 := by rw [hn]; exact HV1.out
              rw [← hn]
              clear hn hVF hW8 L0 L1
              go_wp2_with fail
              go_loopw [115] (fun j wv => ∃ m : Nat, m ≤ n ∧ j = .int .i64 (m : Nat) ∧ Aside (Below VF.heap.size VF wv)) (fun j _ => n - (intOf j).toNat)
              case atStart => exact ⟨0, by omega, rfl, Below.refl _ _⟩
              case round =>
                obtain ⟨m, hm, rfl, hB⟩ := hrel
                by_cases hlt2 : m < n
                · have r0 : (0 : Int) ≤ (m : Int) := by omega
                  have r1 : (m : Int) < (n : Int) := by omega
                  obtain ⟨kk, xx, hkx⟩ : ∃ kk xx, v.outs[m]? = some (kk, xx) := ⟨_, _, List.getElem?_eq_getElem (by rw [← HN.out]; exact hlt2)⟩
                  obtain ⟨bo, oo, rfl, ho⟩ : ∃ b off, ao = some ⟨b, off, none⟩ ∧ ∀ (j : Nat) (k : Nat) (x : ByteArray), v.outs[j]? = some (k, x) → VF.cell? ⟨b, off + j * 2, none⟩ = some (.int .i64 (k : Int)) ∧ VF.cell? ⟨b, off + j * 2 + 1, none⟩ = some (.string x) := by
                    rcases SF.out.2.1 with h | h
                    · rw [h] at hkx; simp at hkx
                    · exact h
                  obtain ⟨bp, op, rfl, hp⟩ : ∃ b off, ao2 = some ⟨b, off, none⟩ ∧ ∀ (j : Nat) (k : Nat) (x : ByteArray), v.outs[j]? = some (k, x) → VF.cell? ⟨b, off + j * 2, none⟩ = some (.int .i64 (k : Int)) ∧ VF.cell? ⟨b, off + j * 2 + 1, none⟩ = some (.string x) := by
                    rcases SF.out.2.2 with h | h
                    · rw [h] at hkx; simp at hkx
                    · exact h
                  have y0 := cell_later hB.out (ho m kk xx hkx).1
                  have y1 := cell_later hB.out (ho m kk xx hkx).2
                  have z0 := cell_later hB.out (hp m kk xx hkx).1
                  have z1 := cell_later hB.out (hp m kk xx hkx).2
                  have nq := neq68
                  have gq := guard68
                  clear ho hp hkx
                  go_wp2_with fail
                  go_quiet (fail)
                  go_wp2
                  go_roundw
                  case rel => exact ⟨m + 1, by omega, by go_num, below_step hB.out (below_drew_n _ _)⟩
                  case measure => simp [intOf]; omega
                · obtain rfl : m = n := by omega
                  go_wp2_with fail
                  go_roundw
                  case rel => exact ⟨k + 1, u.t, p', q', es', v.c, b1, b2, k1, k2, by omega, by omega, by go_num, SF.out.1.later hB.out (Nat.le_refl _)⟩
                  case measure => simp [intOf]; omega
          · refine step_value rfl (case_load L0.out.2 (.tmp 16) rfl (by simp [Act.eval])) (hK _ _ ?_)
            clear hK K
            refine wpAny_ready (rs := [0]) (by kernel_rfl) (by simp) ?_
            refine AllReady.cons rfl (fun K hK => ?_) AllReady.nil
            refine step_value rfl (tab_load L0.out.1 (.tmp 11) rfl (by simp [Act.eval, Act.put])) (hK _ _ ?_)
            clear hK K
            refine wpAny_ready (rs := [2]) (by kernel_rfl) (by simp) ?_
            refine AllReady.cons rfl (fun K hK => ?_) AllReady.nil
            refine step_skip rfl (tab_store (v' := u.t.view) (ms' := u.t.ms) (bs' := u.t.base) (sa := p') (sl := es'.length) (sc := q') L1.out.1 (.tmp 7) (.tmp 91) rfl (by simp [Act.eval, Act.put]) (by simp [Act.eval, Act.put])) (hK _ _ ?_)
            clear hK K
            rw [← hW8]
            refine wpAny_ready (rs := [3]) (by kernel_rfl) (by simp) ?_
            refine AllReady.cons rfl (fun K hK => ?_) AllReady.nil
            refine step_skip rfl (case_store (e := v.c.echoed) (r := v.c.readied) (d := v.c.done) (p1 := b1) (p2 := b2) (n1 := v.c.echoes.length) (n2 := v.c.readies.length) (c1 := k1) (c2 := k2) L1.out.2.2 (.tmp 8) (.tmp 92) rfl (by simp [Act.eval, Act.put]) (by simp [Act.eval, Act.put])) (hK _ _ ?_)
            clear hK K
            rw [← hVF]
            refine wpAny_done (by kernel_rfl) ?_ _
            obtain ⟨n, hn⟩ : ∃ n, n = v.outs.length := ⟨_, rfl⟩
            have HN : Aside (n = v.outs.length) := hn
            have hn1 : n ≤ 1 := by rw [hn]; exact HV1.out
            rw [← hn]
            clear hn hVF hW8 L0 L1
            go_wp2_with fail
            go_loopw [115] (fun j wv => ∃ m : Nat, m ≤ n ∧ j = .int .i64 (m : Nat) ∧ Aside (Below VF.heap.size VF wv)) (fun j _ => n - (intOf j).toNat)
            case atStart => exact ⟨0, by omega, rfl, Below.refl _ _⟩
            case round =>
              obtain ⟨m, hm, rfl, hB⟩ := hrel
              by_cases hlt2 : m < n
              · have r0 : (0 : Int) ≤ (m : Int) := by omega
                have r1 : (m : Int) < (n : Int) := by omega
                obtain ⟨kk, xx, hkx⟩ : ∃ kk xx, v.outs[m]? = some (kk, xx) := ⟨_, _, List.getElem?_eq_getElem (by rw [← HN.out]; exact hlt2)⟩
                obtain ⟨bo, oo, rfl, ho⟩ : ∃ b off, ao = some ⟨b, off, none⟩ ∧ ∀ (j : Nat) (k : Nat) (x : ByteArray), v.outs[j]? = some (k, x) → VF.cell? ⟨b, off + j * 2, none⟩ = some (.int .i64 (k : Int)) ∧ VF.cell? ⟨b, off + j * 2 + 1, none⟩ = some (.string x) := by
                  rcases SF.out.2.1 with h | h
                  · rw [h] at hkx; simp at hkx
                  · exact h
                obtain ⟨bp, op, rfl, hp⟩ : ∃ b off, ao2 = some ⟨b, off, none⟩ ∧ ∀ (j : Nat) (k : Nat) (x : ByteArray), v.outs[j]? = some (k, x) → VF.cell? ⟨b, off + j * 2, none⟩ = some (.int .i64 (k : Int)) ∧ VF.cell? ⟨b, off + j * 2 + 1, none⟩ = some (.string x) := by
                  rcases SF.out.2.2 with h | h
                  · rw [h] at hkx; simp at hkx
                  · exact h
                have y0 := cell_later hB.out (ho m kk xx hkx).1
                have y1 := cell_later hB.out (ho m kk xx hkx).2
                have z0 := cell_later hB.out (hp m kk xx hkx).1
                have z1 := cell_later hB.out (hp m kk xx hkx).2
                have nq := neq68
                have gq := guard68
                clear ho hp hkx
                go_wp2_with fail
                go_quiet (fail)
                go_wp2
                go_roundw
                case rel => exact ⟨m + 1, by omega, by go_num, below_step hB.out (below_drew_n _ _)⟩
                case measure => simp [intOf]; omega
              · obtain rfl : m = n := by omega
                go_wp2_with fail
                go_roundw
                case rel => exact ⟨k + 1, u.t, p', q', es', v.c, b1, b2, k1, k2, by omega, by omega, by go_num, SF.out.1.later hB.out (Nat.le_refl _)⟩
                case measure => simp [intOf]; omega
      · have t1 : (k : Int) < (len : Int) := by omega
        have t2 : ¬ ((k : Int) < 80) := by omega
        have BB : Aside (Below w.heap.size w wr) := ST.out.below
        clear ST
        go_wp2_with fail
        go_ret
        exact ⟨rfl, BB.out⟩
    · have t1 : ¬ ((k : Int) < (len : Int)) := by omega
      have BB : Aside (Below w.heap.size w wr) := ST.out.below
      clear ST
      go_wp2_with fail
      go_ret
      exact ⟨rfl, BB.out⟩
end Go.Proofs.Ytmhjmeedoajkjaa
