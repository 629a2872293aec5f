/- Of a talk: a vote comes. -/
import Derived.Test.YtlekbbpancaenaaTkC
import Derived.Deep.RegionHeld3
import Derived.BigQuiet
namespace Go.Proofs.Ytlekbbpancaenaa
open Go.RowKit Go.Shelf

/-- The talk, and the vote that comes in its box. -/
structure Ub (w0 w W : World) (n f frm : Nat) (s : Vt.Tk) (cb sb db : Nat) (vw : Value) (a1 a2 : Nat → Option Addr) (k1 k2 : Nat → Nat) (to who : Nat) (kind : Int) (body : ByteArray) : Prop where
  talk : Talk w0 W n f frm s cb sb db vw a1 a2 k1 k2
  u0 : W.cell? ⟨w.heap.size, 0, none⟩ = some (.int .u8 (to : Int))
  u1 : W.cell? ⟨w.heap.size, 1, none⟩ = some (.int .u8 (who : Int))
  u2 : W.cell? ⟨w.heap.size, 2, none⟩ = some (.int .i64 kind)
  u3 : W.cell? ⟨w.heap.size, 3, none⟩ = some (.string body)
  gt : db < w.heap.size
  sz : w.heap.size < W.heap.size
  row : ∀ g, vw.ownBlock = some g → g ≠ w.heap.size
  keep : ∀ k, db < k → k < w.heap.size → W.heap[k]? = w.heap[k]?
theorem Ub.later {w0 w W W' : World} {n f frm : Nat} {s : Vt.Tk} {cb sb db : Nat} {vw : Value} {a1 a2 : Nat → Option Addr} {k1 k2 : Nat → Nat} {to who : Nat} {kind : Int} {body : ByteArray} (h : Ub w0 w W n f frm s cb sb db vw a1 a2 k1 k2 to who kind body) (hb : Below W.heap.size W W') : Ub w0 w W' n f frm s cb sb db vw a1 a2 k1 k2 to who kind body :=
  ⟨h.talk.later hb, cell_later hb h.u0, cell_later hb h.u1, cell_later hb h.u2, cell_later hb h.u3, h.gt, Nat.lt_of_lt_of_le h.sz hb.size, h.row, fun k x y => (hb.block k (Nat.lt_trans y h.sz)).trans (h.keep k x y)⟩
theorem ub_new {w0 w : World} {n f frm : Nat} {s : Vt.Tk} {cb sb db : Nat} {vw : Value} {a1 a2 : Nat → Option Addr} {k1 k2 : Nat → Nat} (h : Talk w0 w n f frm s cb sb db vw a1 a2 k1 k2) (to who : Nat) (kind : Int) (body : ByteArray) :
    Ub w0 w (w.alloc (.cells #[.int .u8 (to : Int), .int .u8 (who : Int), .int .i64 kind, .string body] 69)) n f frm s cb sb db vw a1 a2 k1 k2 to who kind body :=
  ⟨h.later ((Below.refl _ w).alloc (Nat.le_refl _) _), World.cell?_alloc_at _ _ _ _ rfl, World.cell?_alloc_at _ _ _ _ rfl, World.cell?_alloc_at _ _ _ _ rfl, World.cell?_alloc_at _ _ _ _ rfl, h.ord.2.2.2, by simp, fun g hg => by have := (h.way.lt g hg).2; omega, fun k _ hk => ((Below.refl _ w).alloc (Nat.le_refl _) _).block k hk⟩
theorem Ub.eleven {w0 w W : World} {n f frm : Nat} {s : Vt.Tk} {cb sb db : Nat} {vw : Value} {a1 a2 : Nat → Option Addr} {k1 k2 : Nat → Nat} {to who : Nat} {kind : Int} {body : ByteArray} (h : Ub w0 w W n f frm s cb sb db vw a1 a2 k1 k2 to who kind body) (hto : to < n) :
    W.cell? ⟨w0.heap.size, 3, none⟩ = some (.slice (some ⟨cb, 0, none⟩) n n) ∧ W.cell? ⟨w0.heap.size, 2, none⟩ = some (.int .u8 (frm : Int)) ∧ W.cell? ⟨w.heap.size, 0, none⟩ = some (.int .u8 (to : Int)) ∧ W.cell? ⟨w.heap.size, 1, none⟩ = some (.int .u8 (who : Int)) ∧ W.cell? ⟨w.heap.size, 2, none⟩ = some (.int .i64 kind) ∧ W.cell? ⟨w.heap.size, 3, none⟩ = some (.string body) ∧ W.cell? ⟨cb, to * 5, none⟩ = some (.bool (s.cs to).echoed) ∧ W.cell? ⟨cb, to * 5 + 1, none⟩ = some (.bool (s.cs to).readied) ∧ W.cell? ⟨cb, to * 5 + 2, none⟩ = some (.bool (s.cs to).done) ∧ W.cell? ⟨cb, to * 5 + 3, none⟩ = some (.slice (a1 to) (s.cs to).echoes.length (k1 to)) ∧ W.cell? ⟨cb, to * 5 + 4, none⟩ = some (.slice (a2 to) (s.cs to).readies.length (k2 to)) :=
  ⟨h.talk.p3, h.talk.p2, h.u0, h.u1, h.u2, h.u3, (h.talk.c to hto).1, (h.talk.c to hto).2.1, (h.talk.c to hto).2.2.1, (h.talk.c to hto).2.2.2.1, (h.talk.c to hto).2.2.2.2⟩
/-- Take's answer in a box of its own, the talk as it was. -/
structure Aft (w0 w V W : World) (n f frm : Nat) (s : Vt.Tk) (cb sb db : Nat) (vw : Value) (a1 a2 : Nat → Option Addr) (k1 k2 : Nat → Nat) (to who : Nat) (kind : Int) (body : ByteArray) (pb : Nat) (t : Vt.Told) (b1 b2 ao : Option Addr) (j1 j2 : Nat) : Prop where
  ub : Ub w0 w W n f frm s cb sb db vw a1 a2 k1 k2 to who kind body
  c : C5 W pb (.bool t.c.echoed) (.bool t.c.readied) (.bool t.c.done) (.slice b1 t.c.echoes.length j1) (.slice b2 t.c.readies.length j2)
  l1 : Vt.At W b1 t.c.echoes
  l2 : Vt.At W b2 t.c.readies
  o : AtO W ao t.outs
  f1 : Fr V.heap.size b1
  f2 : Fr V.heap.size b2
  fo : Fr V.heap.size ao
  pb : V.heap.size ≤ pb
theorem aft_new {w0 w V w4 : World} {n f frm : Nat} {s : Vt.Tk} {cb sb db : Nat} {vw : Value} {a1 a2 : Nat → Option Addr} {k1 k2 : Nat → Nat} {to who : Nat} {kind : Int} {body : ByteArray} {t : Vt.Told} {b1 b2 ao : Option Addr} {j1 j2 : Nat} (h : Ub w0 w V n f frm s cb sb db vw a1 a2 k1 k2 to who kind body)
    (hA : Vt.At w4 b1 t.c.echoes ∧ Vt.At w4 b2 t.c.readies ∧ AtO w4 ao t.outs ∧ Below V.heap.size V w4 ∧ Fr V.heap.size b1 ∧ Fr V.heap.size b2 ∧ Fr V.heap.size ao) :
    Aft w0 w V (w4.alloc (.cells #[.bool t.c.echoed, .bool t.c.readied, .bool t.c.done, .slice b1 t.c.echoes.length j1, .slice b2 t.c.readies.length j2] 35)) n f frm s cb sb db vw a1 a2 k1 k2 to who kind body w4.heap.size t b1 b2 ao j1 j2 := by
  have hb : Below w4.heap.size w4 (w4.alloc (.cells #[.bool t.c.echoed, .bool t.c.readied, .bool t.c.done, .slice b1 t.c.echoes.length j1, .slice b2 t.c.readies.length j2] 35)) := (Below.refl _ w4).alloc (Nat.le_refl _) _
  exact ⟨(h.later hA.2.2.2.1).later hb, C5.new w4 _ _ _ _ _, hA.1.later hb, hA.2.1.later hb, hA.2.2.1.later hb, hA.2.2.2.2.1, hA.2.2.2.2.2.1, hA.2.2.2.2.2.2, hA.2.2.2.1.size⟩
theorem aft_old {w0 w V w4 : World} {n f frm : Nat} {s : Vt.Tk} {cb sb db : Nat} {vw : Value} {a1 a2 : Nat → Option Addr} {k1 k2 : Nat → Nat} {to who : Nat} {kind : Int} {body : ByteArray} {t : Vt.Told} {b1 b2 ao : Option Addr} {j1 j2 : Nat} {v0 v1 v2 v3 v4 : Value} (h : Ub w0 w V n f frm s cb sb db vw a1 a2 k1 k2 to who kind body)
    (hC : C5 w4 V.heap.size v0 v1 v2 v3 v4) (hb : Below V.heap.size V w4) (h1 : Vt.At w4 b1 t.c.echoes) (h2 : Vt.At w4 b2 t.c.readies) (h3 : AtO w4 ao t.outs) (f1 : Fr (V.heap.size + 1) b1) (f2 : Fr (V.heap.size + 1) b2) (f3 : Fr (V.heap.size + 1) ao) :
    Aft w0 w V (set5 w4 V.heap.size (.bool t.c.echoed) (.bool t.c.readied) (.bool t.c.done) (.slice b1 t.c.echoes.length j1) (.slice b2 t.c.readies.length j2)) n f frm s cb sb db vw a1 a2 k1 k2 to who kind body V.heap.size t b1 b2 ao j1 j2 :=
  ⟨h.later (below_set5 hb (Nat.le_refl _) _ _ _ _ _), hC.set _ _ _ _ _, at_set5 h1 (fun ad e => .inl (by have := f1 ad e; omega)) _ _ _ _ _, at_set5 h2 (fun ad e => .inl (by have := f2 ad e; omega)) _ _ _ _ _, atO_set5 h3 (fun ad e => .inl (by have := f3 ad e; omega)) _ _ _ _ _, f1.mono (by omega), f2.mono (by omega), f3.mono (by omega), Nat.le_refl _⟩
theorem Aft.later {w0 w V W W' : World} {n f frm : Nat} {s : Vt.Tk} {cb sb db : Nat} {vw : Value} {a1 a2 : Nat → Option Addr} {k1 k2 : Nat → Nat} {to who : Nat} {kind : Int} {body : ByteArray} {pb : Nat} {t : Vt.Told} {b1 b2 ao : Option Addr} {j1 j2 : Nat} (h : Aft w0 w V W n f frm s cb sb db vw a1 a2 k1 k2 to who kind body pb t b1 b2 ao j1 j2) (hb : Below W.heap.size W W') : Aft w0 w V W' n f frm s cb sb db vw a1 a2 k1 k2 to who kind body pb t b1 b2 ao j1 j2 :=
  ⟨h.ub.later hb, h.c.later hb, h.l1.later hb, h.l2.later hb, h.o.later hb, h.f1, h.f2, h.fo, h.pb⟩
/-- The case stored among the members'. -/
structure Sto (w0 w V W : World) (n f frm : Nat) (s : Vt.Tk) (cb sb db : Nat) (vw : Value) (a1 a2 : Nat → Option Addr) (k1 k2 : Nat → Nat) (to who : Nat) (kind : Int) (body : ByteArray) (t : Vt.Told) (ao : Option Addr) : Prop where
  ub : Ub w0 w W n f frm s cb sb db vw a1 a2 k1 k2 to who kind body
  o : AtO W ao t.outs
  fo : Fr V.heap.size ao
  vr : ∀ g, vw.ownBlock = some g → g < V.heap.size
  vs : w.heap.size < V.heap.size
theorem Sto.later {w0 w V W W' : World} {n f frm : Nat} {s : Vt.Tk} {cb sb db : Nat} {vw : Value} {a1 a2 : Nat → Option Addr} {k1 k2 : Nat → Nat} {to who : Nat} {kind : Int} {body : ByteArray} {t : Vt.Told} {ao : Option Addr} (h : Sto w0 w V W n f frm s cb sb db vw a1 a2 k1 k2 to who kind body t ao) (hb : Below W.heap.size W W') : Sto w0 w V W' n f frm s cb sb db vw a1 a2 k1 k2 to who kind body t ao := ⟨h.ub.later hb, h.o.later hb, h.fo, h.vr, h.vs⟩
theorem sto_new {w0 w V W : World} {n f frm : Nat} {s : Vt.Tk} {cb sb db : Nat} {vw : Value} {a1 a2 : Nat → Option Addr} {k1 k2 : Nat → Nat} {to who : Nat} {kind : Int} {body : ByteArray} {pb : Nat} {t : Vt.Told} {b1 b2 ao : Option Addr} {j1 j2 : Nat} (hV : Ub w0 w V n f frm s cb sb db vw a1 a2 k1 k2 to who kind body) (hto : to < n) (hs : t.c.Small) (h : Aft w0 w V W n f frm s cb sb db vw a1 a2 k1 k2 to who kind body pb t b1 b2 ao j1 j2) :
    Sto w0 w V (F5 W cb (to * 5) (.bool t.c.echoed) (.bool t.c.readied) (.bool t.c.done) (.slice b1 t.c.echoes.length j1) (.slice b2 t.c.readies.length j2)) n f frm { s with cs := Vt.upd s.cs to t.c } cb sb db vw (Vt.upd a1 to b1) (Vt.upd a2 to b2) (Vt.upd k1 to j1) (Vt.upd k2 to j2) to who kind body t ao := by
  have hgt := hV.gt
  have hsz := hV.sz
  have o2 := hV.talk.ord
  have vr : ∀ g, vw.ownBlock = some g → g < V.heap.size := fun g hg => (hV.talk.way.lt g hg).2
  have T := h.ub.talk.case (j1 := j1) (j2 := j2) hto h.l1 h.l2 h.f1 h.f2 (by omega) vr hs
  have ce : ∀ o, (F5 W cb (to * 5) (.bool t.c.echoed) (.bool t.c.readied) (.bool t.c.done) (.slice b1 t.c.echoes.length j1) (.slice b2 t.c.readies.length j2)).cell? ⟨w.heap.size, o, none⟩ = W.cell? ⟨w.heap.size, o, none⟩ := fun o => World.cell?_of_block (f5_block W (by show w.heap.size ≠ cb; omega) _ _ _ _ _)
  exact ⟨⟨T, (ce 0).trans h.ub.u0, (ce 1).trans h.ub.u1, (ce 2).trans h.ub.u2, (ce 3).trans h.ub.u3, hgt, by rw [f5_size]; exact h.ub.sz, h.ub.row, fun k x y => (f5_block W (by show k ≠ cb; omega) _ _ _ _ _).trans (h.ub.keep k x y)⟩, atO_block h.o (off_fr h.fo (by omega)) fun _ hg => f5_block W hg _ _ _ _ _, h.fo, vr, hsz⟩
theorem sto_told {w0 w V W : World} {n f frm : Nat} {s : Vt.Tk} {cb sb db : Nat} {vw : Value} {a1 a2 : Nat → Option Addr} {k1 k2 : Nat → Nat} {to who : Nat} {kind : Int} {body : ByteArray} {t : Vt.Told} {ao : Option Addr} (h : Sto w0 w V W n f frm s cb sb db vw a1 a2 k1 k2 to who kind body t ao) (hto : to < n) (x : ByteArray) :
    Sto w0 w V ((W.setCell ⟨db, to, none⟩ (.bool true)).setCell ⟨sb, to, none⟩ (.string x)) n f frm { s with told := Vt.upd s.told to x, done := Vt.upd s.done to true } cb sb db vw a1 a2 k1 k2 to who kind body t ao := by
  have hgt := h.ub.gt
  have o2 := h.ub.talk.ord
  have hvs := h.vs
  have bk : ∀ b, b ≠ db → b ≠ sb → ((W.setCell ⟨db, to, none⟩ (.bool true)).setCell ⟨sb, to, none⟩ (.string x)).heap[b]? = W.heap[b]? := fun b hd hs => (row_far hs _).trans (row_far hd _)
  have ce : ∀ o, ((W.setCell ⟨db, to, none⟩ (.bool true)).setCell ⟨sb, to, none⟩ (.string x)).cell? ⟨w.heap.size, o, none⟩ = W.cell? ⟨w.heap.size, o, none⟩ := fun o => World.cell?_of_block (bk w.heap.size (by omega) (by omega))
  exact ⟨⟨h.ub.talk.told hto x, (ce 0).trans h.ub.u0, (ce 1).trans h.ub.u1, (ce 2).trans h.ub.u2, (ce 3).trans h.ub.u3, hgt, by simp [World.setCell]; exact h.ub.sz, h.ub.row, fun k x y => (bk k (by omega) (by omega)).trans (h.ub.keep k x y)⟩, atO_block (atO_block h.o (off_fr h.fo (by omega)) fun _ hg => row_far hg _) (off_fr h.fo (by omega)) fun _ hg => row_far hg _, h.fo, h.vr, hvs⟩
/-- Cast leaves the vote's box and what is cast. -/
theorem cast_keeps {w0 w V W w9 : World} {n f frm : Nat} {s : Vt.Tk} {cb sb db : Nat} {vw : Value} {a1 a2 : Nat → Option Addr} {k1 k2 : Nat → Nat} {to who : Nat} {kind : Int} {body : ByteArray} {t : Vt.Told} {bo oo : Nat} {v0 v1 v2 : Value} (h : Sto w0 w V W n f frm s cb sb db vw a1 a2 k1 k2 to who kind body t (some ⟨bo, oo, none⟩)) (u0 : W.cell? ⟨w.heap.size, 0, none⟩ = some v0) (o0 : W.cell? ⟨bo, oo, none⟩ = some v1) (o1 : W.cell? ⟨bo, oo + 1, none⟩ = some v2)
    (hbk : ∀ k, k < W.drew.heap.size → k ≠ w0.heap.size → vw.ownBlock ≠ some k → w9.heap[k]? = W.drew.heap[k]?) : w9.cell? ⟨w.heap.size, 0, none⟩ = some v0 ∧ w9.cell? ⟨bo, oo, none⟩ = some v1 ∧ w9.cell? ⟨bo, oo + 1, none⟩ = some v2 := by
  have hb := h.fo ⟨bo, oo, none⟩ rfl
  have h1 := h.ub.talk.ord
  have h2 := h.ub.gt
  have h3 := h.ub.sz
  have h4 := h.vs
  have l0 := World.block_lt_of_cell? _ _ o0
  dsimp only at hb l0
  have e1 : w9.heap[w.heap.size]? = W.heap[w.heap.size]? := hbk w.heap.size h3 (by omega) (fun e => h.ub.row _ e rfl)
  have e2 : w9.heap[bo]? = W.heap[bo]? := hbk bo l0 (by omega) (fun e => by have := h.vr _ e; omega)
  exact ⟨(World.cell?_of_block e1).trans u0, (World.cell?_of_block e2).trans o0, (World.cell?_of_block e2).trans o1⟩
theorem cast_keep2 {w0 w V W w9 : World} {n f frm : Nat} {s : Vt.Tk} {cb sb db : Nat} {vw : Value} {a1 a2 : Nat → Option Addr} {k1 k2 : Nat → Nat} {to who : Nat} {kind : Int} {body : ByteArray} {t : Vt.Told} {ao : Option Addr} (h : Sto w0 w V W n f frm s cb sb db vw a1 a2 k1 k2 to who kind body t ao)
    (hbk : ∀ k, k < W.drew.heap.size → k ≠ w0.heap.size → vw.ownBlock ≠ some k → w9.heap[k]? = W.drew.heap[k]?) : ∀ k, db < k → k < w.heap.size → vw.ownBlock ≠ some k → w9.heap[k]? = w.heap[k]? := fun k x y z => by
  have h1 := h.ub.talk.ord
  have h3 := h.ub.sz
  exact (hbk k (show k < W.heap.size by omega) (by omega) z).trans (h.ub.keep k x y)
/-- What come answers. -/
def ComePost (w0 w : World) (n f frm : Nat) (s' : Vt.Tk) (cb sb db : Nat) (vw : Value) (e : Ending) (w' : World) : Prop := e = .returned (.bool true) ∧ (∃ vw a1 a2 k1 k2, Talk w0 w' n f frm s' cb sb db vw a1 a2 k1 k2) ∧ ∀ k, db < k → k < w.heap.size → vw.ownBlock ≠ some k → w'.heap[k]? = w.heap[k]?
theorem come_eq {n f frm : Nat} {s : Vt.Tk} {u : Vt.Und} {t : Vt.Told} (ht : Vt.take (s.cs u.to) (2 ^ n - 1) frm u.kind u.who u.body = t) :
    Vt.come n f frm s u = ⟨Vt.upd s.cs u.to t.c, if t.is then Vt.upd s.told u.to t.body else s.told, if t.is then Vt.upd s.done u.to true else s.done, s.way ++ t.outs.flatMap fun o => Vt.castL f n u.to (o.1 : Nat) o.2⟩ := by
  unfold Vt.come; rw [ht]
theorem outs_len' (c : Vt.Cs) (ms frm : Nat) (kind : Int) (id : Nat) (x : ByteArray) : (Vt.take c ms frm kind id x).outs.length ≤ 1 := by
  rcases Vt.take_full c ms frm kind id x with ⟨e, _, h⟩ | ⟨_, _, _, _, h⟩ | ⟨_, _, _, h⟩ | ⟨_, _, _, _, h⟩ | ⟨_, _, _, _, _, h⟩ <;> rw [h]
  · exact Nat.zero_le _
  · exact Nat.le_refl _
  · show (Vt.ready _ _ _).2.length ≤ 1
    unfold Vt.ready; dsimp only; split <;> simp
  · show (Vt.ready _ _ _).2.length ≤ 1
    unfold Vt.ready; dsimp only; split <;> simp
  · show (Vt.ready _ _ _).2.length ≤ 1
    unfold Vt.ready; dsimp only; split <;> simp

set_option maxHeartbeats 16000000 in
set_option maxRecDepth 100000 in
theorem come_any (w0 : World) (n f frm : Nat) (s : Vt.Tk) (cb sb db : Nat) (vw : Value) (a1 a2 : Nat → Option Addr) (k1 k2 : Nat → Nat) (to who : Nat) (kind : Int) (body : ByteArray) (w : World) (h1 : 1 ≤ n) (h7 : n ≤ 7) (hfn : f ≤ n) (hto : to < n) (hw : s.way.length ≤ 50000) (hlen : (s.cs to).echoes.length ≤ 900 ∧ (s.cs to).readies.length ≤ 900)
    (hdone : (Vt.take (s.cs to) (2 ^ n - 1) frm kind who body).is = true → s.done to = false) (h : Talk w0 w n f frm s cb sb db vw a1 a2 k1 k2) :
    Calls Try.prog 26 #[.pointer (some ⟨w0.heap.size, 0, none⟩), .agg #[.int .u8 (to : Nat), .int .u8 (who : Nat), .int .i64 kind, .string body]] w (ComePost w0 w n f frm (Vt.come n f frm s ⟨to, who, kind, body⟩) cb sb db vw) := by
  obtain ⟨t, ht⟩ : ∃ t, Vt.take (s.cs to) (2 ^ n - 1) frm kind who body = t := ⟨_, rfl⟩
  rw [ht] at hdone
  have SM : Aside (t.c.Small) := by have := Vt.take_small (h.small to hto) (2 ^ n - 1) frm kind who body; rw [ht] at this; exact this
  have LO : t.outs.length ≤ 1 := by have := outs_len' (s.cs to) (2 ^ n - 1) frm kind who body; rw [ht] at this; exact this
  have hms : 2 ^ n - 1 < 65536 := by
    have : 2 ^ n ≤ 2 ^ 7 := Nat.pow_le_pow_right (by decide) h7
    omega
  have CE := come_eq (f := f) (u := ⟨to, who, kind, body⟩) ht
  have RT : Aside (∀ w' s', Vt.come n f frm s ⟨to, who, kind, body⟩ = s' → (∃ vw a1 a2 k1 k2, Talk w0 w' n f frm s' cb sb db vw a1 a2 k1 k2) → (∀ k, db < k → k < w.heap.size → vw.ownBlock ≠ some k → w'.heap[k]? = w.heap[k]?) → ComePost w0 w n f frm (Vt.come n f frm s ⟨to, who, kind, body⟩) cb sb db vw (.returned (.bool true)) w') := fun w' s' e hx hk => by rw [e]; exact ⟨rfl, hx, hk⟩
  rw [CE] at RT ⊢
  generalize ComePost w0 w n f frm _ cb sb db vw = Q at RT ⊢
  have HD : Aside ((t.is = true → s.done to = false) ∧ s.way.length ≤ 50000) := ⟨hdone, hw⟩
  have X0 : Aside (Ub w0 w _ n f frm s cb sb db vw a1 a2 k1 k2 to who kind body) := ub_new h to who kind body
  have AA : Aside (∀ W, Talk w0 W n f frm s cb sb db vw a1 a2 k1 k2 → Calls Try.prog 47 #[.pointer (some ⟨w0.heap.size, 0, none⟩)] W fun e w' => e = .returned (.int .u16 ((2 ^ n - 1 : Nat) : Int)) ∧ w' = W) := fun W hW => all_any w0.heap.size n W h1 h7 hW.p0
  have TK : Aside (∀ W, Talk w0 W n f frm s cb sb db vw a1 a2 k1 k2 → _) := fun (W : World) (hW : Talk w0 W n f frm s cb sb db vw a1 a2 k1 k2) => take_let (c1 := k1 to) (c2 := k2 to) ht (w := W) ⟨hW.l1 to hto, hW.l2 to hto, hW.small to hto, hlen.1, hlen.2⟩ hms
  clear hdone hw hlen h ht CE hms
  have t1 : (to : Int) < (n : Int) := by omega
  have t2 : (0 : Int) ≤ (to : Int) := by omega
  generalize 2 ^ n - 1 = ms at *
  go_enter Try.func26, Try.ntmps26
  go_wp2_with fail
  refine (?_ : ∀ V, Ub w0 w V n f frm s cb sb db vw a1 a2 k1 k2 to who kind body → Code.wp _ _ _ _ V) _ X0.out
  intro V hV
  have X1 : Aside (Ub w0 w V n f frm s cb sb db vw a1 a2 k1 k2 to who kind body) := hV
  clear X0 hV
  obtain ⟨q0, q1, q2, q3, q4, q5, q6, q7, q8, q9, q10⟩ := X1.out.eleven hto
  have CA : Aside (∀ who kind body s vw a1 a2 k1 k2 W, s.way.length ≤ 50000 → Talk w0 W n f frm s cb sb db vw a1 a2 k1 k2 → _) := fun (who : Nat) (kind : Int) (body : ByteArray) (s : Vt.Tk) (vw : Value) (a1 a2 : Nat → Option Addr) (k1 k2 : Nat → Nat) (W : World) (hl : s.way.length ≤ 50000) (hW : Talk w0 W n f frm s cb sb db vw a1 a2 k1 k2) => cast_any w0 n f frm s cb sb db vw a1 a2 k1 k2 who kind body W h7 hfn hl hW
  have OO : Aside (t.outs = [] ∨ ∃ kk yy, t.outs = [(kk, yy)]) := by
    match hO : t.outs, LO with
    | [], _ => exact .inl rfl
    | [(kk, yy)], _ => exact .inr ⟨kk, yy, rfl⟩
  clear LO
  have BV : Aside (Below V.heap.size V V.drew ∧ ∀ o, Below V.heap.size V (V.drew.alloc o)) := ⟨(Below.refl _ V).drew, fun o => (Below.refl _ V).drew.alloc (Nat.le_refl _) o⟩
  have vl := X1.out.sz
  have vg := X1.out.gt
  have vo := X1.out.talk.ord
  have nz0 : w0.heap.size ≠ V.heap.size := by omega
  have nz1 : w.heap.size ≠ V.heap.size := by omega
  have nz2 : cb ≠ V.heap.size := by omega
  have ny0 := nz0.symm
  have ny1 := nz1.symm
  have ny2 := nz2.symm
  clear vo
  go_region_held3 (fun w' => w'.cell? ⟨w0.heap.size, 3, none⟩ = some (.slice (some ⟨cb, 0, none⟩) n n) ∧ w'.cell? ⟨w0.heap.size, 2, none⟩ = some (.int .u8 (frm : Int)) ∧ w'.cell? ⟨w.heap.size, 0, none⟩ = some (.int .u8 (to : Int)) ∧ w'.cell? ⟨w.heap.size, 1, none⟩ = some (.int .u8 (who : Int)) ∧ w'.cell? ⟨w.heap.size, 2, none⟩ = some (.int .i64 kind) ∧ w'.cell? ⟨w.heap.size, 3, none⟩ = some (.string body) ∧ w'.cell? ⟨cb, to * 5, none⟩ = some (.bool (s.cs to).echoed) ∧ w'.cell? ⟨cb, to * 5 + 1, none⟩ = some (.bool (s.cs to).readied) ∧ w'.cell? ⟨cb, to * 5 + 2, none⟩ = some (.bool (s.cs to).done) ∧ w'.cell? ⟨cb, to * 5 + 3, none⟩ = some (.slice (a1 to) (s.cs to).echoes.length (k1 to)) ∧ w'.cell? ⟨cb, to * 5 + 4, none⟩ = some (.slice (a2 to) (s.cs to).readies.length (k2 to)))
    (first | go_keep)
    (first
      | (go_at_call 47; refine (AA.out V.drew (X1.out.talk.later BV.out.1)).mono ?_; rintro z w3 ⟨rfl, hw⟩; replace hw := hw.symm; subst hw)
      | (go_at_call 47; refine (AA.out (V.drew.alloc (.cells #[.bool false, .bool false, .bool false, .slice none 0 0, .slice none 0 0] 35)) (X1.out.talk.later (BV.out.2 _))).mono ?_; rintro z w3 ⟨rfl, hw⟩; replace hw := hw.symm; subst hw)
      | (go_at_call 15; refine (TK.out V.drew (X1.out.talk.later BV.out.1)).mono ?_; rintro z w4 ⟨b1, j1, b2, j2, ao, co, rfl, hA⟩; have X4 : Aside (Ub w0 w w4 n f frm s cb sb db vw a1 a2 k1 k2 to who kind body) := X1.out.later (below_step BV.out.1 hA.out.2.2.2.1); clear q0 q1 q2 q3 q4 q5 q6 q7 q8 q9 q10; obtain ⟨q0, q1, q2, q3, q4, q5, q6, q7, q8, q9, q10⟩ := X4.out.eleven hto)
      | (go_at_call 15; refine (TK.out (V.drew.alloc (.cells #[.bool false, .bool false, .bool false, .slice none 0 0, .slice none 0 0] 35)) (X1.out.talk.later (BV.out.2 _))).mono ?_; rintro z w4 ⟨b1, j1, b2, j2, ao, co, rfl, hA⟩; have X4 : Aside (Ub w0 w w4 n f frm s cb sb db vw a1 a2 k1 k2 to who kind body ∧ C5 w4 V.heap.size (.bool false) (.bool false) (.bool false) (.slice none 0 0) (.slice none 0 0)) := ⟨X1.out.later (below_step (BV.out.2 _) hA.out.2.2.2.1), (C5.new V.drew _ _ _ _ _).later hA.out.2.2.2.1⟩; clear q0 q1 q2 q3 q4 q5 q6 q7 q8 q9 q10; obtain ⟨q0, q1, q2, q3, q4, q5, q6, q7, q8, q9, q10⟩ := X4.out.1.eleven hto; obtain ⟨z0, z1, z2, z3, z4⟩ := X4.out.2.cells; have zf := X4.out.2.frozen; have zl := X4.out.2.lt)
      | fail)
  · refine (?_ : ∀ W, Aft w0 w V W n f frm s cb sb db vw a1 a2 k1 k2 to who kind body w4.heap.size t b1 b2 ao j1 j2 → Exit.then _ _ _ _ W) _ (aft_new X1.out ⟨hA.out.1, hA.out.2.1, hA.out.2.2.1, below_step BV.out.1 hA.out.2.2.2.1, hA.out.2.2.2.2.1, hA.out.2.2.2.2.2.1, hA.out.2.2.2.2.2.2⟩)
    generalize w4.heap.size = pb
    intro W hW
    have AF : Aside (Aft w0 w V W n f frm s cb sb db vw a1 a2 k1 k2 to who kind body pb t b1 b2 ao j1 j2) := hW
    clear hW hA X4 TK AA BV q0 q1 q2 q3 q4 q5 q6 q7 q8 q9 q10
    have AD : Aside (Aft w0 w V W.drew n f frm s cb sb db vw a1 a2 k1 k2 to who kind body pb t b1 b2 ao j1 j2) := AF.out.later ((Below.refl _ W).drew)
    have S0 : Aside (Sto w0 w V (F5 W.drew cb (to * 5) (.bool t.c.echoed) (.bool t.c.readied) (.bool t.c.done) (.slice b1 t.c.echoes.length j1) (.slice b2 t.c.readies.length j2)) n f frm { s with cs := Vt.upd s.cs to t.c } cb sb db vw (Vt.upd a1 to b1) (Vt.upd a2 to b2) (Vt.upd k1 to j1) (Vt.upd k2 to j2) to who kind body t ao) := sto_new X1.out hto SM.out AD.out
    obtain ⟨y0, y1, y2, y3, y4⟩ := AF.out.c.cells
    have x0 := AF.out.ub.talk.p3
    have x1 := AF.out.ub.u0
    have C := AF.out.ub.talk.c to hto
    obtain ⟨c0, c1, c2, c3, c4⟩ := C
    have cf := AF.out.ub.talk.cz
    have xl := AF.out.ub.talk.ord
    have xp := AF.out.pb
    have m0 : cb ≠ w0.heap.size := by omega
    have m1 : cb ≠ w.heap.size := by omega
    have m2 : cb ≠ pb := by omega
    have m3 := m0.symm
    have m4 := m1.symm
    have m5 := m2.symm
    have m6 : cb < W.heap.size := by omega
    clear xl xp AF AD SM
    go_wp2_with fail
    go_region_held3 (fun w' => w'.cell? ⟨w0.heap.size, 3, none⟩ = some (.slice (some ⟨cb, 0, none⟩) n n) ∧ w'.cell? ⟨w.heap.size, 0, none⟩ = some (.int .u8 (to : Int)) ∧ w'.cell? ⟨pb, 0, none⟩ = some (.bool t.c.echoed) ∧ w'.cell? ⟨pb, 1, none⟩ = some (.bool t.c.readied) ∧ w'.cell? ⟨pb, 2, none⟩ = some (.bool t.c.done) ∧ w'.cell? ⟨pb, 3, none⟩ = some (.slice b1 t.c.echoes.length j1) ∧ w'.cell? ⟨pb, 4, none⟩ = some (.slice b2 t.c.readies.length j2))
      (first | go_keep)
      (fail)
    refine (?_ : ∀ W2, Sto w0 w V W2 n f frm { s with cs := Vt.upd s.cs to t.c } cb sb db vw (Vt.upd a1 to b1) (Vt.upd a2 to b2) (Vt.upd k1 to j1) (Vt.upd k2 to j2) to who kind body t ao → Exit.then _ _ _ _ W2) _ S0.out
    intro W2 hS
    have ST : Aside (Sto w0 w V W2 n f frm { s with cs := Vt.upd s.cs to t.c } cb sb db vw (Vt.upd a1 to b1) (Vt.upd a2 to b2) (Vt.upd k1 to j1) (Vt.upd k2 to j2) to who kind body t ao) := hS
    clear hS S0 y0 y1 y2 y3 y4 x0 x1 c0 c1 c2 c3 c4 cf m0 m1 m2 m3 m4 m5 m6
    rcases (show t.is = true ∨ t.is = false by cases t.is <;> simp) with his | his
    · have dn := HD.out.1 his
      rw [his]
      have x0 := ST.out.ub.talk.p5
      have x1 := ST.out.ub.u0
      have x2 := ST.out.ub.talk.d to hto
      have x3 := ST.out.ub.talk.p4
      have x4 := ST.out.ub.talk.t to hto
      dsimp only at x2 x4
      rw [dn] at x2
      have df := ST.out.ub.talk.dz
      have tf := ST.out.ub.talk.tz
      have xl := ST.out.ub.talk.ord
      have xg := ST.out.ub.gt
      have m0 : db ≠ w0.heap.size := by omega
      have m1 : db ≠ w.heap.size := by omega
      have m2 : sb ≠ w0.heap.size := by omega
      have m3 : sb ≠ w.heap.size := by omega
      have m4 : db ≠ sb := by omega
      have n0 := m0.symm
      have n1 := m1.symm
      have n2 := m2.symm
      have n3 := m3.symm
      have n4 := m4.symm
      have S2 : Aside (∀ q, Sto w0 w V (((W2.drewN q).setCell ⟨db, to, none⟩ (.bool true)).setCell ⟨sb, to, none⟩ (.string t.body)) n f frm { s with cs := Vt.upd s.cs to t.c, told := Vt.upd s.told to t.body, done := Vt.upd s.done to true } cb sb db vw (Vt.upd a1 to b1) (Vt.upd a2 to b2) (Vt.upd k1 to j1) (Vt.upd k2 to j2) to who kind body t ao) := fun q => sto_told (ST.out.later (below_drew (Below.refl _ W2) q)) hto t.body
      clear xl xg dn ST
      go_wp2_with fail
      go_quiet (fail)
      go_wp2_with fail
      go_region_held3 (fun w' => w'.cell? ⟨w0.heap.size, 5, none⟩ = some (.slice (some ⟨db, 0, none⟩) n n) ∧ w'.cell? ⟨w0.heap.size, 4, none⟩ = some (.slice (some ⟨sb, 0, none⟩) n n) ∧ w'.cell? ⟨w.heap.size, 0, none⟩ = some (.int .u8 (to : Int)))
        (first | go_keep)
        (fail)
      refine (?_ : ∀ W3, Sto w0 w V W3 n f frm { s with cs := Vt.upd s.cs to t.c, told := Vt.upd s.told to t.body, done := Vt.upd s.done to true } cb sb db vw (Vt.upd a1 to b1) (Vt.upd a2 to b2) (Vt.upd k1 to j1) (Vt.upd k2 to j2) to who kind body t ao → Exit.then _ _ _ _ W3) _ (S2.out _)
      intro W3 hS
      have ST3 : Aside (Sto w0 w V W3 n f frm { s with cs := Vt.upd s.cs to t.c, told := Vt.upd s.told to t.body, done := Vt.upd s.done to true } cb sb db vw (Vt.upd a1 to b1) (Vt.upd a2 to b2) (Vt.upd k1 to j1) (Vt.upd k2 to j2) to who kind body t ao) := hS
      clear hS S2 x0 x1 x2 x3 x4 df tf m0 m1 m2 m3 m4 n0 n1 n2 n3 n4
      go_wp2_with fail

      rcases OO.out with hO | ⟨kk, yy, hO⟩
      · rw [hO] at RT ⊢
        have Q1 : Aside (Q (.returned (.bool true)) W3) := RT.out W3 ⟨Vt.upd s.cs to t.c, Vt.upd s.told to t.body, Vt.upd s.done to true, s.way⟩ (by rw [his]; simp) ⟨_, _, _, _, _, ST3.out.ub.talk⟩ (fun k x y _ => ST3.out.ub.keep k x y)
        clear RT HD OO CA ST3
        go_loopw [10] (fun i wr => i = .int .i64 0 ∧ wr = W3) (fun _ _ => 0)
        case atStart => exact ⟨rfl, rfl⟩
        case round =>
          obtain ⟨rfl, hw⟩ := hrel
          replace hw := hw.symm; subst hw
          go_wp2
          exact Q1.out
      · have AO : Aside (AtO W3 ao [(kk, yy)]) := by have := ST3.out.o; rw [hO] at this; exact this
        obtain ⟨bo, oo, rfl, hoc⟩ : ∃ b off, ao = some ⟨b, off, none⟩ ∧ ∀ (j : Nat) (k : Nat) (y : ByteArray), [(kk, yy)][j]? = some (k, y) → W3.cell? ⟨b, off + j * 2, none⟩ = some (.int .i64 (k : Int)) ∧ W3.cell? ⟨b, off + j * 2 + 1, none⟩ = some (.string y) := by
          rcases AO.out with hh | hh
          · cases hh
          · exact hh
        have o0 : W3.cell? ⟨bo, oo, none⟩ = some (.int .i64 (kk : Int)) := by have := (hoc 0 kk yy rfl).1; simpa using this
        have o1 : W3.cell? ⟨bo, oo + 1, none⟩ = some (.string yy) := by have := (hoc 0 kk yy rfl).2; simpa using this
        have u0 := ST3.out.ub.u0
        have KB : Aside (∀ w9 : World, (∀ k, k < W3.drew.heap.size → k ≠ w0.heap.size → vw.ownBlock ≠ some k → w9.heap[k]? = W3.drew.heap[k]?) → w9.cell? ⟨w.heap.size, 0, none⟩ = some (.int .u8 (to : Int)) ∧ w9.cell? ⟨bo, oo, none⟩ = some (.int .i64 (kk : Int)) ∧ w9.cell? ⟨bo, oo + 1, none⟩ = some (.string yy)) := fun w9 hbk => cast_keeps ST3.out u0 o0 o1 hbk
        have KD : Aside (∀ w9 : World, (∀ k, k < W3.drew.heap.size → k ≠ w0.heap.size → vw.ownBlock ≠ some k → w9.heap[k]? = W3.drew.heap[k]?) → ∀ k, db < k → k < w.heap.size → vw.ownBlock ≠ some k → w9.heap[k]? = w.heap[k]?) := fun w9 hbk => cast_keep2 ST3.out hbk
        have CC : Aside (Calls Try.prog 46 #[.pointer (some ⟨w0.heap.size, 0, none⟩), .int .u8 (to : Nat), .int .i64 (kk : Int), .string yy] W3.drew _) := CA.out (to) (kk : Int) yy _ _ _ _ _ _ W3.drew (by exact HD.out.2) (ST3.out.ub.talk.later ((Below.refl _ W3).drew))
        rw [hO] at RT ⊢
        simp only [List.length_cons, List.length_nil, Nat.zero_add]
        have Q1 : Aside (∀ w' vx, Talk w0 w' n f frm ⟨Vt.upd s.cs to t.c, Vt.upd s.told to t.body, Vt.upd s.done to true, s.way ++ Vt.castL f n to (kk : Int) yy⟩ cb sb db vx (Vt.upd a1 to b1) (Vt.upd a2 to b2) (Vt.upd k1 to j1) (Vt.upd k2 to j2) → (∀ k, db < k → k < w.heap.size → vw.ownBlock ≠ some k → w'.heap[k]? = w.heap[k]?) → Q (.returned (.bool true)) w') := fun w' vx hx hk => RT.out w' ⟨Vt.upd s.cs to t.c, Vt.upd s.told to t.body, Vt.upd s.done to true, s.way ++ Vt.castL f n to (kk : Int) yy⟩ (by rw [his]; simp) ⟨_, _, _, _, _, hx⟩ hk
        clear RT HD OO CA ST3 AO hoc hO
        go_loopw [10] (fun i wr => (i = .int .i64 0 ∧ wr = W3) ∨ (i = .int .i64 1 ∧ Aside (∃ vx, Talk w0 wr n f frm ⟨Vt.upd s.cs to t.c, Vt.upd s.told to t.body, Vt.upd s.done to true, s.way ++ Vt.castL f n to (kk : Int) yy⟩ cb sb db vx (Vt.upd a1 to b1) (Vt.upd a2 to b2) (Vt.upd k1 to j1) (Vt.upd k2 to j2) ∧ ∀ k, db < k → k < w.heap.size → vw.ownBlock ≠ some k → wr.heap[k]? = w.heap[k]?))) (fun i _ => 1 - (intOf i).toNat)
        case atStart => exact .inl ⟨rfl, rfl⟩
        case round =>
          rcases hrel with ⟨rfl, hw⟩ | ⟨rfl, hE⟩
          · replace hw := hw.symm; subst hw
            go_wp2_with fail
            go_region_held3 (fun w' => w'.cell? ⟨w.heap.size, 0, none⟩ = some (.int .u8 (to : Int)) ∧ w'.cell? ⟨bo, oo, none⟩ = some (.int .i64 (kk : Int)) ∧ w'.cell? ⟨bo, oo + 1, none⟩ = some (.string yy))
              (first | go_keep)
              (first
                | (go_at_call 46; refine CC.out.mono ?_; rintro z w9 ⟨rfl, vx, hT, -, hbk, -⟩; have KC := KB.out w9 hbk; have KE := KD.out w9 hbk; clear u0 o0 o1 hbk; obtain ⟨u0, o0, o1⟩ := KC; have HT : Aside (∃ vx, Talk w0 w9 n f frm ⟨Vt.upd s.cs to t.c, Vt.upd s.told to t.body, Vt.upd s.done to true, s.way ++ Vt.castL f n to (kk : Int) yy⟩ cb sb db vx (Vt.upd a1 to b1) (Vt.upd a2 to b2) (Vt.upd k1 to j1) (Vt.upd k2 to j2) ∧ ∀ k, db < k → k < w.heap.size → vw.ownBlock ≠ some k → w9.heap[k]? = w.heap[k]?) := ⟨vx, hT, KE⟩; clear hT KE)
                | fail)
            go_wp2
            go_roundw
            case rel => exact .inr ⟨by go_num, HT.out⟩
            case measure => simp [intOf]
          · obtain ⟨vx, hT, hke⟩ := hE.out
            have Q2 : Aside (Q (.returned (.bool true)) wr) := Q1.out wr vx hT hke
            clear hE hT Q1 CC hke
            go_wp2
            exact Q2.out
      
    · rw [his]
      go_wp2_with fail
      refine (?_ : ∀ W3, Sto w0 w V W3 n f frm { s with cs := Vt.upd s.cs to t.c } cb sb db vw (Vt.upd a1 to b1) (Vt.upd a2 to b2) (Vt.upd k1 to j1) (Vt.upd k2 to j2) to who kind body t ao → Code.wp _ _ _ _ W3) _ ST.out
      intro W3 hS
      have ST3 : Aside (Sto w0 w V W3 n f frm { s with cs := Vt.upd s.cs to t.c } cb sb db vw (Vt.upd a1 to b1) (Vt.upd a2 to b2) (Vt.upd k1 to j1) (Vt.upd k2 to j2) to who kind body t ao) := hS
      clear hS ST

      rcases OO.out with hO | ⟨kk, yy, hO⟩
      · rw [hO] at RT ⊢
        have Q1 : Aside (Q (.returned (.bool true)) W3) := RT.out W3 ⟨Vt.upd s.cs to t.c, s.told, s.done, s.way⟩ (by rw [his]; simp) ⟨_, _, _, _, _, ST3.out.ub.talk⟩ (fun k x y _ => ST3.out.ub.keep k x y)
        clear RT HD OO CA ST3
        go_loopw [10] (fun i wr => i = .int .i64 0 ∧ wr = W3) (fun _ _ => 0)
        case atStart => exact ⟨rfl, rfl⟩
        case round =>
          obtain ⟨rfl, hw⟩ := hrel
          replace hw := hw.symm; subst hw
          go_wp2
          exact Q1.out
      · have AO : Aside (AtO W3 ao [(kk, yy)]) := by have := ST3.out.o; rw [hO] at this; exact this
        obtain ⟨bo, oo, rfl, hoc⟩ : ∃ b off, ao = some ⟨b, off, none⟩ ∧ ∀ (j : Nat) (k : Nat) (y : ByteArray), [(kk, yy)][j]? = some (k, y) → W3.cell? ⟨b, off + j * 2, none⟩ = some (.int .i64 (k : Int)) ∧ W3.cell? ⟨b, off + j * 2 + 1, none⟩ = some (.string y) := by
          rcases AO.out with hh | hh
          · cases hh
          · exact hh
        have o0 : W3.cell? ⟨bo, oo, none⟩ = some (.int .i64 (kk : Int)) := by have := (hoc 0 kk yy rfl).1; simpa using this
        have o1 : W3.cell? ⟨bo, oo + 1, none⟩ = some (.string yy) := by have := (hoc 0 kk yy rfl).2; simpa using this
        have u0 := ST3.out.ub.u0
        have KB : Aside (∀ w9 : World, (∀ k, k < W3.drew.heap.size → k ≠ w0.heap.size → vw.ownBlock ≠ some k → w9.heap[k]? = W3.drew.heap[k]?) → w9.cell? ⟨w.heap.size, 0, none⟩ = some (.int .u8 (to : Int)) ∧ w9.cell? ⟨bo, oo, none⟩ = some (.int .i64 (kk : Int)) ∧ w9.cell? ⟨bo, oo + 1, none⟩ = some (.string yy)) := fun w9 hbk => cast_keeps ST3.out u0 o0 o1 hbk
        have KD : Aside (∀ w9 : World, (∀ k, k < W3.drew.heap.size → k ≠ w0.heap.size → vw.ownBlock ≠ some k → w9.heap[k]? = W3.drew.heap[k]?) → ∀ k, db < k → k < w.heap.size → vw.ownBlock ≠ some k → w9.heap[k]? = w.heap[k]?) := fun w9 hbk => cast_keep2 ST3.out hbk
        have CC : Aside (Calls Try.prog 46 #[.pointer (some ⟨w0.heap.size, 0, none⟩), .int .u8 (to : Nat), .int .i64 (kk : Int), .string yy] W3.drew _) := CA.out (to) (kk : Int) yy _ _ _ _ _ _ W3.drew (by exact HD.out.2) (ST3.out.ub.talk.later ((Below.refl _ W3).drew))
        rw [hO] at RT ⊢
        simp only [List.length_cons, List.length_nil, Nat.zero_add]
        have Q1 : Aside (∀ w' vx, Talk w0 w' n f frm ⟨Vt.upd s.cs to t.c, s.told, s.done, s.way ++ Vt.castL f n to (kk : Int) yy⟩ cb sb db vx (Vt.upd a1 to b1) (Vt.upd a2 to b2) (Vt.upd k1 to j1) (Vt.upd k2 to j2) → (∀ k, db < k → k < w.heap.size → vw.ownBlock ≠ some k → w'.heap[k]? = w.heap[k]?) → Q (.returned (.bool true)) w') := fun w' vx hx hk => RT.out w' ⟨Vt.upd s.cs to t.c, s.told, s.done, s.way ++ Vt.castL f n to (kk : Int) yy⟩ (by rw [his]; simp) ⟨_, _, _, _, _, hx⟩ hk
        clear RT HD OO CA ST3 AO hoc hO
        go_loopw [10] (fun i wr => (i = .int .i64 0 ∧ wr = W3) ∨ (i = .int .i64 1 ∧ Aside (∃ vx, Talk w0 wr n f frm ⟨Vt.upd s.cs to t.c, s.told, s.done, s.way ++ Vt.castL f n to (kk : Int) yy⟩ cb sb db vx (Vt.upd a1 to b1) (Vt.upd a2 to b2) (Vt.upd k1 to j1) (Vt.upd k2 to j2) ∧ ∀ k, db < k → k < w.heap.size → vw.ownBlock ≠ some k → wr.heap[k]? = w.heap[k]?))) (fun i _ => 1 - (intOf i).toNat)
        case atStart => exact .inl ⟨rfl, rfl⟩
        case round =>
          rcases hrel with ⟨rfl, hw⟩ | ⟨rfl, hE⟩
          · replace hw := hw.symm; subst hw
            go_wp2_with fail
            go_region_held3 (fun w' => w'.cell? ⟨w.heap.size, 0, none⟩ = some (.int .u8 (to : Int)) ∧ w'.cell? ⟨bo, oo, none⟩ = some (.int .i64 (kk : Int)) ∧ w'.cell? ⟨bo, oo + 1, none⟩ = some (.string yy))
              (first | go_keep)
              (first
                | (go_at_call 46; refine CC.out.mono ?_; rintro z w9 ⟨rfl, vx, hT, -, hbk, -⟩; have KC := KB.out w9 hbk; have KE := KD.out w9 hbk; clear u0 o0 o1 hbk; obtain ⟨u0, o0, o1⟩ := KC; have HT : Aside (∃ vx, Talk w0 w9 n f frm ⟨Vt.upd s.cs to t.c, s.told, s.done, s.way ++ Vt.castL f n to (kk : Int) yy⟩ cb sb db vx (Vt.upd a1 to b1) (Vt.upd a2 to b2) (Vt.upd k1 to j1) (Vt.upd k2 to j2) ∧ ∀ k, db < k → k < w.heap.size → vw.ownBlock ≠ some k → w9.heap[k]? = w.heap[k]?) := ⟨vx, hT, KE⟩; clear hT KE)
                | fail)
            go_wp2
            go_roundw
            case rel => exact .inr ⟨by go_num, HT.out⟩
            case measure => simp [intOf]
          · obtain ⟨vx, hT, hke⟩ := hE.out
            have Q2 : Aside (Q (.returned (.bool true)) wr) := Q1.out wr vx hT hke
            clear hE hT Q1 CC hke
            go_wp2
            exact Q2.out
      
  · refine (?_ : ∀ W, Aft w0 w V W n f frm s cb sb db vw a1 a2 k1 k2 to who kind body V.heap.size t b1 b2 ao j1 j2 → Exit.then _ _ _ _ W) _ (aft_old X1.out X4.out.2 (below_step (BV.out.2 _) hA.out.2.2.2.1) hA.out.1 hA.out.2.1 hA.out.2.2.1 (hA.out.2.2.2.2.1.mono (by simp)) (hA.out.2.2.2.2.2.1.mono (by simp)) (hA.out.2.2.2.2.2.2.mono (by simp)))
    generalize V.heap.size = pb
    intro W hW
    have AF : Aside (Aft w0 w V W n f frm s cb sb db vw a1 a2 k1 k2 to who kind body pb t b1 b2 ao j1 j2) := hW
    clear hW hA X4 TK AA BV q0 q1 q2 q3 q4 q5 q6 q7 q8 q9 q10 z0 z1 z2 z3 z4 zf zl
    have AD : Aside (Aft w0 w V W.drew n f frm s cb sb db vw a1 a2 k1 k2 to who kind body pb t b1 b2 ao j1 j2) := AF.out.later ((Below.refl _ W).drew)
    have S0 : Aside (Sto w0 w V (F5 W.drew cb (to * 5) (.bool t.c.echoed) (.bool t.c.readied) (.bool t.c.done) (.slice b1 t.c.echoes.length j1) (.slice b2 t.c.readies.length j2)) n f frm { s with cs := Vt.upd s.cs to t.c } cb sb db vw (Vt.upd a1 to b1) (Vt.upd a2 to b2) (Vt.upd k1 to j1) (Vt.upd k2 to j2) to who kind body t ao) := sto_new X1.out hto SM.out AD.out
    obtain ⟨y0, y1, y2, y3, y4⟩ := AF.out.c.cells
    have x0 := AF.out.ub.talk.p3
    have x1 := AF.out.ub.u0
    have C := AF.out.ub.talk.c to hto
    obtain ⟨c0, c1, c2, c3, c4⟩ := C
    have cf := AF.out.ub.talk.cz
    have xl := AF.out.ub.talk.ord
    have xp := AF.out.pb
    have m0 : cb ≠ w0.heap.size := by omega
    have m1 : cb ≠ w.heap.size := by omega
    have m2 : cb ≠ pb := by omega
    have m3 := m0.symm
    have m4 := m1.symm
    have m5 := m2.symm
    have m6 : cb < W.heap.size := by omega
    clear xl xp AF AD SM
    go_wp2_with fail
    go_region_held3 (fun w' => w'.cell? ⟨w0.heap.size, 3, none⟩ = some (.slice (some ⟨cb, 0, none⟩) n n) ∧ w'.cell? ⟨w.heap.size, 0, none⟩ = some (.int .u8 (to : Int)) ∧ w'.cell? ⟨pb, 0, none⟩ = some (.bool t.c.echoed) ∧ w'.cell? ⟨pb, 1, none⟩ = some (.bool t.c.readied) ∧ w'.cell? ⟨pb, 2, none⟩ = some (.bool t.c.done) ∧ w'.cell? ⟨pb, 3, none⟩ = some (.slice b1 t.c.echoes.length j1) ∧ w'.cell? ⟨pb, 4, none⟩ = some (.slice b2 t.c.readies.length j2))
      (first | go_keep)
      (fail)
    refine (?_ : ∀ W2, Sto w0 w V W2 n f frm { s with cs := Vt.upd s.cs to t.c } cb sb db vw (Vt.upd a1 to b1) (Vt.upd a2 to b2) (Vt.upd k1 to j1) (Vt.upd k2 to j2) to who kind body t ao → Exit.then _ _ _ _ W2) _ S0.out
    intro W2 hS
    have ST : Aside (Sto w0 w V W2 n f frm { s with cs := Vt.upd s.cs to t.c } cb sb db vw (Vt.upd a1 to b1) (Vt.upd a2 to b2) (Vt.upd k1 to j1) (Vt.upd k2 to j2) to who kind body t ao) := hS
    clear hS S0 y0 y1 y2 y3 y4 x0 x1 c0 c1 c2 c3 c4 cf m0 m1 m2 m3 m4 m5 m6
    rcases (show t.is = true ∨ t.is = false by cases t.is <;> simp) with his | his
    · have dn := HD.out.1 his
      rw [his]
      have x0 := ST.out.ub.talk.p5
      have x1 := ST.out.ub.u0
      have x2 := ST.out.ub.talk.d to hto
      have x3 := ST.out.ub.talk.p4
      have x4 := ST.out.ub.talk.t to hto
      dsimp only at x2 x4
      rw [dn] at x2
      have df := ST.out.ub.talk.dz
      have tf := ST.out.ub.talk.tz
      have xl := ST.out.ub.talk.ord
      have xg := ST.out.ub.gt
      have m0 : db ≠ w0.heap.size := by omega
      have m1 : db ≠ w.heap.size := by omega
      have m2 : sb ≠ w0.heap.size := by omega
      have m3 : sb ≠ w.heap.size := by omega
      have m4 : db ≠ sb := by omega
      have n0 := m0.symm
      have n1 := m1.symm
      have n2 := m2.symm
      have n3 := m3.symm
      have n4 := m4.symm
      have S2 : Aside (∀ q, Sto w0 w V (((W2.drewN q).setCell ⟨db, to, none⟩ (.bool true)).setCell ⟨sb, to, none⟩ (.string t.body)) n f frm { s with cs := Vt.upd s.cs to t.c, told := Vt.upd s.told to t.body, done := Vt.upd s.done to true } cb sb db vw (Vt.upd a1 to b1) (Vt.upd a2 to b2) (Vt.upd k1 to j1) (Vt.upd k2 to j2) to who kind body t ao) := fun q => sto_told (ST.out.later (below_drew (Below.refl _ W2) q)) hto t.body
      clear xl xg dn ST
      go_wp2_with fail
      go_quiet (fail)
      go_wp2_with fail
      go_region_held3 (fun w' => w'.cell? ⟨w0.heap.size, 5, none⟩ = some (.slice (some ⟨db, 0, none⟩) n n) ∧ w'.cell? ⟨w0.heap.size, 4, none⟩ = some (.slice (some ⟨sb, 0, none⟩) n n) ∧ w'.cell? ⟨w.heap.size, 0, none⟩ = some (.int .u8 (to : Int)))
        (first | go_keep)
        (fail)
      refine (?_ : ∀ W3, Sto w0 w V W3 n f frm { s with cs := Vt.upd s.cs to t.c, told := Vt.upd s.told to t.body, done := Vt.upd s.done to true } cb sb db vw (Vt.upd a1 to b1) (Vt.upd a2 to b2) (Vt.upd k1 to j1) (Vt.upd k2 to j2) to who kind body t ao → Exit.then _ _ _ _ W3) _ (S2.out _)
      intro W3 hS
      have ST3 : Aside (Sto w0 w V W3 n f frm { s with cs := Vt.upd s.cs to t.c, told := Vt.upd s.told to t.body, done := Vt.upd s.done to true } cb sb db vw (Vt.upd a1 to b1) (Vt.upd a2 to b2) (Vt.upd k1 to j1) (Vt.upd k2 to j2) to who kind body t ao) := hS
      clear hS S2 x0 x1 x2 x3 x4 df tf m0 m1 m2 m3 m4 n0 n1 n2 n3 n4
      go_wp2_with fail

      rcases OO.out with hO | ⟨kk, yy, hO⟩
      · rw [hO] at RT ⊢
        have Q1 : Aside (Q (.returned (.bool true)) W3) := RT.out W3 ⟨Vt.upd s.cs to t.c, Vt.upd s.told to t.body, Vt.upd s.done to true, s.way⟩ (by rw [his]; simp) ⟨_, _, _, _, _, ST3.out.ub.talk⟩ (fun k x y _ => ST3.out.ub.keep k x y)
        clear RT HD OO CA ST3
        go_loopw [10] (fun i wr => i = .int .i64 0 ∧ wr = W3) (fun _ _ => 0)
        case atStart => exact ⟨rfl, rfl⟩
        case round =>
          obtain ⟨rfl, hw⟩ := hrel
          replace hw := hw.symm; subst hw
          go_wp2
          exact Q1.out
      · have AO : Aside (AtO W3 ao [(kk, yy)]) := by have := ST3.out.o; rw [hO] at this; exact this
        obtain ⟨bo, oo, rfl, hoc⟩ : ∃ b off, ao = some ⟨b, off, none⟩ ∧ ∀ (j : Nat) (k : Nat) (y : ByteArray), [(kk, yy)][j]? = some (k, y) → W3.cell? ⟨b, off + j * 2, none⟩ = some (.int .i64 (k : Int)) ∧ W3.cell? ⟨b, off + j * 2 + 1, none⟩ = some (.string y) := by
          rcases AO.out with hh | hh
          · cases hh
          · exact hh
        have o0 : W3.cell? ⟨bo, oo, none⟩ = some (.int .i64 (kk : Int)) := by have := (hoc 0 kk yy rfl).1; simpa using this
        have o1 : W3.cell? ⟨bo, oo + 1, none⟩ = some (.string yy) := by have := (hoc 0 kk yy rfl).2; simpa using this
        have u0 := ST3.out.ub.u0
        have KB : Aside (∀ w9 : World, (∀ k, k < W3.drew.heap.size → k ≠ w0.heap.size → vw.ownBlock ≠ some k → w9.heap[k]? = W3.drew.heap[k]?) → w9.cell? ⟨w.heap.size, 0, none⟩ = some (.int .u8 (to : Int)) ∧ w9.cell? ⟨bo, oo, none⟩ = some (.int .i64 (kk : Int)) ∧ w9.cell? ⟨bo, oo + 1, none⟩ = some (.string yy)) := fun w9 hbk => cast_keeps ST3.out u0 o0 o1 hbk
        have KD : Aside (∀ w9 : World, (∀ k, k < W3.drew.heap.size → k ≠ w0.heap.size → vw.ownBlock ≠ some k → w9.heap[k]? = W3.drew.heap[k]?) → ∀ k, db < k → k < w.heap.size → vw.ownBlock ≠ some k → w9.heap[k]? = w.heap[k]?) := fun w9 hbk => cast_keep2 ST3.out hbk
        have CC : Aside (Calls Try.prog 46 #[.pointer (some ⟨w0.heap.size, 0, none⟩), .int .u8 (to : Nat), .int .i64 (kk : Int), .string yy] W3.drew _) := CA.out (to) (kk : Int) yy _ _ _ _ _ _ W3.drew (by exact HD.out.2) (ST3.out.ub.talk.later ((Below.refl _ W3).drew))
        rw [hO] at RT ⊢
        simp only [List.length_cons, List.length_nil, Nat.zero_add]
        have Q1 : Aside (∀ w' vx, Talk w0 w' n f frm ⟨Vt.upd s.cs to t.c, Vt.upd s.told to t.body, Vt.upd s.done to true, s.way ++ Vt.castL f n to (kk : Int) yy⟩ cb sb db vx (Vt.upd a1 to b1) (Vt.upd a2 to b2) (Vt.upd k1 to j1) (Vt.upd k2 to j2) → (∀ k, db < k → k < w.heap.size → vw.ownBlock ≠ some k → w'.heap[k]? = w.heap[k]?) → Q (.returned (.bool true)) w') := fun w' vx hx hk => RT.out w' ⟨Vt.upd s.cs to t.c, Vt.upd s.told to t.body, Vt.upd s.done to true, s.way ++ Vt.castL f n to (kk : Int) yy⟩ (by rw [his]; simp) ⟨_, _, _, _, _, hx⟩ hk
        clear RT HD OO CA ST3 AO hoc hO
        go_loopw [10] (fun i wr => (i = .int .i64 0 ∧ wr = W3) ∨ (i = .int .i64 1 ∧ Aside (∃ vx, Talk w0 wr n f frm ⟨Vt.upd s.cs to t.c, Vt.upd s.told to t.body, Vt.upd s.done to true, s.way ++ Vt.castL f n to (kk : Int) yy⟩ cb sb db vx (Vt.upd a1 to b1) (Vt.upd a2 to b2) (Vt.upd k1 to j1) (Vt.upd k2 to j2) ∧ ∀ k, db < k → k < w.heap.size → vw.ownBlock ≠ some k → wr.heap[k]? = w.heap[k]?))) (fun i _ => 1 - (intOf i).toNat)
        case atStart => exact .inl ⟨rfl, rfl⟩
        case round =>
          rcases hrel with ⟨rfl, hw⟩ | ⟨rfl, hE⟩
          · replace hw := hw.symm; subst hw
            go_wp2_with fail
            go_region_held3 (fun w' => w'.cell? ⟨w.heap.size, 0, none⟩ = some (.int .u8 (to : Int)) ∧ w'.cell? ⟨bo, oo, none⟩ = some (.int .i64 (kk : Int)) ∧ w'.cell? ⟨bo, oo + 1, none⟩ = some (.string yy))
              (first | go_keep)
              (first
                | (go_at_call 46; refine CC.out.mono ?_; rintro z w9 ⟨rfl, vx, hT, -, hbk, -⟩; have KC := KB.out w9 hbk; have KE := KD.out w9 hbk; clear u0 o0 o1 hbk; obtain ⟨u0, o0, o1⟩ := KC; have HT : Aside (∃ vx, Talk w0 w9 n f frm ⟨Vt.upd s.cs to t.c, Vt.upd s.told to t.body, Vt.upd s.done to true, s.way ++ Vt.castL f n to (kk : Int) yy⟩ cb sb db vx (Vt.upd a1 to b1) (Vt.upd a2 to b2) (Vt.upd k1 to j1) (Vt.upd k2 to j2) ∧ ∀ k, db < k → k < w.heap.size → vw.ownBlock ≠ some k → w9.heap[k]? = w.heap[k]?) := ⟨vx, hT, KE⟩; clear hT KE)
                | fail)
            go_wp2
            go_roundw
            case rel => exact .inr ⟨by go_num, HT.out⟩
            case measure => simp [intOf]
          · obtain ⟨vx, hT, hke⟩ := hE.out
            have Q2 : Aside (Q (.returned (.bool true)) wr) := Q1.out wr vx hT hke
            clear hE hT Q1 CC hke
            go_wp2
            exact Q2.out
      
    · rw [his]
      go_wp2_with fail
      refine (?_ : ∀ W3, Sto w0 w V W3 n f frm { s with cs := Vt.upd s.cs to t.c } cb sb db vw (Vt.upd a1 to b1) (Vt.upd a2 to b2) (Vt.upd k1 to j1) (Vt.upd k2 to j2) to who kind body t ao → Code.wp _ _ _ _ W3) _ ST.out
      intro W3 hS
      have ST3 : Aside (Sto w0 w V W3 n f frm { s with cs := Vt.upd s.cs to t.c } cb sb db vw (Vt.upd a1 to b1) (Vt.upd a2 to b2) (Vt.upd k1 to j1) (Vt.upd k2 to j2) to who kind body t ao) := hS
      clear hS ST

      rcases OO.out with hO | ⟨kk, yy, hO⟩
      · rw [hO] at RT ⊢
        have Q1 : Aside (Q (.returned (.bool true)) W3) := RT.out W3 ⟨Vt.upd s.cs to t.c, s.told, s.done, s.way⟩ (by rw [his]; simp) ⟨_, _, _, _, _, ST3.out.ub.talk⟩ (fun k x y _ => ST3.out.ub.keep k x y)
        clear RT HD OO CA ST3
        go_loopw [10] (fun i wr => i = .int .i64 0 ∧ wr = W3) (fun _ _ => 0)
        case atStart => exact ⟨rfl, rfl⟩
        case round =>
          obtain ⟨rfl, hw⟩ := hrel
          replace hw := hw.symm; subst hw
          go_wp2
          exact Q1.out
      · have AO : Aside (AtO W3 ao [(kk, yy)]) := by have := ST3.out.o; rw [hO] at this; exact this
        obtain ⟨bo, oo, rfl, hoc⟩ : ∃ b off, ao = some ⟨b, off, none⟩ ∧ ∀ (j : Nat) (k : Nat) (y : ByteArray), [(kk, yy)][j]? = some (k, y) → W3.cell? ⟨b, off + j * 2, none⟩ = some (.int .i64 (k : Int)) ∧ W3.cell? ⟨b, off + j * 2 + 1, none⟩ = some (.string y) := by
          rcases AO.out with hh | hh
          · cases hh
          · exact hh
        have o0 : W3.cell? ⟨bo, oo, none⟩ = some (.int .i64 (kk : Int)) := by have := (hoc 0 kk yy rfl).1; simpa using this
        have o1 : W3.cell? ⟨bo, oo + 1, none⟩ = some (.string yy) := by have := (hoc 0 kk yy rfl).2; simpa using this
        have u0 := ST3.out.ub.u0
        have KB : Aside (∀ w9 : World, (∀ k, k < W3.drew.heap.size → k ≠ w0.heap.size → vw.ownBlock ≠ some k → w9.heap[k]? = W3.drew.heap[k]?) → w9.cell? ⟨w.heap.size, 0, none⟩ = some (.int .u8 (to : Int)) ∧ w9.cell? ⟨bo, oo, none⟩ = some (.int .i64 (kk : Int)) ∧ w9.cell? ⟨bo, oo + 1, none⟩ = some (.string yy)) := fun w9 hbk => cast_keeps ST3.out u0 o0 o1 hbk
        have KD : Aside (∀ w9 : World, (∀ k, k < W3.drew.heap.size → k ≠ w0.heap.size → vw.ownBlock ≠ some k → w9.heap[k]? = W3.drew.heap[k]?) → ∀ k, db < k → k < w.heap.size → vw.ownBlock ≠ some k → w9.heap[k]? = w.heap[k]?) := fun w9 hbk => cast_keep2 ST3.out hbk
        have CC : Aside (Calls Try.prog 46 #[.pointer (some ⟨w0.heap.size, 0, none⟩), .int .u8 (to : Nat), .int .i64 (kk : Int), .string yy] W3.drew _) := CA.out (to) (kk : Int) yy _ _ _ _ _ _ W3.drew (by exact HD.out.2) (ST3.out.ub.talk.later ((Below.refl _ W3).drew))
        rw [hO] at RT ⊢
        simp only [List.length_cons, List.length_nil, Nat.zero_add]
        have Q1 : Aside (∀ w' vx, Talk w0 w' n f frm ⟨Vt.upd s.cs to t.c, s.told, s.done, s.way ++ Vt.castL f n to (kk : Int) yy⟩ cb sb db vx (Vt.upd a1 to b1) (Vt.upd a2 to b2) (Vt.upd k1 to j1) (Vt.upd k2 to j2) → (∀ k, db < k → k < w.heap.size → vw.ownBlock ≠ some k → w'.heap[k]? = w.heap[k]?) → Q (.returned (.bool true)) w') := fun w' vx hx hk => RT.out w' ⟨Vt.upd s.cs to t.c, s.told, s.done, s.way ++ Vt.castL f n to (kk : Int) yy⟩ (by rw [his]; simp) ⟨_, _, _, _, _, hx⟩ hk
        clear RT HD OO CA ST3 AO hoc hO
        go_loopw [10] (fun i wr => (i = .int .i64 0 ∧ wr = W3) ∨ (i = .int .i64 1 ∧ Aside (∃ vx, Talk w0 wr n f frm ⟨Vt.upd s.cs to t.c, s.told, s.done, s.way ++ Vt.castL f n to (kk : Int) yy⟩ cb sb db vx (Vt.upd a1 to b1) (Vt.upd a2 to b2) (Vt.upd k1 to j1) (Vt.upd k2 to j2) ∧ ∀ k, db < k → k < w.heap.size → vw.ownBlock ≠ some k → wr.heap[k]? = w.heap[k]?))) (fun i _ => 1 - (intOf i).toNat)
        case atStart => exact .inl ⟨rfl, rfl⟩
        case round =>
          rcases hrel with ⟨rfl, hw⟩ | ⟨rfl, hE⟩
          · replace hw := hw.symm; subst hw
            go_wp2_with fail
            go_region_held3 (fun w' => w'.cell? ⟨w.heap.size, 0, none⟩ = some (.int .u8 (to : Int)) ∧ w'.cell? ⟨bo, oo, none⟩ = some (.int .i64 (kk : Int)) ∧ w'.cell? ⟨bo, oo + 1, none⟩ = some (.string yy))
              (first | go_keep)
              (first
                | (go_at_call 46; refine CC.out.mono ?_; rintro z w9 ⟨rfl, vx, hT, -, hbk, -⟩; have KC := KB.out w9 hbk; have KE := KD.out w9 hbk; clear u0 o0 o1 hbk; obtain ⟨u0, o0, o1⟩ := KC; have HT : Aside (∃ vx, Talk w0 w9 n f frm ⟨Vt.upd s.cs to t.c, s.told, s.done, s.way ++ Vt.castL f n to (kk : Int) yy⟩ cb sb db vx (Vt.upd a1 to b1) (Vt.upd a2 to b2) (Vt.upd k1 to j1) (Vt.upd k2 to j2) ∧ ∀ k, db < k → k < w.heap.size → vw.ownBlock ≠ some k → w9.heap[k]? = w.heap[k]?) := ⟨vx, hT, KE⟩; clear hT KE)
                | fail)
            go_wp2
            go_roundw
            case rel => exact .inr ⟨by go_num, HT.out⟩
            case measure => simp [intOf]
          · obtain ⟨vx, hT, hke⟩ := hE.out
            have Q2 : Aside (Q (.returned (.bool true)) wr) := Q1.out wr vx hT hke
            clear hE hT Q1 CC hke
            go_wp2
            exact Q2.out
      
  · refine (?_ : ∀ W, Aft w0 w V W n f frm s cb sb db vw a1 a2 k1 k2 to who kind body V.heap.size t b1 b2 ao j1 j2 → Exit.then _ _ _ _ W) _ (aft_old X1.out X4.out.2 (below_step (BV.out.2 _) hA.out.2.2.2.1) hA.out.1 hA.out.2.1 hA.out.2.2.1 (hA.out.2.2.2.2.1.mono (by simp)) (hA.out.2.2.2.2.2.1.mono (by simp)) (hA.out.2.2.2.2.2.2.mono (by simp)))
    generalize V.heap.size = pb
    intro W hW
    have AF : Aside (Aft w0 w V W n f frm s cb sb db vw a1 a2 k1 k2 to who kind body pb t b1 b2 ao j1 j2) := hW
    clear hW hA X4 TK AA BV q0 q1 q2 q3 q4 q5 q6 q7 q8 q9 q10 z0 z1 z2 z3 z4 zf zl
    have AD : Aside (Aft w0 w V W.drew n f frm s cb sb db vw a1 a2 k1 k2 to who kind body pb t b1 b2 ao j1 j2) := AF.out.later ((Below.refl _ W).drew)
    have S0 : Aside (Sto w0 w V (F5 W.drew cb (to * 5) (.bool t.c.echoed) (.bool t.c.readied) (.bool t.c.done) (.slice b1 t.c.echoes.length j1) (.slice b2 t.c.readies.length j2)) n f frm { s with cs := Vt.upd s.cs to t.c } cb sb db vw (Vt.upd a1 to b1) (Vt.upd a2 to b2) (Vt.upd k1 to j1) (Vt.upd k2 to j2) to who kind body t ao) := sto_new X1.out hto SM.out AD.out
    obtain ⟨y0, y1, y2, y3, y4⟩ := AF.out.c.cells
    have x0 := AF.out.ub.talk.p3
    have x1 := AF.out.ub.u0
    have C := AF.out.ub.talk.c to hto
    obtain ⟨c0, c1, c2, c3, c4⟩ := C
    have cf := AF.out.ub.talk.cz
    have xl := AF.out.ub.talk.ord
    have xp := AF.out.pb
    have m0 : cb ≠ w0.heap.size := by omega
    have m1 : cb ≠ w.heap.size := by omega
    have m2 : cb ≠ pb := by omega
    have m3 := m0.symm
    have m4 := m1.symm
    have m5 := m2.symm
    have m6 : cb < W.heap.size := by omega
    clear xl xp AF AD SM
    go_wp2_with fail
    go_region_held3 (fun w' => w'.cell? ⟨w0.heap.size, 3, none⟩ = some (.slice (some ⟨cb, 0, none⟩) n n) ∧ w'.cell? ⟨w.heap.size, 0, none⟩ = some (.int .u8 (to : Int)) ∧ w'.cell? ⟨pb, 0, none⟩ = some (.bool t.c.echoed) ∧ w'.cell? ⟨pb, 1, none⟩ = some (.bool t.c.readied) ∧ w'.cell? ⟨pb, 2, none⟩ = some (.bool t.c.done) ∧ w'.cell? ⟨pb, 3, none⟩ = some (.slice b1 t.c.echoes.length j1) ∧ w'.cell? ⟨pb, 4, none⟩ = some (.slice b2 t.c.readies.length j2))
      (first | go_keep)
      (fail)
    refine (?_ : ∀ W2, Sto w0 w V W2 n f frm { s with cs := Vt.upd s.cs to t.c } cb sb db vw (Vt.upd a1 to b1) (Vt.upd a2 to b2) (Vt.upd k1 to j1) (Vt.upd k2 to j2) to who kind body t ao → Exit.then _ _ _ _ W2) _ S0.out
    intro W2 hS
    have ST : Aside (Sto w0 w V W2 n f frm { s with cs := Vt.upd s.cs to t.c } cb sb db vw (Vt.upd a1 to b1) (Vt.upd a2 to b2) (Vt.upd k1 to j1) (Vt.upd k2 to j2) to who kind body t ao) := hS
    clear hS S0 y0 y1 y2 y3 y4 x0 x1 c0 c1 c2 c3 c4 cf m0 m1 m2 m3 m4 m5 m6
    rcases (show t.is = true ∨ t.is = false by cases t.is <;> simp) with his | his
    · have dn := HD.out.1 his
      rw [his]
      have x0 := ST.out.ub.talk.p5
      have x1 := ST.out.ub.u0
      have x2 := ST.out.ub.talk.d to hto
      have x3 := ST.out.ub.talk.p4
      have x4 := ST.out.ub.talk.t to hto
      dsimp only at x2 x4
      rw [dn] at x2
      have df := ST.out.ub.talk.dz
      have tf := ST.out.ub.talk.tz
      have xl := ST.out.ub.talk.ord
      have xg := ST.out.ub.gt
      have m0 : db ≠ w0.heap.size := by omega
      have m1 : db ≠ w.heap.size := by omega
      have m2 : sb ≠ w0.heap.size := by omega
      have m3 : sb ≠ w.heap.size := by omega
      have m4 : db ≠ sb := by omega
      have n0 := m0.symm
      have n1 := m1.symm
      have n2 := m2.symm
      have n3 := m3.symm
      have n4 := m4.symm
      have S2 : Aside (∀ q, Sto w0 w V (((W2.drewN q).setCell ⟨db, to, none⟩ (.bool true)).setCell ⟨sb, to, none⟩ (.string t.body)) n f frm { s with cs := Vt.upd s.cs to t.c, told := Vt.upd s.told to t.body, done := Vt.upd s.done to true } cb sb db vw (Vt.upd a1 to b1) (Vt.upd a2 to b2) (Vt.upd k1 to j1) (Vt.upd k2 to j2) to who kind body t ao) := fun q => sto_told (ST.out.later (below_drew (Below.refl _ W2) q)) hto t.body
      clear xl xg dn ST
      go_wp2_with fail
      go_quiet (fail)
      go_wp2_with fail
      go_region_held3 (fun w' => w'.cell? ⟨w0.heap.size, 5, none⟩ = some (.slice (some ⟨db, 0, none⟩) n n) ∧ w'.cell? ⟨w0.heap.size, 4, none⟩ = some (.slice (some ⟨sb, 0, none⟩) n n) ∧ w'.cell? ⟨w.heap.size, 0, none⟩ = some (.int .u8 (to : Int)))
        (first | go_keep)
        (fail)
      refine (?_ : ∀ W3, Sto w0 w V W3 n f frm { s with cs := Vt.upd s.cs to t.c, told := Vt.upd s.told to t.body, done := Vt.upd s.done to true } cb sb db vw (Vt.upd a1 to b1) (Vt.upd a2 to b2) (Vt.upd k1 to j1) (Vt.upd k2 to j2) to who kind body t ao → Exit.then _ _ _ _ W3) _ (S2.out _)
      intro W3 hS
      have ST3 : Aside (Sto w0 w V W3 n f frm { s with cs := Vt.upd s.cs to t.c, told := Vt.upd s.told to t.body, done := Vt.upd s.done to true } cb sb db vw (Vt.upd a1 to b1) (Vt.upd a2 to b2) (Vt.upd k1 to j1) (Vt.upd k2 to j2) to who kind body t ao) := hS
      clear hS S2 x0 x1 x2 x3 x4 df tf m0 m1 m2 m3 m4 n0 n1 n2 n3 n4
      go_wp2_with fail

      rcases OO.out with hO | ⟨kk, yy, hO⟩
      · rw [hO] at RT ⊢
        have Q1 : Aside (Q (.returned (.bool true)) W3) := RT.out W3 ⟨Vt.upd s.cs to t.c, Vt.upd s.told to t.body, Vt.upd s.done to true, s.way⟩ (by rw [his]; simp) ⟨_, _, _, _, _, ST3.out.ub.talk⟩ (fun k x y _ => ST3.out.ub.keep k x y)
        clear RT HD OO CA ST3
        go_loopw [10] (fun i wr => i = .int .i64 0 ∧ wr = W3) (fun _ _ => 0)
        case atStart => exact ⟨rfl, rfl⟩
        case round =>
          obtain ⟨rfl, hw⟩ := hrel
          replace hw := hw.symm; subst hw
          go_wp2
          exact Q1.out
      · have AO : Aside (AtO W3 ao [(kk, yy)]) := by have := ST3.out.o; rw [hO] at this; exact this
        obtain ⟨bo, oo, rfl, hoc⟩ : ∃ b off, ao = some ⟨b, off, none⟩ ∧ ∀ (j : Nat) (k : Nat) (y : ByteArray), [(kk, yy)][j]? = some (k, y) → W3.cell? ⟨b, off + j * 2, none⟩ = some (.int .i64 (k : Int)) ∧ W3.cell? ⟨b, off + j * 2 + 1, none⟩ = some (.string y) := by
          rcases AO.out with hh | hh
          · cases hh
          · exact hh
        have o0 : W3.cell? ⟨bo, oo, none⟩ = some (.int .i64 (kk : Int)) := by have := (hoc 0 kk yy rfl).1; simpa using this
        have o1 : W3.cell? ⟨bo, oo + 1, none⟩ = some (.string yy) := by have := (hoc 0 kk yy rfl).2; simpa using this
        have u0 := ST3.out.ub.u0
        have KB : Aside (∀ w9 : World, (∀ k, k < W3.drew.heap.size → k ≠ w0.heap.size → vw.ownBlock ≠ some k → w9.heap[k]? = W3.drew.heap[k]?) → w9.cell? ⟨w.heap.size, 0, none⟩ = some (.int .u8 (to : Int)) ∧ w9.cell? ⟨bo, oo, none⟩ = some (.int .i64 (kk : Int)) ∧ w9.cell? ⟨bo, oo + 1, none⟩ = some (.string yy)) := fun w9 hbk => cast_keeps ST3.out u0 o0 o1 hbk
        have KD : Aside (∀ w9 : World, (∀ k, k < W3.drew.heap.size → k ≠ w0.heap.size → vw.ownBlock ≠ some k → w9.heap[k]? = W3.drew.heap[k]?) → ∀ k, db < k → k < w.heap.size → vw.ownBlock ≠ some k → w9.heap[k]? = w.heap[k]?) := fun w9 hbk => cast_keep2 ST3.out hbk
        have CC : Aside (Calls Try.prog 46 #[.pointer (some ⟨w0.heap.size, 0, none⟩), .int .u8 (to : Nat), .int .i64 (kk : Int), .string yy] W3.drew _) := CA.out (to) (kk : Int) yy _ _ _ _ _ _ W3.drew (by exact HD.out.2) (ST3.out.ub.talk.later ((Below.refl _ W3).drew))
        rw [hO] at RT ⊢
        simp only [List.length_cons, List.length_nil, Nat.zero_add]
        have Q1 : Aside (∀ w' vx, Talk w0 w' n f frm ⟨Vt.upd s.cs to t.c, Vt.upd s.told to t.body, Vt.upd s.done to true, s.way ++ Vt.castL f n to (kk : Int) yy⟩ cb sb db vx (Vt.upd a1 to b1) (Vt.upd a2 to b2) (Vt.upd k1 to j1) (Vt.upd k2 to j2) → (∀ k, db < k → k < w.heap.size → vw.ownBlock ≠ some k → w'.heap[k]? = w.heap[k]?) → Q (.returned (.bool true)) w') := fun w' vx hx hk => RT.out w' ⟨Vt.upd s.cs to t.c, Vt.upd s.told to t.body, Vt.upd s.done to true, s.way ++ Vt.castL f n to (kk : Int) yy⟩ (by rw [his]; simp) ⟨_, _, _, _, _, hx⟩ hk
        clear RT HD OO CA ST3 AO hoc hO
        go_loopw [10] (fun i wr => (i = .int .i64 0 ∧ wr = W3) ∨ (i = .int .i64 1 ∧ Aside (∃ vx, Talk w0 wr n f frm ⟨Vt.upd s.cs to t.c, Vt.upd s.told to t.body, Vt.upd s.done to true, s.way ++ Vt.castL f n to (kk : Int) yy⟩ cb sb db vx (Vt.upd a1 to b1) (Vt.upd a2 to b2) (Vt.upd k1 to j1) (Vt.upd k2 to j2) ∧ ∀ k, db < k → k < w.heap.size → vw.ownBlock ≠ some k → wr.heap[k]? = w.heap[k]?))) (fun i _ => 1 - (intOf i).toNat)
        case atStart => exact .inl ⟨rfl, rfl⟩
        case round =>
          rcases hrel with ⟨rfl, hw⟩ | ⟨rfl, hE⟩
          · replace hw := hw.symm; subst hw
            go_wp2_with fail
            go_region_held3 (fun w' => w'.cell? ⟨w.heap.size, 0, none⟩ = some (.int .u8 (to : Int)) ∧ w'.cell? ⟨bo, oo, none⟩ = some (.int .i64 (kk : Int)) ∧ w'.cell? ⟨bo, oo + 1, none⟩ = some (.string yy))
              (first | go_keep)
              (first
                | (go_at_call 46; refine CC.out.mono ?_; rintro z w9 ⟨rfl, vx, hT, -, hbk, -⟩; have KC := KB.out w9 hbk; have KE := KD.out w9 hbk; clear u0 o0 o1 hbk; obtain ⟨u0, o0, o1⟩ := KC; have HT : Aside (∃ vx, Talk w0 w9 n f frm ⟨Vt.upd s.cs to t.c, Vt.upd s.told to t.body, Vt.upd s.done to true, s.way ++ Vt.castL f n to (kk : Int) yy⟩ cb sb db vx (Vt.upd a1 to b1) (Vt.upd a2 to b2) (Vt.upd k1 to j1) (Vt.upd k2 to j2) ∧ ∀ k, db < k → k < w.heap.size → vw.ownBlock ≠ some k → w9.heap[k]? = w.heap[k]?) := ⟨vx, hT, KE⟩; clear hT KE)
                | fail)
            go_wp2
            go_roundw
            case rel => exact .inr ⟨by go_num, HT.out⟩
            case measure => simp [intOf]
          · obtain ⟨vx, hT, hke⟩ := hE.out
            have Q2 : Aside (Q (.returned (.bool true)) wr) := Q1.out wr vx hT hke
            clear hE hT Q1 CC hke
            go_wp2
            exact Q2.out
      
    · rw [his]
      go_wp2_with fail
      refine (?_ : ∀ W3, Sto w0 w V W3 n f frm { s with cs := Vt.upd s.cs to t.c } cb sb db vw (Vt.upd a1 to b1) (Vt.upd a2 to b2) (Vt.upd k1 to j1) (Vt.upd k2 to j2) to who kind body t ao → Code.wp _ _ _ _ W3) _ ST.out
      intro W3 hS
      have ST3 : Aside (Sto w0 w V W3 n f frm { s with cs := Vt.upd s.cs to t.c } cb sb db vw (Vt.upd a1 to b1) (Vt.upd a2 to b2) (Vt.upd k1 to j1) (Vt.upd k2 to j2) to who kind body t ao) := hS
      clear hS ST

      rcases OO.out with hO | ⟨kk, yy, hO⟩
      · rw [hO] at RT ⊢
        have Q1 : Aside (Q (.returned (.bool true)) W3) := RT.out W3 ⟨Vt.upd s.cs to t.c, s.told, s.done, s.way⟩ (by rw [his]; simp) ⟨_, _, _, _, _, ST3.out.ub.talk⟩ (fun k x y _ => ST3.out.ub.keep k x y)
        clear RT HD OO CA ST3
        go_loopw [10] (fun i wr => i = .int .i64 0 ∧ wr = W3) (fun _ _ => 0)
        case atStart => exact ⟨rfl, rfl⟩
        case round =>
          obtain ⟨rfl, hw⟩ := hrel
          replace hw := hw.symm; subst hw
          go_wp2
          exact Q1.out
      · have AO : Aside (AtO W3 ao [(kk, yy)]) := by have := ST3.out.o; rw [hO] at this; exact this
        obtain ⟨bo, oo, rfl, hoc⟩ : ∃ b off, ao = some ⟨b, off, none⟩ ∧ ∀ (j : Nat) (k : Nat) (y : ByteArray), [(kk, yy)][j]? = some (k, y) → W3.cell? ⟨b, off + j * 2, none⟩ = some (.int .i64 (k : Int)) ∧ W3.cell? ⟨b, off + j * 2 + 1, none⟩ = some (.string y) := by
          rcases AO.out with hh | hh
          · cases hh
          · exact hh
        have o0 : W3.cell? ⟨bo, oo, none⟩ = some (.int .i64 (kk : Int)) := by have := (hoc 0 kk yy rfl).1; simpa using this
        have o1 : W3.cell? ⟨bo, oo + 1, none⟩ = some (.string yy) := by have := (hoc 0 kk yy rfl).2; simpa using this
        have u0 := ST3.out.ub.u0
        have KB : Aside (∀ w9 : World, (∀ k, k < W3.drew.heap.size → k ≠ w0.heap.size → vw.ownBlock ≠ some k → w9.heap[k]? = W3.drew.heap[k]?) → w9.cell? ⟨w.heap.size, 0, none⟩ = some (.int .u8 (to : Int)) ∧ w9.cell? ⟨bo, oo, none⟩ = some (.int .i64 (kk : Int)) ∧ w9.cell? ⟨bo, oo + 1, none⟩ = some (.string yy)) := fun w9 hbk => cast_keeps ST3.out u0 o0 o1 hbk
        have KD : Aside (∀ w9 : World, (∀ k, k < W3.drew.heap.size → k ≠ w0.heap.size → vw.ownBlock ≠ some k → w9.heap[k]? = W3.drew.heap[k]?) → ∀ k, db < k → k < w.heap.size → vw.ownBlock ≠ some k → w9.heap[k]? = w.heap[k]?) := fun w9 hbk => cast_keep2 ST3.out hbk
        have CC : Aside (Calls Try.prog 46 #[.pointer (some ⟨w0.heap.size, 0, none⟩), .int .u8 (to : Nat), .int .i64 (kk : Int), .string yy] W3.drew _) := CA.out (to) (kk : Int) yy _ _ _ _ _ _ W3.drew (by exact HD.out.2) (ST3.out.ub.talk.later ((Below.refl _ W3).drew))
        rw [hO] at RT ⊢
        simp only [List.length_cons, List.length_nil, Nat.zero_add]
        have Q1 : Aside (∀ w' vx, Talk w0 w' n f frm ⟨Vt.upd s.cs to t.c, s.told, s.done, s.way ++ Vt.castL f n to (kk : Int) yy⟩ cb sb db vx (Vt.upd a1 to b1) (Vt.upd a2 to b2) (Vt.upd k1 to j1) (Vt.upd k2 to j2) → (∀ k, db < k → k < w.heap.size → vw.ownBlock ≠ some k → w'.heap[k]? = w.heap[k]?) → Q (.returned (.bool true)) w') := fun w' vx hx hk => RT.out w' ⟨Vt.upd s.cs to t.c, s.told, s.done, s.way ++ Vt.castL f n to (kk : Int) yy⟩ (by rw [his]; simp) ⟨_, _, _, _, _, hx⟩ hk
        clear RT HD OO CA ST3 AO hoc hO
        go_loopw [10] (fun i wr => (i = .int .i64 0 ∧ wr = W3) ∨ (i = .int .i64 1 ∧ Aside (∃ vx, Talk w0 wr n f frm ⟨Vt.upd s.cs to t.c, s.told, s.done, s.way ++ Vt.castL f n to (kk : Int) yy⟩ cb sb db vx (Vt.upd a1 to b1) (Vt.upd a2 to b2) (Vt.upd k1 to j1) (Vt.upd k2 to j2) ∧ ∀ k, db < k → k < w.heap.size → vw.ownBlock ≠ some k → wr.heap[k]? = w.heap[k]?))) (fun i _ => 1 - (intOf i).toNat)
        case atStart => exact .inl ⟨rfl, rfl⟩
        case round =>
          rcases hrel with ⟨rfl, hw⟩ | ⟨rfl, hE⟩
          · replace hw := hw.symm; subst hw
            go_wp2_with fail
            go_region_held3 (fun w' => w'.cell? ⟨w.heap.size, 0, none⟩ = some (.int .u8 (to : Int)) ∧ w'.cell? ⟨bo, oo, none⟩ = some (.int .i64 (kk : Int)) ∧ w'.cell? ⟨bo, oo + 1, none⟩ = some (.string yy))
              (first | go_keep)
              (first
                | (go_at_call 46; refine CC.out.mono ?_; rintro z w9 ⟨rfl, vx, hT, -, hbk, -⟩; have KC := KB.out w9 hbk; have KE := KD.out w9 hbk; clear u0 o0 o1 hbk; obtain ⟨u0, o0, o1⟩ := KC; have HT : Aside (∃ vx, Talk w0 w9 n f frm ⟨Vt.upd s.cs to t.c, s.told, s.done, s.way ++ Vt.castL f n to (kk : Int) yy⟩ cb sb db vx (Vt.upd a1 to b1) (Vt.upd a2 to b2) (Vt.upd k1 to j1) (Vt.upd k2 to j2) ∧ ∀ k, db < k → k < w.heap.size → vw.ownBlock ≠ some k → w9.heap[k]? = w.heap[k]?) := ⟨vx, hT, KE⟩; clear hT KE)
                | fail)
            go_wp2
            go_roundw
            case rel => exact .inr ⟨by go_num, HT.out⟩
            case measure => simp [intOf]
          · obtain ⟨vx, hT, hke⟩ := hE.out
            have Q2 : Aside (Q (.returned (.bool true)) wr) := Q1.out wr vx hT hke
            clear hE hT Q1 CC hke
            go_wp2
            exact Q2.out
      
end Go.Proofs.Ytlekbbpancaenaa
