/- The boxes of the arguments of VoteErrors and VoteTakes, and what Take leaves. -/
import Derived.Test.YtlekbbpancaenaaVtP
import Derived.Test.YtlekbbpancaenaaVtQ
import Derived.Test.YtlekbbpancaenaaVtR
namespace Go.Proofs.Ytlekbbpancaenaa
open Go.RowKit Go.Shelf

/-- The three boxes of the arguments: a case, a place, a vote. -/
structure Boxed (w V : World) (t : TypeId) (e r d : Bool) (s1 s2 : Value) (ms frm : Nat) (kd : Int) (id : Nat) (x : ByteArray) : Prop where
  c0 : V.cell? ⟨w.heap.size, 0, none⟩ = some (.bool e)
  c1 : V.cell? ⟨w.heap.size, 1, none⟩ = some (.bool r)
  c2 : V.cell? ⟨w.heap.size, 2, none⟩ = some (.bool d)
  c3 : V.cell? ⟨w.heap.size, 3, none⟩ = some s1
  c4 : V.cell? ⟨w.heap.size, 4, none⟩ = some s2
  p0 : V.cell? ⟨w.heap.size + 1, 0, none⟩ = some (.int .u16 (ms : Int))
  p1 : V.cell? ⟨w.heap.size + 1, 1, none⟩ = some (.int .u8 (frm : Int))
  v0 : V.cell? ⟨w.heap.size + 2, 0, none⟩ = some (.int .i64 kd)
  v1 : V.cell? ⟨w.heap.size + 2, 1, none⟩ = some (.int .u8 (id : Int))
  v2 : V.cell? ⟨w.heap.size + 2, 2, none⟩ = some (.string x)
  below : Below w.heap.size w V
  size : w.heap.size + 2 < V.heap.size
theorem Boxed.later {w V V' : World} {t : TypeId} {e r d : Bool} {s1 s2 : Value} {ms frm : Nat} {kd : Int} {id : Nat} {x : ByteArray} (h : Boxed w V t e r d s1 s2 ms frm kd id x) (hb : Below V.heap.size V V') : Boxed w V' t e r d s1 s2 ms frm kd id x :=
  ⟨cell_later hb h.c0, cell_later hb h.c1, cell_later hb h.c2, cell_later hb h.c3, cell_later hb h.c4, cell_later hb h.p0, cell_later hb h.p1, cell_later hb h.v0, cell_later hb h.v1, cell_later hb h.v2, below_step h.below hb, Nat.lt_of_lt_of_le h.size hb.size⟩
theorem boxed_new (w : World) (t : TypeId) (e r d : Bool) (s1 s2 : Value) (ms frm : Nat) (kd : Int) (id : Nat) (x : ByteArray) :
    Boxed w (((w.alloc (.cells #[.bool e, .bool r, .bool d, s1, s2] t)).alloc (.cells #[.int .u16 (ms : Int), .int .u8 (frm : Int)] 28)).alloc (.cells #[.int .i64 kd, .int .u8 (id : Int), .string x] 30)) t e r d s1 s2 ms frm kd id x := by
  have b0 : Below w.heap.size w (w.alloc (.cells #[.bool e, .bool r, .bool d, s1, s2] t)) := (Below.refl _ w).alloc (Nat.le_refl _) _
  have g1 : ∀ {W : World} {a : Addr} {v : Value} (o : Obj), W.cell? a = some v → (W.alloc o).cell? a = some v := fun {W} {a} {v} o h => cell_later ((Below.refl _ W).alloc (Nat.le_refl _) o) h
  have n0 : ∀ (W : World) (cs : Array Value) (t : TypeId) (b j : Nat), b = W.heap.size → (W.alloc (.cells cs t)).cell? ⟨b, j, none⟩ = cs[j]? := fun W cs t b j h => by subst h; exact World.cell?_alloc_at _ _ _ _ rfl
  exact ⟨g1 _ (g1 _ (n0 _ _ _ _ 0 rfl)), g1 _ (g1 _ (n0 _ _ _ _ 1 rfl)), g1 _ (g1 _ (n0 _ _ _ _ 2 rfl)), g1 _ (g1 _ (n0 _ _ _ _ 3 rfl)), g1 _ (g1 _ (n0 _ _ _ _ 4 rfl)), g1 _ (n0 _ _ _ _ 0 (by simp)), g1 _ (n0 _ _ _ _ 1 (by simp)), n0 _ _ _ _ 0 (by simp), n0 _ _ _ _ 1 (by simp), n0 _ _ _ _ 2 (by simp), (b0.alloc (by simp) _).alloc (by simp; omega) _, by simp⟩
/-- A case carried to a box behind Take. -/
structure Took (w W : World) (pb : Nat) (t : Vt.Told) (b1 b2 ao : Option Addr) (k1 k2 : Nat) : Prop where
  at_ : CaseIn W pb t.c b1 b2 k1 k2
  outs : AtO W ao t.outs
theorem Took.later {w W W' : World} {pb : Nat} {t : Vt.Told} {b1 b2 ao : Option Addr} {k1 k2 : Nat} (h : Took w W pb t b1 b2 ao k1 k2) (hb : Below W.heap.size W W') : Took w W' pb t b1 b2 ao k1 k2 := ⟨h.at_.later hb, h.outs.later hb⟩
/-- What Take left, and its case stored in a box that lay there. -/
theorem took_old {w0 w4 : World} {pb : Nat} {t : Vt.Told} {b1 b2 ao : Option Addr} {k1 k2 : Nat} {v0 v1 v2 v3 v4 : Value} (hP : C5 w4 pb v0 v1 v2 v3 v4) (t1 : Vt.At w4 b1 t.c.echoes) (t2 : Vt.At w4 b2 t.c.readies) (t3 : AtO w4 ao t.outs) (f1 : Fr w0.heap.size b1) (f2 : Fr w0.heap.size b2) (f3 : Fr w0.heap.size ao) (hlt : pb < w0.heap.size) (w : World) :
    Took w (((((w4.setCell ⟨pb, 0, none⟩ (.bool t.c.echoed)).setCell ⟨pb, 1, none⟩ (.bool t.c.readied)).setCell ⟨pb, 2, none⟩ (.bool t.c.done)).setCell ⟨pb, 3, none⟩ (.slice b1 t.c.echoes.length k1)).setCell ⟨pb, 4, none⟩ (.slice b2 t.c.readies.length k2)) pb t b1 b2 ao k1 k2 := by
  refine ⟨⟨hP.set _ _ _ _ _, at_set5 t1 (fun ad h => .inl (by have := f1 ad h; omega)) _ _ _ _ _, at_set5 t2 (fun ad h => .inl (by have := f2 ad h; omega)) _ _ _ _ _⟩, atO_set5 t3 (fun ad h => .inl (by have := f3 ad h; omega)) _ _ _ _ _⟩
theorem took_new {w4 : World} {t : Vt.Told} {b1 b2 ao : Option Addr} {k1 k2 : Nat} (t1 : Vt.At w4 b1 t.c.echoes) (t2 : Vt.At w4 b2 t.c.readies) (t3 : AtO w4 ao t.outs) (w : World) :
    Took w (w4.alloc (.cells #[.bool t.c.echoed, .bool t.c.readied, .bool t.c.done, .slice b1 t.c.echoes.length k1, .slice b2 t.c.readies.length k2] 35)) w4.heap.size t b1 b2 ao k1 k2 :=
  have hb : Below w4.heap.size w4 (w4.alloc (.cells #[.bool t.c.echoed, .bool t.c.readied, .bool t.c.done, .slice b1 t.c.echoes.length k1, .slice b2 t.c.readies.length k2] 35)) := (Below.refl _ w4).alloc (Nat.le_refl _) _
  ⟨⟨C5.new w4 _ _ _ _ _, t1.later hb, t2.later hb⟩, t3.later hb⟩
theorem cell_far5 {w : World} {b : Nat} {a : Addr} {v : Value} (h : w.cell? a = some v) (hne : a.block ≠ b) (u0 u1 u2 u3 u4 : Value) :
    (((((w.setCell ⟨b, 0, none⟩ u0).setCell ⟨b, 1, none⟩ u1).setCell ⟨b, 2, none⟩ u2).setCell ⟨b, 3, none⟩ u3).setCell ⟨b, 4, none⟩ u4).cell? a = some v := by
  have e : ∀ (W : World) (i : Nat) (u : Value), (W.setCell ⟨b, i, none⟩ u).cell? a = W.cell? a := fun W i u => World.cell?_of_block (Below.heap_setCell _ _ _ _ hne)
  rw [e, e, e, e, e]; exact h
theorem Boxed.set5 {w V : World} {t : TypeId} {e r d : Bool} {s1 s2 : Value} {ms frm : Nat} {kd : Int} {id : Nat} {x : ByteArray} (h : Boxed w V t e r d s1 s2 ms frm kd id x) {b : Nat} (hb : w.heap.size + 2 < b) (u0 u1 u2 u3 u4 : Value) :
    Boxed w (((((V.setCell ⟨b, 0, none⟩ u0).setCell ⟨b, 1, none⟩ u1).setCell ⟨b, 2, none⟩ u2).setCell ⟨b, 3, none⟩ u3).setCell ⟨b, 4, none⟩ u4) t e r d s1 s2 ms frm kd id x :=
  ⟨cell_far5 h.c0 (by show w.heap.size ≠ b; omega) _ _ _ _ _, cell_far5 h.c1 (by show w.heap.size ≠ b; omega) _ _ _ _ _, cell_far5 h.c2 (by show w.heap.size ≠ b; omega) _ _ _ _ _, cell_far5 h.c3 (by show w.heap.size ≠ b; omega) _ _ _ _ _, cell_far5 h.c4 (by show w.heap.size ≠ b; omega) _ _ _ _ _,
   cell_far5 h.p0 (by show w.heap.size + 1 ≠ b; omega) _ _ _ _ _, cell_far5 h.p1 (by show w.heap.size + 1 ≠ b; omega) _ _ _ _ _, cell_far5 h.v0 (by show w.heap.size + 2 ≠ b; omega) _ _ _ _ _, cell_far5 h.v1 (by show w.heap.size + 2 ≠ b; omega) _ _ _ _ _, cell_far5 h.v2 (by show w.heap.size + 2 ≠ b; omega) _ _ _ _ _,
   below_set5 h.below (by omega) _ _ _ _ _, by simp [World.setCell]; exact h.size⟩
theorem Boxed.drew {w V : World} {t : TypeId} {e r d : Bool} {s1 s2 : Value} {ms frm : Nat} {kd : Int} {id : Nat} {x : ByteArray} (h : Boxed w V t e r d s1 s2 ms frm kd id x) (q : Nat) : Boxed w (V.drewN q) t e r d s1 s2 ms frm kd id x :=
  ⟨h.c0, h.c1, h.c2, h.c3, h.c4, h.p0, h.p1, h.v0, h.v1, h.v2, below_drew h.below q, h.size⟩

/-- Take over a case given by its parts. -/
theorem take_parts {e r d : Bool} {l1 l2 : Vt.Bal} {g1 g2 : Option Addr} {j1 j2 ms frm : Nat} {kd : Int} {id : Nat} {x : ByteArray} {W : World} {t : Vt.Told} (ht : Vt.take ⟨e, r, d, l1, l2⟩ ms frm kd id x = t) (q1 : Vt.At W g1 l1) (q2 : Vt.At W g2 l2) (s1 : Vt.Small l1) (s2 : Vt.Small l2) (n1 : l1.length ≤ 20) (n2 : l2.length ≤ 20) (hms : ms < 65536) :
    Calls Try.prog 15 #[.agg #[.bool e, .bool r, .bool d, .slice g1 l1.length j1, .slice g2 l2.length j2], .int .u16 (ms : Nat), .int .u8 (frm : Nat), .int .i64 kd, .int .u8 (id : Nat), .string x] W fun z w' =>
      ∃ b1 k1 b2 k2 ao co, z = .returned (.tuple #[.agg #[.bool t.c.echoed, .bool t.c.readied, .bool t.c.done, .slice b1 t.c.echoes.length k1, .slice b2 t.c.readies.length k2], .slice ao t.outs.length co, .string t.body, .bool t.is, .int .i64 (t.e : Int)]) ∧
        Aside (Vt.At w' b1 t.c.echoes ∧ Vt.At w' b2 t.c.readies ∧ AtO w' ao t.outs ∧ Below W.heap.size W w' ∧ Fr W.heap.size b1 ∧ Fr W.heap.size b2 ∧ Fr W.heap.size ao) :=
  take_let (c := ⟨e, r, d, l1, l2⟩) ht ⟨q1, q2, ⟨s1, s2⟩, Nat.le_trans n1 (by decide), Nat.le_trans n2 (by decide)⟩ hms
theorem theirs_let {e r d : Bool} {l1 l2 : Vt.Bal} {a1 a2 : Option Addr} {c1 c2 : Nat} {W : World} (q1 : Vt.At W a1 l1) (q2 : Vt.At W a2 l2) (n1 : l1.length ≤ 20) (n2 : l2.length ≤ 20) :
    Calls Try.prog 16 #[.agg #[.bool e, .bool r, .bool d, .slice a1 l1.length c1, .slice a2 l2.length c2]] W fun z w' => ∃ g1 j1 g2 j2, z = .returned (.agg #[.bool e, .bool r, .bool d, .slice g1 l1.length j1, .slice g2 l2.length j2]) ∧ Aside (Vt.At w' g1 l1 ∧ Vt.At w' g2 l2 ∧ Below W.heap.size W w') :=
  (theirs_any e r d a1 a2 c1 c2 l1 l2 W q1 q2 (Nat.le_trans n1 (by decide)) (Nat.le_trans n2 (by decide))).mono fun _ _ ⟨g1, j1, g2, j2, h0, h1, h2, h3⟩ => ⟨g1, j1, g2, j2, h0, h1, h2, h3⟩

theorem Boxed.ten {w V : World} {t : TypeId} {e r d : Bool} {s1 s2 : Value} {ms frm : Nat} {kd : Int} {id : Nat} {x : ByteArray} (h : Boxed w V t e r d s1 s2 ms frm kd id x) :
    V.cell? ⟨w.heap.size, 0, none⟩ = some (.bool e) ∧ V.cell? ⟨w.heap.size, 1, none⟩ = some (.bool r) ∧ V.cell? ⟨w.heap.size, 2, none⟩ = some (.bool d) ∧ V.cell? ⟨w.heap.size, 3, none⟩ = some s1 ∧ V.cell? ⟨w.heap.size, 4, none⟩ = some s2 ∧
      V.cell? ⟨w.heap.size + 1, 0, none⟩ = some (.int .u16 (ms : Int)) ∧ V.cell? ⟨w.heap.size + 1, 1, none⟩ = some (.int .u8 (frm : Int)) ∧ V.cell? ⟨w.heap.size + 2, 0, none⟩ = some (.int .i64 kd) ∧ V.cell? ⟨w.heap.size + 2, 1, none⟩ = some (.int .u8 (id : Int)) ∧ V.cell? ⟨w.heap.size + 2, 2, none⟩ = some (.string x) :=
  ⟨h.c0, h.c1, h.c2, h.c3, h.c4, h.p0, h.p1, h.v0, h.v1, h.v2⟩

end Go.Proofs.Ytlekbbpancaenaa
