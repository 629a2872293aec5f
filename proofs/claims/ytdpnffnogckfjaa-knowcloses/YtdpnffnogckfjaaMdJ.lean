/- What place gives. -/
import Derived.Test.YtdpnffnogckfjaaMdI
import Derived.StillTailTactics
namespace Go.Proofs.Ytdpnffnogckfjaa
open Go.RowKit Go.Maps

/-- Blocks that are nobody's that writes stay. -/
structure Free (ω : Tag) (w w' : World) : Prop where
  os : w'.os = w.os
  tape : w'.tape = w.tape
  output : w'.output = w.output
  size : w.heap.size ≤ w'.heap.size
  block : ∀ j, j < w.heap.size → ω j = none → w'.heap[j]? = w.heap[j]?
theorem Free.refl (ω : Tag) (w : World) : Free ω w w := ⟨rfl, rfl, rfl, Nat.le_refl _, fun _ _ _ => rfl⟩
theorem Fix.free {ω : Tag} {w w' : World} (h : Fix ω w w') : Free ω w w' := ⟨h.os, h.tape, h.output, h.size, fun j hj hw => h.block j hj (by rw [hw]; simp)⟩
theorem Free.trans {ω ω' : Tag} {a b c : World} (h : Free ω a b) (e : Ext a ω ω') (k : Free ω' b c) : Free ω a c :=
  ⟨k.os.trans h.os, k.tape.trans h.tape, k.output.trans h.output, Nat.le_trans h.size k.size, fun j hj hw =>
    (k.block j (Nat.lt_of_lt_of_le hj h.size) (by rw [e j hj]; exact hw)).trans (h.block j hj hw)⟩
theorem Free.grown {ω : Tag} {a b : World} {row : Option Nat} (h : a.grownBy b row) (hr : ∀ j, row = some j → j < a.heap.size → ω j ≠ none) : Free ω a b :=
  ⟨h.os, h.tape, h.output, h.size, fun j hj hw => h.block j hj (fun e => hr j e.symm hj hw)⟩
theorem Free.below {ω : Tag} {w w' : World} (h : Below w.heap.size w w') : Free ω w w' := ⟨h.os, h.tape, h.output, h.size, fun j hj _ => h.block j hj⟩

/-- What is in view, and what of it. -/
abbrev Vs := List (List UInt8) × (List UInt8 → Sg)
/-- One whole more at a part. -/
def edgeM (t : List UInt8) (m : Vs) (p : List UInt8) : Vs := (addV m.1 p, updS m.2 p (more (at0 m.1 m.2 p) t))
def edgesM (t : List UInt8) (m : Vs) (ps : List (List UInt8)) : Vs := ps.foldl (edgeM t) m
theorem edgesM_snoc (t p : List UInt8) (m : Vs) (ps : List (List UInt8)) : edgesM t m (ps ++ [p]) = edgeM t (edgesM t m ps) p := by unfold edgesM; rw [List.foldl_append]; rfl
/-- One term more, by itself. -/
def newM (t : List UInt8) (m : Vs) : Vs := (addV m.1 t, updS m.2 t ⟨Tm.kindOf t, Tm.partsOf t, []⟩)

/-- A mind's whole state. -/
structure Mst where
  m : Vs
  σ : St
def plc (M : Mst) (t : List UInt8) : Mst :=
  if t ∈ M.m.1 then M else ⟨edgesM t (newM t M.m) (Tm.partsOf t), if Tm.kindOf t = 99 then lrn M.σ t else M.σ⟩
def MindAt (ω : Tag) (w : World) (pm bv bk : Nat) (M : Mst) : Prop := Kn ω w pm bv bk M.σ ∧ ViewG ω w bv M.m.1 M.m.2

def PlacePost (ω : Tag) (pm bv bk : Nat) (w : World) (M : Mst) (e : Ending) (w' : World) : Prop :=
  e = .returned (.tuple #[]) ∧ ∃ ω', MindAt ω' w' pm bv bk M ∧ Ext w ω ω' ∧ Free ω w w'

/-- No more than so much is put down. -/
def Small (m : Vs) (c : Nat) : Prop := m.1.length ≤ c ∧ ∀ p, (at0 m.1 m.2 p).ws.length ≤ c
theorem addV_len (V : List (List UInt8)) (p : List UInt8) : (addV V p).length ≤ V.length + 1 := by
  unfold addV; split <;> simp
theorem at0_upd (V : List (List UInt8)) (S : List UInt8 → Sg) (p q : List UInt8) (x : Sg) : at0 (addV V p) (updS S p x) q = if q = p then x else at0 V S q := by
  unfold at0 updS
  by_cases h : q = p
  · subst h; rw [if_pos (mem_addV.2 (.inr rfl)), if_pos rfl, if_pos rfl]
  · by_cases hv : q ∈ V
    · rw [if_pos (mem_addV.2 (.inl hv)), if_neg h, if_neg h, if_pos hv]
    · rw [if_neg (fun e => by rcases mem_addV.1 e with e | e <;> contradiction), if_neg h, if_neg hv]
theorem Small.edge {m : Vs} {c : Nat} (h : Small m c) (t p : List UInt8) : Small (edgeM t m p) (c + 1) := by
  refine ⟨Nat.le_trans (addV_len _ _) (by have := h.1; omega), fun q => ?_⟩
  unfold edgeM
  rw [at0_upd]
  split
  · unfold more
    have := h.2 p
    simp; exact this
  · have := h.2 q; omega
theorem Small.mono {m : Vs} {c d : Nat} (h : Small m c) (e : c ≤ d) : Small m d := ⟨Nat.le_trans h.1 e, fun p => Nat.le_trans (h.2 p) e⟩
theorem Small.edges {m : Vs} {c : Nat} (h : Small m c) (t : List UInt8) (ps : List (List UInt8)) : Small (edgesM t m ps) (c + ps.length) := by
  induction ps generalizing m c with
  | nil => exact h
  | cons p ps ih => exact (ih (h.edge t p)).mono (by simp; omega)
theorem Small.new {m : Vs} {c : Nat} (h : Small m c) (t : List UInt8) : Small (newM t m) (c + 1) := by
  refine ⟨Nat.le_trans (addV_len _ _) (by have := h.1; omega), fun q => ?_⟩
  unfold newM
  rw [at0_upd]
  split
  · simp
  · have := h.2 q; omega
theorem Small.plc {M : Mst} {c : Nat} (h : Small M.m c) (t : List UInt8) : Small (plc M t).m (c + 3) := by
  unfold Ytdpnffnogckfjaa.plc
  split
  · exact h.mono (by omega)
  · exact ((h.new t).edges t (Tm.partsOf t)).mono (by have := Tm.parts_few t; omega)

theorem ViewG.look_ok {ω : Tag} {w : World} {bv : Nat} {V : List (List UInt8)} {S : List UInt8 → Sg} (h : ViewG ω w bv V S) (t : List UInt8) (hl : t.length ≤ 2000) :
    ∃ kk pa pc wa wc n m, (Instr.lookup 59 (.map (some bv)) (str t) true).run Try.prog w = .ok (.tuple #[.agg #[.int .u8 kk, .slice pa n pc, .slice wa m wc], .bool (decide (t ∈ V))]) w := by
  obtain ⟨g, h1, h2, h3⟩ := h
  have hr := h1.look_ok (t := 59) Try.underlying59 zero79 hl
  unfold vmapG at hr
  by_cases ht : t ∈ V
  · rw [if_pos ht] at hr
    obtain ⟨⟨a1, a2⟩, a3, a4⟩ := h3 t ht
    obtain ⟨pa, pc, e1, _, _, b1⟩ := owns_strs a1
    obtain ⟨wa, wc, e2, _, _, b2⟩ := owns_strs a3
    refine ⟨((S t).k.toNat : Int), pa, pc, wa, wc, (S t).ps.length, (S t).ws.length, ?_⟩
    rw [hr, decide_eq_true ht]
    unfold sgv
    rw [e1, e2]; rfl
  · rw [if_neg ht] at hr
    refine ⟨0, none, 0, none, 0, 0, 0, ?_⟩
    rw [hr, decide_eq_false ht]
    rfl

theorem bd79 (k : Int) (a : Option Addr) (n c : Nat) (w : World) : (Instr.build 79 #[(0, .int .u8 k), (1, .slice a n c)]).run Try.prog w = .ok (.agg #[.int .u8 k, .slice a n c, .slice none 0 0]) w := run_build w 79 _ _ (by kernel_rfl)

theorem MindAt.kept {ω ω' : Tag} {w w' : World} {pm bv bk : Nat} {M : Mst} (h : MindAt ω w pm bv bk M) (hs : ∀ j, j < w.heap.size → w'.heap[j]? = w.heap[j]?) (he : Ext w ω ω') : MindAt ω' w' pm bv bk M :=
  ⟨h.1.kept (fun j hj _ => hs j hj) he, h.2.kept (fun j hj _ => hs j hj) he⟩

set_option maxHeartbeats 8000000 in
/-- Where the term is in view already. -/
theorem place_seen (ω : Tag) (pm bv bk : Nat) (M : Mst) (t : List UInt8) (w : World) (h : MindAt ω w pm bv bk M) (hl : t.length ≤ 2000) (ht : t ∈ M.m.1) :
    Calls Try.prog 51 #[.pointer (some ⟨pm, 0, none⟩), str t] w (PlacePost ω pm bv bk w (plc M t)) := by
  have a0 := h.1.cells.1
  obtain ⟨kk, pa, pc, wa, wc, n, m, hr⟩ := h.2.look_ok t hl
  rw [decide_eq_true ht] at hr
  have Q1 : Aside (∀ o, PlacePost ω pm bv bk w (plc M t) (.returned (.tuple #[])) (w.alloc o)) := by
    intro o
    refine ⟨rfl, ω, ?_, Ext.refl _ _, (Fix.alloc ω w o).free⟩
    unfold plc; rw [if_pos ht]
    exact h.kept (fun j hj => Below.heap_alloc _ _ _ hj) (Ext.refl _ _)
  generalize PlacePost ω pm bv bk w (plc M t) = Q at Q1 ⊢
  clear h ht hl
  unfold str at hr ⊢
  generalize (⟨t.toArray⟩ : ByteArray) = x at *
  go_enter Try.func51, Try.ntmps51
  go_wp2
  exact ⟨rfl, .tuple #[], results_none rfl _ _ _, Q1.out _⟩

end Go.Proofs.Ytdpnffnogckfjaa
