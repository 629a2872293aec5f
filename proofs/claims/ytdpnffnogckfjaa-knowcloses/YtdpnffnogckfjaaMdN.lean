/- What see gives. -/
import Derived.Test.YtdpnffnogckfjaaMdM
namespace Go.Proofs.Ytdpnffnogckfjaa
open Go.RowKit Go.Maps Go.Shelf
attribute [local go_sem] Oper.semAt_some

def seeM (M : Mst) (t : List UInt8) : Mst := (Tm.subsOf t).reverse.foldl plc M
def SeePost (ω : Tag) (pm bv bk : Nat) (w : World) (M : Mst) (t : List UInt8) (e : Ending) (w' : World) : Prop :=
  e = .returned (.int .i64 (Tm.chk t : Nat)) ∧ ∃ ω', MindAt ω' w' pm bv bk (seeM M t) ∧ Ext w ω ω' ∧ Free ω w w'

/-- A mind's blocks are cells, and its two maps. -/
theorem MindAt.retag {ω ω' : Tag} {w : World} {pm bv bk : Nat} {M : Mst} (h : MindAt ω w pm bv bk M) (he : ∀ j, j = bk ∨ j = bv ∨ (∃ c t f, w.heap[j]? = some (.cells c t f)) → ω' j = ω j) : MindAt ω' w pm bv bk M := by
  obtain ⟨⟨fs, h1, h2, h3, h4, h5, h6⟩, g, v1, v2, v3⟩ := h
  have hrow : ∀ {n : Nat} {u : Value} {xs : List Value}, w.ownsRow 0 23 1 u n xs → ∀ j, u.ownBlock = some j → ω' j = ω j := fun hu j hj => by
    obtain ⟨cur, hc⟩ := row_block hu hj
    exact he j (.inr (.inr ⟨_, _, _, hc⟩))
  refine ⟨⟨fs, h1, (he _ (.inr (.inr ⟨_, _, _, h1⟩))).trans h2, (he _ (.inl rfl)).trans h3, h4, h5, fun j hj => (hrow h5 j hj).trans (h6 j hj)⟩, g, v1, (he _ (.inr (.inl rfl))).trans v2, fun s hs => ?_⟩
  obtain ⟨⟨a1, a2⟩, a3, a4⟩ := v3 s hs
  exact ⟨⟨a1, fun j hj => (hrow a1 j hj).trans (a2 j hj)⟩, a3, fun j hj => (hrow a3 j hj).trans (a4 j hj)⟩
theorem MindAt.own {ω : Tag} {w w' : World} {pm bv bk B : Nat} {M : Mst} {row : Option Nat} (h : MindAt ω w pm bv bk M) (hg : w.grownBy w' row) (hr : ∀ r, row = some r → B ≤ r ∧ ∃ o : Obj, w.heap[r]? = some o ∧ o.isCells = false) (hv : bv < B) (hk : bk < B) : MindAt ω w' pm bv bk M := by
  have hcell : ∀ (j : Nat) (c : Array Value) (t : TypeId) (f : Nat × Nat), w.heap[j]? = some (.cells c t f) → w'.heap[j]? = w.heap[j]? := fun j c t f hj => hg.block j (Array.getElem?_eq_some_iff.1 hj).1 (fun e => by
    obtain ⟨_, o, ho, hc⟩ := hr j e.symm
    rw [hj] at ho
    cases ho
    cases hc)
  have hlow : ∀ j, j < w.heap.size → j < B → w'.heap[j]? = w.heap[j]? := fun j hj hB => hg.block j hj (fun e => by
    have := (hr j e.symm).1
    omega)
  have hrow : ∀ {n : Nat} {u : Value} {xs : List Value}, w.ownsRow 0 23 1 u n xs → w'.ownsRow 0 23 1 u n xs := fun hu => row_kept hu (fun j hj => by
    obtain ⟨cur, hc⟩ := row_block hu hj
    exact hcell j _ _ _ hc)
  obtain ⟨⟨fs, h1, h2, h3, h4, h5, h6⟩, g, v1, v2, v3⟩ := h
  refine ⟨⟨fs, (hcell _ _ _ _ h1).trans h1, h2, h3, h4.kept (hlow _ h4.lt hk), hrow h5, h6⟩, g, v1.kept (hlow _ v1.lt hv), v2, fun s hs => ?_⟩
  obtain ⟨⟨a1, a2⟩, a3, a4⟩ := v3 s hs
  exact ⟨⟨hrow a1, a2⟩, hrow a3, a4⟩

set_option maxRecDepth 100000 in
set_option maxHeartbeats 4000000 in
theorem see_bad (ω : Tag) (pm bv bk : Nat) (M : Mst) (t : List UInt8) (w : World) (h : MindAt ω w pm bv bk M) (h0 : Tm.chk t ≠ 0) :
    Calls Try.prog 32 #[.pointer (some ⟨pm, 0, none⟩), str t] w (SeePost ω pm bv bk w M t) := by
  refine (callsIn_wide (n := 3)).1 ?_
  have SB : Aside (∀ w1, Calls Try.prog 49 #[str t] w1 (SubsPost t w1)) := fun w1 => subs_any ⟨t.toArray⟩ w1
  have Q1 : Aside (∀ o w2, Below (w.alloc o).heap.size (w.alloc o) w2 → SeePost ω pm bv bk w M t (.returned (.int .i64 (Tm.chk t : Nat))) w2) := by
    intro o w2 hb
    have hbl : ∀ j, j < w.heap.size → w2.heap[j]? = w.heap[j]? := fun j hj => (hb.block j (by simp; omega)).trans (Below.heap_alloc _ _ _ hj)
    refine ⟨rfl, ω, ?_, Ext.refl _ _, (Fix.alloc ω w o).free.trans (Ext.refl _ _) (Free.below hb)⟩
    unfold seeM
    rw [Tm.subsOf_err h0]
    exact h.kept hbl (Ext.refl _ _)
  generalize SeePost ω pm bv bk w M t = Q at Q1 ⊢
  have t1 : (((Tm.chk t : Nat) : Int) != 0) = true := by
    have : ¬ ((Tm.chk t : Nat) : Int) = 0 := by omega
    simpa using this
  clear h h0
  unfold str at SB ⊢
  generalize (⟨t.toArray⟩ : ByteArray) = x at *
  refine callsIn_of_wp_marks Try.func32 rfl trivial ?_ rfl
  simp only [Try.ntmps32, List.size_toArray, List.length_cons, List.length_nil, Nat.reduceAdd, Nat.reduceSub, Array.replicate_succ, Array.replicate_zero, List.push_toArray, List.append_toArray, List.nil_append, List.cons_append]
  gi_wp2_with fail
  refine ⟨trivial, (callsIn_wide.2 (SB.out _)).mono ?_⟩
  rintro e w2 ⟨v, rfl, ho, hb⟩
  have Q2 := Q1.out _ w2 hb
  obtain ⟨a, cap, rfl, -⟩ := owns_strs ho
  clear SB Q1 ho hb
  generalize Tm.chk t = c at *
  generalize (Tm.subsOf t).length = sl at *
  gi_wp2
  refine ⟨.int .i64 (c : Nat), ?_, Q2⟩
  simp [results, Try.results32, go_sem]

/-- What the loop over what is in a term keeps. -/
def SeeInv (ω : Tag) (pm bv bk : Nat) (w W3 : World) (M : Mst) (Bm Bs b : Nat) (pre : List Item) (W : World) : Prop :=
  ∃ ω', MindAt ω' W pm bv bk (pre.foldl (fun M x => plc M x.1.2) M) ∧ Ext w ω ω' ∧ Free ω w W ∧ W3.heap.size ≤ W.heap.size ∧
    (ω' Bm = none ∧ W.heap[Bm]? = W3.heap[Bm]?) ∧ (ω' Bs = none ∧ W.heap[Bs]? = W3.heap[Bs]?) ∧ (ω' b = none ∧ W.heap[b]? = W3.heap[b]?)

theorem seeInv_own {ω : Tag} {pm bv bk : Nat} {w W3 : World} {M : Mst} {Bm Bs b : Nat} (h : bv < w.heap.size ∧ bk < w.heap.size) (hs : w.heap.size ≤ W3.heap.size) (h1 : Bm < W3.heap.size) (h2 : Bs < W3.heap.size) (h3 : b < W3.heap.size) :
    OwnFrom W3.heap.size (SeeInv ω pm bv bk w W3 M Bm Bs b) := by
  intro pre W W' row hI hg hr
  obtain ⟨ω', m1, e1, f1, s1, ⟨a1, a2⟩, ⟨b1, b2⟩, ⟨c1, c2⟩⟩ := hI
  have hlow : ∀ j, j < W3.heap.size → W'.heap[j]? = W.heap[j]? := fun j hj => hg.block j (by omega) (fun e => by have := (hr j e.symm).1; omega)
  refine ⟨ω', m1.own hg hr (by omega) (by omega), e1, ?_, Nat.le_trans s1 hg.size, ⟨a1, (hlow _ h1).trans a2⟩, ⟨b1, (hlow _ h2).trans b2⟩, ⟨c1, (hlow _ h3).trans c2⟩⟩
  exact ⟨hg.os.trans f1.os, hg.tape.trans f1.tape, hg.output.trans f1.output, Nat.le_trans f1.size hg.size, fun j hj hw => (hlow j (by omega)).trans (f1.block j hj hw)⟩

/-- One round, by what place gives. -/
theorem seeInv_step {ω : Tag} {pm bv bk : Nat} {w W3 : World} {M : Mst} {Bm Bs b : Nat} {pre : List Item} {x : Item} {W : World} (hv : bv < w.heap.size ∧ bk < w.heap.size) (hs : w.heap.size ≤ W3.heap.size) (h1 : Bm < W3.heap.size) (h2 : Bs < W3.heap.size) (h3 : b < W3.heap.size)
    (hI : SeeInv ω pm bv bk w W3 M Bm Bs b pre W) :
    ∃ ω1, MindAt ω1 W pm bv bk (pre.foldl (fun M x => plc M x.1.2) M) ∧ ∀ W' e, PlacePost ω1 pm bv bk W (plc (pre.foldl (fun M x => plc M x.1.2) M) x.1.2) e W' →
      e = .returned (.tuple #[]) ∧ KeepsFrom W3.heap.size W W' ∧ Two Bs b W W' ∧ SeeInv ω pm bv bk w W3 M Bm Bs b (pre ++ [x]) W' := by
  obtain ⟨ω', m1, e1, f1, s1, ⟨a1, a2⟩, ⟨b1, b2⟩, ⟨c1, c2⟩⟩ := hI
  obtain ⟨ω1, hω1⟩ : ∃ ω1 : Tag, ∀ j, (W3.heap.size ≤ j → ¬ (∃ c t f, W.heap[j]? = some (.cells c t f)) → ω1 j = none) ∧ (j < W3.heap.size ∨ (∃ c t f, W.heap[j]? = some (.cells c t f)) → ω1 j = ω' j) := by
    classical
    refine ⟨fun j => if W3.heap.size ≤ j ∧ ¬ (∃ c t f, W.heap[j]? = some (.cells c t f)) then none else ω' j, fun j => ⟨fun a b => if_pos ⟨a, b⟩, fun h => if_neg ?_⟩⟩
    rintro ⟨a, b⟩
    rcases h with h | h
    · omega
    · exact b h
  have hlow : ∀ j, j < W3.heap.size → ω1 j = ω' j := fun j hj => (hω1 j).2 (.inl hj)
  refine ⟨ω1, m1.retag (fun j hj => ?_), ?_⟩
  · rcases hj with rfl | rfl | hj
    · exact hlow _ (by omega)
    · exact hlow _ (by omega)
    · exact (hω1 j).2 (.inr hj)
  · rintro W' e ⟨he, ω2, m2, e2, f2⟩
    have hkeep : ∀ j, j < W3.heap.size → ω' j = none → W'.heap[j]? = W.heap[j]? := fun j hj hw => f2.block j (by omega) ((hlow j hj).trans hw)
    refine ⟨he, ⟨f2.size, fun k o hB hk ho => ?_⟩, ⟨hkeep _ h2 b1, hkeep _ h3 c1⟩, ω2, ?_, ?_, ?_, Nat.le_trans s1 f2.size, ⟨?_, (hkeep _ h1 a1).trans a2⟩, ⟨?_, (hkeep _ h2 b1).trans b2⟩, ⟨?_, (hkeep _ h3 c1).trans c2⟩⟩
    · refine (f2.block k (Array.getElem?_eq_some_iff.1 hk).1 ((hω1 k).1 hB ?_)).trans hk
      rintro ⟨c, t, f, hc⟩
      rw [hk] at hc; cases hc; cases ho
    · rw [List.foldl_append]; exact m2
    · intro j hj
      rw [e2 j (by have := f1.size; omega), hlow j (by omega), e1 j hj]
    · refine ⟨f2.os.trans f1.os, f2.tape.trans f1.tape, f2.output.trans f1.output, Nat.le_trans f1.size f2.size, fun j hj hw => ?_⟩
      rw [f2.block j (by have := f1.size; omega) (by rw [hlow j (by omega), e1 j hj]; exact hw)]
      exact f1.block j hj hw
    · rw [e2 _ (by omega), hlow _ h1]; exact a1
    · rw [e2 _ (by omega), hlow _ h2]; exact b1
    · rw [e2 _ (by omega), hlow _ h3]; exact c1

theorem plc_sizes (M : Mst) (t : List UInt8) : (plc M t).σ.1.length ≤ M.σ.1.length + 1 ∧ (plc M t).σ.2.length ≤ M.σ.2.length + 1 := by
  unfold plc
  split
  · omega
  · have := lrn_len M.σ t
    dsimp only
    split
    · exact this
    · omega
theorem fold_sizes (pre : List Item) {M : Mst} {c : Nat} (h : Small M.m c) : Small (pre.foldl (fun M x => plc M x.1.2) M).m (c + 3 * pre.length) ∧ (pre.foldl (fun M x => plc M x.1.2) M).σ.1.length ≤ M.σ.1.length + pre.length ∧ (pre.foldl (fun M x => plc M x.1.2) M).σ.2.length ≤ M.σ.2.length + pre.length := by
  induction pre generalizing M c with
  | nil => exact ⟨h, Nat.le_refl _, Nat.le_refl _⟩
  | cons x pre ih =>
    obtain ⟨h1, h2, h3⟩ := ih (h.plc x.1.2)
    have := plc_sizes M x.1.2
    simp only [List.foldl_cons, List.length_cons]
    exact ⟨h1.mono (by omega), by omega, by omega⟩

end Go.Proofs.Ytdpnffnogckfjaa
