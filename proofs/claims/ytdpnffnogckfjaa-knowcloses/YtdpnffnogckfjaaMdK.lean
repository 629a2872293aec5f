/- What place gives of a term that was not in view. -/
import Derived.Test.YtdpnffnogckfjaaMdJ
namespace Go.Proofs.Ytdpnffnogckfjaa
open Go.RowKit Go.Maps

/-- What the loop over the parts keeps. -/
def PlaceInv (ω : Tag) (pm bv bk : Nat) (w : World) (m : Vs) (σ : St) (pa : Option Addr) (n pc : Nat) (ps : List (List UInt8)) (wr : World) : Prop :=
  ∃ ω', Kn ω' wr pm bv bk σ ∧ ViewG ω' wr bv m.1 m.2 ∧ Ext w ω ω' ∧ Free ω w wr ∧ AtS wr pa ps ∧ ∀ b, Value.ownBlock (.slice pa n pc) = some b → ω' b = none ∧ b < wr.heap.size

theorem place_begin {ω : Tag} {pm bv bk : Nat} {M : Mst} {t : List UInt8} {w w1 w2 : World} {v : Value} (h : MindAt ω w pm bv bk M) (ht : t ∉ M.m.1) (hl : t.length ≤ 2000) (hVl : M.m.1.length ≤ 8000000)
    (h1 : w.grownBy w1 none) (hb : Below w1.heap.size w1 w2) (ho : w2.ownsRow w1.heap.size 23 1 v (Tm.partsOf t).length (strs (Tm.partsOf t))) :
    ∃ pa pc w3, v = .slice pa (Tm.partsOf t).length pc ∧ (Instr.mapUpdate 59 (.map (some bv)) (str t) (sgv ⟨Tm.kindOf t, Tm.partsOf t, []⟩ (v, .slice none 0 0))).run Try.prog w2 = .ok () w3 ∧
      PlaceInv ω pm bv bk w (newM t M.m) M.σ pa (Tm.partsOf t).length pc (Tm.partsOf t) w3 ∧ w2.cell? ⟨pm, 0, none⟩ = some (.map (some bv)) := by
  have hk1 : MindAt ω w1 pm bv bk M := h.kept (fun j hj => h1.block j hj (by simp)) (Ext.refl _ _)
  obtain ⟨w3, hr, hg, hv3⟩ := hk1.2.add ht hl hVl hb ho
  obtain ⟨pa, pc, rfl, _, _, hat⟩ := owns_strs ho
  have hbv : ω bv = some (some []) := by obtain ⟨g, _, h2, _⟩ := hk1.2; exact h2
  have lbv : bv < w1.heap.size := by obtain ⟨g, h2, _⟩ := hk1.2; exact h2.lt
  have hext : Ext w1 ω (fun j => if j < w1.heap.size then ω j else none) := fun j hj => if_pos hj
  have hblock : ∀ j, j < w1.heap.size → j ≠ bv → w3.heap[j]? = w1.heap[j]? := fun j hj hne => (hg.block j (by have := hb.size; omega) (fun e => hne (by simpa using e))).trans (hb.block j hj)
  refine ⟨pa, pc, w3, rfl, hr, ⟨_, ?_, hv3, ?_, ?_, ?_, ?_⟩, ?_⟩
  · refine hk1.1.kept (fun j hj hw => hblock j hj (fun e => ?_)) hext
    subst e; rw [hbv] at hw; cases hw
  · exact (Ext.refl w ω).trans h1.size hext
  · refine (Free.grown (ω := ω) h1 (fun _ e => by cases e)).trans (Ext.refl _ _) ?_
    exact ⟨hg.os.trans hb.os, hg.tape.trans hb.tape, hg.output.trans hb.output, Nat.le_trans hb.size hg.size, fun j hj hw => hblock j hj (fun e => by subst e; rw [hbv] at hw; cases hw)⟩
  · have ho3 : w3.ownsRow w1.heap.size 23 1 (.slice pa (Tm.partsOf t).length pc) (Tm.partsOf t).length (strs (Tm.partsOf t)) := ho.kept hg (.inr (by
      intro e
      have := (ho.lt bv e).1
      omega))
    obtain ⟨a, c, e, _, _, hat3⟩ := owns_strs ho3
    simp only [Value.slice.injEq] at e
    obtain ⟨rfl, _, _⟩ := e
    exact hat3
  · intro b hb2
    have := ho.lt b hb2
    refine ⟨?_, by have := hg.size; omega⟩
    show (if b < w1.heap.size then ω b else none) = none
    rw [if_neg (by omega)]
  · have c0 := hk1.1.cells.1
    exact cell_later hb c0

theorem box_cells {w : World} {b : Nat} {x y z : Value} (h : w.heap[b]? = some (.cells #[x, y, z] 79 (0, 0))) : w.cell? ⟨b, 0, none⟩ = some x ∧ w.cell? ⟨b, 1, none⟩ = some y ∧ w.cell? ⟨b, 2, none⟩ = some z ∧ w.frozen? ⟨b, 2, none⟩ = false := by
  refine ⟨by rw [cell_of_row w b 0 _ _ _ h]; rfl, by rw [cell_of_row w b 1 _ _ _ h]; rfl, by rw [cell_of_row w b 2 _ _ _ h]; rfl, by simp [World.frozen?, h]⟩
theorem box_set {w : World} {b : Nat} {x y z v : Value} (h : w.heap[b]? = some (.cells #[x, y, z] 79 (0, 0))) : (w.setCell ⟨b, 2, none⟩ v).heap[b]? = some (.cells #[x, y, v] 79 (0, 0)) := by
  unfold World.setCell
  simp only
  rw [Array.getElem?_modify, if_pos rfl, h]
  rfl

theorem place_edge {ω : Tag} {pm bv bk : Nat} {w wr : World} {m : Vs} {σ : St} {pa : Option Addr} {n pc : Nat} {ps : List (List UInt8)} (p t : List UInt8)
    (hi : PlaceInv ω pm bv bk w m σ pa n pc ps wr) (hl : p.length ≤ 2000) (hVl : m.1.length ≤ 8000000) :
    ∃ pa2 pc2 wa wc, (Instr.lookup 59 (.map (some bv)) (str p) false).run Try.prog wr = .ok (.agg #[.int .u8 ((at0 m.1 m.2 p).k.toNat : Int), .slice pa2 (at0 m.1 m.2 p).ps.length pc2, .slice wa (at0 m.1 m.2 p).ws.length wc]) wr ∧
      wr.cell? ⟨pm, 0, none⟩ = some (.map (some bv)) ∧ wr.ownsRow 0 23 1 (.slice wa (at0 m.1 m.2 p).ws.length wc) (at0 m.1 m.2 p).ws.length (strs (at0 m.1 m.2 p).ws) ∧
      ∀ (w3 : World) (va : Option Addr) (vc : Nat), ((wr.alloc (.cells #[.int .u8 ((at0 m.1 m.2 p).k.toNat : Int), .slice pa2 (at0 m.1 m.2 p).ps.length pc2, .slice wa (at0 m.1 m.2 p).ws.length wc] 79)).alloc (.cells #[str t] 23)).grownBy w3 (Value.ownBlock (.slice wa (at0 m.1 m.2 p).ws.length wc)) →
        w3.ownsRow 0 23 1 (.slice va ((at0 m.1 m.2 p).ws.length + 1) vc) ((at0 m.1 m.2 p).ws.length + 1) (strs (at0 m.1 m.2 p).ws ++ [str t]) →
        (Value.ownBlock (.slice va ((at0 m.1 m.2 p).ws.length + 1) vc) = Value.ownBlock (.slice wa (at0 m.1 m.2 p).ws.length wc) ∨ Value.ownBlock (.slice va ((at0 m.1 m.2 p).ws.length + 1) vc) = some (wr.heap.size + 1 + 1)) →
        (w3.cell? ⟨wr.heap.size, 2, none⟩ = some (.slice wa (at0 m.1 m.2 p).ws.length wc) ∧ w3.frozen? ⟨wr.heap.size, 2, none⟩ = false) ∧
        ((w3.setCell ⟨wr.heap.size, 2, none⟩ (.slice va ((at0 m.1 m.2 p).ws.length + 1) vc)).cell? ⟨wr.heap.size, 0, none⟩ = some (.int .u8 ((at0 m.1 m.2 p).k.toNat : Int)) ∧
         (w3.setCell ⟨wr.heap.size, 2, none⟩ (.slice va ((at0 m.1 m.2 p).ws.length + 1) vc)).cell? ⟨wr.heap.size, 1, none⟩ = some (.slice pa2 (at0 m.1 m.2 p).ps.length pc2) ∧
         (w3.setCell ⟨wr.heap.size, 2, none⟩ (.slice va ((at0 m.1 m.2 p).ws.length + 1) vc)).cell? ⟨wr.heap.size, 2, none⟩ = some (.slice va ((at0 m.1 m.2 p).ws.length + 1) vc)) ∧
        (w3.setCell ⟨wr.heap.size, 2, none⟩ (.slice va ((at0 m.1 m.2 p).ws.length + 1) vc)).cell? ⟨pm, 0, none⟩ = some (.map (some bv)) ∧
        ∃ w5, (Instr.mapUpdate 59 (.map (some bv)) (str p) (.agg #[.int .u8 ((at0 m.1 m.2 p).k.toNat : Int), .slice pa2 (at0 m.1 m.2 p).ps.length pc2, .slice va ((at0 m.1 m.2 p).ws.length + 1) vc])).run Try.prog (w3.setCell ⟨wr.heap.size, 2, none⟩ (.slice va ((at0 m.1 m.2 p).ws.length + 1) vc)).drew = .ok () w5 ∧
          PlaceInv ω pm bv bk w (edgeM t m p) σ pa n pc ps w5 := by
  obtain ⟨ω1, k1, v1, e1, f1, at1, own1⟩ := hi
  obtain ⟨pa2, pc2, wa, wc, hr, hrow, htag, hstep⟩ := v1.edge p t hl hVl
  refine ⟨pa2, pc2, wa, wc, hr, k1.cells.1, hrow, ?_⟩
  intro w3 va vc hg hrow3 hat
  have hwb : ∀ j, Value.ownBlock (.slice wa (at0 m.1 m.2 p).ws.length wc) = some j → j < wr.heap.size := fun j hj => (hrow.lt j hj).2
  have hbox : w3.heap[wr.heap.size]? = some (.cells #[.int .u8 ((at0 m.1 m.2 p).k.toNat : Int), .slice pa2 (at0 m.1 m.2 p).ps.length pc2, .slice wa (at0 m.1 m.2 p).ws.length wc] 79 (0, 0)) := by
    rw [hg.block wr.heap.size (by simp; omega) (fun e => by have := hwb _ e.symm; omega), Below.heap_alloc _ _ _ (by simp)]
    exact heap_alloc_new wr _
  obtain ⟨-, -, b2, b3⟩ := box_cells hbox
  obtain ⟨c0, c1, c2, -⟩ := box_cells (box_set (v := .slice va ((at0 m.1 m.2 p).ws.length + 1) vc) hbox)
  have hold : ∀ j, j < wr.heap.size → some j ≠ Value.ownBlock (.slice wa (at0 m.1 m.2 p).ws.length wc) → (w3.setCell ⟨wr.heap.size, 2, none⟩ (.slice va ((at0 m.1 m.2 p).ws.length + 1) vc)).heap[j]? = wr.heap[j]? := by
    intro j hj hne
    rw [Below.heap_setCell _ _ _ _ (by show j ≠ wr.heap.size; omega), hg.block j (by simp; omega) hne, Below.heap_alloc _ _ _ (by simp; omega), Below.heap_alloc _ _ _ hj]
  have lpm : pm < wr.heap.size := World.block_lt_of_cell? wr ⟨pm, 0, none⟩ k1.cells.1
  have hpmt : ω1 pm = some none := by obtain ⟨fs, _, h, _⟩ := k1; exact h
  have hpm : some pm ≠ Value.ownBlock (.slice wa (at0 m.1 m.2 p).ws.length wc) := fun e => by have := htag pm e.symm; rw [hpmt] at this; cases this
  have hsz : wr.heap.size + 2 ≤ w3.heap.size := by have := hg.size; simp at this; omega
  have hrow4 : (w3.setCell ⟨wr.heap.size, 2, none⟩ (.slice va ((at0 m.1 m.2 p).ws.length + 1) vc)).ownsRow 0 23 1 (.slice va ((at0 m.1 m.2 p).ws.length + 1) vc) ((at0 m.1 m.2 p).ws.length + 1) (strs (at0 m.1 m.2 p).ws ++ [str t]) := by
    refine row_kept hrow3 (fun j hj => Below.heap_setCell _ _ _ _ ?_)
    show j ≠ wr.heap.size
    rcases hat with e | e
    · rw [e] at hj; have := hwb j hj; omega
    · rw [e] at hj; cases hj; omega
  obtain ⟨w5, hr5, hg5, hk5, ω5, v5, e5⟩ := hstep (w3.setCell ⟨wr.heap.size, 2, none⟩ (.slice va ((at0 m.1 m.2 p).ws.length + 1) vc)).drew (.slice va ((at0 m.1 m.2 p).ws.length + 1) vc) (by show wr.heap.size ≤ (w3.setCell _ _).heap.size; simp [World.setCell]; omega) hold hrow4 (by
    rcases hat with e | e
    · exact .inl e
    · exact .inr ⟨_, e, by omega⟩)
  refine ⟨⟨b2, b3⟩, ⟨c0, c1, c2⟩, ?_, w5, hr5, ω5, ?_, v5, e1.trans f1.size e5, ?_, ?_, ?_⟩
  · rw [World.cell?_of_block (w := wr) (hold pm lpm hpm)]; exact k1.cells.1
  · exact k1.kept (fun j hj hw => hk5 j hj (.inr hw)) e5
  · have h5 : Free ω1 wr w5 := by
      have g1 : w3.os = wr.os := hg.os
      have g2 : w3.tape = wr.tape := hg.tape
      have g3 : w3.output = wr.output := hg.output
      refine ⟨hg5.os.trans g1, hg5.tape.trans g2, hg5.output.trans g3, ?_, fun j hj hw => hk5 j hj (.inl hw)⟩
      have := hg5.size
      have h9 : (w3.setCell ⟨wr.heap.size, 2, none⟩ (.slice va ((at0 m.1 m.2 p).ws.length + 1) vc)).drew.heap.size = w3.heap.size := by show (w3.setCell _ _).heap.size = _; simp [World.setCell]
      rw [h9] at this
      omega
    exact f1.trans e1 h5
  · rcases at1 with h | ⟨b, off, rfl, hc⟩
    · exact .inl h
    · refine .inr ⟨b, off, rfl, fun j x hx => ?_⟩
      obtain ⟨o1, o2⟩ := own1 b rfl
      rw [World.cell?_of_block (w := wr) (hk5 b o2 (.inl o1))]
      exact hc j x hx
  · intro b hb
    obtain ⟨o1, o2⟩ := own1 b hb
    have := hg5.size
    have h9 : (w3.setCell ⟨wr.heap.size, 2, none⟩ (.slice va ((at0 m.1 m.2 p).ws.length + 1) vc)).drew.heap.size = w3.heap.size := by show (w3.setCell _ _).heap.size = _; simp [World.setCell]
    rw [h9] at this
    exact ⟨(e5 b o2).trans o1, by omega⟩

end Go.Proofs.Ytdpnffnogckfjaa
