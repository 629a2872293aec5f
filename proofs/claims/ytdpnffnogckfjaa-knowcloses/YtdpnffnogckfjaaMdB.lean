/- What a mind knows, in memory: what knows and learn give. -/
import Derived.Test.YtdpnffnogckfjaaMdA
namespace Go.Proofs.Ytdpnffnogckfjaa
open Go.RowKit Go.Maps

/-- Whose a block is: nobody's that writes; the mind's own; of the wholes of a text. -/
abbrev Tag := Nat → Option (Option (List UInt8))
/-- What is known, and what is fresh of it. -/
abbrev St := List (List UInt8) × List (List UInt8)
def lrn (σ : St) (t : List UInt8) : St := if t ∈ σ.1 then σ else (σ.1 ++ [t], σ.2 ++ [t])

def kset (K : List (List UInt8)) : List UInt8 → Option Value := fun s => if s ∈ K then some (.agg #[]) else none

/-- The mind in block pm knows this. -/
def Kn (ω : Tag) (w : World) (pm bv bk : Nat) (σ : St) : Prop :=
  ∃ fs, w.heap[pm]? = some (.cells #[.map (some bv), .map (some bk), fs] 61 (0, 0)) ∧ ω pm = some none ∧ ω bk = some none ∧ MapAt w bk σ.1.length (kset σ.1) ∧
    w.ownsRow 0 23 1 fs σ.2.length (strs σ.2) ∧ ∀ j, fs.ownBlock = some j → ω j = some none

/-- Blocks that are not the mind's own stay. -/
structure Fix (ω : Tag) (w w' : World) : Prop where
  os : w'.os = w.os
  tape : w'.tape = w.tape
  output : w'.output = w.output
  size : w.heap.size ≤ w'.heap.size
  block : ∀ j, j < w.heap.size → ω j ≠ some none → w'.heap[j]? = w.heap[j]?
def Ext (w : World) (ω ω' : Tag) : Prop := ∀ j, j < w.heap.size → ω' j = ω j

theorem Ext.refl (w : World) (ω : Tag) : Ext w ω ω := fun _ _ => rfl
theorem Ext.trans {w w' : World} {ω ω' ω'' : Tag} (h : Ext w ω ω') (hs : w.heap.size ≤ w'.heap.size) (k : Ext w' ω' ω'') : Ext w ω ω'' := fun j hj => (k j (by omega)).trans (h j hj)
theorem Fix.refl (ω : Tag) (w : World) : Fix ω w w := ⟨rfl, rfl, rfl, Nat.le_refl _, fun _ _ _ => rfl⟩
theorem Fix.trans {ω ω' : Tag} {a b c : World} (h : Fix ω a b) (e : Ext a ω ω') (k : Fix ω' b c) : Fix ω a c :=
  ⟨k.os.trans h.os, k.tape.trans h.tape, k.output.trans h.output, Nat.le_trans h.size k.size, fun j hj hw =>
    (k.block j (Nat.lt_of_lt_of_le hj h.size) (by rw [e j hj]; exact hw)).trans (h.block j hj hw)⟩
theorem Fix.grown {ω : Tag} {a b : World} {row : Option Nat} (h : a.grownBy b row) (hr : ∀ j, row = some j → j < a.heap.size → ω j = some none) : Fix ω a b :=
  ⟨h.os, h.tape, h.output, h.size, fun j hj hw => h.block j hj (fun e => hw (hr j e.symm hj))⟩
theorem Fix.alloc (ω : Tag) (w : World) (o : Obj) : Fix ω w (w.alloc o) := Fix.grown (World.grownBy_alloc w o none) (fun _ h => by cases h)
theorem Fix.drew (ω : Tag) (w : World) (q : Nat) : Fix ω w (w.drewN q) := ⟨rfl, rfl, rfl, Nat.le_refl _, fun _ _ _ => rfl⟩
theorem Fix.below {ω : Tag} {w w' : World} (h : Fix ω w w') {B : Nat} (hB : B ≤ w.heap.size) (hw : ∀ j, j < B → ω j ≠ some none) : Below B w w' :=
  ⟨h.os, h.tape, h.output, h.size, fun j hj => h.block j (by omega) (hw j hj)⟩
theorem grown_setCell (w : World) (a : Addr) (u : Value) : w.grownBy (w.setCell a u) (some a.block) :=
  ⟨rfl, rfl, rfl, by simp [World.setCell], fun k _ hne => Below.heap_setCell _ _ _ _ (fun e => hne (by rw [e]))⟩

theorem row_block {w : World} {B n : Nat} {v : Value} {xs : List Value} (h : w.ownsRow B 23 1 v n xs) {j : Nat} (hj : v.ownBlock = some j) : ∃ cur, w.heap[j]? = some (.cells cur 23 (0, 0)) := by
  rcases h.2 with ⟨rfl, _⟩ | ⟨g, cap, cur, rfl, _, hg, _⟩
  · cases hj
  · simp [Value.ownBlock] at hj
    subst hj
    exact ⟨cur, hg⟩
theorem row_kept {w w' : World} {B n : Nat} {v : Value} {xs : List Value} (h : w.ownsRow B 23 1 v n xs) (hk : ∀ j, v.ownBlock = some j → w'.heap[j]? = w.heap[j]?) : w'.ownsRow B 23 1 v n xs := by
  refine ⟨h.1, ?_⟩
  rcases h.2 with h | ⟨g, cap, cur, rfl, hb, hg, rest⟩
  · exact .inl h
  · exact .inr ⟨g, cap, cur, rfl, hb, (hk g rfl).trans hg, rest⟩

/-- Where the mind's own blocks stay, it knows what it knew. -/
theorem Kn.kept {ω ω' : Tag} {w w' : World} {pm bv bk : Nat} {σ : St} (h : Kn ω w pm bv bk σ) (hs : ∀ j, j < w.heap.size → ω j = some none → w'.heap[j]? = w.heap[j]?) (he : Ext w ω ω') : Kn ω' w' pm bv bk σ := by
  obtain ⟨fs, h1, h2, h3, h4, h5, h6⟩ := h
  have l1 : pm < w.heap.size := (Array.getElem?_eq_some_iff.1 h1).1
  refine ⟨fs, (hs _ l1 h2).trans h1, (he _ l1).trans h2, (he _ h4.lt).trans h3, h4.kept (hs _ h4.lt h3), row_kept h5 (fun j hj => hs j (h5.lt j hj).2 (h6 j hj)), fun j hj => (he j (h5.lt j hj).2).trans (h6 j hj)⟩
theorem Kn.alloc {ω : Tag} {w : World} {pm bv bk : Nat} {σ : St} (h : Kn ω w pm bv bk σ) (o : Obj) : Kn ω (w.alloc o) pm bv bk σ :=
  h.kept (fun _ hj _ => Below.heap_alloc _ _ _ hj) (Ext.refl _ _)
theorem Kn.grown {ω : Tag} {w w' : World} {pm bv bk : Nat} {σ : St} (h : Kn ω w pm bv bk σ) {row : Option Nat} (hg : w.grownBy w' row) (hr : ∀ j, row = some j → ω j ≠ some none) : Kn ω w' pm bv bk σ :=
  h.kept (fun j hj hw => hg.block j hj (fun e => hr j e.symm hw)) (Ext.refl _ _)

theorem Kn.cells {ω : Tag} {w : World} {pm bv bk : Nat} {σ : St} (h : Kn ω w pm bv bk σ) : w.cell? ⟨pm, 0, none⟩ = some (.map (some bv)) ∧ w.cell? ⟨pm, 1, none⟩ = some (.map (some bk)) := by
  obtain ⟨fs, h1, _⟩ := h
  exact ⟨by rw [cell_of_row w pm 0 _ _ _ h1]; rfl, by rw [cell_of_row w pm 1 _ _ _ h1]; rfl⟩

theorem zero58 (w : World) : (zeroValue 58).run Try.prog w = .ok (.agg #[]) w := Try.zeroValue58 w

theorem kset_some (K : List (List UInt8)) (t : List UInt8) : (kset K t).getD (.agg #[]) = .agg #[] ∧ (kset K t).isSome = decide (t ∈ K) := by
  unfold kset
  by_cases h : t ∈ K <;> simp [h]

set_option maxHeartbeats 2000000 in
theorem knows_any (ω : Tag) (pm bv bk : Nat) (σ : St) (t : List UInt8) (w : World) (h : Kn ω w pm bv bk σ) (ht : t.length ≤ 2000) :
    Calls Try.prog 33 #[.pointer (some ⟨pm, 0, none⟩), str t] w fun e w' => e = .returned (.bool (decide (t ∈ σ.1))) ∧ w.grownBy w' none := by
  have c1 := h.cells.2
  obtain ⟨fs, _, _, _, h4, _, _⟩ := h
  have hl := h4.look_ok (t := 57) Try.underlying57 zero58 ht
  rw [(kset_some _ _).1, (kset_some _ _).2] at hl
  have Q1 : Aside (∀ o, (fun (e : Ending) w' => e = .returned (.bool (decide (t ∈ σ.1))) ∧ w.grownBy w' none) (.returned (.bool (decide (t ∈ σ.1)))) (w.alloc o)) := fun o => ⟨rfl, World.grownBy_alloc w o none⟩
  generalize (fun (e : Ending) w' => e = .returned (.bool (decide (t ∈ σ.1))) ∧ w.grownBy w' none) = Q at Q1 ⊢
  clear h4
  generalize decide (t ∈ σ.1) = b at *
  generalize str t = x at *
  go_enter Try.func33, Try.ntmps33
  go_wp2
  exact Q1.out _

end Go.Proofs.Ytdpnffnogckfjaa
