/- What a mind has in view, in memory; what takeApart gives. -/
import Derived.Test.YtdpnffnogckfjaaMdC
import Derived.Test.YtdpnffnogckfjaaKnC
namespace Go.Proofs.Ytdpnffnogckfjaa
open Go.RowKit Go.Maps

/-- Those that a term is a part of, as they were put down. -/
def wholes (E : List (List UInt8 × List UInt8)) (p : List UInt8) : List (List UInt8) := (E.filter (fun e => e.1 = p)).map (·.2)
theorem wholes_snoc (E : List (List UInt8 × List UInt8)) (q t p : List UInt8) : wholes (E ++ [(q, t)]) p = if q = p then wholes E p ++ [t] else wholes E p := by
  unfold wholes
  rw [List.filter_append, List.map_append]
  by_cases h : q = p
  · simp [h]
  · simp [h]
theorem mem_wholes {E : List (List UInt8 × List UInt8)} {p t : List UInt8} : t ∈ wholes E p ↔ (p, t) ∈ E := by
  unfold wholes
  simp only [List.mem_map, List.mem_filter, decide_eq_true_eq]
  constructor
  · rintro ⟨⟨a, b⟩, ⟨h1, h2⟩, h3⟩
    simp only at h2 h3
    subst h2; subst h3; exact h1
  · intro h; exact ⟨(p, t), ⟨h, rfl⟩, rfl⟩

/-- How a term stands to the others, as a value. -/
def sgt (t : List UInt8) (v : Value × Value) : Value := .agg #[.int .u8 ((Tm.kindOf t).toNat : Int), v.1, v.2]
def vmap (V : List (List UInt8)) (g : List UInt8 → Value × Value) : List UInt8 → Option Value := fun s => if s ∈ V then some (sgt s (g s)) else none

/-- The mind has these in view. -/
def View (ω : Tag) (w : World) (bv : Nat) (V : List (List UInt8)) (E : List (List UInt8 × List UInt8)) : Prop :=
  ∃ g : List UInt8 → Value × Value, MapAt w bv V.length (vmap V g) ∧ ω bv = some (some []) ∧ ∀ s ∈ V,
    (w.ownsRow 0 23 1 (g s).1 (Tm.partsOf s).length (strs (Tm.partsOf s)) ∧ ∀ j, (g s).1.ownBlock = some j → ω j = none) ∧
    (w.ownsRow 0 23 1 (g s).2 (wholes E s).length (strs (wholes E s)) ∧ ∀ j, (g s).2.ownBlock = some j → ω j = some (some s))

theorem View.kept {ω ω' : Tag} {w w' : World} {bv : Nat} {V : List (List UInt8)} {E : List (List UInt8 × List UInt8)} (h : View ω w bv V E) (hs : ∀ j, j < w.heap.size → ω j ≠ some none → w'.heap[j]? = w.heap[j]?) (he : Ext w ω ω') : View ω' w' bv V E := by
  obtain ⟨g, h1, h2, h3⟩ := h
  refine ⟨g, h1.kept (hs _ h1.lt (by rw [h2]; simp)), (he _ h1.lt).trans h2, fun s hsV => ?_⟩
  obtain ⟨⟨a1, a2⟩, a3, a4⟩ := h3 s hsV
  refine ⟨⟨row_kept a1 (fun j hj => hs j (a1.lt j hj).2 (by rw [a2 j hj]; simp)), fun j hj => (he j (a1.lt j hj).2).trans (a2 j hj)⟩,
    row_kept a3 (fun j hj => hs j (a3.lt j hj).2 (by rw [a4 j hj]; simp)), fun j hj => (he j (a3.lt j hj).2).trans (a4 j hj)⟩
theorem View.fix {ω ω' : Tag} {w w' : World} {bv : Nat} {V : List (List UInt8)} {E : List (List UInt8 × List UInt8)} (h : View ω w bv V E) (hf : Fix ω w w') (he : Ext w ω ω') : View ω' w' bv V E := h.kept hf.block he

theorem zero79 (w : World) : (zeroValue 79).run Try.prog w = .ok (.agg #[.int .u8 0, .slice none 0 0, .slice none 0 0]) w := Try.zeroValue79 w

/-- What there is to be had of a term in view. -/
theorem View.look {ω : Tag} {w : World} {bv : Nat} {V : List (List UInt8)} {E : List (List UInt8 × List UInt8)} (h : View ω w bv V E) {t : List UInt8} (ht : t ∈ V) (hl : t.length ≤ 2000) :
    ∃ pa pc wa wc, (Instr.lookup 59 (.map (some bv)) (str t) false).run Try.prog w = .ok (.agg #[.int .u8 ((Tm.kindOf t).toNat : Int), .slice pa (Tm.partsOf t).length pc, .slice wa (wholes E t).length wc]) w ∧
      AtS w pa (Tm.partsOf t) ∧ AtS w wa (wholes E t) ∧ (∀ j, Value.ownBlock (.slice pa (Tm.partsOf t).length pc) = some j → ω j = none ∧ j < w.heap.size) ∧ (∀ j, Value.ownBlock (.slice wa (wholes E t).length wc) = some j → ω j = some (some t) ∧ j < w.heap.size) := by
  obtain ⟨g, h1, h2, h3⟩ := h
  have hr := h1.look (t := 59) Try.underlying59 zero79 hl
  unfold vmap at hr
  rw [if_pos ht] at hr
  obtain ⟨⟨a1, a2⟩, a3, a4⟩ := h3 t ht
  obtain ⟨pa, pc, e1, _, _, b1⟩ := owns_strs a1
  obtain ⟨wa, wc, e2, _, _, b2⟩ := owns_strs a3
  refine ⟨pa, pc, wa, wc, ?_, b1, b2, fun j hj => ⟨a2 j (by rw [e1]; exact hj), (a1.lt j (by rw [e1]; exact hj)).2⟩, fun j hj => ⟨a4 j (by rw [e2]; exact hj), (a3.lt j (by rw [e2]; exact hj)).2⟩⟩
  rw [hr]
  unfold sgt
  rw [e1, e2]; rfl

/-- Texts in a row that nobody writes stay. -/
theorem atS_fix {ω : Tag} {w w' : World} {a : Option Addr} {n c : Nat} {l : List (List UInt8)} (h : AtS w a l) (hf : Fix ω w w') (hw : ∀ j, Value.ownBlock (.slice a n c) = some j → ω j ≠ some none ∧ j < w.heap.size) : AtS w' a l := by
  rcases h with rfl | ⟨b, off, rfl, hc⟩
  · exact .inl rfl
  · refine .inr ⟨b, off, rfl, fun j x hx => ?_⟩
    obtain ⟨h1, h2⟩ := hw b rfl
    rw [World.cell?_of_block (w := w) (hf.block b h2 h1)]
    exact hc j x hx

def p0 (t : List UInt8) : List UInt8 := (Tm.partsOf t).getD 0 []
def p1 (t : List UInt8) : List UInt8 := (Tm.partsOf t).getD 1 []
def tkA (σ : St) (t : List UInt8) : St :=
  if Tm.kindOf t = 112 then lrn (lrn σ (p0 t)) (p1 t) else
  if Tm.kindOf t = 115 then (if p0 t ∈ σ.1 then lrn σ (p1 t) else σ) else σ

theorem two_parts {t : List UInt8} (hc : Tm.chk t = 0) (hk : Tm.kindOf t = 112 ∨ Tm.kindOf t = 115) : Tm.partsOf t = [p0 t, p1 t] := by
  obtain ⟨u, k, r, ht, hw, hbs, hk2, hpt, har, hwk, hlen, hr⟩ := Tm.parts_at hc
  have h2 : Tm.ar1 k = 2 := by
    rw [hk2] at hk
    rcases hk with rfl | rfl <;> decide
  have hl : (Tm.partsOf t).length = 2 := by rw [hpt, List.length_map, ← har, h2]
  unfold p0 p1
  match h : Tm.partsOf t, hl with
  | [a, b], _ => rfl
theorem part_len {t p : List UInt8} (h : p ∈ Tm.partsOf t) : p.length ≤ 2000 := (Tm.chk_zero (Tm.part_of h).2.1).1

theorem lrn_len (σ : St) (t : List UInt8) : (lrn σ t).1.length ≤ σ.1.length + 1 ∧ (lrn σ t).2.length ≤ σ.2.length + 1 := by
  unfold lrn; split <;> simp

theorem learn_then {ω ω' : Tag} {pm bv bk : Nat} {w w' : World} {σ : St} {e : Ending} {w'' : World} (hf : Fix ω w w') (he : Ext w ω ω') (h : LearnPost ω' pm bv bk w' σ e w'') : LearnPost ω pm bv bk w σ e w'' := by
  obtain ⟨h1, ω'', h2, h3, h4⟩ := h
  exact ⟨h1, ω'', h2, he.trans hf.size h3, hf.trans he h4⟩

end Go.Proofs.Ytdpnffnogckfjaa
