/- What a mind has in view, in memory, whatever stands there: one term more, and one whole more at a part. -/
import Derived.Test.YtdpnffnogckfjaaMdH
namespace Go.Proofs.Ytdpnffnogckfjaa
open Go.RowKit Go.Maps

theorem row_ne_map {w : World} {B n b m : Nat} {v : Value} {xs : List Value} {g : List UInt8 → Option Value} (h : w.ownsRow B 23 1 v n xs) (hm : MapAt w b m g) : v.ownBlock ≠ some b := by
  intro e
  obtain ⟨cur, hc⟩ := row_block h e
  obtain ⟨D, ⟨es, cl, hb, _⟩, _⟩ := hm
  rw [hc] at hb; cases hb

/-- How a term stands to the others, whatever is put down. -/
structure Sg where
  k : UInt8
  ps : List (List UInt8)
  ws : List (List UInt8)
def sgv (s : Sg) (v : Value × Value) : Value := .agg #[.int .u8 (s.k.toNat : Int), v.1, v.2]
def vmapG (V : List (List UInt8)) (S : List UInt8 → Sg) (g : List UInt8 → Value × Value) : List UInt8 → Option Value := fun s => if s ∈ V then some (sgv (S s) (g s)) else none
/-- The mind has these in view, and this of them. -/
def ViewG (ω : Tag) (w : World) (bv : Nat) (V : List (List UInt8)) (S : List UInt8 → Sg) : Prop :=
  ∃ g : List UInt8 → Value × Value, MapAt w bv V.length (vmapG V S g) ∧ ω bv = some (some []) ∧ ∀ s ∈ V,
    (w.ownsRow 0 23 1 (g s).1 (S s).ps.length (strs (S s).ps) ∧ ∀ j, (g s).1.ownBlock = some j → ω j = none) ∧
    (w.ownsRow 0 23 1 (g s).2 (S s).ws.length (strs (S s).ws) ∧ ∀ j, (g s).2.ownBlock = some j → ω j = some (some s))
/-- What is right of terms, and of their edges. -/
def rightS (E : List (List UInt8 × List UInt8)) : List UInt8 → Sg := fun s => ⟨Tm.kindOf s, Tm.partsOf s, wholes E s⟩
theorem viewG_iff {ω : Tag} {w : World} {bv : Nat} {V : List (List UInt8)} {E : List (List UInt8 × List UInt8)} : View ω w bv V E ↔ ViewG ω w bv V (rightS E) := Iff.rfl
theorem viewG_congr {ω : Tag} {w : World} {bv : Nat} {V : List (List UInt8)} {S S' : List UInt8 → Sg} (h : ViewG ω w bv V S) (e : ∀ s ∈ V, S s = S' s) : ViewG ω w bv V S' := by
  obtain ⟨g, h1, h2, h3⟩ := h
  refine ⟨g, h1.congr (fun s => ?_), h2, fun s hs => by rw [← e s hs]; exact h3 s hs⟩
  unfold vmapG
  by_cases hs : s ∈ V
  · rw [if_pos hs, if_pos hs, e s hs]
  · rw [if_neg hs, if_neg hs]

theorem ViewG.kept {ω ω' : Tag} {w w' : World} {bv : Nat} {V : List (List UInt8)} {S : List UInt8 → Sg} (h : ViewG ω w bv V S) (hs : ∀ j, j < w.heap.size → ω j ≠ some none → w'.heap[j]? = w.heap[j]?) (he : Ext w ω ω') : ViewG ω' w' bv V S := by
  obtain ⟨g, h1, h2, h3⟩ := h
  refine ⟨g, h1.kept (hs _ h1.lt (by rw [h2]; simp)), (he _ h1.lt).trans h2, fun s hsV => ?_⟩
  obtain ⟨⟨a1, a2⟩, a3, a4⟩ := h3 s hsV
  refine ⟨⟨row_kept a1 (fun j hj => hs j (a1.lt j hj).2 (by rw [a2 j hj]; simp)), fun j hj => (he j (a1.lt j hj).2).trans (a2 j hj)⟩,
    row_kept a3 (fun j hj => hs j (a3.lt j hj).2 (by rw [a4 j hj]; simp)), fun j hj => (he j (a3.lt j hj).2).trans (a4 j hj)⟩
theorem ViewG.fix {ω ω' : Tag} {w w' : World} {bv : Nat} {V : List (List UInt8)} {S : List UInt8 → Sg} (h : ViewG ω w bv V S) (hf : Fix ω w w') (he : Ext w ω ω') : ViewG ω' w' bv V S := h.kept hf.block he

def updS (S : List UInt8 → Sg) (t : List UInt8) (x : Sg) : List UInt8 → Sg := fun s => if s = t then x else S s
def addV (V : List (List UInt8)) (p : List UInt8) : List (List UInt8) := if p ∈ V then V else V ++ [p]
def at0 (V : List (List UInt8)) (S : List UInt8 → Sg) (p : List UInt8) : Sg := if p ∈ V then S p else ⟨0, [], []⟩
def more (s : Sg) (t : List UInt8) : Sg := ⟨s.k, s.ps, s.ws ++ [t]⟩
theorem mem_addV {V : List (List UInt8)} {p s : List UInt8} : s ∈ addV V p ↔ s ∈ V ∨ s = p := by
  unfold addV
  by_cases h : p ∈ V
  · rw [if_pos h]
    constructor
    · exact .inl
    · rintro (h' | rfl) <;> assumption
  · rw [if_neg h]; simp

theorem vmapG_add {V : List (List UInt8)} {S : List UInt8 → Sg} {g : List UInt8 → Value × Value} {t : List UInt8} (x : Sg) (v : Value × Value) (s : List UInt8) :
    upd (vmapG V S g) t (sgv x v) s = vmapG (addV V t) (updS S t x) (fun s => if s = t then v else g s) s := by
  unfold upd vmapG updS
  by_cases h : s = t
  · subst h
    rw [if_pos rfl, if_pos (mem_addV.2 (.inr rfl)), if_pos rfl]
    dsimp only
    rw [if_pos rfl]
  · rw [if_neg h]
    by_cases hv : s ∈ V
    · rw [if_pos hv, if_pos (mem_addV.2 (.inl hv)), if_neg h]
      dsimp only
      rw [if_neg h]
    · rw [if_neg hv, if_neg (fun e => by rcases mem_addV.1 e with e | e <;> contradiction)]

theorem MapAt.put {w : World} {b : Nat} {V : List (List UInt8)} {S : List UInt8 → Sg} {g : List UInt8 → Value × Value} {t : List UInt8} (h : MapAt w b V.length (vmapG V S g)) (hV : V.length ≤ 8000000) (hl : t.length ≤ 2000) (x : Sg) (v : Value × Value) :
    ∃ w', (Instr.mapUpdate 59 (.map (some b)) (str t) (sgv x v)).run Try.prog w = .ok () w' ∧ MapAt w' b (addV V t).length (vmapG (addV V t) (updS S t x) (fun s => if s = t then v else g s)) ∧ w.grownBy w' (some b) := by
  by_cases ht : t ∈ V
  · have e : addV V t = V := by unfold addV; rw [if_pos ht]
    obtain ⟨w', h1, h2, h3⟩ := h.store_again (t := 59) Try.underlying59 (by omega) hl (by unfold vmapG; rw [if_pos ht]; rfl) (sgv x v)
    refine ⟨w', h1, ?_, h3⟩
    have := h2.congr (vmapG_add x v)
    rw [e] at this ⊢
    exact this
  · have e : (addV V t).length = V.length + 1 := by unfold addV; rw [if_neg ht]; simp
    obtain ⟨w', h1, h2, h3⟩ := h.store (t := 59) Try.underlying59 (by omega) hl (sgv x v)
    refine ⟨w', h1, ?_, h3⟩
    rw [e]
    exact h2.congr (vmapG_add x v)

theorem ViewG.add {ω : Tag} {w w2 : World} {bv : Nat} {V : List (List UInt8)} {S : List UInt8 → Sg} {t : List UInt8} {v : Value} (hv : ViewG ω w bv V S) (ht : t ∉ V) (hl : t.length ≤ 2000) (hVl : V.length ≤ 8000000)
    (hb : Below w.heap.size w w2) (ho : w2.ownsRow w.heap.size 23 1 v (Tm.partsOf t).length (strs (Tm.partsOf t))) :
    ∃ w3, (Instr.mapUpdate 59 (.map (some bv)) (str t) (sgv ⟨Tm.kindOf t, Tm.partsOf t, []⟩ (v, .slice none 0 0))).run Try.prog w2 = .ok () w3 ∧ w2.grownBy w3 (some bv) ∧
      ViewG (fun j => if j < w.heap.size then ω j else none) w3 bv (addV V t) (updS S t ⟨Tm.kindOf t, Tm.partsOf t, []⟩) := by
  obtain ⟨g, h1, h2, h3⟩ := hv
  have h1' : MapAt w2 bv V.length (vmapG V S g) := h1.kept (hb.block bv h1.lt)
  obtain ⟨w3, hr, hm, hg⟩ := h1'.put hVl hl ⟨Tm.kindOf t, Tm.partsOf t, []⟩ (v, .slice none 0 0)
  refine ⟨w3, hr, hg, fun s => if s = t then (v, .slice none 0 0) else g s, hm, ?_, fun s hs => ?_⟩
  · show (if bv < w.heap.size then ω bv else none) = _
    rw [if_pos h1.lt]; exact h2
  · unfold updS
    by_cases hst : s = t
    · subst hst
      dsimp only
      rw [if_pos rfl, if_pos rfl]
      refine ⟨⟨?_, fun j hj => ?_⟩, ?_, fun j hj => by cases hj⟩
      · exact (owns_mono ho (Nat.zero_le _)).kept hg (.inr (row_ne_map ho h1'))
      · show (if j < w.heap.size then ω j else none) = none
        rw [if_neg (by have := (ho.lt j hj).1; omega)]
      · exact World.ownsRow_nil _ _ _ _
    · dsimp only
      rw [if_neg hst, if_neg hst]
      have hsV : s ∈ V := by
        rcases mem_addV.1 hs with h | h
        · exact h
        · exact absurd h hst
      obtain ⟨⟨a1, a2⟩, a3, a4⟩ := h3 s hsV
      refine ⟨⟨(owns_later hb a1).kept hg (.inr (row_ne_map (owns_later hb a1) h1')), fun j hj => ?_⟩, (owns_later hb a3).kept hg (.inr (row_ne_map (owns_later hb a3) h1')), fun j hj => ?_⟩
      · show (if j < w.heap.size then ω j else none) = none
        rw [if_pos (a1.lt j hj).2]; exact a2 j hj
      · show (if j < w.heap.size then ω j else none) = some (some s)
        rw [if_pos (a3.lt j hj).2]; exact a4 j hj

/-- One whole more at a part: what is to be looked up, and what comes of the store. -/
theorem ViewG.edge {ω : Tag} {w : World} {bv : Nat} {V : List (List UInt8)} {S : List UInt8 → Sg} (p t : List UInt8) (hv : ViewG ω w bv V S) (hl : p.length ≤ 2000) (hVl : V.length ≤ 8000000) :
    ∃ pa pc wa wc, (Instr.lookup 59 (.map (some bv)) (str p) false).run Try.prog w = .ok (.agg #[.int .u8 ((at0 V S p).k.toNat : Int), .slice pa (at0 V S p).ps.length pc, .slice wa (at0 V S p).ws.length wc]) w ∧
      w.ownsRow 0 23 1 (.slice wa (at0 V S p).ws.length wc) (at0 V S p).ws.length (strs (at0 V S p).ws) ∧ (∀ j, Value.ownBlock (.slice wa (at0 V S p).ws.length wc) = some j → ω j = some (some p)) ∧
      ∀ (wz : World) (v' : Value), w.heap.size ≤ wz.heap.size → (∀ j, j < w.heap.size → some j ≠ Value.ownBlock (.slice wa (at0 V S p).ws.length wc) → wz.heap[j]? = w.heap[j]?) →
        wz.ownsRow 0 23 1 v' ((at0 V S p).ws.length + 1) (strs (at0 V S p).ws ++ [str t]) → (v'.ownBlock = Value.ownBlock (.slice wa (at0 V S p).ws.length wc) ∨ ∃ b, v'.ownBlock = some b ∧ w.heap.size ≤ b) →
        ∃ w3, (Instr.mapUpdate 59 (.map (some bv)) (str p) (.agg #[.int .u8 ((at0 V S p).k.toNat : Int), .slice pa (at0 V S p).ps.length pc, v'])).run Try.prog wz = .ok () w3 ∧ wz.grownBy w3 (some bv) ∧
          (∀ j, j < w.heap.size → ω j = none ∨ ω j = some none → w3.heap[j]? = w.heap[j]?) ∧ ∃ ω', ViewG ω' w3 bv (addV V p) (updS S p (more (at0 V S p) t)) ∧ Ext w ω ω' := by
  obtain ⟨g, h1, h2, h3⟩ := hv
  have hr := h1.look (t := 59) Try.underlying59 zero79 hl
  obtain ⟨pa, pc, wa, wc, hval, a1, a2, a3, a4⟩ : ∃ pa pc wa wc, (vmapG V S g p).getD (.agg #[.int .u8 0, .slice none 0 0, .slice none 0 0]) = .agg #[.int .u8 ((at0 V S p).k.toNat : Int), .slice pa (at0 V S p).ps.length pc, .slice wa (at0 V S p).ws.length wc] ∧
      w.ownsRow 0 23 1 (.slice pa (at0 V S p).ps.length pc) (at0 V S p).ps.length (strs (at0 V S p).ps) ∧ (∀ j, Value.ownBlock (.slice pa (at0 V S p).ps.length pc) = some j → ω j = none) ∧
      w.ownsRow 0 23 1 (.slice wa (at0 V S p).ws.length wc) (at0 V S p).ws.length (strs (at0 V S p).ws) ∧ (∀ j, Value.ownBlock (.slice wa (at0 V S p).ws.length wc) = some j → ω j = some (some p)) := by
    unfold vmapG at0
    by_cases hp : p ∈ V
    · rw [if_pos hp, if_pos hp]
      obtain ⟨⟨a1, a2⟩, a3, a4⟩ := h3 p hp
      obtain ⟨pa, pc, e1, _, _, _⟩ := owns_strs a1
      obtain ⟨wa, wc, e2, _, _, _⟩ := owns_strs a3
      refine ⟨pa, pc, wa, wc, ?_, by rw [← e1]; exact a1, by rw [← e1]; exact a2, by rw [← e2]; exact a3, by rw [← e2]; exact a4⟩
      show sgv (S p) (g p) = _
      unfold sgv
      rw [e1, e2]
    · rw [if_neg hp, if_neg hp]
      refine ⟨none, 0, none, 0, rfl, World.ownsRow_nil _ _ _ _, ?_, World.ownsRow_nil _ _ _ _, ?_⟩
      · intro j hj; cases hj
      · intro j hj; cases hj
  rw [hval] at hr
  refine ⟨pa, pc, wa, wc, hr, a3, a4, ?_⟩
  intro wz v' hsz hkeep hrow hat
  generalize hs0 : at0 V S p = s0 at *
  generalize hpv : (Value.slice pa s0.ps.length pc) = pv at *
  generalize hwv : (Value.slice wa s0.ws.length wc) = wv at *
  have hbvw : some bv ≠ wv.ownBlock := fun e => row_ne_map a3 h1 e.symm
  have h1' : MapAt wz bv V.length (vmapG V S g) := h1.kept (hkeep bv h1.lt hbvw)
  obtain ⟨w3, hr3, hm, hg⟩ := h1'.put hVl hl (more s0 t) (pv, v')
  have hother : ∀ j, j < w.heap.size → some j ≠ wv.ownBlock → j ≠ bv → w3.heap[j]? = w.heap[j]? := fun j hj hn hb => (hg.block j (by omega) (fun e => hb (by simpa using e))).trans (hkeep j hj hn)
  have hrow_kept : ∀ {n : Nat} {u : Value} {xs : List Value}, w.ownsRow 0 23 1 u n xs → (∀ j, u.ownBlock = some j → ω j ≠ some (some p)) → w3.ownsRow 0 23 1 u n xs := fun hu hne =>
    row_kept hu (fun j hj => hother j (hu.lt j hj).2 (fun e => hne j hj (a4 j e.symm)) (fun e => row_ne_map hu h1 (by rw [hj, e])))
  refine ⟨w3, hr3, hg, ?_, fun j => if j < w.heap.size then ω j else if v'.ownBlock = some j then some (some p) else none, ⟨fun s => if s = p then (pv, v') else g s, hm, ?_, fun s hs => ?_⟩, fun j hj => if_pos hj⟩
  · intro j hj hw
    refine hother j hj (fun e => ?_) (fun e => ?_)
    · have := a4 j e.symm
      rw [this] at hw; rcases hw with hw | hw <;> simp at hw
    · subst e
      rw [h2] at hw; rcases hw with hw | hw <;> simp at hw
  · show (if bv < w.heap.size then ω bv else _) = _
    rw [if_pos h1.lt]; exact h2
  · unfold updS
    by_cases hsp : s = p
    · subst hsp
      dsimp only
      rw [if_pos rfl, if_pos rfl]
      refine ⟨⟨hrow_kept a1 (fun j hj => by rw [a2 j hj]; simp), fun j hj => ?_⟩, ?_, fun j hj => ?_⟩
      · show (if j < w.heap.size then ω j else _) = _
        rw [if_pos (a1.lt j hj).2]; exact a2 j hj
      · unfold more
        rw [List.length_append, strs_append]
        exact hrow.kept hg (.inr (row_ne_map hrow h1'))
      · show (if j < w.heap.size then ω j else if v'.ownBlock = some j then _ else _) = _
        rcases hat with e | ⟨b, e, hb⟩
        · have hj' := hj
          rw [e] at hj'
          rw [if_pos (a3.lt j hj').2]; exact a4 j hj'
        · have hj' : v'.ownBlock = some j := hj
          rw [e] at hj'
          cases hj'
          rw [if_neg (by omega), if_pos e]
    · dsimp only
      rw [if_neg hsp, if_neg hsp]
      have hsV : s ∈ V := by
        rcases mem_addV.1 hs with h | h
        · exact h
        · exact absurd h hsp
      obtain ⟨⟨c1, c2⟩, c3, c4⟩ := h3 s hsV
      refine ⟨⟨hrow_kept c1 (fun j hj => by rw [c2 j hj]; simp), fun j hj => ?_⟩, hrow_kept c3 (fun j hj => by rw [c4 j hj]; simpa using hsp), fun j hj => ?_⟩
      · show (if j < w.heap.size then ω j else _) = _
        rw [if_pos (c1.lt j hj).2]; exact c2 j hj
      · show (if j < w.heap.size then ω j else _) = _
        rw [if_pos (c3.lt j hj).2]; exact c4 j hj

end Go.Proofs.Ytdpnffnogckfjaa
