/- Plain mathematics of a mind: what comes of putting together and of thinking. -/
import Derived.Test.YtdpnffnogckfjaaMdE
namespace Go.Proofs.Ytdpnffnogckfjaa

theorem Tm.parts_few (t : List UInt8) : (Tm.partsOf t).length ≤ 2 := by
  by_cases h : Tm.chk t = 0
  · obtain ⟨u, k, r, ht, hw, hbs, hk2, hpt, har, hwk, hlen, hr⟩ := Tm.parts_at h
    rw [hpt, List.length_map, ← har]
    exact Tm.ar1_le k
  · unfold Tm.partsOf; rw [if_neg h]; simp
/-- A whole of which a part was learnt. -/
def ptS (σ : St) (w : List UInt8) : St := if w ∈ σ.1 then tkA σ w else if ∀ p ∈ Tm.partsOf w, p ∈ σ.1 then lrn σ w else σ
def ptT (σ : St) (ws : List (List UInt8)) : St := ws.foldl ptS σ

structure Ok (V : List (List UInt8)) (σ : St) : Prop where
  nodup : σ.1.Nodup
  sub : ∀ x ∈ σ.1, x ∈ V
  few : σ.2.length ≤ σ.1.length
  mem : ∀ x ∈ σ.2, x ∈ σ.1

theorem sub_len {α : Type} [DecidableEq α] : ∀ {a b : List α}, a.Nodup → (∀ x ∈ a, x ∈ b) → a.length ≤ b.length
  | [], _, _, _ => Nat.zero_le _
  | x :: a, b, h, hs => by
    obtain ⟨h1, h2⟩ := List.nodup_cons.1 h
    have hx := hs x (by simp)
    have := sub_len (b := b.erase x) h2 (fun y hy => by
      have hne : y ≠ x := fun e => h1 (e ▸ hy)
      exact (List.mem_erase_of_ne hne).2 (hs y (by simp [hy])))
    rw [List.length_erase_of_mem hx] at this
    have : 0 < b.length := List.length_pos_of_mem hx
    simp; omega
theorem Ok.len {V : List (List UInt8)} {σ : St} (h : Ok V σ) : σ.1.length ≤ V.length ∧ σ.2.length ≤ V.length := by
  have := sub_len h.nodup h.sub
  have := h.few
  omega

theorem lrn_mem (σ : St) (t : List UInt8) : t ∈ (lrn σ t).1 := by
  unfold lrn; split
  · assumption
  · simp
theorem lrn_iff (σ : St) (t x : List UInt8) : x ∈ (lrn σ t).1 ↔ x = t ∨ x ∈ σ.1 := by
  unfold lrn; split
  · rename_i h; constructor
    · exact .inr
    · rintro (rfl | h') <;> assumption
  · simp; exact Or.comm
theorem Ok.lrn {V : List (List UInt8)} {σ : St} (h : Ok V σ) {t : List UInt8} (ht : t ∈ V) : Ok V (lrn σ t) := by
  unfold Ytdpnffnogckfjaa.lrn
  split
  · exact h
  · rename_i hn
    refine ⟨?_, ?_, by simpa using h.few, ?_⟩
    · rw [List.nodup_append]
      refine ⟨h.nodup, by simp, fun a ha b hb => ?_⟩
      simp at hb; subst hb
      rintro rfl; exact hn ha
    · intro x hx
      rcases List.mem_append.1 hx with hx | hx
      · exact h.sub x hx
      · simp at hx; subst hx; exact ht
    · intro x hx
      rcases List.mem_append.1 hx with hx | hx
      · exact List.mem_append.2 (.inl (h.mem x hx))
      · exact List.mem_append.2 (.inr hx)
theorem mem_p0 {t : List UInt8} (hc : Tm.chk t = 0) (hk : Tm.kindOf t = 112 ∨ Tm.kindOf t = 115) : p0 t ∈ Tm.partsOf t ∧ p1 t ∈ Tm.partsOf t := by
  rw [two_parts hc hk]; simp
/-- With a term all its parts are in view, and all may be. -/
structure Wide (V : List (List UInt8)) : Prop where
  good : ∀ t ∈ V, Tm.chk t = 0
  full : ∀ t ∈ V, ∀ p ∈ Tm.partsOf t, p ∈ V
theorem Ok.tkA {V : List (List UInt8)} {σ : St} (h : Ok V σ) (hV : Wide V) {t : List UInt8} (ht : t ∈ V) : Ok V (tkA σ t) := by
  unfold Ytdpnffnogckfjaa.tkA
  split
  · rename_i hk
    obtain ⟨m0, m1⟩ := mem_p0 (hV.good t ht) (.inl hk)
    exact (h.lrn (hV.full t ht _ m0)).lrn (hV.full t ht _ m1)
  · split
    · rename_i hk
      obtain ⟨m0, m1⟩ := mem_p0 (hV.good t ht) (.inr hk)
      split
      · exact h.lrn (hV.full t ht _ m1)
      · exact h
    · exact h
theorem Ok.ptS {V : List (List UInt8)} {σ : St} (h : Ok V σ) (hV : Wide V) {t : List UInt8} (ht : t ∈ V) : Ok V (ptS σ t) := by
  unfold Ytdpnffnogckfjaa.ptS
  split
  · exact h.tkA hV ht
  · split
    · exact h.lrn ht
    · exact h
theorem Ok.ptT {V : List (List UInt8)} {σ : St} (h : Ok V σ) (hV : Wide V) {ws : List (List UInt8)} (hw : ∀ t ∈ ws, t ∈ V) : Ok V (ptT σ ws) := by
  induction ws generalizing σ with
  | nil => exact h
  | cons x ws ih => exact ih (h.ptS hV (hw x (by simp))) (fun t ht => hw t (by simp [ht]))
theorem ptT_snoc (σ : St) (ws : List (List UInt8)) (x : List UInt8) : ptT σ (ws ++ [x]) = ptS (ptT σ ws) x := by
  unfold ptT; rw [List.foldl_append]; rfl

end Go.Proofs.Ytdpnffnogckfjaa
