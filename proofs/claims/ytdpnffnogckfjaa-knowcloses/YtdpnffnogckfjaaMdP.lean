/- Plain mathematics of a mind: thinking till nothing leads to more comes to just what one can come to. -/
import Derived.Test.YtdpnffnogckfjaaMdF
namespace Go.Proofs.Ytdpnffnogckfjaa

/-- A later state knows no less; what it has thought of was known, and thought of, ahead. -/
structure Le (σ τ : St) : Prop where
  kn : ∀ x ∈ σ.1, x ∈ τ.1
  fr : ∀ x ∈ σ.2, x ∈ τ.2
  old : ∀ x ∈ τ.1, x ∉ τ.2 → x ∈ σ.1
theorem Le.refl (σ : St) : Le σ σ := ⟨fun _ h => h, fun _ h => h, fun _ h _ => h⟩
theorem Le.trans {a b c : St} (h : Le a b) (k : Le b c) : Le a c :=
  ⟨fun x hx => k.kn x (h.kn x hx), fun x hx => k.fr x (h.fr x hx), fun x hx hn => h.old x (k.old x hx hn) (fun hb => hn (k.fr x hb))⟩
theorem le_lrn (σ : St) (t : List UInt8) : Le σ (lrn σ t) := by
  unfold lrn
  split
  · exact Le.refl σ
  · refine ⟨fun x hx => by simp [hx], fun x hx => by simp [hx], fun x hx hn => ?_⟩
    simp at hx hn
    rcases hx with hx | hx
    · exact hx
    · exact absurd hx hn.2
theorem le_tkA (σ : St) (t : List UInt8) : Le σ (tkA σ t) := by
  unfold tkA
  split
  · exact (le_lrn _ _).trans (le_lrn _ _)
  · split
    · split
      · exact le_lrn _ _
      · exact Le.refl _
    · exact Le.refl _
theorem le_ptS (σ : St) (t : List UInt8) : Le σ (ptS σ t) := by
  unfold ptS
  split
  · exact le_tkA _ _
  · split
    · exact le_lrn _ _
    · exact Le.refl _
theorem le_ptT (σ : St) (ws : List (List UInt8)) : Le σ (ptT σ ws) := by
  unfold ptT
  induction ws generalizing σ with
  | nil => exact Le.refl _
  | cons x ws ih => exact (le_ptS σ x).trans (ih _)
theorem ptT_at {σ : St} {ws : List (List UInt8)} {x : List UInt8} (h : x ∈ ws) : ∃ τ, Le σ τ ∧ Le (ptS τ x) (ptT σ ws) := by
  induction ws generalizing σ with
  | nil => cases h
  | cons y ws ih =>
    rcases List.mem_cons.1 h with rfl | h
    · exact ⟨σ, Le.refl _, le_ptT _ ws⟩
    · obtain ⟨τ, h1, h2⟩ := ih (σ := ptS σ y) h
      exact ⟨τ, (le_ptS σ y).trans h1, h2⟩

section
variable {l : List UInt8 → Prop} {V : List (List UInt8)} {E : List (List UInt8 × List UInt8)}

def Sound (l : List UInt8 → Prop) (V : List (List UInt8)) (σ : St) : Prop := ∀ x ∈ σ.1, Tm.Cl l (· ∈ V) x
theorem sound_lrn {σ : St} (h : Sound l V σ) {t : List UInt8} (ht : Tm.Cl l (· ∈ V) t) : Sound l V (lrn σ t) := by
  intro x hx
  rcases (lrn_iff σ t x).1 hx with rfl | hx
  · exact ht
  · exact h x hx
theorem sound_tkA {σ : St} (hV : Wide V) (h : Sound l V σ) {t : List UInt8} (htV : t ∈ V) (ht : t ∈ σ.1) : Sound l V (tkA σ t) := by
  have hct := h t ht
  unfold tkA
  split
  · rename_i hk
    obtain ⟨m0, m1⟩ := mem_p0 (hV.good t htV) (.inl hk)
    have c : ∀ p ∈ Tm.partsOf t, Tm.Cl l (· ∈ V) p := fun p hp => Tm.cl_closed _ _ p (hV.full t htV p hp) (.inr ⟨t, hct, .inl ⟨hk, hp⟩⟩)
    exact sound_lrn (sound_lrn h (c _ m0)) (c _ m1)
  · split
    · rename_i hk
      split
      · rename_i hin
        have h2 := two_parts (hV.good t htV) (.inr hk)
        obtain ⟨m0, m1⟩ := mem_p0 (hV.good t htV) (.inr hk)
        exact sound_lrn h (Tm.cl_closed _ _ _ (hV.full t htV _ m1) (.inr ⟨t, hct, .inr ⟨hk, p0 t, h2, h _ hin⟩⟩))
      · exact h
    · exact h
theorem sound_ptS {σ : St} (hV : Wide V) (h : Sound l V σ) {t : List UInt8} (htV : t ∈ V) (hp : Tm.partsOf t ≠ []) : Sound l V (ptS σ t) := by
  unfold ptS
  split
  · rename_i hin; exact sound_tkA hV h htV hin
  · split
    · rename_i hall
      exact sound_lrn h (Tm.cl_closed _ _ t htV (.inl ⟨fun p hpp => h p (hall p hpp), .inr hp⟩))
    · exact h
theorem sound_ptT {σ : St} (hV : Wide V) (h : Sound l V σ) {ws : List (List UInt8)} (hw : ∀ t ∈ ws, t ∈ V ∧ Tm.partsOf t ≠ []) : Sound l V (ptT σ ws) := by
  unfold ptT
  induction ws generalizing σ with
  | nil => exact h
  | cons x ws ih => exact ih (sound_ptS hV h (hw x (by simp)).1 (hw x (by simp)).2) (fun t ht => hw t (by simp [ht]))

/-- What holds while thinking. -/
structure Thinks (l : List UInt8 → Prop) (V : List (List UInt8)) (σ : St) : Prop where
  sound : Sound l V σ
  base : ∀ x, l x → x ∈ σ.1
  consts : ∀ x ∈ V, Tm.kindOf x = 99 → x ∈ σ.1
  pair : ∀ x ∈ σ.1, x ∉ σ.2 → Tm.kindOf x = 112 → p0 x ∈ σ.1 ∧ p1 x ∈ σ.1
  shut : ∀ x ∈ σ.1, x ∉ σ.2 → Tm.kindOf x = 115 → p0 x ∈ σ.1 → p0 x ∉ σ.2 → p1 x ∈ σ.1
  made : ∀ w ∈ V, Tm.partsOf w ≠ [] → (∀ p ∈ Tm.partsOf w, p ∈ σ.1 ∧ p ∉ σ.2) → w ∈ σ.1

theorem tkA_pair {σ : St} {t : List UInt8} (h : Tm.kindOf t = 112) : p0 t ∈ (tkA σ t).1 ∧ p1 t ∈ (tkA σ t).1 := by
  unfold tkA
  rw [if_pos h]
  exact ⟨(lrn_iff _ _ _).2 (.inr (lrn_mem _ _)), lrn_mem _ _⟩
theorem tkA_seal {σ : St} {t : List UInt8} (h : Tm.kindOf t = 115) (hin : p0 t ∈ σ.1) : p1 t ∈ (tkA σ t).1 := by
  unfold tkA
  rw [if_neg (by rw [h]; decide), if_pos h, if_pos hin]
  exact lrn_mem _ _

theorem Thinks.step (hV : Wide V) (hE : ∀ e, e ∈ E ↔ e.2 ∈ V ∧ e.1 ∈ Tm.partsOf e.2) {K F : List (List UInt8)} {t : List UInt8} (h : Thinks l V (K, F ++ [t])) (ho : Ok V (K, F ++ [t])) : Thinks l V (ptT (tkA (K, F) t) (wholes E t)) := by
  have htK : t ∈ K := ho.mem t (by simp)
  have htV : t ∈ V := ho.sub t htK
  have h1 : Le (K, F) (tkA (K, F) t) := le_tkA _ _
  have h2 : Le (tkA (K, F) t) (ptT (tkA (K, F) t) (wholes E t)) := le_ptT _ _
  have h12 := h1.trans h2
  have hold : ∀ x, x ∈ (ptT (tkA (K, F) t) (wholes E t)).1 → x ∉ (ptT (tkA (K, F) t) (wholes E t)).2 → x ∈ K ∧ (x ≠ t → x ∉ F ++ [t]) := by
    intro x hx hn
    refine ⟨h12.old x hx hn, fun hne hm => ?_⟩
    rcases List.mem_append.1 hm with hm | hm
    · exact hn (h12.fr x hm)
    · simp at hm; exact hne hm
  have hwh : ∀ w ∈ V, t ∈ Tm.partsOf w → w ∈ wholes E t := fun w hw hp => mem_wholes.2 ((hE (t, w)).2 ⟨hw, hp⟩)
  refine ⟨?_, fun x hx => h12.kn x (h.base x hx), fun x hx hk => h12.kn x (h.consts x hx hk), ?_, ?_, ?_⟩
  · refine sound_ptT hV (sound_tkA hV (show Sound l V (K, F) from h.sound) htV htK) (fun w hw => ?_)
    obtain ⟨a, b⟩ := (hE _).1 (mem_wholes.1 hw)
    exact ⟨a, fun e => by rw [e] at b; cases b⟩
  · intro x hx hn hk
    obtain ⟨a, b⟩ := hold x hx hn
    by_cases hxt : x = t
    · subst hxt
      obtain ⟨c, d⟩ := tkA_pair (σ := (K, F)) hk
      exact ⟨h2.kn _ c, h2.kn _ d⟩
    · obtain ⟨c, d⟩ := h.pair x a (b hxt) hk
      exact ⟨h12.kn _ c, h12.kn _ d⟩
  · intro x hx hn hk hp hpn
    obtain ⟨a, b⟩ := hold x hx hn
    obtain ⟨c, d⟩ := hold _ hp hpn
    by_cases hxt : x = t
    · subst hxt
      exact h2.kn _ (tkA_seal (σ := (K, F)) hk c)
    · by_cases hpt : p0 x = t
      · have hxV : x ∈ V := ho.sub x a
        have hxw := hwh x hxV (by rw [← hpt]; exact (mem_p0 (hV.good x hxV) (.inr hk)).1)
        obtain ⟨τ, g1, g2⟩ := ptT_at (σ := tkA (K, F) t) hxw
        refine g2.kn _ ?_
        have hxτ : x ∈ τ.1 := g1.kn _ (h1.kn _ a)
        unfold ptS
        rw [if_pos hxτ]
        exact tkA_seal hk (g1.kn _ (h1.kn _ c))
      · exact h12.kn _ (h.shut x a (b hxt) hk c (d hpt))
  · intro w hw hp hall
    by_cases ht : t ∈ Tm.partsOf w
    · have hxw := hwh w hw ht
      obtain ⟨τ, g1, g2⟩ := ptT_at (σ := tkA (K, F) t) hxw
      refine g2.kn _ ?_
      have hpτ : ∀ p ∈ Tm.partsOf w, p ∈ τ.1 := fun p hpp => g1.kn _ (h1.kn _ (hold p (hall p hpp).1 (hall p hpp).2).1)
      unfold ptS
      split
      · rename_i hin; exact (le_tkA _ _).kn _ hin
      · exact lrn_mem _ _
    · refine h12.kn _ (h.made w hw hp (fun p hpp => ?_))
      obtain ⟨a, b⟩ := hold p (hall p hpp).1 (hall p hpp).2
      exact ⟨a, b (fun e => ht (e ▸ hpp))⟩

/-- When all was thought of, just what one can come to is known. -/
theorem Thinks.done (hV : Wide V) {K : List (List UInt8)} (h : Thinks l V (K, [])) (ho : Ok V (K, [])) (x : List UInt8) : x ∈ K ↔ Tm.Cl l (· ∈ V) x := by
  refine ⟨h.sound x, fun hc => ?_⟩
  refine Tm.cl_least (S := (· ∈ K)) ?_ h.base hc
  intro t ht hr
  rcases hr with ⟨hb, hk⟩ | ⟨y, hy, hr⟩
  · rcases hk with hk | hk
    · exact h.consts t ht hk
    · exact h.made t ht hk (fun p hp => ⟨hb p hp, by simp⟩)
  · have hyV := ho.sub y hy
    rcases hr with ⟨hk, hp⟩ | ⟨hk, k, hp, hkk⟩
    · obtain ⟨a, b⟩ := h.pair y hy (by simp) hk
      rw [two_parts (hV.good y hyV) (.inl hk)] at hp
      simp at hp
      rcases hp with rfl | rfl
      · exact a
      · exact b
    · have h2 := two_parts (hV.good y hyV) (.inr hk)
      rw [h2] at hp
      simp at hp
      obtain ⟨rfl, rfl⟩ := hp
      exact h.shut y hy (by simp) hk hkk (by simp)
end

end Go.Proofs.Ytdpnffnogckfjaa
