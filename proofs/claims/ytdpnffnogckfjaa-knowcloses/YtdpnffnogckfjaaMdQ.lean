/- Plain mathematics of a mind: what is in view stands right, once terms are seen with their parts ahead of them. -/
import Derived.Test.YtdpnffnogckfjaaMdN
import Derived.Test.YtdpnffnogckfjaaMdP
namespace Go.Proofs.Ytdpnffnogckfjaa

def edg (t : List UInt8) (ps : List (List UInt8)) : List (List UInt8 × List UInt8) := ps.map (fun p => (p, t))
theorem wholes_append (E F : List (List UInt8 × List UInt8)) (p : List UInt8) : wholes (E ++ F) p = wholes E p ++ wholes F p := by unfold wholes; rw [List.filter_append, List.map_append]
theorem wholes_len (E : List (List UInt8 × List UInt8)) (p : List UInt8) : (wholes E p).length ≤ E.length := by
  unfold wholes; rw [List.length_map]; exact List.length_filter_le _ _
theorem wholes_none {E : List (List UInt8 × List UInt8)} {p : List UInt8} (h : ∀ e ∈ E, e.1 ≠ p) : wholes E p = [] := by
  unfold wholes
  rw [List.map_eq_nil_iff, List.filter_eq_nil_iff]
  intro e he
  simpa using h e he
theorem addV_in {V : List (List UInt8)} {p : List UInt8} (h : p ∈ V) : addV V p = V := by unfold addV; rw [if_pos h]
theorem addV_new {V : List (List UInt8)} {p : List UInt8} (h : p ∉ V) : addV V p = V ++ [p] := by unfold addV; rw [if_neg h]

/-- Edges to parts that are in view. -/
theorem edges_right (t : List UInt8) (V : List (List UInt8)) (E : List (List UInt8 × List UInt8)) (ps : List (List UInt8)) (S : List UInt8 → Sg) (hps : ∀ p ∈ ps, p ∈ V) (hS : ∀ s ∈ V, S s = rightS E s) :
    (edgesM t (V, S) ps).1 = V ∧ ∀ s ∈ V, (edgesM t (V, S) ps).2 s = rightS (E ++ edg t ps) s := by
  induction ps generalizing S E with
  | nil => exact ⟨rfl, fun s hs => by rw [show E ++ edg t [] = E by unfold edg; simp]; exact hS s hs⟩
  | cons p ps ih =>
    have hp := hps p (by simp)
    have e1 : edgeM t (V, S) p = (V, updS S p (more (S p) t)) := by
      unfold edgeM at0
      dsimp only
      rw [addV_in hp, if_pos hp]
    have h2 : ∀ s ∈ V, updS S p (more (S p) t) s = rightS (E ++ [(p, t)]) s := by
      intro s hs
      unfold updS rightS
      rw [wholes_snoc]
      by_cases hsp : s = p
      · subst hsp
        rw [if_pos rfl, if_pos rfl, hS s hs]; rfl
      · rw [if_neg hsp, if_neg (fun e => hsp e.symm), hS s hs]; rfl
    have := ih (E ++ [(p, t)]) (updS S p (more (S p) t)) (fun q hq => hps q (by simp [hq])) h2
    have e2 : edgesM t (V, S) (p :: ps) = edgesM t (V, updS S p (more (S p) t)) ps := by
      unfold edgesM; rw [List.foldl_cons, e1]
    rw [e2]
    refine ⟨this.1, fun s hs => ?_⟩
    rw [this.2 s hs]
    congr 1
    unfold edg
    simp

/-- A mind that stands right. -/
structure Rt (M : Mst) (E : List (List UInt8 × List UInt8)) (base : List UInt8 → Prop) : Prop where
  rs : ∀ s ∈ M.m.1, M.m.2 s = rightS E s
  wide : Wide M.m.1
  ed : ∀ e, e ∈ E ↔ e.2 ∈ M.m.1 ∧ e.1 ∈ Tm.partsOf e.2
  ok : Ok M.m.1 M.σ
  kn : ∀ x, x ∈ M.σ.1 ↔ base x ∨ (x ∈ M.m.1 ∧ Tm.kindOf x = 99)
  fr : ∀ x ∈ M.σ.1, x ∈ M.σ.2

theorem lrn_fresh {σ : St} {t : List UInt8} (h : ∀ x ∈ σ.1, x ∈ σ.2) : ∀ x ∈ (lrn σ t).1, x ∈ (lrn σ t).2 := by
  unfold lrn
  split
  · exact h
  · intro x hx
    simp at hx ⊢
    rcases hx with hx | hx
    · exact .inl (h x hx)
    · exact .inr hx
theorem Ok.wider {V V' : List (List UInt8)} {σ : St} (h : Ok V σ) (hs : ∀ x ∈ V, x ∈ V') : Ok V' σ := ⟨h.nodup, fun x hx => hs x (h.sub x hx), h.few, h.mem⟩

theorem Rt.plc {M : Mst} {E : List (List UInt8 × List UInt8)} {base : List UInt8 → Prop} (h : Rt M E base) {t : List UInt8} (hc : Tm.chk t = 0) (hp : ∀ p ∈ Tm.partsOf t, p ∈ M.m.1) :
    ∃ E', Rt (plc M t) E' base ∧ ∀ x, x ∈ (plc M t).m.1 ↔ x ∈ M.m.1 ∨ x = t := by
  by_cases ht : t ∈ M.m.1
  · have e : Ytdpnffnogckfjaa.plc M t = M := by unfold Ytdpnffnogckfjaa.plc; rw [if_pos ht]
    rw [e]
    refine ⟨E, h, fun x => ⟨.inl, ?_⟩⟩
    rintro (hx | rfl)
    · exact hx
    · exact ht
  · have hV1 : addV M.m.1 t = M.m.1 ++ [t] := addV_new ht
    have hS1 : ∀ s ∈ M.m.1 ++ [t], updS M.m.2 t ⟨Tm.kindOf t, Tm.partsOf t, []⟩ s = rightS E s := by
      intro s hs
      unfold updS
      by_cases hst : s = t
      · subst hst
        rw [if_pos rfl]
        unfold rightS
        rw [wholes_none (fun e he e1 => ht (by
          have h3 := (h.ed e).1 he
          have := h.wide.full _ h3.1 _ h3.2
          rw [e1] at this
          exact this))]
      · rw [if_neg hst]
        rcases List.mem_append.1 hs with hs | hs
        · exact h.rs s hs
        · simp at hs; exact absurd hs hst
    obtain ⟨g1, g2⟩ := edges_right t (M.m.1 ++ [t]) E (Tm.partsOf t) (updS M.m.2 t ⟨Tm.kindOf t, Tm.partsOf t, []⟩) (fun p hpp => by simp [hp p hpp]) hS1
    have e : Ytdpnffnogckfjaa.plc M t = ⟨edgesM t (M.m.1 ++ [t], updS M.m.2 t ⟨Tm.kindOf t, Tm.partsOf t, []⟩) (Tm.partsOf t), if Tm.kindOf t = 99 then lrn M.σ t else M.σ⟩ := by
      unfold Ytdpnffnogckfjaa.plc
      rw [if_neg ht]
      unfold newM
      rw [hV1]
    have hmem : ∀ x, x ∈ (Ytdpnffnogckfjaa.plc M t).m.1 ↔ x ∈ M.m.1 ∨ x = t := by
      intro x
      rw [e]
      dsimp only
      rw [g1]; simp
    refine ⟨E ++ edg t (Tm.partsOf t), ⟨?_, ⟨?_, ?_⟩, ?_, ?_, ?_, ?_⟩, hmem⟩
    · intro s hs
      have hs' : s ∈ M.m.1 ++ [t] := by rcases (hmem s).1 hs with h | h <;> simp [h]
      rw [e]
      exact g2 s hs'
    · intro s hs
      rcases (hmem s).1 hs with hs | rfl
      · exact h.wide.good s hs
      · exact hc
    · intro s hs p hpp
      rcases (hmem s).1 hs with hs | rfl
      · exact (hmem p).2 (.inl (h.wide.full s hs p hpp))
      · exact (hmem p).2 (.inl (hp p hpp))
    · intro x
      rw [List.mem_append, h.ed x, hmem]
      unfold edg
      simp only [List.mem_map]
      constructor
      · rintro (⟨a, b⟩ | ⟨p, hpp, rfl⟩)
        · exact ⟨.inl a, b⟩
        · exact ⟨.inr rfl, hpp⟩
      · rintro ⟨a | a, b⟩
        · exact .inl ⟨a, b⟩
        · refine .inr ⟨x.1, by rw [← a]; exact b, ?_⟩
          rw [← a]
    · have ho : Ok (Ytdpnffnogckfjaa.plc M t).m.1 M.σ := h.ok.wider (fun x hx => (hmem x).2 (.inl hx))
      rw [e] at ho ⊢
      dsimp only at ho ⊢
      split
      · exact ho.lrn (by rw [g1]; simp)
      · exact ho
    · intro x
      rw [hmem]
      rw [e]
      dsimp only
      split
      · rename_i hk
        rw [lrn_iff, h.kn]
        constructor
        · rintro (rfl | h1 | ⟨h1, h2⟩)
          · exact .inr ⟨.inr rfl, hk⟩
          · exact .inl h1
          · exact .inr ⟨.inl h1, h2⟩
        · rintro (h1 | ⟨h1 | h1, h2⟩)
          · exact .inr (.inl h1)
          · exact .inr (.inr ⟨h1, h2⟩)
          · exact .inl h1
      · rename_i hk
        rw [h.kn]
        constructor
        · rintro (h1 | ⟨h1, h2⟩)
          · exact .inl h1
          · exact .inr ⟨.inl h1, h2⟩
        · rintro (h1 | ⟨h1 | h1, h2⟩)
          · exact .inl h1
          · exact .inr ⟨h1, h2⟩
          · subst h1; exact absurd h2 hk
    · rw [e]
      dsimp only
      split
      · exact lrn_fresh h.fr
      · exact h.fr

/-- All that is in some trees, what is in them ahead of themselves. -/
theorem Rt.trees : ∀ (n : Nat) (l : List Tm.T), (Tm.texts l).length ≤ n → Tm.wfs l → (∀ u ∈ l, Tm.chk (Tm.text u) = 0) → ∀ {M : Mst} {E : List (List UInt8 × List UInt8)} {base : List UInt8 → Prop}, Rt M E base →
    ∃ E', Rt (((Tm.subsAll l).map Tm.text).reverse.foldl Ytdpnffnogckfjaa.plc M) E' base ∧ ∀ x, x ∈ (((Tm.subsAll l).map Tm.text).reverse.foldl Ytdpnffnogckfjaa.plc M).m.1 ↔ x ∈ M.m.1 ∨ x ∈ (Tm.subsAll l).map Tm.text
  | _, [], _, _, _, M, E, base, h => ⟨E, h, fun x => by simp [Tm.subsAll]⟩
  | 0, u :: l, hn, hw, hg, M, E, base, h => by
    have := Tm.text_pos (Tm.wfs_cons.1 hw).1
    rw [Tm.texts_cons, List.length_append] at hn
    omega
  | n + 1, u :: l, hn, hw, hg, M, E, base, h => by
    obtain ⟨hwu, hwl⟩ := Tm.wfs_cons.1 hw
    have hcu := hg u (by simp)
    obtain ⟨hl, v, hv, hwv, hx, hd⟩ := Tm.chk_zero hcu
    obtain rfl : v = u := by
      have := Tm.tree_text hwu
      rw [this] at hv; cases hv; rfl
    have hs := Tm.wf_iff v |>.1 hwu
    have e0 : Tm.subsAll (v :: l) = v :: Tm.subsAll (Tm.kids v ++ l) := by
      rw [Tm.subsAll_cons, Tm.subs_eq, Tm.subsAll_append]; rfl
    have hlen : (Tm.texts (Tm.kids v ++ l)).length ≤ n := by
      rw [Tm.texts_cons, List.length_append, Tm.text_eq, List.length_append] at hn
      rw [Tm.texts_append, List.length_append]
      have : 0 < (Tm.head v).length := by rw [← hs.2.1]; exact hs.1
      omega
    obtain ⟨E1, h1, m1⟩ := Rt.trees n (Tm.kids v ++ l) hlen (Tm.wfs_append.2 ⟨hs.2.2.2, hwl⟩) (fun w hw' => by
      rcases List.mem_append.1 hw' with hw' | hw'
      · exact (Tm.kid_ok hwu hw' hl hd).2.1
      · exact hg w (by simp [hw'])) h
    have hparts : Tm.partsOf (Tm.text v) = (Tm.kids v).map Tm.text := Tm.partsOf_of hcu (Tm.tree_text hwu)
    obtain ⟨E2, h2, m2⟩ := h1.plc (t := Tm.text v) hcu (fun p hp => by
      rw [hparts] at hp
      obtain ⟨k, hk, rfl⟩ := List.mem_map.1 hp
      refine (m1 _).2 (.inr (List.mem_map_of_mem ?_))
      unfold Tm.subsAll
      refine List.mem_flatMap.2 ⟨k, List.mem_append.2 (.inl hk), ?_⟩
      rw [Tm.subs_eq]; simp)
    have e1 : ((Tm.subsAll (v :: l)).map Tm.text).reverse.foldl Ytdpnffnogckfjaa.plc M = Ytdpnffnogckfjaa.plc (((Tm.subsAll (Tm.kids v ++ l)).map Tm.text).reverse.foldl Ytdpnffnogckfjaa.plc M) (Tm.text v) := by
      rw [e0, List.map_cons, List.reverse_cons, List.foldl_append]; rfl
    rw [e1]
    refine ⟨E2, h2, fun x => ?_⟩
    rw [m2, m1, e0, List.map_cons, List.mem_cons]
    constructor
    · rintro ((h | h) | h)
      · exact .inl h
      · exact .inr (.inr h)
      · exact .inr (.inl h)
    · rintro (h | h | h)
      · exact .inl (.inl h)
      · exact .inr h
      · exact .inl (.inr h)

theorem Rt.see {M : Mst} {E : List (List UInt8 × List UInt8)} {base : List UInt8 → Prop} (h : Rt M E base) {t : List UInt8} (hc : Tm.chk t = 0) : ∃ E', Rt (seeM M t) E' base ∧ ∀ x, x ∈ (seeM M t).m.1 ↔ x ∈ M.m.1 ∨ x ∈ Tm.subsOf t := by
  obtain ⟨hl, u, hu, hw, hx, hd⟩ := Tm.chk_zero hc
  have := Rt.trees (Tm.texts [u]).length [u] (Nat.le_refl _) (Tm.wfs_cons.2 ⟨hw, Tm.wfs_nil⟩) (fun v hv => by simp at hv; subst hv; rw [hx]; exact hc) h
  have e : (Tm.subsAll [u]).map Tm.text = Tm.subsOf t := by
    rw [Tm.subsOf_of hc hu]
    simp [Tm.subsAll]
  rw [e] at this
  exact this
theorem Rt.learn {M : Mst} {E : List (List UInt8 × List UInt8)} {base : List UInt8 → Prop} (h : Rt M E base) {t : List UInt8} (ht : t ∈ M.m.1) : Rt ⟨M.m, lrn M.σ t⟩ E (fun x => x = t ∨ base x) := by
  refine ⟨h.rs, h.wide, h.ed, h.ok.lrn ht, fun x => ?_, lrn_fresh h.fr⟩
  dsimp only
  rw [lrn_iff, h.kn]
  constructor
  · rintro (h | h | h)
    · exact .inl (.inl h)
    · exact .inl (.inr h)
    · exact .inr h
  · rintro ((h | h) | h)
    · exact .inl h
    · exact .inr (.inl h)
    · exact .inr (.inr h)

theorem const_leaf {x : List UInt8} (h : Tm.kindOf x = 99) : Tm.partsOf x = [] := by
  by_cases hc : Tm.chk x = 0
  · obtain ⟨t, k, r, ht, hw, hbs, hk, hpt, har, hwk, hlen, hr⟩ := Tm.parts_at hc
    rw [hk] at h
    subst h
    rw [show Tm.ar1 99 = 0 by decide] at har
    rw [hpt, List.eq_nil_of_length_eq_zero har.symm]; rfl
  · unfold Tm.partsOf; rw [if_neg hc]
/-- Where thinking begins. -/
theorem Rt.thinks {M : Mst} {E : List (List UInt8 × List UInt8)} {base : List UInt8 → Prop} (h : Rt M E base) : Thinks base M.m.1 M.σ := by
  refine ⟨fun x hx => ?_, fun x hx => (h.kn x).2 (.inl hx), fun x hx hk => (h.kn x).2 (.inr ⟨hx, hk⟩), fun x hx hn => absurd (h.fr x hx) hn, fun x hx hn => absurd (h.fr x hx) hn, fun w hw hp hall => ?_⟩
  · rcases (h.kn x).1 hx with hb | ⟨hv, hk⟩
    · exact Tm.cl_base hb
    · exact Tm.cl_closed _ _ x hv (.inl ⟨fun p hp => (by rw [const_leaf hk] at hp; cases hp), .inl hk⟩)
  · match hps : Tm.partsOf w, hp with
    | p :: ps, _ =>
      have := hall p (by rw [hps]; simp)
      exact absurd (h.fr p this.1) this.2

end Go.Proofs.Ytdpnffnogckfjaa
