/- Plain mathematics for layer 4, no program: what one can come to who has some terms, as the least set that is closed under the rules; it is enough to look at what is in the terms and in the goal. -/
import Derived.Test.YtdpnffnogckfjaaFacts
namespace Go.Proofs.Ytdpnffnogckfjaa
namespace Tm

theorem part_of {t : List UInt8} {p : List UInt8} (h : p ∈ partsOf t) : chk t = 0 ∧ chk p = 0 ∧ p.length < t.length ∧ p ∈ subsOf t ∧ ∀ s ∈ subsOf p, s ∈ subsOf t := by
  by_cases hc : chk t = 0
  · obtain ⟨hl, u, hu, hw, hx, hd⟩ := chk_zero hc
    rw [partsOf_of hc hu] at h
    obtain ⟨v, hv, rfl⟩ := List.mem_map.1 h
    obtain ⟨v1, v2, v3⟩ := kid_ok hw hv (by rw [hx]; exact hl) hd
    have e1 : subsOf t = t :: (subsAll (kids u)).map text := by rw [subsOf_of hc hu, subs_eq, List.map_cons, hx]
    have e2 : subsOf (text v) = (subs v).map text := subsOf_of v2 (tree_text v1)
    have e3 : ∀ s ∈ subsOf (text v), s ∈ subsOf t := by
      intro s hs
      rw [e2] at hs
      obtain ⟨q, hq, rfl⟩ := List.mem_map.1 hs
      rw [e1]
      refine List.mem_cons_of_mem _ (List.mem_map_of_mem ?_)
      unfold subsAll
      exact List.mem_flatMap.2 ⟨v, hv, hq⟩
    refine ⟨hc, v2, by rw [hx] at v3; exact v3, e3 _ ?_, e3⟩
    rw [e2, subs_eq]
    simp
  · unfold partsOf at h; rw [if_neg hc] at h; cases h

theorem self_sub {t : List UInt8} (h : chk t = 0) : t ∈ subsOf t := by
  obtain ⟨hl, u, hu, hw, hx, hd⟩ := chk_zero h
  rw [subsOf_of h hu, subs_eq, List.map_cons, hx]; simp
theorem sub_good {t s : List UInt8} (h : s ∈ subsOf t) : chk t = 0 := by
  by_cases hc : chk t = 0
  · exact hc
  · rw [subsOf_err hc] at h; cases h

/-- All that is in a term: itself, or what is in one of its parts. -/
theorem sub_cases {t s : List UInt8} (h : s ∈ subsOf t) : s = t ∨ ∃ p ∈ partsOf t, s ∈ subsOf p := by
  have hc := sub_good h
  obtain ⟨hl, u, hu, hw, hx, hd⟩ := chk_zero hc
  rw [subsOf_of hc hu, subs_eq, List.map_cons, hx] at h
  rcases List.mem_cons.1 h with rfl | h
  · exact .inl rfl
  · right
    obtain ⟨q, hq, rfl⟩ := List.mem_map.1 h
    unfold subsAll at hq
    obtain ⟨v, hv, hq⟩ := List.mem_flatMap.1 hq
    obtain ⟨v1, v2, _⟩ := kid_ok hw hv (by rw [hx]; exact hl) hd
    refine ⟨text v, by rw [partsOf_of hc hu]; exact List.mem_map_of_mem hv, ?_⟩
    rw [subsOf_of v2 (tree_text v1)]
    exact List.mem_map_of_mem hq
theorem sub_trans : ∀ (n : Nat) {t s r : List UInt8}, t.length ≤ n → s ∈ subsOf t → r ∈ subsOf s → r ∈ subsOf t
  | 0, t, s, r, hn, h1, h2 => by
    have hc := sub_good h1
    have : t = [] := List.eq_nil_of_length_eq_zero (by omega)
    rw [this] at hc
    exact absurd hc (by decide)
  | n + 1, t, s, r, hn, h1, h2 => by
    rcases sub_cases h1 with rfl | ⟨p, hp, hs⟩
    · exact h2
    · obtain ⟨_, _, h3, _, h5⟩ := part_of hp
      exact h5 _ (sub_trans n (by omega) hs h2)
theorem subs_in {t s r : List UInt8} (h1 : s ∈ subsOf t) (h2 : r ∈ subsOf s) : r ∈ subsOf t := sub_trans t.length (Nat.le_refl _) h1 h2
theorem sub_len : ∀ (n : Nat) {t s : List UInt8}, t.length ≤ n → s ∈ subsOf t → chk s = 0 ∧ (s = t ∨ s.length < t.length)
  | 0, t, s, hn, h1 => by
    have hc := sub_good h1
    have : t = [] := List.eq_nil_of_length_eq_zero (by omega)
    rw [this] at hc
    exact absurd hc (by decide)
  | n + 1, t, s, hn, h1 => by
    rcases sub_cases h1 with rfl | ⟨p, hp, hs⟩
    · exact ⟨sub_good h1, .inl rfl⟩
    · obtain ⟨_, _, h3, _, h5⟩ := part_of hp
      obtain ⟨g1, g2⟩ := sub_len n (by omega) hs
      refine ⟨g1, .inr ?_⟩
      rcases g2 with rfl | g2 <;> omega
theorem sub_ok {t s : List UInt8} (h : s ∈ subsOf t) : chk s = 0 ∧ (s = t ∨ s.length < t.length) := sub_len t.length (Nat.le_refl _) h

/-! The rules. -/
def Built (S : List UInt8 → Prop) (t : List UInt8) : Prop := (∀ p ∈ partsOf t, S p) ∧ (kindOf t = 99 ∨ partsOf t ≠ [])
def Given (S : List UInt8 → Prop) (t : List UInt8) : Prop := ∃ x, S x ∧ ((kindOf x = 112 ∧ t ∈ partsOf x) ∨ (kindOf x = 115 ∧ ∃ k, partsOf x = [k, t] ∧ S k))
def Closed (U S : List UInt8 → Prop) : Prop := ∀ t, U t → (Built S t ∨ Given S t) → S t
/-- What one can come to within a universe. -/
def Cl (l U : List UInt8 → Prop) (t : List UInt8) : Prop := ∀ S, Closed U S → (∀ x, l x → S x) → S t

theorem Built.mono {S S' : List UInt8 → Prop} (h : ∀ t, S t → S' t) {t : List UInt8} (hb : Built S t) : Built S' t := ⟨fun p hp => h p (hb.1 p hp), hb.2⟩
theorem Given.mono {S S' : List UInt8 → Prop} (h : ∀ t, S t → S' t) {t : List UInt8} (hb : Given S t) : Given S' t := by
  obtain ⟨x, hx, h1 | ⟨h1, k, h2, h3⟩⟩ := hb
  · exact ⟨x, h x hx, .inl h1⟩
  · exact ⟨x, h x hx, .inr ⟨h1, k, h2, h k h3⟩⟩
theorem cl_base {l U : List UInt8 → Prop} {t : List UInt8} (h : l t) : Cl l U t := fun _ _ h2 => h2 t h
theorem cl_closed (l U : List UInt8 → Prop) : Closed U (Cl l U) := by
  intro t ht hr S h1 h2
  refine h1 t ht ?_
  rcases hr with hr | hr
  · exact .inl (hr.mono fun x hx => hx S h1 h2)
  · exact .inr (hr.mono fun x hx => hx S h1 h2)
theorem cl_least {l U S : List UInt8 → Prop} (h1 : Closed U S) (h2 : ∀ x, l x → S x) {t : List UInt8} (h : Cl l U t) : S t := h S h1 h2
theorem cl_mono {l l' U : List UInt8 → Prop} (h : ∀ x, l x → l' x) {t : List UInt8} (ht : Cl l U t) : Cl l' U t :=
  cl_least (cl_closed l' U) (fun x hx => cl_base (h x hx)) ht
theorem cl_twice {l l' U : List UInt8 → Prop} (h : ∀ x, l' x → Cl l U x) {t : List UInt8} (ht : Cl l' U t) : Cl l U t :=
  cl_least (cl_closed l U) h ht
theorem cl_within {l U : List UInt8 → Prop} {t : List UInt8} (h : Cl l U t) : l t ∨ U t := by
  have : Cl l U t ∧ (l t ∨ U t) := by
    refine h (fun t => Cl l U t ∧ (l t ∨ U t)) ?_ ?_
    · intro t ht hr
      refine ⟨cl_closed l U t ht ?_, .inr ht⟩
      rcases hr with hr | hr
      · exact .inl (hr.mono fun x hx => hx.1)
      · exact .inr (hr.mono fun x hx => hx.1)
    · intro x hx
      exact ⟨cl_base hx, .inl hx⟩
  exact this.2

/-- With a term a universe has all that is in it. -/
def Full (U : List UInt8 → Prop) : Prop := ∀ t, U t → ∀ p ∈ partsOf t, U p

/-- What is made of what is had, over and over. -/
def Up (S U : List UInt8 → Prop) (t : List UInt8) : Prop := ∀ X, (∀ x, S x → X x) → (∀ x, U x → Built X x → X x) → X t
theorem up_base {S U : List UInt8 → Prop} {t : List UInt8} (h : S t) : Up S U t := fun _ h1 _ => h1 t h
theorem up_built {S U : List UInt8 → Prop} {t : List UInt8} (ht : U t) (h : Built (Up S U) t) : Up S U t := fun X h1 h2 => h2 t ht (h.mono fun _ hx => hx X h1 h2)
theorem up_cases {S U : List UInt8 → Prop} {t : List UInt8} (h : Up S U t) : S t ∨ (U t ∧ Built (Up S U) t) := by
  have : Up S U t ∧ (S t ∨ (U t ∧ Built (Up S U) t)) := by
    refine h (fun t => Up S U t ∧ (S t ∨ (U t ∧ Built (Up S U) t))) ?_ ?_
    · intro x hx; exact ⟨up_base hx, .inl hx⟩
    · intro x hx hb
      have hb' : Built (Up S U) x := hb.mono fun y hy => hy.1
      exact ⟨up_built hx hb', .inr ⟨hx, hb'⟩⟩
  exact this.2

/-- It is enough to look at a universe that has the terms, the goal, and all that is in them. -/
theorem cl_local {l U V : List UInt8 → Prop} (hU : Full U) (hl : ∀ t, l t → U t) {t : List UInt8} (h : Cl l V t) (ht : U t) : Cl l U t := by
  have hSU : ∀ x, Cl l U x → U x := fun x hx => by
    rcases cl_within hx with h | h
    · exact hl x h
    · exact h
  have key : ∀ (n : Nat) (x : List UInt8), x.length ≤ n → U x → Up (Cl l U) V x → Cl l U x := by
    intro n
    induction n with
    | zero =>
      intro x hx hu hup
      rcases up_cases hup with h | ⟨_, hb⟩
      · exact h
      · refine cl_closed l U x hu (.inl ⟨fun p hp => ?_, hb.2⟩)
        have := (part_of hp).2.2.1
        omega
    | succ n ih =>
      intro x hx hu hup
      rcases up_cases hup with h | ⟨_, hb⟩
      · exact h
      · refine cl_closed l U x hu (.inl ⟨fun p hp => ?_, hb.2⟩)
        have := (part_of hp).2.2.1
        exact ih p (by omega) (hU x hu p hp) (hb.1 p hp)
  have hcl : Closed V (Up (Cl l U) V) := by
    intro x hx hr
    rcases hr with hr | ⟨y, hy, hr⟩
    · exact up_built hx hr
    · rcases up_cases hy with hy' | ⟨_, hb⟩
      · have hyU := hSU y hy'
        rcases hr with ⟨h1, h2⟩ | ⟨h1, k, h2, h3⟩
        · exact up_base (cl_closed l U x (hU y hyU x h2) (.inr ⟨y, hy', .inl ⟨h1, h2⟩⟩))
        · have hk : U k := hU y hyU k (by rw [h2]; simp)
          have hk' := key k.length k (Nat.le_refl _) hk h3
          exact up_base (cl_closed l U x (hU y hyU x (by rw [h2]; simp)) (.inr ⟨y, hy', .inr ⟨h1, k, h2, hk'⟩⟩))
      · rcases hr with ⟨h1, h2⟩ | ⟨h1, k, h2, h3⟩
        · exact hb.1 x h2
        · exact hb.1 x (by rw [h2]; simp)
  have hup : Up (Cl l U) V t := cl_least hcl (fun x hx => up_base (cl_base hx)) h
  exact key t.length t (Nat.le_refl _) ht hup
/-- .. and a greater one takes nothing away. -/
theorem cl_wider {l U V : List UInt8 → Prop} (hUV : ∀ t, U t → V t) {t : List UInt8} (h : Cl l U t) : Cl l V t :=
  cl_least (fun x hx hr => cl_closed l V x (hUV x hx) hr) (fun _ hx => cl_base hx) h

end Tm
end Go.Proofs.Ytdpnffnogckfjaa
