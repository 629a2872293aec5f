/- Plain mathematics for layer 4, no program: what the laws say of what one can come to. -/
import Derived.Test.YtdpnffnogckfjaaKnB
namespace Go.Proofs.Ytdpnffnogckfjaa
namespace Tm

/-- Known's error and answer, Derives' error and answer. -/
def knownE (l : List (List UInt8)) : Nat := if 200 < l.length then 3 else firstErr l
def knownL (l : List (List UInt8)) : List (List UInt8) := if knownE l = 0 then closeL l (allL l) else []
def canB (l : List (List UInt8)) (g : List UInt8) : Bool := decide (g ∈ closeL l (allL (l ++ [g])))
def derivesE (l : List (List UInt8)) (g : List UInt8) : Nat := if knownE l = 0 then chk g else knownE l
def derives (l : List (List UInt8)) (g : List UInt8) : Bool := if derivesE l g = 0 then canB l g else false

/-- All that is in some terms. -/
def Uni (l : List (List UInt8)) (t : List UInt8) : Prop := ∃ x ∈ l, t ∈ subsOf x
theorem uni_full (l : List (List UInt8)) : Full (Uni l) := by
  rintro t ⟨x, hx, ht⟩ p hp
  exact ⟨x, hx, subs_in ht (part_of hp).2.2.2.1⟩
theorem uni_mem {l : List (List UInt8)} {x : List UInt8} (h : x ∈ l) (hc : chk x = 0) : Uni l x := ⟨x, h, self_sub hc⟩
theorem uni_mono {l k : List (List UInt8)} (h : ∀ x ∈ l, x ∈ k) {t : List UInt8} (ht : Uni l t) : Uni k t := by
  obtain ⟨x, hx, ht⟩ := ht
  exact ⟨x, h x hx, ht⟩
theorem uni_sub {l : List (List UInt8)} {s t : List UInt8} (h : Uni l t) (hs : s ∈ subsOf t) : Uni l s := by
  obtain ⟨x, hx, ht⟩ := h
  exact ⟨x, hx, subs_in ht hs⟩
theorem uni_snoc {l : List (List UInt8)} {g : List UInt8} {V : List UInt8 → Prop} (h1 : ∀ t, Uni l t → V t) (h2 : ∀ t ∈ subsOf g, V t) : ∀ t, Uni (l ++ [g]) t → V t := by
  rintro t ⟨x, hx, ht⟩
  rcases List.mem_append.1 hx with hx | hx
  · exact h1 t ⟨x, hx, ht⟩
  · simp at hx; subst hx; exact h2 t ht

def Good (l : List (List UInt8)) : Prop := ∀ x ∈ l, chk x = 0

theorem can_iff {l : List (List UInt8)} {g : List UInt8} (hl : Good l) (hg : chk g = 0) {V : List UInt8 → Prop} (hV : ∀ t, Uni (l ++ [g]) t → V t) : canB l g = true ↔ Cl (· ∈ l) V g := by
  unfold canB
  rw [decide_eq_true_eq, (closeL_spec _ _).2]
  constructor
  · exact cl_wider fun t ht => hV t (mem_all.1 ht)
  · intro h
    have h1 : Cl (· ∈ l) (Uni (l ++ [g])) g := cl_local (uni_full _) (fun t ht => uni_mem (by simp [ht]) (hl t ht)) h (uni_mem (by simp) hg)
    exact cl_wider (fun t ht => mem_all.2 ht) h1
theorem known_iff {l : List (List UInt8)} (hl : Good l) {V : List UInt8 → Prop} (hV : ∀ t, Uni l t → V t) {t : List UInt8} : t ∈ closeL l (allL l) ↔ Uni l t ∧ Cl (· ∈ l) V t := by
  rw [(closeL_spec _ _).2]
  constructor
  · intro h
    refine ⟨?_, cl_wider (fun t ht => hV t (mem_all.1 ht)) h⟩
    rcases cl_within h with h | h
    · exact uni_mem h (hl t h)
    · exact mem_all.1 h
  · rintro ⟨h1, h2⟩
    have h3 : Cl (· ∈ l) (Uni l) t := cl_local (uni_full _) (fun t ht => uni_mem ht (hl t ht)) h2 h1
    exact cl_wider (fun t ht => mem_all.2 ht) h3

/-- P4.3: who has more can come to no less. -/
theorem can_more {l k : List (List UInt8)} {g : List UInt8} (hl : Good l) (hk : Good k) (hg : chk g = 0) (h : ∀ x ∈ l, x ∈ k) (hc : canB l g = true) : canB k g = true := by
  have hV1 : ∀ t, Uni (l ++ [g]) t → Uni (k ++ [g]) t := fun t ht => uni_mono (fun x hx => by
    rcases List.mem_append.1 hx with hx | hx
    · exact List.mem_append.2 (.inl (h x hx))
    · exact List.mem_append.2 (.inr hx)) ht
  exact (can_iff hk hg (fun _ ht => ht)).2 (cl_mono h ((can_iff hl hg hV1).1 hc))
theorem can_same {l k : List (List UInt8)} {g : List UInt8} (hl : Good l) (hk : Good k) (hg : chk g = 0) (h : ∀ x, x ∈ l ↔ x ∈ k) : canB l g = canB k g := by
  rw [Bool.eq_iff_iff]
  exact ⟨can_more hl hk hg (fun x hx => (h x).1 hx), can_more hk hl hg (fun x hx => (h x).2 hx)⟩
theorem known_same {l k : List (List UInt8)} (hl : Good l) (hk : Good k) (h : ∀ x, x ∈ l ↔ x ∈ k) : closeL l (allL l) = closeL k (allL k) := by
  refine sorted_ext (closeL_spec _ _).1 (closeL_spec _ _).1 fun t => ?_
  have e : ∀ t, Uni l t ↔ Uni k t := fun t => ⟨uni_mono fun x hx => (h x).1 hx, uni_mono fun x hx => (h x).2 hx⟩
  rw [known_iff hl (V := Uni l) (fun _ ht => ht), known_iff hk (V := Uni l) (fun t ht => (e t).2 ht), e t]
  constructor
  · rintro ⟨h1, h2⟩; exact ⟨h1, cl_mono (fun x hx => (h x).1 hx) h2⟩
  · rintro ⟨h1, h2⟩; exact ⟨h1, cl_mono (fun x hx => (h x).2 hx) h2⟩
/-- What is known: in some of the terms, all of them, and to each one can come. -/
theorem known_parts {l : List (List UInt8)} (hl : Good l) : Sorted (closeL l (allL l)) ∧ (∀ t ∈ closeL l (allL l), Uni l t ∧ chk t = 0 ∧ canB l t = true) ∧ ∀ t ∈ l, t ∈ closeL l (allL l) := by
  refine ⟨(closeL_spec _ _).1, fun t ht => ?_, fun t ht => ?_⟩
  · obtain ⟨h1, h2⟩ := (known_iff hl (V := Uni l) fun _ h => h).1 ht
    have hc : chk t = 0 := by obtain ⟨x, _, hs⟩ := h1; exact (sub_ok hs).1
    exact ⟨h1, hc, (can_iff hl hc (V := Uni l) (uni_snoc (fun _ h => h) fun s hs => uni_sub h1 hs)).2 h2⟩
  · exact (known_iff hl (V := Uni l) fun _ h => h).2 ⟨uni_mem ht (hl t ht), cl_base ht⟩
/-- P4.3: who has what is known, too, can come to no more. -/
theorem can_known {l : List (List UInt8)} {g : List UInt8} (hl : Good l) (hg : chk g = 0) : canB (closeL l (allL l)) g = canB l g := by
  obtain ⟨_, k2, k3⟩ := known_parts hl
  have hk : Good (closeL l (allL l)) := fun t ht => (k2 t ht).2.1
  rw [Bool.eq_iff_iff]
  constructor
  · intro h
    have hV : ∀ t, Uni (closeL l (allL l) ++ [g]) t → Uni (l ++ [g]) t := uni_snoc (fun t ht => by
      obtain ⟨x, hx, hs⟩ := ht
      exact uni_mono (fun y hy => by simp [hy]) (uni_sub (k2 x hx).1 hs)) (fun t ht => ⟨g, by simp, ht⟩)
    have h1 := (can_iff hk hg hV).1 h
    refine (can_iff hl hg fun _ ht => ht).2 (cl_twice (fun x hx => ?_) h1)
    exact ((known_iff hl (V := Uni (l ++ [g])) (fun t ht => uni_mono (fun y hy => by simp [hy]) ht)).1 hx).2
  · exact can_more hl hk hg k3

/-- Kinds of terms without parts. -/
theorem kind_leaf {x : List UInt8} (h : chk x = 0) (hp : partsOf x = []) : kindOf x = 110 ∨ kindOf x = 99 := by
  obtain ⟨t, k, r, ht, hw, hbs, hk, hpt, har, hwk, hlen, hr⟩ := parts_at h
  rw [hpt] at hp
  have hks : kids t = [] := List.map_eq_nil_iff.1 hp
  rw [hks] at har
  have ho := (wf_step hw []).1
  have ho2 := (wf_step hw []).2.2.1
  rw [List.append_nil, (tree_some.1 ht).2, hbs] at ho
  rw [hk]
  by_cases e1 : k = 110
  · exact .inl e1
  · by_cases e2 : k = 99
    · exact .inr e2
    · exfalso
      have : own (k :: r) = 0 := by simp [own, e1, e2, har]
      omega
theorem nonce_leaf {x : List UInt8} (h : kindOf x = 110) : partsOf x = [] := by
  by_cases hc : chk x = 0
  · obtain ⟨t, k, r, ht, hw, hbs, hk, hpt, har, hwk, hlen, hr⟩ := parts_at hc
    rw [hk] at h
    subst h
    rw [show ar1 110 = 0 by decide] at har
    rw [hpt, List.eq_nil_of_length_eq_zero har.symm]; rfl
  · unfold partsOf; rw [if_neg hc]
theorem kind_nonce (n : Nat) : kindOf (nonce n) = 110 := by unfold kindOf; rw [if_pos (nonce_chk n)]; rfl
theorem subs_nonce (n : Nat) {s : List UInt8} (h : s ∈ subsOf (nonce n)) : s = nonce n := by
  rcases sub_cases h with h | ⟨p, hp, _⟩
  · exact h
  · rw [nonce_leaf (kind_nonce n)] at hp; cases hp

/-- P4.4: to a nonce that is in none of some terms one can't come. -/
theorem can_fresh {l : List (List UInt8)} {n : Nat} (hl : Good l) (hn : ¬ Uni l (nonce n)) : canB l (nonce n) = false := by
  rw [Bool.eq_false_iff]
  intro h
  have h1 := (can_iff hl (nonce_chk n) fun _ ht => ht).1 h
  have key : nonce n ≠ nonce n ∧ Uni (l ++ [nonce n]) (nonce n) := by
    refine cl_least (S := fun t => t ≠ nonce n ∧ Uni (l ++ [nonce n]) t) ?_ ?_ h1
    · intro t ht hr
      refine ⟨?_, ht⟩
      rintro rfl
      rcases hr with ⟨_, hb⟩ | ⟨x, ⟨hx1, hx2⟩, hr⟩
      · rcases hb with hb | hb
        · rw [kind_nonce] at hb; exact absurd hb (by decide)
        · exact hb (nonce_leaf (kind_nonce n))
      · have hxl : Uni l x := by
          obtain ⟨y, hy, hs⟩ := hx2
          rcases List.mem_append.1 hy with hy | hy
          · exact ⟨y, hy, hs⟩
          · simp at hy; subst hy
            exact absurd (subs_nonce n hs) hx1
        have hp : nonce n ∈ partsOf x := by
          rcases hr with ⟨_, h2⟩ | ⟨_, k, h2, _⟩
          · exact h2
          · rw [h2]; simp
        exact hn (uni_full l x hxl _ hp)
    · intro x hx
      refine ⟨?_, uni_mem (by simp [hx]) (hl x hx)⟩
      rintro rfl
      exact hn (uni_mem hx (hl _ hx))
  exact key.1 rfl

/-- What is made of two, of whatever kind: to come to both is enough. -/
theorem can_made {l : List (List UInt8)} {a b t : List UInt8} (hl : Good l) (ht : chk t = 0) (hp : partsOf t = [a, b]) (ha : canB l a = true) (hb : canB l b = true) : canB l t = true := by
  have pa := part_of (t := t) (p := a) (by rw [hp]; simp)
  have pb := part_of (t := t) (p := b) (by rw [hp]; simp)
  have hV : ∀ t', Uni l t' → Uni (l ++ [t]) t' := fun _ h => uni_mono (fun y hy => by simp [hy]) h
  have ha' := (can_iff hl pa.2.1 (V := Uni (l ++ [t])) (uni_snoc hV fun s hs => ⟨t, by simp, pa.2.2.2.2 s hs⟩)).1 ha
  have hb' := (can_iff hl pb.2.1 (V := Uni (l ++ [t])) (uni_snoc hV fun s hs => ⟨t, by simp, pb.2.2.2.2 s hs⟩)).1 hb
  refine (can_iff hl ht (V := Uni (l ++ [t])) fun _ h => h).2 (cl_closed _ _ t (uni_mem (by simp) ht) (.inl ⟨?_, .inr (by rw [hp]; simp)⟩))
  intro p hpp
  rw [hp] at hpp
  simp at hpp
  rcases hpp with rfl | rfl
  · exact ha'
  · exact hb'
/-- A pair tells both parts. -/
theorem can_pair {l : List (List UInt8)} {a b t : List UInt8} (hl : Good l) (ht : chk t = 0) (hk : kindOf t = 112) (hp : partsOf t = [a, b]) (h : canB l t = true) : canB l a = true ∧ canB l b = true := by
  have hV : ∀ t', Uni l t' → Uni (l ++ [t]) t' := fun _ h => uni_mono (fun y hy => by simp [hy]) h
  have h1 := (can_iff hl ht (V := Uni (l ++ [t])) fun _ h => h).1 h
  have one : ∀ p ∈ partsOf t, canB l p = true := by
    intro p hpp
    have pa := part_of hpp
    refine (can_iff hl pa.2.1 (V := Uni (l ++ [t])) (uni_snoc hV fun s hs => ⟨t, by simp, pa.2.2.2.2 s hs⟩)).2 ?_
    exact cl_closed _ _ p ⟨t, by simp, pa.2.2.2.1⟩ (.inr ⟨t, h1, .inl ⟨hk, hpp⟩⟩)
  exact ⟨one a (by rw [hp]; simp), one b (by rw [hp]; simp)⟩
theorem can_pair_iff {l : List (List UInt8)} {a b t : List UInt8} (hl : Good l) (ht : chk t = 0) (hk : kindOf t = 112) (hp : partsOf t = [a, b]) : canB l t = (canB l a && canB l b) := by
  rw [Bool.eq_iff_iff, Bool.and_eq_true]
  exact ⟨can_pair hl ht hk hp, fun h => can_made hl ht hp h.1 h.2⟩

/-- P4.5: what is sealed by a key that one can't come to, and is in none of the terms, leads to nothing more, but to what it is in. -/
theorem can_sealed {l : List (List UInt8)} {k t s g : List UInt8} (hl : Good l) (hs : chk s = 0) (hg : chk g = 0) (hk : kindOf s = 115) (hp : partsOf s = [k, t]) (h1 : ¬ Uni l s) (h2 : s ∉ subsOf g) (h3 : canB l k = false) :
    canB (l ++ [s]) g = canB l g := by
  have hl2 : Good (l ++ [s]) := by
    intro x hx
    rcases List.mem_append.1 hx with hx | hx
    · exact hl x hx
    · simp at hx; subst hx; exact hs
  have pk := part_of (t := s) (p := k) (by rw [hp]; simp)
  rw [Bool.eq_iff_iff]
  refine ⟨fun h => ?_, can_more hl hl2 hg (fun x hx => by simp [hx])⟩
  have hV0 : ∀ x, Uni l x → Uni ((l ++ [s]) ++ [g]) x := fun _ h => uni_mono (fun y hy => by simp [hy]) h
  have hnk : ¬ Cl (· ∈ l) (Uni ((l ++ [s]) ++ [g])) k := by
    intro hc
    have := (can_iff hl pk.2.1 (V := Uni ((l ++ [s]) ++ [g])) (uni_snoc hV0 fun r hr => ⟨s, by simp, pk.2.2.2.2 r hr⟩)).2 hc
    rw [h3] at this; cases this
  -- what one can come to without it does not have it in it
  have factA : ∀ x, Cl (· ∈ l) (Uni ((l ++ [s]) ++ [g])) x → s ∉ subsOf x := by
    intro x hx
    have : Cl (· ∈ l) (Uni ((l ++ [s]) ++ [g])) x ∧ s ∉ subsOf x := by
      refine cl_least (S := fun x => Cl (· ∈ l) (Uni ((l ++ [s]) ++ [g])) x ∧ s ∉ subsOf x) ?_ ?_ hx
      · intro y hy hr
        refine ⟨cl_closed _ _ y hy ?_, ?_⟩
        · rcases hr with hr | hr
          · exact .inl (hr.mono fun z hz => hz.1)
          · exact .inr (hr.mono fun z hz => hz.1)
        · intro hsy
          rcases hr with ⟨hb, _⟩ | ⟨z, ⟨_, hz⟩, hr⟩
          · rcases sub_cases hsy with rfl | ⟨p, hpp, hsp⟩
            · exact hnk (hb k (by rw [hp]; simp)).1
            · exact (hb p hpp).2 hsp
          · have hyz : y ∈ partsOf z := by
              rcases hr with ⟨_, h⟩ | ⟨_, k', h, _⟩
              · exact h
              · rw [h]; simp
            exact hz ((part_of hyz).2.2.2.2 s hsy)
      · intro y hy
        exact ⟨cl_base hy, fun hsy => h1 ⟨y, hy, hsy⟩⟩
    exact this.2
  -- what is made with it has it in it
  have factB : ∀ (n : Nat) (x : List UInt8), x.length ≤ n → Up (fun x => Cl (· ∈ l) (Uni ((l ++ [s]) ++ [g])) x ∨ x = s) (Uni ((l ++ [s]) ++ [g])) x → Cl (· ∈ l) (Uni ((l ++ [s]) ++ [g])) x ∨ s ∈ subsOf x := by
    intro n
    induction n with
    | zero =>
      intro x hx hu
      rcases up_cases hu with (h | rfl) | ⟨hv, hb⟩
      · exact .inl h
      · exact .inr (self_sub hs)
      · refine .inl (cl_closed _ _ x hv (.inl ⟨fun p hpp => ?_, hb.2⟩))
        have := (part_of hpp).2.2.1; omega
    | succ n ih =>
      intro x hx hu
      rcases up_cases hu with (h | rfl) | ⟨hv, hb⟩
      · exact .inl h
      · exact .inr (self_sub hs)
      · by_cases hsx : ∃ p ∈ partsOf x, s ∈ subsOf p
        · obtain ⟨p, hpp, hsp⟩ := hsx
          exact .inr ((part_of hpp).2.2.2.2 s hsp)
        · refine .inl (cl_closed _ _ x hv (.inl ⟨fun p hpp => ?_, hb.2⟩))
          have := (part_of hpp).2.2.1
          rcases ih p (by omega) (hb.1 p hpp) with h | h
          · exact h
          · exact absurd ⟨p, hpp, h⟩ hsx
  have factC : Closed (Uni ((l ++ [s]) ++ [g])) (Up (fun x => Cl (· ∈ l) (Uni ((l ++ [s]) ++ [g])) x ∨ x = s) (Uni ((l ++ [s]) ++ [g]))) := by
    intro x hx hr
    rcases hr with hr | ⟨y, hy, hr⟩
    · exact up_built hx hr
    · rcases up_cases hy with (hc | rfl) | ⟨_, hb⟩
      · refine up_base (.inl (cl_closed _ _ x hx (.inr ⟨y, hc, ?_⟩)))
        rcases hr with hr | ⟨g1, k', g2, g3⟩
        · exact .inl hr
        · refine .inr ⟨g1, k', g2, ?_⟩
          rcases factB _ k' (Nat.le_refl _) g3 with h | h
          · exact h
          · exact absurd ((part_of (t := y) (p := k') (by rw [g2]; simp)).2.2.2.2 s h) (factA y hc)
      · exfalso
        rcases hr with ⟨g1, _⟩ | ⟨_, k', g2, g3⟩
        · rw [hk] at g1; exact absurd g1 (by decide)
        · rw [hp] at g2
          simp at g2
          obtain ⟨rfl, rfl⟩ := g2
          rcases factB _ k (Nat.le_refl _) g3 with h | h
          · exact hnk h
          · rcases (sub_ok h).2 with e | e
            · have := pk.2.2.1; rw [e] at this; omega
            · have := pk.2.2.1; omega
      · rcases hr with ⟨_, g2⟩ | ⟨_, k', g2, _⟩
        · exact hb.1 x g2
        · exact hb.1 x (by rw [g2]; simp)
  have hu := cl_least factC (fun x hx => up_base (by
    rcases List.mem_append.1 hx with hx | hx
    · exact .inl (cl_base hx)
    · simp at hx; exact .inr hx)) ((can_iff hl2 hg (V := Uni ((l ++ [s]) ++ [g])) fun _ h => h).1 h)
  rcases factB _ g (Nat.le_refl _) hu with hc | hc
  · exact (can_iff hl hg (V := Uni ((l ++ [s]) ++ [g])) (uni_snoc hV0 fun r hr => ⟨g, by simp, hr⟩)).2 hc
  · exact absurd hc h2

/-- Who has nothing can come to just those terms that have no nonce in them. -/
theorem can_nothing {g : List UInt8} (hg : chk g = 0) : canB [] g = true ↔ ∀ s ∈ subsOf g, kindOf s ≠ 110 := by
  have hl : Good [] := fun x hx => by cases hx
  rw [can_iff hl hg (V := Uni ([] ++ [g])) fun _ h => h]
  constructor
  · intro h
    have : ∀ s ∈ subsOf g, kindOf s ≠ 110 := by
      refine cl_least (S := fun x => ∀ s ∈ subsOf x, kindOf s ≠ 110) ?_ ?_ h
      · intro y _ hr s hsy
        rcases hr with ⟨hb, hk⟩ | ⟨z, hz, hr⟩
        · rcases sub_cases hsy with rfl | ⟨p, hpp, hsp⟩
          · intro e
            rcases hk with hk | hk
            · rw [e] at hk; exact absurd hk (by decide)
            · exact hk (nonce_leaf e)
          · exact hb p hpp s hsp
        · have hyz : y ∈ partsOf z := by
            rcases hr with ⟨_, h⟩ | ⟨_, k', h, _⟩
            · exact h
            · rw [h]; simp
          exact hz s ((part_of hyz).2.2.2.2 s hsy)
      · intro x hx; cases hx
    exact this
  · intro h
    have key : ∀ (n : Nat) (x : List UInt8), x.length ≤ n → x ∈ subsOf g → Cl (· ∈ []) (Uni ([] ++ [g])) x := by
      intro n
      induction n with
      | zero =>
        intro x hx hxg
        have hc := (sub_ok hxg).1
        have : x = [] := List.eq_nil_of_length_eq_zero (by omega)
        rw [this] at hc
        exact absurd hc (by decide)
      | succ n ih =>
        intro x hx hxg
        refine cl_closed _ _ x ⟨g, by simp, hxg⟩ (.inl ⟨fun p hpp => ?_, ?_⟩)
        · have pp := part_of hpp
          exact ih p (by omega) (subs_in hxg pp.2.2.2.1)
        · by_cases hp : partsOf x = []
          · rcases kind_leaf (sub_ok hxg).1 hp with e | e
            · exact absurd e (h x hxg)
            · exact .inl e
          · exact .inr hp
    exact key g.length g (Nat.le_refl _) (self_sub hg)

end Tm
end Go.Proofs.Ytdpnffnogckfjaa
