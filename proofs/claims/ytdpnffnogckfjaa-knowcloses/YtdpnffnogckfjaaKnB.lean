/- Plain mathematics for layer 4, no program: sorted lists of terms, and the document's own way to close some terms within a universe. -/
import Derived.Test.YtdpnffnogckfjaaKnA
namespace Go.Proofs.Ytdpnffnogckfjaa
namespace Tm

/-- A term at its place among others, once. -/
def put : List (List UInt8) → List UInt8 → List (List UInt8)
  | [], t => [t]
  | x :: l, t => if x = t then x :: l else if t < x then t :: x :: l else x :: put l t
def puts (l : List (List UInt8)) (ts : List (List UInt8)) : List (List UInt8) := ts.foldl put l
def Sorted (l : List (List UInt8)) : Prop := l.Pairwise (· < ·)

theorem lt_irr (a : List UInt8) : ¬ a < a := List.lt_irrefl a
theorem lt_tr {a b c : List UInt8} (h1 : a < b) (h2 : b < c) : a < c := List.lt_trans h1 h2
theorem lt_tri : ∀ a b : List UInt8, a < b ∨ a = b ∨ b < a
  | [], [] => .inr (.inl rfl)
  | [], _ :: _ => .inl (List.nil_lt_cons _ _)
  | _ :: _, [] => .inr (.inr (List.nil_lt_cons _ _))
  | x :: a, y :: b => by
    simp only [List.cons_lt_cons_iff, List.cons.injEq]
    have hx : x < y ∨ x = y ∨ y < x := by
      rcases Nat.lt_trichotomy x.toNat y.toNat with h | h | h
      · exact .inl (UInt8.lt_iff_toNat_lt.2 h)
      · exact .inr (.inl (UInt8.toNat_inj.1 h))
      · exact .inr (.inr (UInt8.lt_iff_toNat_lt.2 h))
    rcases hx with h | rfl | h
    · exact .inl (.inl h)
    · rcases lt_tri a b with h | h | h
      · exact .inl (.inr ⟨rfl, h⟩)
      · exact .inr (.inl ⟨rfl, h⟩)
      · exact .inr (.inr (.inr ⟨rfl, h⟩))
    · exact .inr (.inr (.inl h))

theorem mem_put {l : List (List UInt8)} {t x : List UInt8} : x ∈ put l t ↔ x = t ∨ x ∈ l := by
  induction l with
  | nil => simp [put]
  | cons y l ih =>
    unfold put
    split
    · rename_i h; subst h; simp
    · split
      · simp
      · simp [ih]
        constructor
        · rintro (h | h | h) <;> simp [h]
        · rintro (h | h | h) <;> simp [h]
theorem sorted_put {l : List (List UInt8)} {t : List UInt8} (h : Sorted l) : Sorted (put l t) := by
  induction l with
  | nil => simp [put, Sorted]
  | cons y l ih =>
    obtain ⟨h1, h2⟩ := List.pairwise_cons.1 h
    unfold put
    split
    · exact h
    · rename_i hne
      split
      · rename_i hlt
        refine List.pairwise_cons.2 ⟨?_, h⟩
        intro x hx
        rcases List.mem_cons.1 hx with rfl | hx
        · exact hlt
        · exact lt_tr hlt (h1 x hx)
      · rename_i hnl
        have hyt : y < t := by
          rcases lt_tri y t with h | h | h
          · exact h
          · exact absurd h hne
          · exact absurd h hnl
        refine List.pairwise_cons.2 ⟨?_, ih h2⟩
        intro x hx
        rcases mem_put.1 hx with rfl | hx
        · exact hyt
        · exact h1 x hx
theorem put_mem {l : List (List UInt8)} {t : List UInt8} (hs : Sorted l) (h : t ∈ l) : put l t = l := by
  induction l with
  | nil => cases h
  | cons y l ih =>
    obtain ⟨h1, h2⟩ := List.pairwise_cons.1 hs
    unfold put
    split
    · rfl
    · rename_i hne
      rcases List.mem_cons.1 h with rfl | h
      · exact absurd rfl hne
      · rw [if_neg (fun hlt => lt_irr _ (lt_tr hlt (h1 t h))), ih h2 h]
theorem put_len {l : List (List UInt8)} {t : List UInt8} (h : t ∉ l) : (put l t).length = l.length + 1 := by
  induction l with
  | nil => rfl
  | cons y l ih =>
    have h1 : ¬ y = t := fun e => h (by simp [e])
    have h2 : t ∉ l := fun e => h (by simp [e])
    unfold put
    rw [if_neg h1]
    split
    · rfl
    · simp [ih h2]
/-- Sorted lists with the same members are the same. -/
theorem sorted_ext : ∀ {l k : List (List UInt8)}, Sorted l → Sorted k → (∀ x, x ∈ l ↔ x ∈ k) → l = k
  | [], [], _, _, _ => rfl
  | [], y :: k, _, _, h => by have := (h y).2 (by simp); cases this
  | x :: l, [], _, _, h => by have := (h x).1 (by simp); cases this
  | x :: l, y :: k, h1, h2, h => by
    obtain ⟨a1, a2⟩ := List.pairwise_cons.1 h1
    obtain ⟨b1, b2⟩ := List.pairwise_cons.1 h2
    have e : x = y := by
      rcases List.mem_cons.1 ((h x).1 (by simp)) with e | hx
      · exact e
      · rcases List.mem_cons.1 ((h y).2 (by simp)) with e | hy
        · exact e.symm
        · exact absurd (lt_tr (a1 y hy) (b1 x hx)) (lt_irr _)
    subst e
    congr 1
    refine sorted_ext a2 b2 fun z => ?_
    constructor
    · intro hz
      rcases List.mem_cons.1 ((h z).1 (by simp [hz])) with rfl | hz'
      · exact absurd (a1 z hz) (lt_irr _)
      · exact hz'
    · intro hz
      rcases List.mem_cons.1 ((h z).2 (by simp [hz])) with rfl | hz'
      · exact absurd (b1 z hz) (lt_irr _)
      · exact hz'
theorem mem_puts {l ts : List (List UInt8)} {x : List UInt8} : x ∈ puts l ts ↔ x ∈ l ∨ x ∈ ts := by
  unfold puts
  induction ts generalizing l with
  | nil => simp
  | cons t ts ih =>
    rw [List.foldl_cons, ih, mem_put]
    simp only [List.mem_cons]
    constructor
    · rintro ((h | h) | h) <;> simp [h]
    · rintro (h | h | h) <;> simp [h]
theorem sorted_puts {l ts : List (List UInt8)} (h : Sorted l) : Sorted (puts l ts) := by
  unfold puts
  induction ts generalizing l with
  | nil => exact h
  | cons t ts ih => exact ih (sorted_put h)
theorem sorted_nil : Sorted [] := List.Pairwise.nil

/-- All that is in some terms, in order. -/
def allL (l : List (List UInt8)) : List (List UInt8) := l.foldl (fun out x => puts out (subsOf x)) []
theorem mem_all_from {l out : List (List UInt8)} {t : List UInt8} : t ∈ l.foldl (fun out x => puts out (subsOf x)) out ↔ t ∈ out ∨ ∃ x ∈ l, t ∈ subsOf x := by
  induction l generalizing out with
  | nil => simp
  | cons x l ih =>
    rw [List.foldl_cons, ih, mem_puts]
    simp only [List.mem_cons, exists_eq_or_imp]
    constructor
    · rintro ((h | h) | h) <;> simp [h]
    · rintro (h | h | h)
      · exact .inl (.inl h)
      · exact .inl (.inr h)
      · exact .inr h
theorem mem_all {l : List (List UInt8)} {t : List UInt8} : t ∈ allL l ↔ ∃ x ∈ l, t ∈ subsOf x := by
  unfold allL; rw [mem_all_from]; simp
theorem sorted_all_from {l out : List (List UInt8)} (h : Sorted out) : Sorted (l.foldl (fun out x => puts out (subsOf x)) out) := by
  induction l generalizing out with
  | nil => exact h
  | cons x l ih => exact ih (sorted_puts h)
theorem sorted_all (l : List (List UInt8)) : Sorted (allL l) := sorted_all_from sorted_nil

def builtB (have_ : List (List UInt8)) (t : List UInt8) : Bool := (partsOf t).all (fun p => decide (p ∈ have_)) && (decide (kindOf t = 99) || decide (0 < (partsOf t).length))
/-- Does a term tell another one? -/
def tells (have_ : List (List UInt8)) (t x : List UInt8) : Bool :=
  (decide (kindOf x = 112) && (decide ((partsOf x).getD 0 [] = t) || decide ((partsOf x).getD 1 [] = t))) || (decide (kindOf x = 115) && decide ((partsOf x).getD 1 [] = t) && decide ((partsOf x).getD 0 [] ∈ have_))
def givenB (have_ : List (List UInt8)) (t : List UInt8) : Bool := have_.any (tells have_ t)

theorem builtB_iff {h : List (List UInt8)} {t : List UInt8} : builtB h t = true ↔ Built (· ∈ h) t := by
  unfold builtB Built
  simp [List.length_pos_iff]
/-- Pairs and what is sealed have two parts. -/
theorem two_parts {x : List UInt8} (h : kindOf x = 112 ∨ kindOf x = 115) : ∃ a b, partsOf x = [a, b] := by
  have hc : chk x = 0 := by
    by_cases hc : chk x = 0
    · exact hc
    · unfold kindOf at h; rw [if_neg hc] at h; exact absurd h (by decide)
  obtain ⟨t, k, r, ht, hw, hbs, hk, hpt, har, hwk, hlen, hr⟩ := parts_at hc
  have ha : ar1 k = 2 := by rw [hk] at h; rcases h with rfl | rfl <;> decide
  rw [ha] at har
  match hks : kids t, har with
  | [a, b], _ => exact ⟨text a, text b, by rw [hpt, hks]; rfl⟩
theorem givenB_iff {h : List (List UInt8)} {t : List UInt8} : givenB h t = true ↔ Given (· ∈ h) t := by
  unfold givenB Given
  rw [List.any_eq_true]
  constructor
  · rintro ⟨x, hx, hr⟩
    refine ⟨x, hx, ?_⟩
    unfold tells at hr
    simp only [Bool.or_eq_true, Bool.and_eq_true, decide_eq_true_eq] at hr
    rcases hr with ⟨h1, h2⟩ | ⟨⟨h1, h2⟩, h3⟩
    · obtain ⟨a, b, e⟩ := two_parts (.inl h1)
      rw [e] at h2 ⊢
      refine .inl ⟨h1, ?_⟩
      rcases h2 with h2 | h2
      · have : a = t := h2
        simp [this]
      · have : b = t := h2
        simp [this]
    · obtain ⟨a, b, e⟩ := two_parts (.inr h1)
      rw [e] at h2 h3
      have e1 : b = t := h2
      have e2 : a ∈ h := h3
      exact .inr ⟨h1, a, by rw [e, e1], e2⟩
  · rintro ⟨x, hx, hr⟩
    refine ⟨x, hx, ?_⟩
    unfold tells
    simp only [Bool.or_eq_true, Bool.and_eq_true, decide_eq_true_eq]
    rcases hr with ⟨h1, h2⟩ | ⟨h1, k, h2, h3⟩
    · obtain ⟨a, b, e⟩ := two_parts (.inl h1)
      rw [e] at h2 ⊢
      refine .inl ⟨h1, ?_⟩
      simp at h2
      rcases h2 with h2 | h2
      · exact .inl h2.symm
      · exact .inr h2.symm
    · rw [h2]
      exact .inr ⟨⟨h1, rfl⟩, h3⟩

/-- One term of the universe is looked at. -/
def step1 (h : List (List UInt8)) (t : List UInt8) : List (List UInt8) := if t ∉ h ∧ (builtB h t || givenB h t) = true then put h t else h
def sweep (U h : List (List UInt8)) : List (List UInt8) := U.foldl step1 h
def closeF : Nat → List (List UInt8) → List (List UInt8) → List (List UInt8)
  | 0, _, h => h
  | f + 1, U, h => if (sweep U h).length = h.length then h else closeF f U (sweep U h)
/-- Of a universe of terms those that one can come to. -/
def closeL (l U : List (List UInt8)) : List (List UInt8) := closeF (U.length + 1) U (puts [] l)

theorem step1_sorted {h : List (List UInt8)} {t : List UInt8} (hs : Sorted h) : Sorted (step1 h t) := by
  unfold step1; split
  · exact sorted_put hs
  · exact hs
theorem step1_sub {h : List (List UInt8)} {t x : List UInt8} (hx : x ∈ h) : x ∈ step1 h t := by
  unfold step1; split
  · exact mem_put.2 (.inr hx)
  · exact hx
theorem step1_len (h : List (List UInt8)) (t : List UInt8) : (step1 h t).length = h.length ∨ (step1 h t).length = h.length + 1 := by
  unfold step1; split
  · rename_i hh; exact .inr (put_len hh.1)
  · exact .inl rfl
theorem step1_same {h : List (List UInt8)} {t : List UInt8} (hl : (step1 h t).length = h.length) : step1 h t = h := by
  unfold step1 at hl ⊢
  split
  · rename_i hh
    rw [if_pos hh, put_len hh.1] at hl; omega
  · rfl
theorem sweep_sorted {U h : List (List UInt8)} (hs : Sorted h) : Sorted (sweep U h) := by
  unfold sweep
  induction U generalizing h with
  | nil => exact hs
  | cons t U ih => exact ih (step1_sorted hs)
theorem sweep_sub {U h : List (List UInt8)} {x : List UInt8} (hx : x ∈ h) : x ∈ sweep U h := by
  unfold sweep
  induction U generalizing h with
  | nil => exact hx
  | cons t U ih => exact ih (step1_sub hx)
theorem sweep_len (U h : List (List UInt8)) : h.length ≤ (sweep U h).length := by
  unfold sweep
  induction U generalizing h with
  | nil => exact Nat.le_refl _
  | cons t U ih =>
    have := ih (step1 h t)
    have := step1_len h t
    simp only [List.foldl_cons]
    omega
theorem sweep_same {U h : List (List UInt8)} (hl : (sweep U h).length = h.length) : sweep U h = h ∧ ∀ t ∈ U, step1 h t = h := by
  induction U generalizing h with
  | nil => exact ⟨rfl, fun _ h => by cases h⟩
  | cons t U ih =>
    have e : sweep (t :: U) h = sweep U (step1 h t) := rfl
    rw [e] at hl ⊢
    have h1 := sweep_len U (step1 h t)
    have h2 := step1_len h t
    have e1 : step1 h t = h := step1_same (by omega)
    rw [e1] at hl ⊢
    obtain ⟨h3, h4⟩ := ih hl
    refine ⟨h3, fun x hx => ?_⟩
    rcases List.mem_cons.1 hx with rfl | hx
    · exact e1
    · exact h4 x hx
theorem step1_cl {l : List UInt8 → Prop} {U : List UInt8 → Prop} {h : List (List UInt8)} {t : List UInt8} (ht : U t) (hc : ∀ x ∈ h, Cl l U x) : ∀ x ∈ step1 h t, Cl l U x := by
  intro x hx
  unfold step1 at hx
  split at hx
  · rename_i hh
    rcases mem_put.1 hx with rfl | hx
    · refine cl_closed l U x ht ?_
      rcases Bool.or_eq_true _ _ |>.mp hh.2 with hb | hb
      · exact .inl ((builtB_iff.1 hb).mono hc)
      · exact .inr ((givenB_iff.1 hb).mono hc)
    · exact hc x hx
  · exact hc x hx
theorem sweep_cl {l : List UInt8 → Prop} {U : List UInt8 → Prop} {us h : List (List UInt8)} (hu : ∀ t ∈ us, U t) (hc : ∀ x ∈ h, Cl l U x) : ∀ x ∈ sweep us h, Cl l U x := by
  unfold sweep
  induction us generalizing h with
  | nil => exact hc
  | cons t us ih => exact ih (fun x hx => hu x (by simp [hx])) (step1_cl (hu t (by simp)) hc)

/-- How many of a universe are not had yet. -/
def lack (U h : List (List UInt8)) : Nat := (U.filter fun t => decide (t ∉ h)).length
theorem lack_le (U h : List (List UInt8)) : lack U h ≤ U.length := List.length_filter_le _ _
theorem lack_mono {U h k : List (List UInt8)} (hs : ∀ x ∈ h, x ∈ k) : lack U k ≤ lack U h := by
  unfold lack
  induction U with
  | nil => simp
  | cons t U ih =>
    simp only [List.filter_cons]
    by_cases h1 : t ∈ h
    · have h2 := hs t h1
      simp [h1, h2]; simpa using ih
    · by_cases h2 : t ∈ k
      · simp [h1, h2]
        have : (List.filter (fun t => decide (t ∉ k)) U).length ≤ (List.filter (fun t => decide (t ∉ h)) U).length := ih
        simp at this
        omega
      · simp [h1, h2]; simpa using ih
theorem lack_less {U h k : List (List UInt8)} (hs : ∀ x ∈ h, x ∈ k) {t : List UInt8} (ht : t ∈ U) (h1 : t ∉ h) (h2 : t ∈ k) : lack U k < lack U h := by
  induction U with
  | nil => cases ht
  | cons u U ih =>
    have hm := lack_mono (U := U) hs
    unfold lack at hm ih ⊢
    simp only [List.filter_cons]
    rcases List.mem_cons.1 ht with rfl | ht
    · simp [h1, h2]
      simp at hm
      omega
    · have := ih ht
      by_cases g1 : u ∈ h
      · have g2 := hs u g1
        simp [g1, g2]; simpa using this
      · by_cases g2 : u ∈ k
        · simp [g1, g2]; simp at this; omega
        · simp [g1, g2]; simpa using this
/-- A sweep that brings more brings something of the universe. -/
theorem sweep_more {U h : List (List UInt8)} (hl : (sweep U h).length ≠ h.length) : ∃ t ∈ U, t ∉ h ∧ t ∈ sweep U h := by
  induction U generalizing h with
  | nil => exact absurd rfl hl
  | cons t U ih =>
    have e : sweep (t :: U) h = sweep U (step1 h t) := rfl
    rw [e] at hl ⊢
    by_cases hs : t ∉ h ∧ (builtB h t || givenB h t) = true
    · refine ⟨t, by simp, hs.1, sweep_sub ?_⟩
      unfold step1; rw [if_pos hs]; exact mem_put.2 (.inl rfl)
    · have e1 : step1 h t = h := by unfold step1; rw [if_neg hs]
      rw [e1] at hl ⊢
      obtain ⟨x, h1, h2, h3⟩ := ih hl
      exact ⟨x, by simp [h1], h2, h3⟩
theorem sweep_lack {U h : List (List UInt8)} (hl : (sweep U h).length ≠ h.length) : lack U (sweep U h) < lack U h := by
  obtain ⟨t, h1, h2, h3⟩ := sweep_more hl
  exact lack_less (fun x hx => sweep_sub hx) h1 h2 h3
/-- More fuel than is lacking changes nothing. -/
theorem closeF_fuel : ∀ (f g : Nat) (U h : List (List UInt8)), lack U h < f → lack U h < g → closeF f U h = closeF g U h
  | 0, _, _, _, hf, _ => by omega
  | _ + 1, 0, _, _, _, hg => by omega
  | f + 1, g + 1, U, h, hf, hg => by
    unfold closeF
    by_cases hl : (sweep U h).length = h.length
    · rw [if_pos hl, if_pos hl]
    · rw [if_neg hl, if_neg hl]
      have := sweep_lack hl
      exact closeF_fuel f g U _ (by omega) (by omega)
theorem closeF_spec : ∀ (f : Nat) (U h : List (List UInt8)) (l : List UInt8 → Prop), lack U h < f → Sorted h → (∀ x ∈ h, Cl l (· ∈ U) x) →
    Sorted (closeF f U h) ∧ (∀ x ∈ h, x ∈ closeF f U h) ∧ (∀ x ∈ closeF f U h, Cl l (· ∈ U) x) ∧ Closed (· ∈ U) (· ∈ closeF f U h)
  | 0, _, _, _, hf, _, _ => by omega
  | f + 1, U, h, l, hf, hs, hc => by
    unfold closeF
    by_cases hl : (sweep U h).length = h.length
    · rw [if_pos hl]
      refine ⟨hs, fun x hx => hx, hc, ?_⟩
      intro t ht hr
      have h1 := (sweep_same hl).2 t ht
      by_cases hth : t ∈ h
      · exact hth
      · have hb : (builtB h t || givenB h t) = true := by
          rw [Bool.or_eq_true]
          rcases hr with hr | hr
          · exact .inl (builtB_iff.2 hr)
          · exact .inr (givenB_iff.2 hr)
        unfold step1 at h1
        rw [if_pos ⟨hth, hb⟩] at h1
        have := mem_put (l := h) (t := t) (x := t)
        rw [h1] at this
        exact this.2 (.inl rfl)
    · rw [if_neg hl]
      have hlk := sweep_lack hl
      obtain ⟨a1, a2, a3, a4⟩ := closeF_spec f U (sweep U h) l (by omega) (sweep_sorted hs) (sweep_cl (fun _ ht => ht) hc)
      exact ⟨a1, fun x hx => a2 x (sweep_sub hx), a3, a4⟩

/-- The document's own way finds just what one can come to. -/
theorem closeL_spec (l U : List (List UInt8)) : Sorted (closeL l U) ∧ ∀ t, t ∈ closeL l U ↔ Cl (· ∈ l) (· ∈ U) t := by
  have h0 : ∀ x ∈ puts [] l, Cl (· ∈ l) (· ∈ U) x := by
    intro x hx
    rcases mem_puts.1 hx with h | h
    · cases h
    · exact cl_base h
  obtain ⟨a1, a2, a3, a4⟩ := closeF_spec (U.length + 1) U (puts [] l) (· ∈ l) (by have := lack_le U (puts [] l); omega) (sorted_puts sorted_nil) h0
  exact ⟨a1, fun t => ⟨a3 t, fun h => cl_least a4 (fun x hx => a2 x (mem_puts.2 (.inr hx))) h⟩⟩

end Tm
end Go.Proofs.Ytdpnffnogckfjaa
