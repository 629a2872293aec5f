/- The mathematics of terms, no program: a text has one tree at most; the reader finds it. -/
import Derived.Test.YtimeggbjmcnnoaaDefs
namespace Go.Proofs.Ytimeggbjmcnnoaa
namespace Tm

theorem ar1_le (k : UInt8) : ar1 k ≤ 2 := by unfold ar1; split; omega; split <;> omega
theorem ar_le (bs : List UInt8) : ar bs ≤ 2 := by cases bs with | nil => simp [ar] | cons k r => exact ar1_le k
theorem own_le (bs : List UInt8) : own bs ≤ bs.length := by
  unfold own
  split
  · simp
  · rename_i k r
    split
    · split <;> simp <;> omega
    · split
      · split
        · simp
        · split <;> simp <;> omega
      · split <;> simp
theorem ar1_110 : ar1 110 = 0 := by decide
theorem ar1_99 : ar1 99 = 0 := by decide
theorem own_kind {k : UInt8} (r : List UInt8) (h : ar1 k ≠ 0) : own (k :: r) = 1 := by
  have h1 : k ≠ 110 := fun e => h (e ▸ ar1_110)
  have h2 : k ≠ 99 := fun e => h (e ▸ ar1_99)
  simp [own, h1, h2, h]
theorem own_append {h : List UInt8} (r : List UInt8) (h0 : 0 < own h) (h1 : own h = h.length) : own (h ++ r) = own h := by
  cases h with
  | nil => simp [own] at h0
  | cons k q =>
    simp only [List.cons_append]
    by_cases e1 : k = 110
    · subst e1
      simp only [own] at h0 h1 ⊢
      by_cases e2 : 2 ≤ q.length
      · simp [e2]; omega
      · simp [e2] at h0
    · by_cases e2 : k = 99
      · subst e2
        cases q with
        | nil => simp [own] at h0
        | cons n q =>
          simp only [own, List.cons_append] at h0 h1 ⊢
          by_cases e3 : n.toNat ≤ 40 ∧ n.toNat ≤ q.length
          · simp [e3]; omega
          · simp [e3] at h0
      · simp [own, e1, e2]
theorem own_take {bs : List UInt8} (h : 0 < own bs) : own (bs.take (own bs)) = own bs := by
  cases bs with
  | nil => simp [own] at h
  | cons k q =>
    by_cases e1 : k = 110
    · subst e1
      by_cases e2 : 2 ≤ q.length
      · have e : own (110 :: q) = 3 := by simp [own, e2]
        rw [e]
        match q, e2 with
        | a :: b :: q, _ => simp [own]
      · simp [own, e2] at h
    · by_cases e2 : k = 99
      · subst e2
        cases q with
        | nil => simp [own] at h
        | cons n q =>
          by_cases e3 : n.toNat ≤ 40 ∧ n.toNat ≤ q.length
          · have e : own (99 :: n :: q) = n.toNat + 1 + 1 := by simp [own, e3]; omega
            rw [e]
            simp only [List.take_succ_cons]
            have : own (99 :: n :: q.take n.toNat) = 2 + n.toNat := by
              simp [own, List.length_take]
              omega
            omega
          · simp [own, e3] at h
      · by_cases e3 : ar1 k = 0
        · simp [own, e1, e2, e3] at h
        · rw [own_kind q e3]
          exact own_kind _ e3
theorem ar_append {h : List UInt8} (r : List UInt8) (h0 : h ≠ []) : ar (h ++ r) = ar h := by
  cases h with
  | nil => exact absurd rfl h0
  | cons k q => rfl
theorem ar_take {bs : List UInt8} {n : Nat} (h : 0 < n) : ar (bs.take n) = ar bs := by
  cases bs with
  | nil => simp
  | cons k q => cases n with
    | zero => omega
    | succ n => rfl
theorem own_one {bs : List UInt8} (h : ar bs ≠ 0) : own bs = 1 := by
  cases bs with
  | nil => exact absurd rfl h
  | cons k q => exact own_kind q h

theorem texts_nil : texts [] = [] := rfl
theorem texts_cons (t : T) (l : List T) : texts (t :: l) = text t ++ texts l := by simp [texts]
theorem texts_append (l k : List T) : texts (l ++ k) = texts l ++ texts k := by simp [texts]
theorem text_eq (t : T) : text t = head t ++ texts (kids t) := by
  obtain ⟨h, n, kid⟩ := t
  simp [text, head, kids, texts, List.flatMap_def, List.map_ofFn]
  rfl
theorem node_eta (h : List UInt8) (n : Nat) (kid : Fin n → T) (l : List T) (e : l = List.ofFn kid) : node h l = ⟨h, n, kid⟩ := by
  have hn : n = l.length := by simp [e]
  subst hn
  unfold node
  congr 1
  funext i
  have := List.getElem_of_eq e i.2
  simp at this
  exact this
theorem node_kids (t : T) : node (head t) (kids t) = t := by
  obtain ⟨h, n, kid⟩ := t
  exact node_eta h n kid _ rfl
theorem head_node (h : List UInt8) (l : List T) : head (node h l) = h := rfl
theorem kids_node (h : List UInt8) (l : List T) : kids (node h l) = l := by
  show List.ofFn (fun i : Fin l.length => l[i]) = l
  exact List.ofFn_getElem
theorem subsAll_cons (t : T) (l : List T) : subsAll (t :: l) = subs t ++ subsAll l := by simp [subsAll]
theorem subsAll_append (l k : List T) : subsAll (l ++ k) = subsAll l ++ subsAll k := by simp [subsAll]
theorem subs_eq (t : T) : subs t = t :: subsAll (kids t) := by
  obtain ⟨h, n, kid⟩ := t
  simp [subs, kids, subsAll, List.flatMap_def, List.map_ofFn]
  rfl
theorem wfs_nil : wfs [] := fun _ h => by cases h
theorem wfs_cons {t : T} {l : List T} : wfs (t :: l) ↔ wf t ∧ wfs l := by simp [wfs]
theorem wfs_append {l k : List T} : wfs (l ++ k) ↔ wfs l ∧ wfs k := by
  unfold wfs
  constructor
  · intro h; exact ⟨fun t ht => h t (by simp [ht]), fun t ht => h t (by simp [ht])⟩
  · rintro ⟨h1, h2⟩ t ht
    rcases List.mem_append.1 ht with h | h
    · exact h1 t h
    · exact h2 t h

theorem wf_iff (t : T) : wf t ↔ 0 < own (head t) ∧ own (head t) = (head t).length ∧ ar (head t) = (kids t).length ∧ wfs (kids t) := by
  obtain ⟨h, n, kid⟩ := t
  have e : wfs (kids ⟨h, n, kid⟩) ↔ ∀ i, wf (kid i) := by
    constructor
    · intro hw i
      exact hw _ (List.mem_ofFn.2 ⟨i, rfl⟩)
    · intro hw u hu
      obtain ⟨i, hi⟩ := List.mem_ofFn.1 hu
      rw [← hi]; exact hw i
  rw [e]
  simp [wf, head, kids]

/-- What a term's text begins with tells how many bytes of its own it has, and of how many it is made. -/
theorem wf_step {t : T} (h : wf t) (r : List UInt8) :
    own (text t ++ r) = (head t).length ∧ ar (text t ++ r) = (kids t).length ∧ 0 < (head t).length ∧ wfs (kids t) := by
  obtain ⟨h1, h2, h3, h4⟩ := (wf_iff t).1 h
  have hne : head t ≠ [] := fun e => by rw [e] at h1; simp [own] at h1
  refine ⟨?_, ?_, by omega, h4⟩
  · rw [text_eq, List.append_assoc, own_append _ h1 h2, h2]
  · rw [text_eq, List.append_assoc, ar_append _ hne, h3]

theorem text_pos {t : T} (h : wf t) : 0 < (text t).length := by
  have := (wf_step h []).2.2.1
  rw [text_eq, List.length_append]; omega

/-- Behind its own bytes stand the texts of its parts. -/
theorem drop_step {t : T} (h : wf t) (l : List T) (r : List UInt8) : (texts (t :: l) ++ r).drop (own (texts (t :: l) ++ r)) = texts (kids t ++ l) ++ r := by
  have e : texts (t :: l) ++ r = text t ++ (texts l ++ r) := by rw [texts_cons, List.append_assoc]
  rw [e, (wf_step h _).1, text_eq, texts_append]
  simp [List.append_assoc]

/-- What is made of own bytes and terms behind them. -/
theorem build {bs : List UInt8} {ks : List T} (h : 0 < own bs) (hw : wfs ks) (hl : ks.length = ar bs) :
    ∃ t, wf t ∧ head t = bs.take (own bs) ∧ kids t = ks := by
  refine ⟨node (bs.take (own bs)) ks, (wf_iff _).2 ?_, head_node _ _, kids_node _ _⟩
  rw [head_node, kids_node]
  refine ⟨by rw [own_take h]; exact h, ?_, ?_, hw⟩
  · rw [own_take h, List.length_take, Nat.min_eq_left (own_le bs)]
  · rw [ar_take h]; exact hl.symm

theorem mk_kids (t : T) (l : List T) : mk (head t) (kids t).length (kids t ++ l) = t :: l := by
  unfold mk
  rw [List.take_left, List.drop_left, node_kids]

theorem parseK_sound : ∀ (f k : Nat) (bs : List UInt8) (l : List T) (r : List UInt8), parseK f k bs = some (l, r) → l.length = k ∧ wfs l ∧ bs = texts l ++ r := by
  intro f
  induction f with
  | zero =>
    intro k bs l r h
    cases k with
    | zero => simp [parseK] at h; obtain ⟨rfl, rfl⟩ := h; exact ⟨rfl, wfs_nil, rfl⟩
    | succ k => simp [parseK] at h
  | succ f ih =>
    intro k bs l r h
    cases k with
    | zero => simp [parseK] at h; obtain ⟨rfl, rfl⟩ := h; exact ⟨rfl, wfs_nil, rfl⟩
    | succ k =>
      unfold parseK at h
      by_cases h0 : own bs = 0
      · rw [if_pos h0] at h; cases h
      · rw [if_neg h0] at h
        rcases hp : parseK f (ar bs + k) (bs.drop (own bs)) with _ | ⟨m, q⟩
        · rw [hp] at h; cases h
        · rw [hp] at h
          simp only [Option.some.injEq, Prod.mk.injEq] at h
          obtain ⟨h1, rfl⟩ := h
          obtain ⟨i1, i2, i3⟩ := ih _ _ _ _ hp
          have e : m = m.take (ar bs) ++ m.drop (ar bs) := (List.take_append_drop _ _).symm
          rw [e] at i2
          obtain ⟨w1, w2⟩ := wfs_append.1 i2
          obtain ⟨t, ht, hh, hk⟩ := build (by omega : 0 < own bs) w1 (by rw [List.length_take]; omega)
          have em : mk (bs.take (own bs)) (ar bs) m = t :: m.drop (ar bs) := by
            have := mk_kids t (m.drop (ar bs))
            rw [hh, hk, ← e, List.length_take, Nat.min_eq_left (by omega)] at this
            exact this
          rw [em] at h1
          subst h1
          refine ⟨by simp; omega, wfs_cons.2 ⟨ht, w2⟩, ?_⟩
          rw [texts_cons, text_eq, hh, hk, List.append_assoc, List.append_assoc, ← List.append_assoc (texts _), ← texts_append, ← e, ← i3, List.take_append_drop]

theorem parseK_complete : ∀ (f : Nat) (ts : List T) (r : List UInt8), wfs ts → (texts ts).length ≤ f → parseK f ts.length (texts ts ++ r) = some (ts, r) := by
  intro f
  induction f with
  | zero =>
    intro ts r hw hl
    cases ts with
    | nil => rfl
    | cons t l =>
      have := text_pos (wfs_cons.1 hw).1
      rw [texts_cons, List.length_append] at hl; omega
  | succ f ih =>
    intro ts r hw hl
    cases ts with
    | nil => rfl
    | cons t l =>
      obtain ⟨w1, w2⟩ := wfs_cons.1 hw
      have e : texts (t :: l) ++ r = text t ++ (texts l ++ r) := by rw [texts_cons, List.append_assoc]
      obtain ⟨s1, s2, s3, s4⟩ := wf_step w1 (texts l ++ r)
      have hd := drop_step w1 l r
      have ht : (texts (t :: l) ++ r).take (own (texts (t :: l) ++ r)) = head t := by
        rw [e, s1, text_eq, List.append_assoc]; simp
      have hi := ih (kids t ++ l) r (wfs_append.2 ⟨s4, w2⟩) (by
        rw [texts_cons, text_eq, List.append_assoc, ← texts_append, List.length_append] at hl; omega)
      rw [List.length_append] at hi
      rw [List.length_cons]
      unfold parseK
      rw [if_neg (by rw [e, s1]; omega), hd, ht, e, s2, hi]
      simp only
      rw [mk_kids]

/-- Texts of as many terms at the front are of the same terms. -/
theorem uniq {ts us : List T} {r q : List UInt8} (h1 : wfs ts) (h2 : wfs us) (hl : ts.length = us.length) (h : texts ts ++ r = texts us ++ q) : ts = us ∧ r = q := by
  have a := parseK_complete ((texts ts).length + (texts us).length) ts r h1 (by omega)
  have b := parseK_complete ((texts ts).length + (texts us).length) us q h2 (by omega)
  rw [h, hl, b] at a
  simp only [Option.some.injEq, Prod.mk.injEq] at a
  exact ⟨a.1.symm, a.2.symm⟩
theorem uniq1 {t u : T} {r q : List UInt8} (h1 : wf t) (h2 : wf u) (h : text t ++ r = text u ++ q) : t = u ∧ r = q := by
  have := uniq (ts := [t]) (us := [u]) (r := r) (q := q) (by simp [wfs, h1]) (by simp [wfs, h2]) rfl (by simpa [texts] using h)
  simpa using this

theorem parse_one {t : T} {r bs : List UInt8} (h : wf t) (e : bs = text t ++ r) : parseK bs.length 1 bs = some ([t], r) := by
  have := parseK_complete bs.length [t] r (by simp [wfs, h]) (by rw [e]; simp [texts])
  rw [show texts [t] ++ r = bs by rw [e]; simp [texts]] at this
  exact this
theorem one_parse {l : List T} {r bs : List UInt8} (h : parseK bs.length 1 bs = some (l, r)) : ∃ t, l = [t] ∧ wf t ∧ bs = text t ++ r := by
  obtain ⟨h1, h2, h3⟩ := parseK_sound _ _ _ _ _ h
  match l, h1 with
  | [t], _ => exact ⟨t, rfl, h2 t (by simp), by simpa [texts] using h3⟩

theorem first_some {bs : List UInt8} {t : T} : first bs = some t ↔ wf t ∧ ∃ r, bs = text t ++ r := by
  constructor
  · intro h
    unfold first at h
    rcases hp : parseK bs.length 1 bs with _ | ⟨l, r⟩
    · rw [hp] at h; cases h
    · obtain ⟨u, rfl, hu, e⟩ := one_parse hp
      rw [hp] at h
      simp at h
      subst h
      exact ⟨hu, r, e⟩
  · rintro ⟨h, r, e⟩
    unfold first
    rw [parse_one h e]
theorem first_none {bs : List UInt8} (h : first bs = none) (t : T) (r : List UInt8) (ht : wf t) : bs ≠ text t ++ r := by
  intro e
  rw [first_some.2 ⟨ht, r, e⟩] at h; cases h
theorem tree_some {bs : List UInt8} {t : T} : tree bs = some t ↔ wf t ∧ text t = bs := by
  constructor
  · intro h
    unfold tree at h
    rcases hp : parseK bs.length 1 bs with _ | ⟨l, r⟩
    · rw [hp] at h; cases h
    · obtain ⟨u, rfl, hu, e⟩ := one_parse hp
      rw [hp] at h
      cases r with
      | nil =>
        simp at h
        subst h
        exact ⟨hu, by rw [e]; simp⟩
      | cons x r => simp at h
  · rintro ⟨h, e⟩
    unfold tree
    rw [parse_one h (r := []) (by rw [e]; simp)]
theorem tree_text {t : T} (h : wf t) : tree (text t) = some t := tree_some.2 ⟨h, rfl⟩

/-- The first of many: its own bytes, then its parts ahead of the others. -/
theorem has_step {bs : List UInt8} {k : Nat} (h0 : 0 < own bs) :
    (∃ ts r, ts.length = k + 1 ∧ wfs ts ∧ bs = texts ts ++ r) ↔ (∃ ts r, ts.length = ar bs + k ∧ wfs ts ∧ bs.drop (own bs) = texts ts ++ r) := by
  constructor
  · rintro ⟨ts, r, hl, hw, e⟩
    match ts, hl with
    | t :: l, hl =>
      obtain ⟨w1, w2⟩ := wfs_cons.1 hw
      refine ⟨kids t ++ l, r, ?_, wfs_append.2 ⟨(wf_step w1 []).2.2.2, w2⟩, ?_⟩
      · rw [List.length_append, e, texts_cons, List.append_assoc, (wf_step w1 _).2.1]; simp at hl; omega
      · rw [e]; exact drop_step w1 l r
  · rintro ⟨ts, r, hl, hw, e⟩
    have ee : ts = ts.take (ar bs) ++ ts.drop (ar bs) := (List.take_append_drop _ _).symm
    rw [ee] at hw
    obtain ⟨w1, w2⟩ := wfs_append.1 hw
    obtain ⟨t, ht, hh, hk⟩ := build h0 w1 (by rw [List.length_take]; omega)
    refine ⟨t :: ts.drop (ar bs), r, by simp; omega, wfs_cons.2 ⟨ht, w2⟩, ?_⟩
    rw [texts_cons, text_eq, hh, hk, List.append_assoc, List.append_assoc, ← List.append_assoc (texts _), ← texts_append, ← ee, ← e, List.take_append_drop]
theorem has_own {bs : List UInt8} {k : Nat} (h : ∃ ts r, ts.length = k + 1 ∧ wfs ts ∧ bs = texts ts ++ r) : 0 < own bs := by
  obtain ⟨ts, r, hl, hw, e⟩ := h
  match ts, hl with
  | t :: l, hl =>
    obtain ⟨w1, w2⟩ := wfs_cons.1 hw
    rw [e, texts_cons, List.append_assoc, (wf_step w1 _).1]
    exact (wf_step w1 []).2.2.1

end Tm
end Go.Proofs.Ytimeggbjmcnnoaa
