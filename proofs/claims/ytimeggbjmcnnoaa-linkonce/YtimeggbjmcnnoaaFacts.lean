/- What the laws say, as plain mathematics of terms. -/
import Derived.Test.YtimeggbjmcnnoaaSubs
namespace Go.Proofs.Ytimeggbjmcnnoaa
namespace Tm

theorem subs_of : ∀ l : List T, (∀ u ∈ l, (subs u).length ≤ (text u).length) → (subsAll l).length ≤ (texts l).length
  | [], _ => by simp [subsAll]
  | t :: l, hw => by
    have h1 := hw t (by simp)
    have h2 := subs_of l (fun u hu => hw u (by simp [hu]))
    rw [texts_cons, subsAll_cons, List.length_append, List.length_append]; omega
theorem subs_len : ∀ t : T, wf t → (subs t).length ≤ (text t).length
  | ⟨h, n, kid⟩, hw => by
    have h0 := (wf_iff _).1 hw
    have hk : ∀ u ∈ kids ⟨h, n, kid⟩, (subs u).length ≤ (text u).length := by
      intro u hu
      obtain ⟨i, hi⟩ := List.mem_ofFn.1 hu
      rw [← hi]
      exact subs_len (kid i) (hw.2.2.2 i)
    have := subs_of _ hk
    rw [subs_eq, text_eq, List.length_append, List.length_cons]
    omega
theorem text_mem {u : T} {l : List T} (h : u ∈ l) : (text u).length ≤ (texts l).length := by
  induction l with
  | nil => cases h
  | cons x l ih =>
    rw [texts_cons, List.length_append]
    rcases List.mem_cons.1 h with rfl | h
    · omega
    · have := ih h; omega
theorem depth_mem {u : T} {l : List T} (h : u ∈ l) : depth u ≤ maxd l := by
  induction l with
  | nil => cases h
  | cons x l ih =>
    simp only [maxd]
    rcases List.mem_cons.1 h with rfl | h
    · omega
    · have := ih h; omega
theorem subsOf_of {bs : List UInt8} {t : T} (h : chk bs = 0) (ht : tree bs = some t) : subsOf bs = (subs t).map text := by unfold subsOf; rw [if_pos h, ht]
theorem partsOf_of {bs : List UInt8} {t : T} (h : chk bs = 0) (ht : tree bs = some t) : partsOf bs = (kids t).map text := by unfold partsOf; rw [if_pos h, ht]
theorem subsOf_len (bs : List UInt8) : (subsOf bs).length ≤ 2000 := by
  by_cases h : chk bs = 0
  · obtain ⟨hl, t, ht, hw, hx, _⟩ := chk_zero h
    rw [subsOf_of h ht, List.length_map]
    have := subs_len t hw
    rw [hx] at this; omega
  · unfold subsOf; rw [if_neg h]; simp
theorem partsOf_len (bs : List UInt8) : (partsOf bs).length ≤ 2 := by
  by_cases h : chk bs = 0
  · obtain ⟨t, k, r, ht, hw, hbs, hk, hpt, har, hwk, hlen, hr⟩ := parts_at h
    rw [hpt, List.length_map, ← har]
    exact ar1_le k
  · unfold partsOf; rw [if_neg h]; simp
theorem subsOf_err {bs : List UInt8} (h : chk bs ≠ 0) : subsOf bs = [] := by unfold subsOf; rw [if_neg h]

/-- Parts of what may be may be, and are shorter. -/
theorem kid_ok {t u : T} (hw : wf t) (hu : u ∈ kids t) (hl : (text t).length ≤ 2000) (hd : depth t ≤ 60) : wf u ∧ chk (text u) = 0 ∧ (text u).length < (text t).length := by
  obtain ⟨_, _, s3, s4⟩ := wf_step hw []
  have h1 := text_mem hu
  have h2 := depth_mem hu
  have h3 : (text t).length = (head t).length + (texts (kids t)).length := by rw [text_eq, List.length_append]
  rw [depth_kids] at hd
  refine ⟨s4 u hu, ?_, by omega⟩
  rw [chk_of (s4 u hu), if_neg (by omega), if_neg (by omega)]

/-- P3.4: what has parts is made of its kind and its parts. -/
theorem made_of {bs : List UInt8} (h : chk bs = 0) (hp : partsOf bs ≠ []) : makeE (kindOf bs) (partsOf bs) = 0 ∧ make (kindOf bs) (partsOf bs) = bs := by
  obtain ⟨t, k, r, ht, hw, hbs, hk, hpt, har, hwk, hlen, hr⟩ := parts_at h
  obtain ⟨_, t', ht', _, hx, hd⟩ := chk_zero h
  rw [ht] at ht'
  cases ht'
  have hne : kids t ≠ [] := fun e => hp (by rw [hpt, e]; rfl)
  have hfl : k :: (partsOf bs).flatten = bs := by
    rw [hpt, hbs, hr hne, texts, List.flatMap_def]
  have ha : ar1 k ≠ 0 := by
    rw [har]; intro e; exact hne (List.eq_nil_of_length_eq_zero e)
  have e0 : makeE (kindOf bs) (partsOf bs) = 0 := by
    unfold makeE
    rw [hk, if_neg (by rw [hpt, List.length_map, har]; simp; exact hne), if_pos, hfl]
    · exact h
    · rw [firstErr_zero, hpt]
      intro p hp2
      obtain ⟨u, hu, rfl⟩ := List.mem_map.1 hp2
      exact (kid_ok hw hu (by rw [hx]; exact hlen) hd).2.1
  refine ⟨e0, ?_⟩
  unfold make
  rw [if_pos e0, hk, hfl]

/-- What Make makes of two: both may be, and it is their bytes behind the kind's. -/
theorem make_two_ok {k : UInt8} {a b : List UInt8} (hk : ar1 k = 2) (h : makeE k [a, b] = 0) :
    chk a = 0 ∧ chk b = 0 ∧ chk (k :: (a ++ b)) = 0 ∧ make k [a, b] = k :: (a ++ b) ∧ kindOf (k :: (a ++ b)) = k ∧ partsOf (k :: (a ++ b)) = [a, b] ∧
      subsOf (k :: (a ++ b)) = (k :: (a ++ b)) :: (subsOf a ++ subsOf b) := by
  have hm : make k [a, b] = k :: (a ++ b) := by unfold make; rw [if_pos h]; simp
  unfold makeE at h
  rw [if_neg (by simp [hk])] at h
  by_cases hf : firstErr [a, b] = 0
  · rw [if_pos hf] at h
    have hz := firstErr_zero.1 hf
    have ha := hz a (by simp)
    have hb := hz b (by simp)
    have hc : chk (k :: (a ++ b)) = 0 := by simpa using h
    obtain ⟨t, hw, hx, hk2⟩ := made_chk (k := k) (l := [a, b]) (by omega) (by rw [hk]; rfl) hf
    rw [show ([a, b] : List (List UInt8)).flatten = a ++ b by simp] at hx
    have ht : tree (k :: (a ++ b)) = some t := tree_some.2 ⟨hw, hx⟩
    refine ⟨ha, hb, hc, hm, by unfold kindOf; rw [if_pos hc]; rfl, by rw [partsOf_of hc ht, hk2], ?_⟩
    have h4 := (wf_step hw []).2.2.2
    match hks : kids t, hk2 with
    | [ta, tb], hk2 =>
      rw [hks] at h4
      simp at hk2
      obtain ⟨rfl, rfl⟩ := hk2
      rw [subsOf_of hc ht, subsOf_of ha (tree_text (h4 ta (by simp))), subsOf_of hb (tree_text (h4 tb (by simp))), subs_eq, hks, List.map_cons, hx]
      simp [subsAll]
  · rw [if_neg hf] at h; exact absurd h hf

theorem make_err {k : UInt8} {l : List (List UInt8)} (h : makeE k l ≠ 0) : make k l = [] := by unfold make; rw [if_neg h]

/-- P3.5: a term's text with more behind it is no term's. -/
theorem whole {a r : List UInt8} (ha : chk a = 0) (hr : r ≠ []) : chk (a ++ r) ≠ 0 := by
  intro hb
  obtain ⟨_, ta, hta, hwa, hxa, _⟩ := chk_zero ha
  obtain ⟨_, tb, htb, hwb, hxb, _⟩ := chk_zero hb
  have := uniq1 hwa hwb (r := r) (q := []) (by rw [hxa, hxb, List.append_nil])
  exact hr this.2

theorem nonce_inj {a b : Nat} (ha : a < 65536) (hb : b < 65536) (h : nonce a = nonce b) : a = b := by
  unfold nonce at h
  simp only [List.cons.injEq, and_true, true_and] at h
  have h1 := congrArg UInt8.toNat h.1
  have h2 := congrArg UInt8.toNat h.2
  simp at h1 h2
  omega
theorem nonce_const (n : Nat) (s : List UInt8) : nonce n ≠ const s := by
  unfold nonce const
  split
  · simp
  · intro h
    simp only [List.cons.injEq] at h
    exact absurd h.1 (by decide)
theorem const_inj {a b : List UInt8} (ha : a.length ≤ 40) (hb : b.length ≤ 40) (h : const a = const b) : a = b := by
  unfold const at h
  rw [if_neg (by omega), if_neg (by omega)] at h
  simp only [List.cons.injEq, true_and] at h
  exact h.2
theorem nonce_chk (n : Nat) : chk (nonce n) = 0 := by
  have ho : own (nonce n) = 3 := by simp [nonce, own]
  obtain ⟨t, hw, hh, hk⟩ := build (bs := nonce n) (ks := []) (by omega) wfs_nil (by simp [nonce, ar, ar1])
  have hx : text t = nonce n := by
    rw [text_eq, hh, hk, ho, texts_nil, List.append_nil]
    rfl
  have hd : depth t = 1 := by rw [depth_kids, hk]; rfl
  rw [← hx, chk_of hw, hx, hd]
  simp [nonce]

end Tm
end Go.Proofs.Ytimeggbjmcnnoaa
