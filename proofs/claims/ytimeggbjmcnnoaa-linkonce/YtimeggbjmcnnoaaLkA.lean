/- Plain mathematics for layer 6, no program: a letter's text, its pieces, the term that is built of them, tags, and the window of numbers. -/
import Derived.Test.YtimeggbjmcnnoaaFacts
import Derived.Test.YtimeggbjmcnnoaaCnA
namespace Go.Proofs.Ytimeggbjmcnnoaa
namespace Tm

/-- A text cut from the front into pieces of 40 bytes. -/
def cutF : Nat → List UInt8 → List (List UInt8)
  | 0, _ => []
  | f + 1, b => if b.length ≤ 40 then [b] else b.take 40 :: cutF f (b.drop 40)
def cut (b : List UInt8) : List (List UInt8) := cutF (b.length + 1) b
/-- The constants of some pieces, paired from the back. -/
def bld : List (List UInt8) → List UInt8
  | [] => []
  | [c] => const c
  | c :: d :: l => 112 :: (const c ++ bld (d :: l))
def built (b : List UInt8) : List UInt8 := bld (cut b)

theorem cutF_fuel : ∀ (f g : Nat) (b : List UInt8), b.length < f → b.length < g → cutF f b = cutF g b
  | 0, _, _, h, _ => by omega
  | _ + 1, 0, _, _, h => by omega
  | f + 1, g + 1, b, hf, hg => by
    unfold cutF
    by_cases h : b.length ≤ 40
    · rw [if_pos h, if_pos h]
    · rw [if_neg h, if_neg h, cutF_fuel f g (b.drop 40) (by rw [List.length_drop]; omega) (by rw [List.length_drop]; omega)]
theorem cut_small {b : List UInt8} (h : b.length ≤ 40) : cut b = [b] := by unfold cut cutF; rw [if_pos h]
theorem cut_big {b : List UInt8} (h : 40 < b.length) : cut b = b.take 40 :: cut (b.drop 40) := by
  unfold cut
  conv => lhs; unfold cutF
  rw [if_neg (by omega), cutF_fuel b.length ((b.drop 40).length + 1) (b.drop 40) (by rw [List.length_drop]; omega) (by omega)]
theorem cut_ne (b : List UInt8) : cut b ≠ [] := by
  by_cases h : b.length ≤ 40
  · rw [cut_small h]; simp
  · rw [cut_big (by omega)]; simp
/-- What is said of pieces, said by the bytes that are left. -/
theorem cut_ind {P : List UInt8 → Prop} (h1 : ∀ b, b.length ≤ 40 → P b) (h2 : ∀ b, 40 < b.length → P (b.drop 40) → P b) : ∀ b, P b := by
  have key : ∀ n (b : List UInt8), b.length ≤ n → P b := by
    intro n
    induction n with
    | zero => exact fun b hb => h1 b (by omega)
    | succ n ih =>
      intro b hb
      by_cases h : b.length ≤ 40
      · exact h1 b h
      · exact h2 b (by omega) (ih _ (by rw [List.length_drop]; omega))
  exact fun b => key b.length b (Nat.le_refl _)
theorem cut_flatten : ∀ b, (cut b).flatten = b := by
  refine cut_ind (fun b h => ?_) (fun b h ih => ?_)
  · rw [cut_small h]; simp
  · rw [cut_big h, List.flatten_cons, ih, List.take_append_drop]
theorem cut_le : ∀ b, ∀ c ∈ cut b, c.length ≤ 40 := by
  refine cut_ind (fun b h => ?_) (fun b h ih => ?_)
  · rw [cut_small h]; simp; exact h
  · rw [cut_big h]
    intro c hc
    rcases List.mem_cons.1 hc with rfl | hc
    · rw [List.length_take]; omega
    · exact ih c hc
theorem cut_len : ∀ b, (cut b).length = (b.length - 1) / 40 + 1 := by
  refine cut_ind (fun b h => ?_) (fun b h ih => ?_)
  · rw [cut_small h]; simp; omega
  · rw [cut_big h, List.length_cons, ih, List.length_drop]; omega
/-- Which piece is where. -/
theorem cut_at : ∀ b i, i < (cut b).length → (cut b)[i]? = some ((b.drop (40 * i)).take 40) := by
  refine cut_ind (P := fun b => ∀ i, i < (cut b).length → (cut b)[i]? = some ((b.drop (40 * i)).take 40)) (fun b h i hi => ?_) (fun b h ih i hi => ?_)
  · rw [cut_small h] at hi ⊢
    have : i = 0 := by simp at hi; exact hi
    subst this
    simp; exact (List.take_of_length_le h).symm
  · rw [cut_big h] at hi ⊢
    cases i with
    | zero => simp
    | succ i =>
      rw [List.getElem?_cons_succ, ih i (by simpa using hi), List.drop_drop]
      congr 3; omega

/-- The tree of what is built. -/
def cstT (c : List UInt8) : T := node (99 :: UInt8.ofNat c.length :: c) []
def pairT (a b : T) : T := node [112] [a, b]
def bldT : List (List UInt8) → T
  | [] => cstT []
  | [c] => cstT c
  | c :: d :: l => pairT (cstT c) (bldT (d :: l))
theorem cst_len {c : List UInt8} (h : c.length ≤ 40) : (UInt8.ofNat c.length).toNat = c.length := by
  rw [UInt8.toNat_ofNat']; omega
theorem cst_wf {c : List UInt8} (h : c.length ≤ 40) : wf (cstT c) := by
  rw [wf_iff]
  unfold cstT
  rw [head_node, kids_node]
  have e : own (99 :: UInt8.ofNat c.length :: c) = 2 + c.length := by
    have e1 : own (99 :: UInt8.ofNat c.length :: c) = if (UInt8.ofNat c.length).toNat ≤ 40 ∧ (UInt8.ofNat c.length).toNat ≤ c.length then 2 + (UInt8.ofNat c.length).toNat else 0 := by
      rfl
    rw [e1, cst_len h, if_pos ⟨h, Nat.le_refl _⟩]
  exact ⟨by omega, by rw [e]; simp; omega, rfl, wfs_nil⟩
theorem cst_text {c : List UInt8} (h : c.length ≤ 40) : text (cstT c) = const c := by
  rw [text_eq]
  unfold cstT const
  rw [head_node, kids_node, if_neg (by omega)]
  simp [texts]
theorem pair_wf {a b : T} (ha : wf a) (hb : wf b) : wf (pairT a b) := by
  rw [wf_iff]
  unfold pairT
  rw [head_node, kids_node]
  exact ⟨by decide, by decide, rfl, wfs_cons.2 ⟨ha, wfs_cons.2 ⟨hb, wfs_nil⟩⟩⟩
theorem pair_text (a b : T) : text (pairT a b) = 112 :: (text a ++ text b) := by
  rw [text_eq]
  unfold pairT
  rw [head_node, kids_node, texts_cons, texts_cons, texts_nil]
  simp
theorem bld_tree : ∀ (l : List (List UInt8)), l ≠ [] → (∀ c ∈ l, c.length ≤ 40) → wf (bldT l) ∧ text (bldT l) = bld l
  | [], h, _ => absurd rfl h
  | [c], _, h => ⟨cst_wf (h c (by simp)), cst_text (h c (by simp))⟩
  | c :: d :: l, _, h => by
    obtain ⟨h1, h2⟩ := bld_tree (d :: l) (by simp) (fun x hx => h x (by simp [hx]))
    refine ⟨pair_wf (cst_wf (h c (by simp))) h1, ?_⟩
    show text (pairT _ _) = _
    rw [pair_text, h2, cst_text (h c (by simp))]; rfl
theorem const_len {c : List UInt8} (h : c.length ≤ 40) : (const c).length = c.length + 2 := by
  unfold const; rw [if_neg (by omega)]; simp
theorem bld_len : ∀ (l : List (List UInt8)), l ≠ [] → (∀ c ∈ l, c.length ≤ 40) → (bld l).length + 1 = l.flatten.length + 3 * l.length
  | [], h, _ => absurd rfl h
  | [c], _, h => by simp [bld, const_len (h c (by simp))]
  | c :: d :: l, _, h => by
    have ih := bld_len (d :: l) (by simp) (fun x hx => h x (by simp [hx]))
    have e := const_len (h c (by simp))
    show (112 :: (const c ++ bld (d :: l))).length + 1 = _
    rw [List.length_cons, List.length_append, e, List.flatten_cons, List.length_append, List.length_cons (a := c)]
    omega
/-- Unlike pieces build unlike terms, whatever stands behind. -/
theorem const_front {c d r q : List UInt8} (hc : c.length ≤ 40) (hd : d.length ≤ 40) (h : const c ++ r = const d ++ q) : c = d ∧ r = q := by
  obtain ⟨e1, e2⟩ := uniq1 (cst_wf hc) (cst_wf hd) (by rw [cst_text hc, cst_text hd]; exact h)
  have e3 := congrArg text e1
  rw [cst_text hc, cst_text hd] at e3
  exact ⟨const_inj hc hd e3, e2⟩
theorem const_head {c : List UInt8} (h : c.length ≤ 40) : ∃ r, const c = 99 :: r := by unfold const; rw [if_neg (by omega)]; exact ⟨_, rfl⟩
theorem bld_inj : ∀ (l k : List (List UInt8)), l ≠ [] → k ≠ [] → (∀ c ∈ l, c.length ≤ 40) → (∀ c ∈ k, c.length ≤ 40) → bld l = bld k → l = k
  | [], _, h, _, _, _, _ => absurd rfl h
  | _, [], _, h, _, _, _ => absurd rfl h
  | [c], [d], _, _, hc, hd, h => by rw [const_inj (hc c (by simp)) (hd d (by simp)) h]
  | [c], d :: d2 :: k, _, _, hc, _, h => by
    obtain ⟨r, e⟩ := const_head (hc c (by simp))
    have : const c = 112 :: (const d ++ bld (d2 :: k)) := h
    rw [e] at this
    simp at this
  | c :: c2 :: l, [d], _, _, _, hd, h => by
    obtain ⟨r, e⟩ := const_head (hd d (by simp))
    have : 112 :: (const c ++ bld (c2 :: l)) = const d := h
    rw [e] at this
    simp at this
  | c :: c2 :: l, d :: d2 :: k, _, _, hc, hd, h => by
    have h' : (112 : UInt8) :: (const c ++ bld (c2 :: l)) = 112 :: (const d ++ bld (d2 :: k)) := h
    simp only [List.cons.injEq, true_and] at h'
    obtain ⟨e1, e2⟩ := const_front (hc c (by simp)) (hd d (by simp)) h'
    rw [e1, bld_inj (c2 :: l) (d2 :: k) (by simp) (by simp) (fun x hx => hc x (by simp [hx])) (fun x hx => hd x (by simp [hx])) e2]
theorem built_inj {a b : List UInt8} (h : built a = built b) : a = b := by
  have := bld_inj (cut a) (cut b) (cut_ne a) (cut_ne b) (cut_le a) (cut_le b) h
  rw [← cut_flatten a, this, cut_flatten]

/-- How deep it is, and that it may be. -/
theorem cst_depth (c : List UInt8) : depth (cstT c) = 1 := by rw [depth_kids]; unfold cstT; rw [kids_node]; rfl
theorem pair_depth (a b : T) : depth (pairT a b) = max (depth a) (depth b) + 1 := by
  rw [depth_kids]; unfold pairT; rw [kids_node]; simp [maxd]
theorem bld_depth : ∀ (l : List (List UInt8)), l ≠ [] → depth (bldT l) = l.length
  | [], h => absurd rfl h
  | [c], _ => cst_depth c
  | c :: d :: l, _ => by
    have ih := bld_depth (d :: l) (by simp)
    show depth (pairT _ _) = _
    rw [pair_depth, cst_depth, ih]
    simp only [List.length_cons]
    omega
theorem built_tree (b : List UInt8) : wf (bldT (cut b)) ∧ text (bldT (cut b)) = built b ∧ depth (bldT (cut b)) = (b.length - 1) / 40 + 1 ∧ (built b).length = b.length + 3 * ((b.length - 1) / 40) + 2 := by
  obtain ⟨h1, h2⟩ := bld_tree (cut b) (cut_ne b) (cut_le b)
  have h3 := bld_len (cut b) (cut_ne b) (cut_le b)
  refine ⟨h1, h2, by rw [bld_depth _ (cut_ne b), cut_len], ?_⟩
  rw [cut_flatten, cut_len] at h3
  show (bld (cut b)).length = _
  omega
theorem built_chk {b : List UInt8} (h : b.length ≤ 1006) : chk (built b) = 0 := by
  obtain ⟨h1, h2, h3, h4⟩ := built_tree b
  rw [← h2, chk_of h1, h2, if_neg (by omega), if_neg (by omega)]

/-- A letter's text, its tag's error and its tag; the key of a link. -/
def ltext (a b seq : Nat) (body : List UInt8) : List UInt8 :=
  UInt8.ofNat a :: UInt8.ofNat b :: UInt8.ofNat (seq / 16777216) :: UInt8.ofNat (seq / 65536 % 256) :: UInt8.ofNat (seq / 256 % 256) :: UInt8.ofNat (seq % 256) :: body
def tagE (key : List UInt8) (a b seq : Nat) (body : List UInt8) : Nat := if 1000 < body.length then 3 else makeE 109 [key, built (ltext a b seq body)]
def tag (key : List UInt8) (a b seq : Nat) (body : List UInt8) : List UInt8 := if tagE key a b seq body = 0 then make 109 [key, built (ltext a b seq body)] else []
def linkC (a b : Nat) : List UInt8 := const [UInt8.ofNat (min a b), UInt8.ofNat (max a b)]
def keyE (secret : List UInt8) (a b : Nat) : Nat := if a < 16 ∧ b < 16 ∧ a ≠ b then makeE 100 [secret, linkC a b] else 2
def keyOf (secret : List UInt8) (a b : Nat) : List UInt8 := if keyE secret a b = 0 then make 100 [secret, linkC a b] else []

theorem byte_inj {x y : Nat} (hx : x < 256) (hy : y < 256) (h : UInt8.ofNat x = UInt8.ofNat y) : x = y := by
  have := congrArg UInt8.toNat h
  rw [UInt8.toNat_ofNat', UInt8.toNat_ofNat'] at this
  omega
theorem ltext_len (a b seq : Nat) (body : List UInt8) : (ltext a b seq body).length = body.length + 6 := by simp [ltext]
theorem ltext_inj {a b s a' b' s' : Nat} {x x' : List UInt8} (ha : a < 256) (hb : b < 256) (hs : s < 4294967296) (ha' : a' < 256) (hb' : b' < 256) (hs' : s' < 4294967296)
    (h : ltext a b s x = ltext a' b' s' x') : a = a' ∧ b = b' ∧ s = s' ∧ x = x' := by
  unfold ltext at h
  simp only [List.cons.injEq] at h
  obtain ⟨h1, h2, h3, h4, h5, h6, h7⟩ := h
  have e1 := byte_inj ha ha' h1
  have e2 := byte_inj hb hb' h2
  have e3 := byte_inj (by omega) (by omega) h3
  have e4 := byte_inj (by omega) (by omega) h4
  have e5 := byte_inj (by omega) (by omega) h5
  have e6 := byte_inj (by omega) (by omega) h6
  exact ⟨e1, e2, by omega, h7⟩
/-- What is made of two tells both. -/
theorem made_inj {k : UInt8} {a b a' b' : List UInt8} (hk : ar1 k = 2) (h1 : makeE k [a, b] = 0) (h2 : makeE k [a', b'] = 0) (h : make k [a, b] = make k [a', b']) : a = a' ∧ b = b' := by
  obtain ⟨_, _, _, e1, _, p1, _⟩ := make_two_ok hk h1
  obtain ⟨_, _, _, e2, _, p2, _⟩ := make_two_ok hk h2
  rw [e1, e2] at h
  rw [h, p2] at p1
  simp at p1
  exact ⟨p1.1.symm, p1.2.symm⟩
theorem tagE_zero {key : List UInt8} {a b seq : Nat} {body : List UInt8} (h : tagE key a b seq body = 0) : body.length ≤ 1000 ∧ makeE 109 [key, built (ltext a b seq body)] = 0 := by
  unfold tagE at h
  by_cases hb : 1000 < body.length
  · rw [if_pos hb] at h; cases h
  · rw [if_neg hb] at h; exact ⟨by omega, h⟩
theorem tag_inj {key key' x x' : List UInt8} {a b s a' b' s' : Nat} (ha : a < 256) (hb : b < 256) (hs : s < 4294967296) (ha' : a' < 256) (hb' : b' < 256) (hs' : s' < 4294967296)
    (h1 : tagE key a b s x = 0) (h2 : tagE key' a' b' s' x' = 0) (h : tag key a b s x = tag key' a' b' s' x') : key = key' ∧ a = a' ∧ b = b' ∧ s = s' ∧ x = x' := by
  unfold tag at h
  rw [if_pos h1, if_pos h2] at h
  obtain ⟨e1, e2⟩ := made_inj (by decide) (tagE_zero h1).2 (tagE_zero h2).2 h
  exact ⟨e1, ltext_inj ha hb hs ha' hb' hs' (built_inj e2)⟩
/-- Why a tag may not be. -/
theorem made_err {k : UInt8} {a b : List UInt8} (hk : ar1 k = 2) (hb : chk b = 0) : makeE k [a, b] = if chk a = 0 then chk (k :: (a ++ b)) else chk a := by
  unfold makeE
  rw [if_neg (by simp [hk])]
  by_cases ha : chk a = 0
  · have : firstErr [a, b] = 0 := firstErr_zero.2 (by intro p hp; simp at hp; rcases hp with rfl | rfl <;> assumption)
    rw [if_pos this, if_pos ha]; simp
  · have : firstErr [a, b] = chk a := by unfold firstErr; rw [if_neg ha]
    rw [this, if_neg ha, if_neg ha]
theorem made_chk3 {k : UInt8} {ta tb : T} (hk : ar1 k = 2) (ha : wf ta) (hb : wf tb) : chk (k :: (text ta ++ text tb)) = if 2000 < (text ta).length + (text tb).length + 1 then 3 else if 60 < max (depth ta) (depth tb) + 1 then 3 else 0 := by
  have hw : wf (node [k] [ta, tb]) := by
    rw [wf_iff, head_node, kids_node]
    exact ⟨by rw [own_kind [] (by omega)]; omega, own_kind [] (by omega), hk, wfs_cons.2 ⟨ha, wfs_cons.2 ⟨hb, wfs_nil⟩⟩⟩
  have hx : text (node [k] [ta, tb]) = k :: (text ta ++ text tb) := by
    rw [text_eq, head_node, kids_node, texts_cons, texts_cons, texts_nil]; simp
  have hd : depth (node [k] [ta, tb]) = max (depth ta) (depth tb) + 1 := by rw [depth_kids, kids_node]; simp [maxd]
  rw [← hx, chk_of hw, hd, hx]
  simp only [List.length_cons, List.length_append]

/-- The window of numbers: Top and Came. -/
def isNew (top came seq : Nat) : Bool := decide (top < seq) || (decide (top - seq < 64) && !came.testBit (top - seq))
def shl (w n : Nat) : Nat := w * 2 ^ n % 18446744073709551616
def accT (top seq : Nat) : Nat := if top < seq then seq else top
def accC (top came seq : Nat) : Nat := if top < seq then shl came (seq - top) + 1 else came + 2 ^ (top - seq)
theorem shl_test (w n j : Nat) : (shl w n).testBit j = (decide (j < 64) && (decide (n ≤ j) && w.testBit (j - n))) := by
  unfold shl
  rw [show (18446744073709551616 : Nat) = 2 ^ 64 by decide, Nat.testBit_mod_two_pow, ← Nat.shiftLeft_eq, Nat.testBit_shiftLeft]
theorem shl_far {w n : Nat} (h : 64 ≤ n) : shl w n = 0 := by
  refine Nat.eq_of_testBit_eq fun j => ?_
  rw [shl_test]
  by_cases hj : j < 64
  · have : ¬ n ≤ j := by omega
    simp [this]
  · simp [hj]
theorem shl_lt (w n : Nat) : shl w n < 18446744073709551616 := Nat.mod_lt _ (by omega)
theorem shl_step (w n : Nat) : shl (w * 2 % 18446744073709551616) n = shl w (n + 1) := by
  unfold shl
  rw [Nat.mod_mul_mod, Nat.pow_succ]
  congr 1
  rw [Nat.mul_assoc, Nat.mul_comm 2]
theorem shl_even {w n : Nat} (h : 0 < n) : (shl w n).testBit 0 = false := by
  rw [shl_test]
  have : ¬ n ≤ 0 := by omega
  simp [this]
theorem accC_test (top came seq j : Nat) (hnew : isNew top came seq = true) : (accC top came seq).testBit j =
    if top < seq then (decide (j = 0) || (decide (j < 64) && (decide (seq - top ≤ j) && came.testBit (j - (seq - top))))) else (came.testBit j || decide (top - seq = j)) := by
  unfold accC
  by_cases h : top < seq
  · rw [if_pos h, if_pos h]
    have h1 := Cn.test_add (s := shl came (seq - top)) (i := 0) (j := j) (shl_even (by omega))
    rw [Nat.pow_zero] at h1
    rw [h1, shl_test, Bool.or_comm]
    congr 1
    simp [eq_comm]
  · rw [if_neg h, if_neg h]
    unfold isNew at hnew
    rw [decide_eq_false h, Bool.false_or, Bool.and_eq_true] at hnew
    exact Cn.test_add (by simpa using hnew.2)
theorem accC_lt {top came seq : Nat} (hc : came < 18446744073709551616) (hnew : isNew top came seq = true) : accC top came seq < 18446744073709551616 := by
  refine Nat.lt_pow_two_of_testBit (n := 64) _ fun j hj => ?_
  rw [accC_test _ _ _ _ hnew]
  by_cases h : top < seq
  · rw [if_pos h]
    have h1 : ¬ j < 64 := by omega
    have h2 : ¬ j = 0 := by omega
    simp [h1, h2]
  · rw [if_neg h]
    unfold isNew at hnew
    rw [decide_eq_false h, Bool.false_or, Bool.and_eq_true, decide_eq_true_eq] at hnew
    have h1 : ¬ top - seq = j := by omega
    have h2 : came.testBit j = false := Nat.testBit_lt_two_pow (Nat.lt_of_lt_of_le hc (Nat.pow_le_pow_right (n := 2) (by omega) hj))
    simp [h1, h2]
/-- What came: just these numbers, none of them more than 63 behind. -/
def Win (S : List Nat) (top came : Nat) : Prop := (∀ x ∈ S, 1 ≤ x ∧ x ≤ top) ∧ (top = 0 ∨ top ∈ S) ∧ ∀ j, j < 64 → came.testBit j = decide (j < top ∧ top - j ∈ S)
theorem win_nil : Win [] 0 0 := ⟨by simp, .inl rfl, fun j _ => by simp⟩
theorem win_new {S : List Nat} {top came seq : Nat} (h : Win S top came) (hs : 1 ≤ seq) (hb : top < seq + 64) : isNew top came seq = decide (seq ∉ S) := by
  unfold isNew
  by_cases ht : top < seq
  · have : seq ∉ S := fun hx => by have := (h.1 seq hx).2; omega
    simp [ht, this]
  · have e : top - (top - seq) = seq := by omega
    have hl : top - seq < top := by omega
    have h64 : top - seq < 64 := by omega
    rw [h.2.2 (top - seq) h64, e]
    simp [ht, hl, h64]
theorem win_acc {S : List Nat} {top came seq : Nat} (h : Win S top came) (hs : 1 ≤ seq) (hb : top < seq + 64) (hn : seq ∉ S) : Win (seq :: S) (accT top seq) (accC top came seq) := by
  have hnew : isNew top came seq = true := by rw [win_new h hs hb]; exact decide_eq_true hn
  unfold accT
  by_cases ht : top < seq
  · rw [if_pos ht]
    refine ⟨?_, .inr (by simp), fun j hj => ?_⟩
    · intro x hx
      rcases List.mem_cons.1 hx with rfl | hx
      · exact ⟨hs, Nat.le_refl _⟩
      · have := h.1 x hx; omega
    · rw [accC_test _ _ _ _ hnew, if_pos ht]
      by_cases h0 : j = 0
      · subst h0; simp; omega
      · by_cases h1 : seq - top ≤ j
        · rw [h.2.2 _ (by omega)]
          have e : top - (j - (seq - top)) = seq - j := by omega
          have e2 : (j - (seq - top) < top) ↔ j < seq := by omega
          have e3 : ¬ seq - j = seq := by omega
          rw [e]
          simp [h0, hj, h1, e2, e3]
        · have h2 : seq - j ∉ S := fun hx => by have := (h.1 _ hx).2; omega
          have e3 : ¬ seq - j = seq := by omega
          simp [h0, h1, h2, e3]
  · rw [if_neg ht]
    refine ⟨?_, ?_, fun j hj => ?_⟩
    · intro x hx
      rcases List.mem_cons.1 hx with rfl | hx
      · exact ⟨hs, by omega⟩
      · exact h.1 x hx
    · rcases h.2.1 with h | h
      · exact .inl h
      · exact .inr (by simp [h])
    · rw [accC_test _ _ _ _ hnew, if_neg ht, h.2.2 j hj]
      by_cases h1 : top - seq = j
      · have e : top - j = seq := by omega
        have e2 : j < top := by omega
        simp [h1, e, e2]
      · have e : j < top → ¬ top - j = seq := by omega
        by_cases h2 : j < top
        · simp [h1, h2, e h2]
        · simp [h1, h2]

end Tm
end Go.Proofs.Ytimeggbjmcnnoaa
