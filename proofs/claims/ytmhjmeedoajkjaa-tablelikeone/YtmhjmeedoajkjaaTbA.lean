/- Plain mathematics of layer 8, no program: open broadcasts in their order, a table, and what a vote in it comes to. -/
import Derived.Test.YtmhjmeedoajkjaaVtA
namespace Go.Proofs.Ytmhjmeedoajkjaa
namespace Tb

/-- An open broadcast. -/
structure Op where
  frm : Nat
  seq : Int
  c : Vt.Cs
def ahead (f : Nat) (s : Int) (o : Op) : Bool := decide (o.frm < f) || (decide (o.frm = f) && decide (o.seq < s))
def isN (f : Nat) (s : Int) (o : Op) : Bool := decide (o.frm = f) && decide (o.seq = s)
def behind (f : Nat) (s : Int) (o : Op) : Bool := decide (f < o.frm) || (decide (o.frm = f) && decide (s < o.seq))
def cmpO (a b : Op) : Int := if a.frm < b.frm then -1 else if b.frm < a.frm then 1 else if a.seq < b.seq then -1 else if b.seq < a.seq then 1 else 0
theorem isN_iff {f : Nat} {s : Int} {o : Op} : isN f s o = true ↔ o.frm = f ∧ o.seq = s := by simp [isN]
theorem ahead_iff {f : Nat} {s : Int} {o : Op} : ahead f s o = true ↔ o.frm < f ∨ o.frm = f ∧ o.seq < s := by simp [ahead]
theorem behind_iff {f : Nat} {s : Int} {o : Op} : behind f s o = true ↔ f < o.frm ∨ o.frm = f ∧ s < o.seq := by simp [behind]
theorem cmp_neg (a b : Op) : decide (cmpO a b < 0) = ahead b.frm b.seq a := by
  rw [Bool.eq_iff_iff, ahead_iff, decide_eq_true_iff]; unfold cmpO; split
  · omega
  · split
    · omega
    · split
      · omega
      · split <;> omega
theorem cmp_zero (a b : Op) : decide (cmpO a b = 0) = isN b.frm b.seq a := by
  rw [Bool.eq_iff_iff, isN_iff, decide_eq_true_iff]; unfold cmpO; split
  · omega
  · split
    · omega
    · split
      · omega
      · split <;> omega
theorem ways (f : Nat) (s : Int) (o : Op) : (ahead f s o = true ∧ isN f s o = false ∧ behind f s o = false) ∨ (ahead f s o = false ∧ isN f s o = true ∧ behind f s o = false) ∨ (ahead f s o = false ∧ isN f s o = false ∧ behind f s o = true) := by
  have h1 := @ahead_iff f s o
  have h2 := @isN_iff f s o
  have h3 := @behind_iff f s o
  cases e1 : ahead f s o <;> cases e2 : isN f s o <;> cases e3 : behind f s o <;> rw [e1] at h1 <;> rw [e2] at h2 <;> rw [e3] at h3 <;> simp at h1 h2 h3 ⊢ <;> omega

/-- They stand in their order. -/
def Srt (l : List Op) : Prop := l.Pairwise fun a b => ahead b.frm b.seq a = true
theorem ahead_trans {a b : Op} {f : Nat} {s : Int} (h : ahead b.frm b.seq a = true) (k : ahead f s b = true) : ahead f s a = true := by
  rw [ahead_iff] at *; omega
theorem behind_trans {a b : Op} {f : Nat} {s : Int} (h : ahead b.frm b.seq a = true) (k : ahead f s a = false) : behind f s b = true := by
  have h3 : ¬ (a.frm < f ∨ a.frm = f ∧ a.seq < s) := fun e => by rw [ahead_iff.2 e] at k; cases k
  rw [ahead_iff] at h; rw [behind_iff]; omega
/-- A list in which what p says of one it says of all ahead of it. -/
theorem split_at (p : Op → Bool) : ∀ {l : List Op}, l.Pairwise (fun a b => p b = true → p a = true) → l.take (l.countP p) = l.filter p ∧ l.drop (l.countP p) = l.filter (fun o => !p o) := by
  intro l
  induction l with
  | nil => intro _; exact ⟨rfl, rfl⟩
  | cons a l ih =>
    intro h
    obtain ⟨h1, h2⟩ := List.pairwise_cons.1 h
    obtain ⟨i1, i2⟩ := ih h2
    cases ha : p a with
    | true =>
      rw [List.countP_cons_of_pos ha, List.take_succ_cons, List.drop_succ_cons, i1, i2, List.filter_cons_of_pos ha, List.filter_cons_of_neg (by simp [ha])]
      exact ⟨rfl, rfl⟩
    | false =>
      have h0 : l.countP p = 0 := by
        rw [List.countP_eq_zero]
        intro b hb hp
        rw [h1 b hb hp] at ha; cases ha
      have hf : l.filter p = [] := by rw [← List.length_eq_zero_iff, ← List.countP_eq_length_filter]; exact h0
      have hg : l.filter (fun o => !p o) = l := by
        rw [List.filter_eq_self]
        intro b hb
        cases hp : p b with
        | false => rfl
        | true => rw [h1 b hb hp] at ha; cases ha
      rw [List.countP_cons_of_neg (by simp [ha]), h0, List.filter_cons_of_neg (by simp [ha]), List.filter_cons_of_pos (by simp [ha]), hf, hg]
      exact ⟨rfl, rfl⟩
theorem srt_split {l : List Op} (h : Srt l) (f : Nat) (s : Int) : l.take (l.countP (ahead f s)) = l.filter (ahead f s) ∧ l.drop (l.countP (ahead f s)) = l.filter (fun o => !ahead f s o) :=
  split_at _ (h.imp fun hab hb => ahead_trans hab hb)

def findC (l : List Op) (f : Nat) (s : Int) : Vt.Cs := match l.find? (isN f s) with | some o => o.c | none => Vt.Cs.none
def putO (l : List Op) (o : Op) : List Op := l.filter (ahead o.frm o.seq) ++ o :: l.filter (behind o.frm o.seq)
def remO (l : List Op) (f : Nat) (s : Int) : List Op := l.filter fun o => !isN f s o
def closeO (f : Nat) : Nat → List Op → Nat → List Op × Nat
  | 0, l, b => (l, b)
  | k + 1, l, b => if (findC l f (b : Int)).done then closeO f k (remO l f (b : Int)) (b + 1) else (l, b)

/-- Where a name stands: what is behind all that is ahead of it. -/
theorem drop_cases {l : List Op} (h : Srt l) (f : Nat) (s : Int) :
    (∃ o, l[l.countP (ahead f s)]? = some o ∧ isN f s o = true ∧ l.drop (l.countP (ahead f s) + 1) = l.filter (behind f s)) ∨
    ((∀ o, l[l.countP (ahead f s)]? = some o → isN f s o = false) ∧ l.drop (l.countP (ahead f s)) = l.filter (behind f s) ∧ ∀ o ∈ l, isN f s o = false) := by
  obtain ⟨h1, h2⟩ := srt_split h f s
  have hs : (l.drop (l.countP (ahead f s))).Pairwise (fun a b => ahead b.frm b.seq a = true) := h.sublist (List.drop_sublist _ _)
  have ha : ∀ o ∈ l.drop (l.countP (ahead f s)), ahead f s o = false := fun o ho => by rw [h2] at ho; simpa using (List.mem_filter.1 ho).2
  have hb : l.filter (behind f s) = (l.drop (l.countP (ahead f s))).filter (behind f s) := by
    rw [h2, List.filter_filter]
    apply List.filter_congr
    intro o _
    rcases ways f s o with ⟨e1, _, e3⟩ | ⟨e1, _, e3⟩ | ⟨e1, _, e3⟩ <;> simp [e1, e3]
  have hn : ∀ o ∈ l, isN f s o = true → o ∈ l.drop (l.countP (ahead f s)) := fun o ho e => by
    rw [h2, List.mem_filter]
    rcases ways f s o with ⟨_, e2, _⟩ | ⟨e1, _, _⟩ | ⟨_, e2, _⟩
    · rw [e2] at e; cases e
    · exact ⟨ho, by simp [e1]⟩
    · rw [e2] at e; cases e
  have hg : l[l.countP (ahead f s)]? = (l.drop (l.countP (ahead f s)))[0]? := by rw [List.getElem?_drop]; rfl
  have hd : l.drop (l.countP (ahead f s) + 1) = (l.drop (l.countP (ahead f s))).drop 1 := by rw [List.drop_drop]
  rw [hg, hd, hb]
  generalize l.drop (l.countP (ahead f s)) = r at hs ha hn
  cases r with
  | nil =>
    refine .inr ⟨(fun o e => nomatch e), rfl, fun o ho => ?_⟩
    cases e : isN f s o with
    | false => rfl
    | true => exact absurd (hn o ho e) (List.not_mem_nil)
  | cons a r =>
    obtain ⟨p1, p2⟩ := List.pairwise_cons.1 hs
    have hr : r.filter (behind f s) = r := List.filter_eq_self.2 fun b hb => behind_trans (p1 b hb) (ha a List.mem_cons_self)
    cases e : isN f s a with
    | true =>
      have hbf : behind f s a = false := by rcases ways f s a with ⟨_, e2, _⟩ | ⟨_, _, e3⟩ | ⟨_, e2, _⟩ <;> simp_all
      refine .inl ⟨a, rfl, e, ?_⟩
      rw [List.filter_cons_of_neg (by simp [hbf]), hr]; rfl
    | false =>
      have hbt : behind f s a = true := by rcases ways f s a with ⟨e1, _, _⟩ | ⟨_, e2, _⟩ | ⟨_, _, e3⟩
                                           · rw [ha a List.mem_cons_self] at e1; cases e1
                                           · rw [e] at e2; cases e2
                                           · exact e3
      refine .inr ⟨(fun o ho => by rw [← Option.some.inj ho]; exact e), ?_, fun o ho => ?_⟩
      · rw [List.filter_cons_of_pos hbt, hr]
      · cases e2 : isN f s o with
        | false => rfl
        | true =>
          rcases List.mem_cons.1 (hn o ho e2) with rfl | hm
          · rw [e] at e2; cases e2
          · have h3 := behind_trans (p1 o hm) (ha a List.mem_cons_self)
            rcases ways f s o with ⟨_, q2, _⟩ | ⟨_, _, q3⟩ | ⟨_, q2, _⟩
            · rw [q2] at e2; cases e2
            · rw [q3] at h3; cases h3
            · rw [q2] at e2; cases e2

theorem uniq {l : List Op} (h : Srt l) {i j : Nat} {a b : Op} (hi : l[i]? = some a) (hj : l[j]? = some b) (hf : a.frm = b.frm) (hs : a.seq = b.seq) : i = j := by
  obtain ⟨i1, i2⟩ := List.getElem?_eq_some_iff.1 hi
  obtain ⟨j1, j2⟩ := List.getElem?_eq_some_iff.1 hj
  rcases Nat.lt_trichotomy i j with e | e | e
  · have := List.pairwise_iff_getElem.1 h i j i1 j1 e
    rw [i2, j2, ahead_iff] at this; omega
  · exact e
  · have := List.pairwise_iff_getElem.1 h j i j1 i1 e
    rw [i2, j2, ahead_iff] at this; omega
/-- A name that is open: its place, its case, what it is with another case, and without it. -/
theorem at_found {l : List Op} (h : Srt l) {f : Nat} {s : Int} {o : Op} (hk : l[l.countP (ahead f s)]? = some o) (ho : isN f s o = true) :
    findC l f s = o.c ∧ (∀ c, putO l ⟨f, s, c⟩ = l.set (l.countP (ahead f s)) ⟨f, s, c⟩) ∧ remO l f s = l.take (l.countP (ahead f s)) ++ l.drop (l.countP (ahead f s) + 1) := by
  obtain ⟨h1, h2⟩ := srt_split h f s
  obtain ⟨k1, k2⟩ := List.getElem?_eq_some_iff.1 hk
  have hd : l.drop (l.countP (ahead f s) + 1) = l.filter (behind f s) := by
    rcases drop_cases h f s with ⟨_, _, _, e⟩ | ⟨e, _, _⟩
    · exact e
    · rw [e o hk] at ho; cases ho
  refine ⟨?_, fun c => ?_, ?_⟩
  · unfold findC
    have hm : o ∈ l := List.mem_of_getElem? hk
    cases e : l.find? (isN f s) with
    | none => have := List.find?_eq_none.1 e o hm; exact absurd ho this
    | some p =>
      have hp := List.find?_some e
      obtain ⟨j, hj⟩ := List.getElem?_of_mem (List.mem_of_find?_eq_some e)
      rw [isN_iff] at hp ho
      have := uniq h hj hk (hp.1.trans ho.1.symm) (hp.2.trans ho.2.symm)
      subst this
      rw [hk] at hj
      rw [Option.some.inj hj]
  · unfold putO
    show l.filter (ahead f s) ++ _ :: l.filter (behind f s) = _
    rw [← h1, ← hd, List.set_eq_take_append_cons_drop, if_pos k1]
  · unfold remO
    rw [h1, hd]
    have : ∀ m : List Op, Srt m → m.filter (fun o => !isN f s o) = m.filter (ahead f s) ++ m.filter (behind f s) := by
      intro m
      induction m with
      | nil => intro _; rfl
      | cons a m ih =>
        intro hm
        obtain ⟨m1, m2⟩ := List.pairwise_cons.1 hm
        rcases ways f s a with ⟨e1, e2, e3⟩ | ⟨e1, e2, e3⟩ | ⟨e1, e2, e3⟩
        · rw [List.filter_cons_of_pos (by simp [e2]), List.filter_cons_of_pos e1, List.filter_cons_of_neg (by simp [e3]), ih m2]; rfl
        · rw [List.filter_cons_of_neg (by simp [e2]), List.filter_cons_of_neg (by simp [e1]), List.filter_cons_of_neg (by simp [e3]), ih m2]
        · have hz : m.filter (ahead f s) = [] := by
            rw [List.filter_eq_nil_iff]
            intro b hb
            have := behind_trans (m1 b hb) e1
            rcases ways f s b with ⟨_, _, q⟩ | ⟨q, _, _⟩ | ⟨q, _, _⟩
            · rw [q] at this; cases this
            · simp [q]
            · simp [q]
          rw [List.filter_cons_of_pos (by simp [e2]), List.filter_cons_of_neg (by simp [e1]), List.filter_cons_of_pos e3, ih m2, hz]; rfl
    exact this l h
theorem at_none {l : List Op} (h : Srt l) {f : Nat} {s : Int} (hk : ∀ o, l[l.countP (ahead f s)]? = some o → isN f s o = false) :
    findC l f s = Vt.Cs.none ∧ (∀ c, putO l ⟨f, s, c⟩ = l.take (l.countP (ahead f s)) ++ ⟨f, s, c⟩ :: l.drop (l.countP (ahead f s))) ∧ remO l f s = l ∧ ∀ o ∈ l, isN f s o = false := by
  obtain ⟨h1, h2⟩ := srt_split h f s
  have ⟨hd, hn⟩ : l.drop (l.countP (ahead f s)) = l.filter (behind f s) ∧ ∀ o ∈ l, isN f s o = false := by
    rcases drop_cases h f s with ⟨o, e1, e2, _⟩ | ⟨_, e2, e3⟩
    · rw [hk o e1] at e2; cases e2
    · exact ⟨e2, e3⟩
  refine ⟨?_, fun c => ?_, ?_, hn⟩
  · unfold findC
    rw [List.find?_eq_none.2 fun o ho => by rw [hn o ho]; exact Bool.false_ne_true]
  · unfold putO
    show l.filter (ahead f s) ++ _ :: l.filter (behind f s) = _
    rw [← h1, ← hd]
  · unfold remO
    rw [List.filter_eq_self]
    intro o ho; rw [hn o ho]; rfl
theorem put_srt {l : List Op} (h : Srt l) (o : Op) : Srt (putO l o) := by
  unfold putO Srt
  rw [List.pairwise_append]
  refine ⟨h.sublist List.filter_sublist, List.pairwise_cons.2 ⟨fun b hb => ?_, h.sublist List.filter_sublist⟩, fun a ha b hb => ?_⟩
  · have := behind_iff.1 (List.mem_filter.1 hb).2; rw [ahead_iff]; omega
  · have ha := ahead_iff.1 (List.mem_filter.1 ha).2
    rw [ahead_iff]
    rcases List.mem_cons.1 hb with rfl | hb
    · exact ha
    · have := behind_iff.1 (List.mem_filter.1 hb).2; omega
theorem rem_srt {l : List Op} (h : Srt l) (f : Nat) (s : Int) : Srt (remO l f s) := h.sublist List.filter_sublist
theorem mem_put {l : List Op} {o p : Op} : p ∈ putO l o ↔ p = o ∨ (p ∈ l ∧ isN o.frm o.seq p = false) := by
  unfold putO
  rw [List.mem_append, List.mem_cons, List.mem_filter, List.mem_filter]
  rcases ways o.frm o.seq p with ⟨e1, e2, e3⟩ | ⟨e1, e2, e3⟩ | ⟨e1, e2, e3⟩ <;> rw [e1, e2, e3] <;> simp <;> constructor <;> intro h <;> rcases h with h | h <;> simp [h]
theorem mem_rem {l : List Op} {f : Nat} {s : Int} {p : Op} : p ∈ remO l f s ↔ p ∈ l ∧ isN f s p = false := by
  unfold remO; rw [List.mem_filter]; simp
theorem find_mem {l : List Op} (h : Srt l) {f : Nat} {s : Int} {o : Op} (ho : o ∈ l) (hn : isN f s o = true) : findC l f s = o.c := by
  unfold findC
  cases e : l.find? (isN f s) with
  | none => have := List.find?_eq_none.1 e o ho; exact absurd hn this
  | some p =>
    have hp := List.find?_some e
    obtain ⟨i, hi⟩ := List.getElem?_of_mem ho
    obtain ⟨j, hj⟩ := List.getElem?_of_mem (List.mem_of_find?_eq_some e)
    rw [isN_iff] at hp hn
    have := uniq h hj hi (hp.1.trans hn.1.symm) (hp.2.trans hn.2.symm)
    subst this
    rw [hi] at hj
    rw [Option.some.inj hj]
theorem find_none {l : List Op} {f : Nat} {s : Int} (h : ∀ o ∈ l, isN f s o = false) : findC l f s = Vt.Cs.none := by
  unfold findC
  rw [List.find?_eq_none.2 fun o ho => by rw [h o ho]; exact Bool.false_ne_true]
theorem find_done {l : List Op} {f : Nat} {s : Int} (h : (findC l f s).done = true) : ∃ o ∈ l, isN f s o = true ∧ o.c.done = true := by
  unfold findC at h
  cases e : l.find? (isN f s) with
  | none => rw [e] at h; cases h
  | some p => rw [e] at h; exact ⟨p, List.mem_of_find?_eq_some e, List.find?_some e, h⟩
end Tb
end Go.Proofs.Ytmhjmeedoajkjaa
