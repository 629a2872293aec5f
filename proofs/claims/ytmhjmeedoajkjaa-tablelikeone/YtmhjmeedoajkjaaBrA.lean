/- Plain mathematics of VoteAgree: members talk, some of them corrupt; no two honest ones are told unlike bodies. No program. -/
import Derived.Test.YtmhjmeedoajkjaaVtA
namespace Go.Proofs.Ytmhjmeedoajkjaa
namespace Vt

/-- All ways of a vote. -/
theorem take_full (c : Cs) (ms frm : Nat) (kind : Int) (id : Nat) (x : ByteArray) :
    (∃ e, e ≠ 0 ∧ take c ms frm kind id x = err c e) ∨
    (Cn.hasS ms id = true ∧ kind = 1 ∧ id = frm ∧ c.echoed = false ∧ take c ms frm kind id x = ⟨{ c with echoed := true }, [(2, x)], none, false, 0⟩) ∨
    (Cn.hasS ms id = true ∧ kind = 2 ∧ votedB c.echoes id = false ∧ take c ms frm kind id x = ⟨(echoT c (Cn.sizeS ms) id x).1, (echoT c (Cn.sizeS ms) id x).2, none, false, 0⟩) ∨
    (Cn.hasS ms id = true ∧ kind = 3 ∧ votedB c.readies id = false ∧ (c.done = true ∨ (readyT c (Cn.sizeS ms) id x).1.done = false) ∧ take c ms frm kind id x = ⟨(readyT c (Cn.sizeS ms) id x).1, (readyT c (Cn.sizeS ms) id x).2, none, false, 0⟩) ∨
    (Cn.hasS ms id = true ∧ kind = 3 ∧ votedB c.readies id = false ∧ c.done = false ∧ (readyT c (Cn.sizeS ms) id x).1.done = true ∧ take c ms frm kind id x = ⟨(readyT c (Cn.sizeS ms) id x).1, (readyT c (Cn.sizeS ms) id x).2, x, true, 0⟩) := by
  unfold take
  by_cases h1 : badArg kind x = true
  · rw [if_pos h1]; exact .inl ⟨2, by decide, rfl⟩
  rw [if_neg h1]
  by_cases h2 : out ms frm id = true
  · rw [if_pos h2]; exact .inl ⟨10, by decide, rfl⟩
  rw [if_neg h2]
  by_cases h3 : (decide (kind = 1) && decide (id ≠ frm)) = true
  · rw [if_pos h3]; exact .inl ⟨10, by decide, rfl⟩
  rw [if_neg h3]
  by_cases h4 : old c kind id = true
  · rw [if_pos h4]; exact .inl ⟨6, by decide, rfl⟩
  rw [if_neg h4]
  have hm : Cn.hasS ms id = true := by
    unfold out at h2
    cases hh : Cn.hasS ms id with
    | true => rfl
    | false => rw [hh] at h2; exact absurd rfl h2
  have hk : kind = 1 ∨ kind = 2 ∨ kind = 3 := by
    unfold badArg at h1
    simp only [Bool.or_eq_true, decide_eq_true_eq, not_or] at h1
    omega
  have h4' : old c kind id = false := by simpa using h4
  rcases hk with rfl | rfl | rfl
  · have hid : id = frm := by
      by_cases e : id = frm
      · exact e
      · rw [decide_eq_true e] at h3; exact absurd rfl h3
    have he : c.echoed = false := h4'
    refine .inr (.inl ⟨hm, rfl, hid, he, ?_⟩)
    show (if c.done || !c.done then _ else _) = _
    rw [if_pos (by cases c.done <;> rfl)]
    rfl
  · refine .inr (.inr (.inl ⟨hm, rfl, h4', ?_⟩))
    show (if c.done || !c.done then _ else _) = _
    rw [if_pos (by cases c.done <;> rfl)]
    rfl
  · have hT : taken c (Cn.sizeS ms) 3 id x = readyT c (Cn.sizeS ms) id x := rfl
    rw [hT]
    dsimp only
    by_cases hd : (c.done || !(readyT c (Cn.sizeS ms) id x).1.done) = true
    · rw [if_pos hd]
      refine .inr (.inr (.inr (.inl ⟨hm, rfl, h4', ?_, rfl⟩)))
      cases h : c.done with
      | true => exact .inl rfl
      | false => rw [h] at hd; exact .inr (by simpa using hd)
    · rw [if_neg hd]
      refine .inr (.inr (.inr (.inr ⟨hm, rfl, h4', ?_, ?_, rfl⟩)))
      · cases h : c.done with
        | true => rw [h] at hd; exact absurd rfl hd
        | false => rfl
      · cases h : (readyT c (Cn.sizeS ms) id x).1.done with
        | true => rfl
        | false => rw [h] at hd; exact absurd (by simp) hd

theorem mem_with {l : Bal} {id s : Nat} {x b : ByteArray} (h : (b, s) ∈ withB l id x) : (b, s) ∈ l ∨ (b = x ∧ (s = Cn.withS 0 id ∨ ∃ s0, (x, s0) ∈ l ∧ s = Cn.withS s0 id)) := by
  induction l with
  | nil =>
    simp only [withB, List.mem_cons, List.not_mem_nil, or_false, Prod.mk.injEq] at h
    exact .inr ⟨h.1, .inl h.2⟩
  | cons a l ih =>
    obtain ⟨y, s0⟩ := a
    unfold withB at h
    by_cases hy : y = x
    · rw [if_pos hy] at h
      rcases List.mem_cons.1 h with h | h
      · simp only [Prod.mk.injEq] at h
        exact .inr ⟨h.1.trans hy, .inr ⟨s0, by rw [← hy]; exact List.mem_cons_self, h.2⟩⟩
      · exact .inl (List.mem_cons_of_mem _ h)
    · rw [if_neg hy] at h
      rcases List.mem_cons.1 h with h | h
      · rw [h]; exact .inl List.mem_cons_self
      · rcases ih h with h | ⟨h1, h2 | ⟨s1, h2, h3⟩⟩
        · exact .inl (List.mem_cons_of_mem _ h)
        · exact .inr ⟨h1, .inl h2⟩
        · exact .inr ⟨h1, .inr ⟨s1, List.mem_cons_of_mem _ h2, h3⟩⟩
theorem for_mem (l : Bal) (x : ByteArray) : forB l x = 0 ∨ (x, forB l x) ∈ l := by
  induction l with
  | nil => exact .inl rfl
  | cons a l ih =>
    unfold forB
    by_cases h : a.1 = x
    · rw [if_pos h, ← h]; exact .inr List.mem_cons_self
    · rw [if_neg h]; exact ih.imp_right (List.mem_cons_of_mem _)
theorem has_withS {s id j : Nat} (h : Cn.hasS (Cn.withS s id) j = true) : Cn.hasS s j = true ∨ j = id := by
  unfold Cn.hasS at h ⊢
  rw [Cn.test_with] at h
  cases hb : s.testBit j with
  | true => rw [hb] at h; exact .inl (by simpa using h)
  | false =>
    rw [hb] at h
    simp only [Bool.false_or, Bool.and_eq_true, decide_eq_true_eq] at h
    exact .inr h.2.2.symm
theorem has_zero (j : Nat) : Cn.hasS 0 j = false := by unfold Cn.hasS; simp

/-- Who of the honest stands for what: all that ballots say of the honest is so. -/
def VI (n f : Nat) (g : Nat → Option ByteArray) (l : Bal) : Prop := ∀ b s, (b, s) ∈ l → ∀ j, Cn.hasS s j = true → j < n ∧ (f ≤ j → g j = some b)
theorem vi_nil (n f : Nat) (g : Nat → Option ByteArray) : VI n f g [] := fun _ _ h => nomatch h
theorem vi_with {n f id : Nat} {g : Nat → Option ByteArray} {l : Bal} {x : ByteArray} (h : VI n f g l) (h1 : id < n) (h2 : f ≤ id → g id = some x) : VI n f g (withB l id x) := by
  intro b s hm j hj
  rcases mem_with hm with hm | ⟨rfl, rfl | ⟨s0, h0, rfl⟩⟩
  · exact h b s hm j hj
  · rcases has_withS hj with hj | rfl
    · rw [has_zero] at hj; cases hj
    · exact ⟨h1, h2⟩
  · rcases has_withS hj with hj | rfl
    · exact h _ _ h0 j hj
    · exact ⟨h1, h2⟩
theorem vi_mono {n f : Nat} {g g' : Nat → Option ByteArray} {l : Bal} (h : VI n f g l) (hg : ∀ j b, g j = some b → g' j = some b) : VI n f g' l :=
  fun b s hm j hj => ⟨(h b s hm j hj).1, fun hf => hg j b ((h b s hm j hj).2 hf)⟩
theorem vi_for {n f : Nat} {g : Nat → Option ByteArray} {l : Bal} (h : VI n f g l) (x : ByteArray) (j : Nat) (hj : Cn.hasS (forB l x) j = true) : j < n ∧ (f ≤ j → g j = some x) := by
  rcases for_mem l x with h0 | h0
  · rw [h0, has_zero] at hj; cases hj
  · exact h _ _ h0 j hj
theorem has_test {s j : Nat} (hj : j < 16) (h : s.testBit j = true) : Cn.hasS s j = true := by unfold Cn.hasS; rw [h, decide_eq_true (show j ≤ 15 by omega)]; rfl
/-- More than may be corrupt: one of them is honest. -/
theorem honest_in {n f q : Nat} (hf : f ≤ 16) (hq : ∀ j, Cn.hasS q j = true → j < n) (hs : f < Cn.sizeS q) : ∃ j, f ≤ j ∧ j < n ∧ Cn.hasS q j = true := by
  by_cases hex : ∃ j, f ≤ j ∧ j < n ∧ Cn.hasS q j = true
  · exact hex
  · exfalso
    have hm : Cn.sizeS q ≤ Cn.sizeS (2 ^ f - 1) := Cn.size_mono fun j hj ht => by
      have hh := has_test hj ht
      rw [Nat.testBit_two_pow_sub_one]
      by_cases hjf : j < f
      · exact decide_eq_true hjf
      · exact absurd ⟨j, by omega, hq j hh, hh⟩ hex
    rw [Cn.size_all hf] at hm
    omega

/-- Enough echo b, as far as the honest go. -/
def EQ (n f : Nat) (g : Nat → Option ByteArray) (b : ByteArray) : Prop := ∃ q, (∀ j, Cn.hasS q j = true → j < n ∧ (f ≤ j → g j = some b)) ∧ Cn.echoes n ≤ Cn.sizeS q
theorem eq_mono {n f : Nat} {g g' : Nat → Option ByteArray} {b : ByteArray} (h : EQ n f g b) (hg : ∀ j b, g j = some b → g' j = some b) : EQ n f g' b := by
  obtain ⟨q, h1, h2⟩ := h
  exact ⟨q, fun j hj => ⟨(h1 j hj).1, fun hf => hg j b ((h1 j hj).2 hf)⟩, h2⟩
theorem num7 {n f : Nat} (h1 : 1 ≤ n) (h7 : n ≤ 7) (hf : f = Cn.faulty n) : f < n ∧ f ≤ 2 ∧ f < Cn.echoes n ∧ n + f < 2 * Cn.echoes n ∧ Cn.readies n = f + 1 ∧ Cn.enough n = 2 * f + 1 ∧ 3 * f + 1 ≤ n := by
  have hn := Cn.numbers (m := (n : Int)) (by omega) (by omega)
  have e1 : Cn.readies n = Cn.faulty n + 1 := rfl
  have e2 : Cn.enough n = 2 * Cn.faulty n + 1 := rfl
  omega
theorem eq_one {n f : Nat} {g : Nat → Option ByteArray} {b b' : ByteArray} (h1 : 1 ≤ n) (h7 : n ≤ 7) (hf : f = Cn.faulty n) (h : EQ n f g b) (h' : EQ n f g b') : b = b' := by
  obtain ⟨q, hq, hs⟩ := h
  obtain ⟨p, hp, ht⟩ := h'
  obtain ⟨n1, n2, n3, n4, -⟩ := num7 h1 h7 hf
  have hm := Cn.meet (m := n) (a := q) (b := p) (by omega) (fun j hj hb => (hq j (has_test hj hb)).1) (fun j hj hb => (hp j (has_test hj hb)).1)
  have hand : ∀ j, Cn.hasS (q &&& p) j = true → Cn.hasS q j = true ∧ Cn.hasS p j = true := fun j hj => by
    unfold Cn.hasS at hj ⊢
    rw [Nat.testBit_and] at hj
    simp only [Bool.and_eq_true] at hj ⊢
    exact ⟨⟨hj.1, hj.2.1⟩, hj.1, hj.2.2⟩
  obtain ⟨j, hj1, hj2, hj3⟩ := honest_in (n := n) (f := f) (q := q &&& p) (by omega) (fun j hj => (hq j (hand j hj).1).1) (by omega)
  have a1 := (hq j (hand j hj3).1).2 hj1
  have a2 := (hp j (hand j hj3).2).2 hj1
  rw [a1] at a2
  exact Option.some.inj a2

/-- A vote under way: to whom, whose, of what kind, for which body. -/
structure Und where
  to : Nat
  who : Nat
  kind : Int
  body : ByteArray
/-- Members that talk. -/
structure Tk where
  cs : Nat → Cs
  told : Nat → ByteArray
  done : Nat → Bool
  way : List Und
def upd {A : Type} (g : Nat → A) (i : Nat) (v : A) : Nat → A := fun j => if j = i then v else g j
theorem upd_self {A : Type} (g : Nat → A) (i : Nat) (v : A) : upd g i v i = v := if_pos rfl
theorem upd_ne {A : Type} (g : Nat → A) {i j : Nat} (v : A) (h : j ≠ i) : upd g i v j = g j := if_neg h
theorem upd_same {A : Type} (g : Nat → A) (i : Nat) : upd g i (g i) = g := by
  funext j; unfold upd; split
  · next h => rw [h]
  · rfl
/-- A member's vote sets out to all that are not corrupt. -/
def castL (f n who : Nat) (kind : Int) (body : ByteArray) : List Und := (List.range' f (n - f)).map fun to => ⟨to, who, kind, body⟩
/-- A vote comes. -/
def come (n f frm : Nat) (s : Tk) (u : Und) : Tk :=
  let t := take (s.cs u.to) (2 ^ n - 1) frm u.kind u.who u.body
  ⟨upd s.cs u.to t.c, if t.is then upd s.told u.to t.body else s.told, if t.is then upd s.done u.to true else s.done, s.way ++ t.outs.flatMap fun o => castL f n u.to (o.1 : Nat) o.2⟩

/-- What is under way was cast. -/
def Way (n f frm : Nat) (sent : ByteArray) (ech rdy : Nat → Option ByteArray) (u : Und) : Prop :=
  f ≤ u.to ∧ u.to < n ∧ f ≤ u.who ∧ u.who < n ∧ ((u.kind = 1 ∧ u.who = frm ∧ u.body = sent) ∨ (u.kind = 2 ∧ ech u.who = some u.body) ∨ (u.kind = 3 ∧ rdy u.who = some u.body))
structure Inv (n f frm : Nat) (sent : ByteArray) (ech rdy : Nat → Option ByteArray) (s : Tk) : Prop where
  e : ∀ i, f ≤ i → i < n → (s.cs i).echoed = (ech i).isSome
  r : ∀ i, f ≤ i → i < n → (s.cs i).readied = (rdy i).isSome
  ve : ∀ i, f ≤ i → i < n → VI n f ech (s.cs i).echoes
  vr : ∀ i, f ≤ i → i < n → VI n f rdy (s.cs i).readies
  way : ∀ u ∈ s.way, Way n f frm sent ech rdy u
  q : ∀ i, f ≤ i → i < n → ∀ b, rdy i = some b → EQ n f ech b
  h : f ≤ frm → ∀ i, f ≤ i → i < n → ∀ b, ech i = some b → b = sent
  d : ∀ i, f ≤ i → i < n → s.done i = (s.cs i).done
  t : ∀ i, f ≤ i → i < n → s.done i = true → EQ n f ech (s.told i)
theorem mem_cast {f n who : Nat} {kind : Int} {body : ByteArray} {u : Und} (h : u ∈ castL f n who kind body) : f ≤ u.to ∧ u.to < n ∧ u.who = who ∧ u.kind = kind ∧ u.body = body := by
  unfold castL at h
  obtain ⟨to, h1, rfl⟩ := List.mem_map.1 h
  have := List.mem_range'_1.1 h1
  exact ⟨this.1, by show to < n; omega, rfl, rfl, rfl⟩
/-- A vote that may come: under way, or a corrupt member's. -/
def May (n f frm : Nat) (sent : ByteArray) (ech rdy : Nat → Option ByteArray) (u : Und) : Prop :=
  f ≤ u.to ∧ u.to < n ∧ (u.who < f ∨ Way n f frm sent ech rdy u)
theorem way_mono {n f frm : Nat} {sent : ByteArray} {ech rdy ech' rdy' : Nat → Option ByteArray} {u : Und} (h : Way n f frm sent ech rdy u) (he : ∀ j b, ech j = some b → ech' j = some b) (hr : ∀ j b, rdy j = some b → rdy' j = some b) : Way n f frm sent ech' rdy' u := by
  obtain ⟨h1, h2, h3, h4, h5⟩ := h
  refine ⟨h1, h2, h3, h4, ?_⟩
  rcases h5 with h | ⟨h, h'⟩ | ⟨h, h'⟩
  · exact .inl h
  · exact .inr (.inl ⟨h, he _ _ h'⟩)
  · exact .inr (.inr ⟨h, hr _ _ h'⟩)
theorem upd_grows {g : Nat → Option ByteArray} {i : Nat} (h : (g i).isSome = false) (x : ByteArray) : ∀ j b, g j = some b → upd g i (some x) j = some b := by
  intro j b hj
  by_cases e : j = i
  · subst e; rw [hj] at h; cases h
  · rw [upd_ne _ _ e]; exact hj
theorem has_all {n j : Nat} (h : Cn.hasS (2 ^ n - 1) j = true) : j < n := by
  unfold Cn.hasS at h
  rw [Nat.testBit_two_pow_sub_one] at h
  simp only [Bool.and_eq_true, decide_eq_true_eq] at h
  exact h.2

theorem inv_come {n f frm : Nat} {sent : ByteArray} {ech rdy : Nat → Option ByteArray} {s : Tk} {u : Und} (h1 : 1 ≤ n) (h7 : n ≤ 7) (hf : f = Cn.faulty n) (hI : Inv n f frm sent ech rdy s) (hu : May n f frm sent ech rdy u) :
    ((take (s.cs u.to) (2 ^ n - 1) frm u.kind u.who u.body).is = true → s.done u.to = false) ∧ ∃ ech' rdy', Inv n f frm sent ech' rdy' (come n f frm s u) := by
  obtain ⟨n1, n2, n3, n4, n5, n6, n7⟩ := num7 h1 h7 hf
  obtain ⟨u1, u2, u3⟩ := hu
  have hsz : Cn.sizeS (2 ^ n - 1) = n := Cn.size_all (by omega)
  have F := take_full (s.cs u.to) (2 ^ n - 1) frm u.kind u.who u.body
  rw [hsz] at F
  rcases F with ⟨e, he, ht⟩ | ⟨hm, hk, hid, hE, ht⟩ | ⟨hm, hk, hv, ht⟩ | ⟨hm, hk, hv, hd, ht⟩ | ⟨hm, hk, hv, hd0, hd, ht⟩
  · have hc : come n f frm s u = s := by
      unfold come; rw [ht]
      show (⟨upd s.cs u.to (s.cs u.to), s.told, s.done, s.way ++ []⟩ : Tk) = s
      rw [upd_same, List.append_nil]
    rw [hc, ht]
    exact ⟨(fun h => nomatch h), ech, rdy, hI⟩
  · -- an echo is cast
    have hc : come n f frm s u = ⟨upd s.cs u.to { s.cs u.to with echoed := true }, s.told, s.done, s.way ++ castL f n u.to (2 : Nat) u.body⟩ := by
      unfold come; rw [ht]; simp
    rw [hc, ht]
    have hnone : (ech u.to).isSome = false := by rw [← hI.e _ u1 u2]; exact hE
    have hg := upd_grows hnone u.body
    refine ⟨(fun h => nomatch h), upd ech u.to (some u.body), rdy, ⟨?_, ?_, ?_, ?_, ?_, ?_, ?_, ?_, ?_⟩⟩
    · intro i a b
      by_cases e : i = u.to
      · subst e; simp [upd_self]
      · simp only [upd_ne _ _ e]; exact hI.e i a b
    · intro i a b
      by_cases e : i = u.to
      · subst e; simp only [upd_self]; exact hI.r _ a b
      · simp only [upd_ne _ _ e]; exact hI.r i a b
    · intro i a b
      by_cases e : i = u.to
      · subst e; simp only [upd_self]; exact vi_mono (hI.ve _ a b) hg
      · simp only [upd_ne _ _ e]; exact vi_mono (hI.ve i a b) hg
    · intro i a b
      by_cases e : i = u.to
      · subst e; simp only [upd_self]; exact hI.vr _ a b
      · simp only [upd_ne _ _ e]; exact hI.vr i a b
    · intro v hv
      rcases List.mem_append.1 hv with hv | hv
      · exact way_mono (hI.way v hv) hg (fun _ _ h => h)
      · obtain ⟨m1, m2, m3, m4, m5⟩ := mem_cast hv
        exact ⟨m1, m2, by omega, by omega, .inr (.inl ⟨m4, by rw [m3, m5, upd_self]⟩)⟩
    · intro i a b x hx; exact eq_mono (hI.q i a b x hx) hg
    · intro hfr i a b x hx
      by_cases e : i = u.to
      · subst e
        rw [upd_self] at hx
        have hx' := Option.some.inj hx
        rcases u3 with u3 | ⟨_, _, _, _, ⟨_, _, u6⟩ | ⟨u6, _⟩ | ⟨u6, _⟩⟩
        · omega
        · rw [← hx', u6]
        · rw [hk] at u6; exact absurd u6 (by decide)
        · rw [hk] at u6; exact absurd u6 (by decide)
      · rw [upd_ne _ _ e] at hx; exact hI.h hfr i a b x hx
    · intro i a b
      by_cases e : i = u.to
      · subst e; simp only [upd_self]; exact hI.d _ a b
      · simp only [upd_ne _ _ e]; exact hI.d i a b
    · intro i a b hd; exact eq_mono (hI.t i a b hd) hg
  · -- an echo comes
    obtain ⟨l', hl'⟩ : ∃ l', withB (s.cs u.to).echoes u.who u.body = l' := ⟨_, rfl⟩
    have hw : f ≤ u.who → ech u.who = some u.body := fun hfw => by
      rcases u3 with u3 | ⟨_, _, _, _, ⟨u6, _, _⟩ | ⟨_, u6⟩ | ⟨u6, _⟩⟩
      · omega
      · rw [hk] at u6; exact absurd u6 (by decide)
      · exact u6
      · rw [hk] at u6; exact absurd u6 (by decide)
    have VL : VI n f ech l' := by rw [← hl']; exact vi_with (hI.ve _ u1 u2) (has_all hm) hw
    obtain ⟨q, hq⟩ : ∃ q, decide (Cn.echoes n ≤ sizeB l' u.body) = q := ⟨_, rfl⟩
    have et : echoT (s.cs u.to) n u.who u.body = ({ s.cs u.to with echoes := l', readied := (s.cs u.to).readied || q }, if (s.cs u.to).readied || !q then [] else [(3, u.body)]) := by
      unfold echoT ready; rw [hl', hq]
    rw [et] at ht
    have EQx : q = true → EQ n f ech u.body := fun h => by
      subst h
      exact ⟨forB l' u.body, fun j hj => vi_for VL u.body j hj, of_decide_eq_true hq⟩
    by_cases hn : ((s.cs u.to).readied || !q) = true
    · rw [if_pos hn] at ht
      have hc : come n f frm s u = ⟨upd s.cs u.to { s.cs u.to with echoes := l', readied := (s.cs u.to).readied || q }, s.told, s.done, s.way⟩ := by
        unfold come; rw [ht]; simp
      have hr : ((s.cs u.to).readied || q) = (s.cs u.to).readied := by cases h : (s.cs u.to).readied <;> cases q <;> rw [h] at hn <;> simp_all
      rw [hr] at hc
      rw [hc, ht]
      refine ⟨(fun h => nomatch h), ech, rdy, ⟨?_, ?_, ?_, ?_, hI.way, hI.q, hI.h, ?_, hI.t⟩⟩
      · intro i a b
        by_cases e : i = u.to
        · subst e; simp only [upd_self]; exact hI.e _ a b
        · simp only [upd_ne _ _ e]; exact hI.e i a b
      · intro i a b
        by_cases e : i = u.to
        · subst e; simp only [upd_self]; exact hI.r _ a b
        · simp only [upd_ne _ _ e]; exact hI.r i a b
      · intro i a b
        by_cases e : i = u.to
        · subst e; simp only [upd_self]; exact VL
        · simp only [upd_ne _ _ e]; exact hI.ve i a b
      · intro i a b
        by_cases e : i = u.to
        · subst e; simp only [upd_self]; exact hI.vr _ a b
        · simp only [upd_ne _ _ e]; exact hI.vr i a b
      · intro i a b
        by_cases e : i = u.to
        · subst e; simp only [upd_self]; exact hI.d _ a b
        · simp only [upd_ne _ _ e]; exact hI.d i a b
    · rw [if_neg hn] at ht
      have hr0 : (s.cs u.to).readied = false := by cases h : (s.cs u.to).readied <;> rw [h] at hn <;> simp_all
      have hq1 : q = true := by cases q <;> simp_all
      have hc : come n f frm s u = ⟨upd s.cs u.to { s.cs u.to with echoes := l', readied := true }, s.told, s.done, s.way ++ castL f n u.to (3 : Nat) u.body⟩ := by
        unfold come; rw [ht, hr0, hq1]; simp
      rw [hc, ht]
      have hnone : (rdy u.to).isSome = false := by rw [← hI.r _ u1 u2]; exact hr0
      have hg := upd_grows hnone u.body
      refine ⟨(fun h => nomatch h), ech, upd rdy u.to (some u.body), ⟨?_, ?_, ?_, ?_, ?_, ?_, hI.h, ?_, hI.t⟩⟩
      · intro i a b
        by_cases e : i = u.to
        · subst e; simp only [upd_self]; exact hI.e _ a b
        · simp only [upd_ne _ _ e]; exact hI.e i a b
      · intro i a b
        by_cases e : i = u.to
        · subst e; simp [upd_self]
        · simp only [upd_ne _ _ e]; exact hI.r i a b
      · intro i a b
        by_cases e : i = u.to
        · subst e; simp only [upd_self]; exact VL
        · simp only [upd_ne _ _ e]; exact hI.ve i a b
      · intro i a b
        by_cases e : i = u.to
        · subst e; simp only [upd_self]; exact vi_mono (hI.vr _ a b) hg
        · simp only [upd_ne _ _ e]; exact vi_mono (hI.vr i a b) hg
      · intro v hv
        rcases List.mem_append.1 hv with hv | hv
        · exact way_mono (hI.way v hv) (fun _ _ h => h) hg
        · obtain ⟨m1, m2, m3, m4, m5⟩ := mem_cast hv
          exact ⟨m1, m2, by omega, by omega, .inr (.inr ⟨m4, by rw [m3, m5, upd_self]⟩)⟩
      · intro i a b x hx
        by_cases e : i = u.to
        · subst e; rw [upd_self] at hx; rw [← Option.some.inj hx]; exact EQx hq1
        · rw [upd_ne _ _ e] at hx; exact hI.q i a b x hx
      · intro i a b
        by_cases e : i = u.to
        · subst e; simp only [upd_self]; exact hI.d _ a b
        · simp only [upd_ne _ _ e]; exact hI.d i a b
  all_goals
    -- a ready comes
    obtain ⟨l', hl'⟩ : ∃ l', withB (s.cs u.to).readies u.who u.body = l' := ⟨_, rfl⟩
    have hw : f ≤ u.who → rdy u.who = some u.body := fun hfw => by
      rcases u3 with u3 | ⟨_, _, _, _, ⟨u6, _, _⟩ | ⟨u6, _⟩ | ⟨_, u6⟩⟩
      · omega
      · rw [hk] at u6; exact absurd u6 (by decide)
      · rw [hk] at u6; exact absurd u6 (by decide)
      · exact u6
    have VL : VI n f rdy l' := by rw [← hl']; exact vi_with (hI.vr _ u1 u2) (has_all hm) hw
    obtain ⟨q, hq⟩ : ∃ q, decide (Cn.readies n ≤ sizeB l' u.body) = q := ⟨_, rfl⟩
    obtain ⟨p, hp⟩ : ∃ p, decide (Cn.enough n ≤ sizeB l' u.body) = p := ⟨_, rfl⟩
    have et : readyT (s.cs u.to) n u.who u.body = ({ s.cs u.to with readies := l', done := (s.cs u.to).done || p, readied := (s.cs u.to).readied || q }, if (s.cs u.to).readied || !q then [] else [(3, u.body)]) := by
      unfold readyT ready; rw [hl', hq, hp]
    rw [et] at ht hd
    have EQx : q = true → EQ n f ech u.body := fun h => by
      subst h
      have hsz := of_decide_eq_true hq
      obtain ⟨j, j1, j2, j3⟩ := honest_in (n := n) (f := f) (q := forB l' u.body) (by omega) (fun j hj => (vi_for VL u.body j hj).1) (by have : sizeB l' u.body = Cn.sizeS (forB l' u.body) := rfl; omega)
      exact hI.q j j1 j2 _ ((vi_for VL u.body j j3).2 j1)
    have hpq : p = true → q = true := fun h => by
      subst h
      have := of_decide_eq_true hp
      rw [← hq]; exact decide_eq_true (by omega)
    dsimp only at hd
    obtain ⟨rdy', hR1, hR2, hR3, hR4⟩ : ∃ rdy' : Nat → Option ByteArray, (∀ j b, rdy j = some b → rdy' j = some b) ∧ (∀ j, j ≠ u.to → rdy' j = rdy j) ∧ ((s.cs u.to).readied || q) = (rdy' u.to).isSome ∧
        ((if (s.cs u.to).readied || !q then [] else [(3, u.body)] : List (Nat × ByteArray)) = [] ∧ rdy' = rdy ∨ (if (s.cs u.to).readied || !q then [] else [(3, u.body)] : List (Nat × ByteArray)) = [(3, u.body)] ∧ rdy' u.to = some u.body ∧ q = true) := by
      by_cases hn : ((s.cs u.to).readied || !q) = true
      · refine ⟨rdy, fun _ _ h => h, fun _ _ => rfl, ?_, .inl ⟨if_pos hn, rfl⟩⟩
        rw [← hI.r _ u1 u2]
        cases h : (s.cs u.to).readied <;> cases q <;> rw [h] at hn <;> simp_all
      · have hr0 : (s.cs u.to).readied = false := by cases h : (s.cs u.to).readied <;> rw [h] at hn <;> simp_all
        have hq1 : q = true := by cases q <;> simp_all
        have hnone : (rdy u.to).isSome = false := by rw [← hI.r _ u1 u2]; exact hr0
        exact ⟨upd rdy u.to (some u.body), upd_grows hnone u.body, fun j hj => upd_ne _ _ hj, by rw [upd_self, hq1]; simp, .inr ⟨if_neg hn, upd_self _ _ _, hq1⟩⟩
    generalize (if (s.cs u.to).readied || !q then [] else [(3, u.body)] : List (Nat × ByteArray)) = os at *
    have hway : ∀ v ∈ s.way ++ os.flatMap (fun o => castL f n u.to (o.1 : Nat) o.2), Way n f frm sent ech rdy' v := by
      intro v hv
      rcases List.mem_append.1 hv with hv | hv
      · exact way_mono (hI.way v hv) (fun _ _ h => h) hR1
      · rcases hR4 with ⟨h0, _⟩ | ⟨h0, h2, _⟩
        · rw [h0] at hv; simp at hv
        · rw [h0] at hv
          simp only [List.flatMap_cons, List.flatMap_nil, List.append_nil] at hv
          obtain ⟨m1, m2, m3, m4, m5⟩ := mem_cast hv
          exact ⟨m1, m2, by omega, by omega, .inr (.inr ⟨m4, by rw [m3, m5, h2]⟩)⟩
    have hqq : ∀ i, f ≤ i → i < n → ∀ b, rdy' i = some b → EQ n f ech b := by
      intro i a b x hx
      by_cases e : i = u.to
      · subst e
        rcases hR4 with ⟨_, h2⟩ | ⟨_, h2, h3⟩
        · rw [h2] at hx; exact hI.q _ a b x hx
        · rw [h2] at hx; rw [← Option.some.inj hx]; exact EQx h3
      · rw [hR2 i e] at hx; exact hI.q i a b x hx
  · -- nothing is told
    have hdd : ((s.cs u.to).done || p) = (s.cs u.to).done := by
      rcases hd with hd | hd
      · rw [hd]; rfl
      · rw [hd]; cases h : (s.cs u.to).done with
        | true => rw [h] at hd; cases hd
        | false => rfl
    have hc : come n f frm s u = ⟨upd s.cs u.to { s.cs u.to with readies := l', done := (s.cs u.to).done || p, readied := (s.cs u.to).readied || q }, s.told, s.done, s.way ++ os.flatMap fun o => castL f n u.to (o.1 : Nat) o.2⟩ := by
      unfold come; rw [ht]; simp
    rw [hc, ht]
    refine ⟨(fun h => nomatch h), ech, rdy', ⟨?_, ?_, ?_, ?_, hway, hqq, hI.h, ?_, hI.t⟩⟩
    · intro i a b
      by_cases e : i = u.to
      · subst e; simp only [upd_self]; exact hI.e _ a b
      · simp only [upd_ne _ _ e]; exact hI.e i a b
    · intro i a b
      by_cases e : i = u.to
      · subst e; simp only [upd_self]; exact hR3
      · simp only [upd_ne _ _ e]; rw [hR2 i e]; exact hI.r i a b
    · intro i a b
      by_cases e : i = u.to
      · subst e; simp only [upd_self]; exact hI.ve _ a b
      · simp only [upd_ne _ _ e]; exact hI.ve i a b
    · intro i a b
      by_cases e : i = u.to
      · subst e; simp only [upd_self]; exact vi_mono VL hR1
      · simp only [upd_ne _ _ e]; exact vi_mono (hI.vr i a b) hR1
    · intro i a b
      by_cases e : i = u.to
      · subst e; simp only [upd_self]; rw [hdd]; exact hI.d _ a b
      · simp only [upd_ne _ _ e]; exact hI.d i a b
  · -- a body is told
    have hp1 : p = true := by rw [hd0, Bool.false_or] at hd; exact hd
    have hc : come n f frm s u = ⟨upd s.cs u.to { s.cs u.to with readies := l', done := (s.cs u.to).done || p, readied := (s.cs u.to).readied || q }, upd s.told u.to u.body, upd s.done u.to true, s.way ++ os.flatMap fun o => castL f n u.to (o.1 : Nat) o.2⟩ := by
      unfold come; rw [ht]; simp
    rw [hc]
    refine ⟨fun _ => by rw [hI.d _ u1 u2]; exact hd0, ech, rdy', ⟨?_, ?_, ?_, ?_, hway, hqq, hI.h, ?_, ?_⟩⟩
    · intro i a b
      by_cases e : i = u.to
      · subst e; simp only [upd_self]; exact hI.e _ a b
      · simp only [upd_ne _ _ e]; exact hI.e i a b
    · intro i a b
      by_cases e : i = u.to
      · subst e; simp only [upd_self]; exact hR3
      · simp only [upd_ne _ _ e]; rw [hR2 i e]; exact hI.r i a b
    · intro i a b
      by_cases e : i = u.to
      · subst e; simp only [upd_self]; exact hI.ve _ a b
      · simp only [upd_ne _ _ e]; exact hI.ve i a b
    · intro i a b
      by_cases e : i = u.to
      · subst e; simp only [upd_self]; exact vi_mono VL hR1
      · simp only [upd_ne _ _ e]; exact vi_mono (hI.vr i a b) hR1
    · intro i a b
      by_cases e : i = u.to
      · subst e; simp only [upd_self]; rw [hp1]; simp
      · simp only [upd_ne _ _ e]; exact hI.d i a b
    · intro i a b hd'
      by_cases e : i = u.to
      · subst e; simp only [upd_self]; exact EQx (hpq hp1)
      · simp only [upd_ne _ _ e] at hd' ⊢; exact hI.t i a b hd'

/-- All that were told are told one body, which is that of an honest sender. -/
theorem inv_agree {n f frm : Nat} {sent : ByteArray} {ech rdy : Nat → Option ByteArray} {s : Tk} (h1 : 1 ≤ n) (h7 : n ≤ 7) (hf : f = Cn.faulty n) (hI : Inv n f frm sent ech rdy s) :
    (∀ i j, f ≤ i → i < n → f ≤ j → j < n → s.done i = true → s.done j = true → s.told i = s.told j) ∧ (f ≤ frm → ∀ i, f ≤ i → i < n → s.done i = true → s.told i = sent) := by
  refine ⟨fun i j a b c d hi hj => eq_one h1 h7 hf (hI.t i a b hi) (hI.t j c d hj), fun hfr i a b hi => ?_⟩
  obtain ⟨n1, n2, n3, n4, -⟩ := num7 h1 h7 hf
  obtain ⟨q, hq, hs⟩ := hI.t i a b hi
  obtain ⟨j, j1, j2, j3⟩ := honest_in (n := n) (f := f) (q := q) (by omega) (fun j hj => (hq j hj).1) (by omega)
  exact hI.h hfr j j1 j2 _ ((hq j j3).2 j1)
def Tk.start (n f frm : Nat) (sent : ByteArray) : Tk := ⟨fun _ => Cs.none, fun _ => none, fun _ => false, if f ≤ frm then castL f n frm 1 sent else []⟩
theorem inv_start {n f frm : Nat} {sent : ByteArray} (hfr : frm < n) : Inv n f frm sent (fun _ => Option.none) (fun _ => Option.none) (Tk.start n f frm sent) := by
  refine ⟨fun _ _ _ => rfl, fun _ _ _ => rfl, fun _ _ _ => vi_nil _ _ _, fun _ _ _ => vi_nil _ _ _, ?_, (fun _ _ _ _ h => nomatch h), (fun _ _ _ _ _ h => nomatch h), fun _ _ _ => rfl, (fun _ _ _ h => nomatch h)⟩
  intro u hu
  unfold Tk.start at hu
  by_cases hff : f ≤ frm
  · dsimp only at hu
    rw [if_pos hff] at hu
    obtain ⟨m1, m2, m3, m4, m5⟩ := mem_cast hu
    exact ⟨m1, m2, by omega, by omega, .inl ⟨m4, m3, m5⟩⟩
  · dsimp only at hu
    rw [if_neg hff] at hu
    cases hu
end Vt
end Go.Proofs.Ytmhjmeedoajkjaa
