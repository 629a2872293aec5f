/- What members want, plain mathematics: boxes that may be, what Put makes of them, who wants a change, which one is chosen. -/
import Derived.Test.YtfjdopmjcddnlaaRlC
set_option linter.unusedVariables false
namespace Go.Proofs.Ytfjdopmjcddnlaa
namespace Bt
open Cn Rl

/-- Who wants it, and what. -/
abbrev Ct := Nat × Bool × Nat
def okC (v : Int) (s : Nat) (c : Ct) : Bool := decide (appE v s c.2.1 c.2.2 = 0) && hasS s c.1
def Srt (l : List Ct) : Prop := l.Pairwise fun a b => a.1 < b.1
def RightX (v : Int) (s : Nat) (l : List Ct) : Prop := rightB v s = true ∧ (∀ c ∈ l, okC v s c = true) ∧ Srt l
def pos (l : List Ct) (f : Nat) : Nat := l.countP fun c => decide (c.1 < f)
def fnd (l : List Ct) (f : Nat) : Bool := l.any fun c => decide (c.1 = f)
def insL (l : List Ct) (c : Ct) : List Ct := l.take (pos l c.1) ++ c :: l.drop (pos l c.1)
open Classical in
/-- Put's error. -/
noncomputable def putE (v : Int) (s : Nat) (l : List Ct) (c : Ct) : Nat :=
  if RightX v s l then if hasS s c.1 = true then if fnd l c.1 = true then 9 else appE v s c.2.1 c.2.2 else 10 else 2
noncomputable def putL (v : Int) (s : Nat) (l : List Ct) (c : Ct) : List Ct := if putE v s l c = 0 then insL l c else l
/-- Those who want a change, beside t. -/
def wantT (ch : Bool × Nat) : Nat → List Ct → Nat
  | t, [] => t
  | t, c :: l => wantT ch (if c.2 = ch then withS t c.1 else t) l
def wantS (l : List Ct) (ch : Bool × Nat) : Nat := wantT ch 0 l
open Classical in
noncomputable def forS (v : Int) (s : Nat) (l : List Ct) (ch : Bool × Nat) : Nat := if RightX v s l then wantS l ch else 0
/-- Is a change wanted by enough? -/
def enough (s : Nat) (l : List Ct) (ch : Bool × Nat) : Bool := decide (echoes (sizeS s : Nat) ≤ sizeS (wantS l ch))
open Classical in
noncomputable def chosen (v : Int) (s : Nat) (l : List Ct) : Option (Bool × Nat) := if RightX v s l then (l.find? fun c => enough s l c.2).map (·.2) else none

theorem ok_parts {v : Int} {s : Nat} {c : Ct} (h : okC v s c = true) : appE v s c.2.1 c.2.2 = 0 ∧ hasS s c.1 = true := by
  unfold okC at h; rw [Bool.and_eq_true, decide_eq_true_eq] at h; exact h
theorem find_false {l : List Ct} {f : Nat} (h : fnd l f = false) : ∀ c ∈ l, c.1 ≠ f := fun c hc e => by
  have : fnd l f = true := List.any_eq_true.2 ⟨c, hc, decide_eq_true e⟩
  rw [h] at this; cases this
theorem find_true {l : List Ct} {f : Nat} (h : fnd l f = true) : ∃ c ∈ l, c.1 = f := by
  obtain ⟨c, hc, e⟩ := List.any_eq_true.1 h
  exact ⟨c, hc, of_decide_eq_true e⟩
theorem mem_ins {l : List Ct} {c x : Ct} : x ∈ insL l c ↔ x = c ∨ x ∈ l := by
  unfold insL
  have e : l = l.take (pos l c.1) ++ l.drop (pos l c.1) := (List.take_append_drop _ _).symm
  constructor
  · intro h
    rcases List.mem_append.1 h with h | h
    · exact .inr (List.mem_of_mem_take h)
    · rcases List.mem_cons.1 h with h | h
      · exact .inl h
      · exact .inr (List.mem_of_mem_drop h)
  · intro h
    rcases h with h | h
    · exact List.mem_append.2 (.inr (List.mem_cons.2 (.inl h)))
    · rw [e] at h
      rcases List.mem_append.1 h with h | h
      · exact List.mem_append.2 (.inl h)
      · exact List.mem_append.2 (.inr (List.mem_cons.2 (.inr h)))
theorem ins_len (l : List Ct) (c : Ct) : (insL l c).length = l.length + 1 := by
  unfold insL
  rw [List.length_append, List.length_cons, List.length_take, List.length_drop]
  have : pos l c.1 ≤ l.length := List.countP_le_length
  omega
/-- What stands ahead of a name's place is less, what stands behind it is not. -/
theorem pos_split {l : List Ct} (h : Srt l) (f : Nat) : (∀ c ∈ l.take (pos l f), c.1 < f) ∧ ∀ c ∈ l.drop (pos l f), f ≤ c.1 := by
  induction l with
  | nil => exact ⟨fun c hc => by simp [pos] at hc, fun c hc => by simp [pos] at hc⟩
  | cons a l ih =>
    obtain ⟨h1, h2⟩ := List.pairwise_cons.1 h
    obtain ⟨i1, i2⟩ := ih h2
    by_cases ha : a.1 < f
    · have e : pos (a :: l) f = pos l f + 1 := by unfold pos; rw [List.countP_cons_of_pos (by simpa using ha)]
      rw [e, List.take_succ_cons, List.drop_succ_cons]
      refine ⟨fun c hc => ?_, i2⟩
      rcases List.mem_cons.1 hc with rfl | hc
      · exact ha
      · exact i1 c hc
    · have e0 : pos l f = 0 := by
        unfold pos; rw [List.countP_eq_zero]; intro c hc hlt
        have := h1 c hc; simp at hlt; omega
      have e : pos (a :: l) f = 0 := by unfold pos; rw [List.countP_cons_of_neg (by simpa using ha)]; exact e0
      rw [e]
      refine ⟨fun c hc => by simp at hc, fun c hc => ?_⟩
      rw [List.drop_zero] at hc
      rcases List.mem_cons.1 hc with rfl | hc
      · omega
      · have := h1 c hc; omega
theorem srt_ins {l : List Ct} {c : Ct} (h : Srt l) (hf : fnd l c.1 = false) : Srt (insL l c) := by
  obtain ⟨p1, p2⟩ := pos_split h c.1
  unfold Srt insL
  rw [List.pairwise_append, List.pairwise_cons]
  refine ⟨List.Pairwise.sublist (List.take_sublist _ _) h, ⟨fun b hb => ?_, List.Pairwise.sublist (List.drop_sublist _ _) h⟩, fun a ha b hb => ?_⟩
  · have := p2 b hb
    have := find_false hf b (List.mem_of_mem_drop hb)
    omega
  · have h1 := p1 a ha
    rcases List.mem_cons.1 hb with rfl | hb
    · exact h1
    · have := p2 b hb; omega
theorem put_zero {v : Int} {s : Nat} {l : List Ct} {c : Ct} (h : putE v s l c = 0) : RightX v s l ∧ hasS s c.1 = true ∧ fnd l c.1 = false ∧ appE v s c.2.1 c.2.2 = 0 := by
  unfold putE at h
  split at h
  · rename_i hr
    split at h
    · rename_i hh
      split at h
      · cases h
      · rename_i hf
        exact ⟨hr, hh, by simpa using hf, h⟩
    · cases h
  · cases h
theorem right_ins {v : Int} {s : Nat} {l : List Ct} {c : Ct} (h : putE v s l c = 0) : RightX v s (insL l c) := by
  obtain ⟨⟨r1, r2, r3⟩, h1, h2, h3⟩ := put_zero h
  refine ⟨r1, fun x hx => ?_, srt_ins r3 h2⟩
  rcases mem_ins.1 hx with rfl | hx
  · unfold okC; rw [h3, h1]; rfl
  · exact r2 x hx
theorem right_put {v : Int} {s : Nat} {l : List Ct} (c : Ct) (h : RightX v s l) : RightX v s (putL v s l c) := by
  unfold putL; split
  · rename_i h0; exact right_ins h0
  · exact h
theorem right_put_iff {v : Int} {s : Nat} {l : List Ct} (c : Ct) : RightX v s (putL v s l c) ↔ RightX v s l := by
  refine ⟨fun h => ?_, right_put c⟩
  unfold putL at h; split at h
  · rename_i h0; exact (put_zero h0).1
  · exact h
theorem right_nil {v : Int} {s : Nat} (h : rightB v s = true) : RightX v s [] := ⟨h, (fun c hc => absurd hc (List.not_mem_nil)), List.Pairwise.nil⟩
/-- One who wants two things wants one. -/
theorem one_each {l : List Ct} (h : Srt l) {a b : Ct} (ha : a ∈ l) (hb : b ∈ l) (e : a.1 = b.1) : a = b := by
  obtain ⟨i, hi, rfl⟩ := List.getElem_of_mem ha
  obtain ⟨j, hj, rfl⟩ := List.getElem_of_mem hb
  rcases Nat.lt_trichotomy i j with h1 | h1 | h1
  · have := List.pairwise_iff_getElem.1 h i j hi hj h1; omega
  · subst h1; rfl
  · have := List.pairwise_iff_getElem.1 h j i hj hi h1; omega

theorem test_wantT (ch : Bool × Nat) (j : Nat) : ∀ (l : List Ct) (t : Nat), (wantT ch t l).testBit j = true ↔ t.testBit j = true ∨ ∃ c ∈ l, c.2 = ch ∧ c.1 = j ∧ j ≤ 15
  | [], t => by simp [wantT]
  | c :: l, t => by
    unfold wantT
    rw [test_wantT ch j l]
    by_cases hc : c.2 = ch
    · rw [if_pos hc, test_with]
      simp only [Bool.or_eq_true, Bool.and_eq_true, decide_eq_true_eq]
      constructor
      · rintro ((h | ⟨h1, h2⟩) | ⟨d, hd, h⟩)
        · exact .inl h
        · exact .inr ⟨c, List.mem_cons.2 (.inl rfl), hc, h2, by omega⟩
        · exact .inr ⟨d, List.mem_cons.2 (.inr hd), h⟩
      · rintro (h | ⟨d, hd, h1, h2, h3⟩)
        · exact .inl (.inl h)
        · rcases List.mem_cons.1 hd with rfl | hd
          · exact .inl (.inr ⟨by omega, h2⟩)
          · exact .inr ⟨d, hd, h1, h2, h3⟩
    · rw [if_neg hc]
      constructor
      · rintro (h | ⟨d, hd, h⟩)
        · exact .inl h
        · exact .inr ⟨d, List.mem_cons.2 (.inr hd), h⟩
      · rintro (h | ⟨d, hd, h⟩)
        · exact .inl h
        · rcases List.mem_cons.1 hd with rfl | hd
          · exact absurd h.1 hc
          · exact .inr ⟨d, hd, h⟩
theorem test_want {l : List Ct} {ch : Bool × Nat} {j : Nat} : (wantS l ch).testBit j = true ↔ ∃ c ∈ l, c.2 = ch ∧ c.1 = j ∧ j ≤ 15 := by
  unfold wantS; rw [test_wantT]; simp
theorem want_small (l : List Ct) (ch : Bool × Nat) : wantS l ch < 65536 := small_of fun j hj => by
  cases hq : (wantS l ch).testBit j with
  | false => rfl
  | true => obtain ⟨c, _, _, _, h⟩ := test_want.1 hq; omega
theorem wantT_small {ch : Bool × Nat} : ∀ {l : List Ct} {t : Nat}, t < 65536 → wantT ch t l < 65536
  | [], t, h => h
  | c :: l, t, h => by
    unfold wantT
    refine wantT_small ?_
    split
    · exact with_small h
    · exact h
theorem wantT_snoc (ch : Bool × Nat) (c : Ct) : ∀ (l : List Ct) (t : Nat), wantT ch t (l ++ [c]) = if c.2 = ch then withS (wantT ch t l) c.1 else wantT ch t l
  | [], t => by simp [wantT]
  | d :: l, t => by rw [List.cons_append]; simp only [wantT]; exact wantT_snoc ch c l _
theorem for_small (v : Int) (s : Nat) (l : List Ct) (ch : Bool × Nat) : forS v s l ch < 65536 := by
  unfold forS; split
  · exact want_small l ch
  · decide
theorem right_who {v : Int} {s : Nat} {l : List Ct} (h : RightX v s l) {c : Ct} (hc : c ∈ l) : c.1 ≤ 15 ∧ s.testBit c.1 = true := by
  have := (ok_parts (h.2.1 c hc)).2
  unfold hasS at this
  simpa using this
/-- Those who want unlike things are unlike members. -/
theorem want_apart {v : Int} {s : Nat} {l : List Ct} (h : RightX v s l) {x y : Bool × Nat} (hne : x ≠ y) : wantS l x &&& wantS l y = 0 := by
  refine Nat.eq_of_testBit_eq fun j => ?_
  rw [Nat.testBit_and, Nat.zero_testBit]
  cases h1 : (wantS l x).testBit j with
  | false => rfl
  | true =>
    cases h2 : (wantS l y).testBit j with
    | false => rfl
    | true =>
      obtain ⟨c, hc, c1, c2, _⟩ := test_want.1 h1
      obtain ⟨d, hd, d1, d2, _⟩ := test_want.1 h2
      have := one_each h.2.2 hc hd (c2.trans d2.symm)
      exact absurd (c1.symm.trans ((congrArg Prod.snd this).trans d1)) hne
theorem for_apart {v : Int} {s : Nat} {l : List Ct} {x y : Bool × Nat} (hne : x ≠ y) : forS v s l x &&& forS v s l y = 0 := by
  unfold forS; split
  · rename_i h; exact want_apart h hne
  · rfl
theorem for_member {v : Int} {s : Nat} {l : List Ct} {x : Bool × Nat} {j : Nat} (h : (forS v s l x).testBit j = true) : s.testBit j = true := by
  unfold forS at h; split at h
  · rename_i hr
    obtain ⟨c, hc, _, rfl, _⟩ := test_want.1 h
    exact (right_who hr hc).2
  · simp at h
/-- A box has no more casts than there are members. -/
theorem right_len {v : Int} {s : Nat} {l : List Ct} (h : RightX v s l) : l.length ≤ 16 := by
  have hs := h.2.2
  have hb : ∀ c ∈ l, c.1 ≤ 15 := fun c hc => (right_who h hc).1
  clear h
  have key : ∀ (l : List Ct) (k : Nat), Srt l → (∀ c ∈ l, k ≤ c.1 ∧ c.1 ≤ 15) → l.length + k ≤ 16 ∨ l = [] := by
    intro l
    induction l with
    | nil => intro k _ _; exact .inr rfl
    | cons a l ih =>
      intro k h1 h2
      obtain ⟨g1, g2⟩ := List.pairwise_cons.1 h1
      have ha := h2 a (List.mem_cons.2 (.inl rfl))
      rcases ih (a.1 + 1) g2 (fun c hc => ⟨g1 c hc, (h2 c (List.mem_cons.2 (.inr hc))).2⟩) with h | h
      · left; rw [List.length_cons]; omega
      · subst h; left; simp; omega
  rcases key l 0 hs (fun c hc => ⟨Nat.zero_le _, hb c hc⟩) with h | h
  · omega
  · subst h; simp
theorem size_bounds {v : Int} {s : Nat} (h : rightB v s = true) (hs : s < 65536) : 1 ≤ sizeS s ∧ sizeS s ≤ 16 := by
  refine ⟨?_, size_le s⟩
  have h0 : s ≠ 0 := by
    unfold rightB at h
    simp at h
    exact h.2.2
  have := mt (size_zero_iff hs).1 h0
  omega
/-- No two unlike changes are wanted by enough. -/
theorem enough_one {v : Int} {s : Nat} {l : List Ct} (hs : s < 65536) (h : RightX v s l) {x y : Bool × Nat} (hx : enough s l x = true) (hy : enough s l y = true) : x = y := by
  refine Classical.byContradiction fun hne => ?_
  have e1 := want_apart h hne
  have e2 := size_or (wantS l x) (wantS l y)
  rw [e1, (size_zero_iff (by decide)).2 rfl] at e2
  obtain ⟨b1, b2⟩ := size_bounds h.1 hs
  have e3 : sizeS (wantS l x ||| wantS l y) ≤ sizeS s := size_mono fun j _ hj => by
    rw [Nat.testBit_or, Bool.or_eq_true] at hj
    rcases hj with hj | hj
    · obtain ⟨c, hc, _, rfl, _⟩ := test_want.1 hj; exact (right_who h hc).2
    · obtain ⟨c, hc, _, rfl, _⟩ := test_want.1 hj; exact (right_who h hc).2
  have e4 := numbers (m := (sizeS s : Int)) (by omega) (by omega)
  have f1 : echoes (sizeS s : Nat) ≤ sizeS (wantS l x) := of_decide_eq_true hx
  have f2 : echoes (sizeS s : Nat) ≤ sizeS (wantS l y) := of_decide_eq_true hy
  omega
theorem enough_mem {v : Int} {s : Nat} {l : List Ct} {x : Bool × Nat} (hx : enough s l x = true) : ∃ c ∈ l, c.2 = x := by
  refine Classical.byContradiction fun hne => ?_
  have h0 : wantS l x = 0 := by
    refine Nat.eq_of_testBit_eq fun j => ?_
    rw [Nat.zero_testBit]
    cases hq : (wantS l x).testBit j with
    | false => rfl
    | true => obtain ⟨c, hc, e, _⟩ := test_want.1 hq; exact absurd ⟨c, hc, e⟩ hne
  have f1 : echoes (sizeS s : Nat) ≤ sizeS (wantS l x) := of_decide_eq_true hx
  rw [h0, (size_zero_iff (by decide)).2 rfl] at f1
  unfold echoes at f1; omega
theorem chosen_some {v : Int} {s : Nat} {l : List Ct} {x : Bool × Nat} (hs : s < 65536) : chosen v s l = some x ↔ RightX v s l ∧ enough s l x = true := by
  unfold chosen
  constructor
  · intro h
    split at h
    · rename_i hr
      refine ⟨hr, ?_⟩
      cases hq : l.find? (fun c => enough s l c.2) with
      | none => rw [hq] at h; cases h
      | some c =>
        rw [hq] at h
        have := List.find?_some hq
        obtain rfl := Option.some.inj h
        exact this
    · cases h
  · rintro ⟨hr, he⟩
    rw [if_pos hr]
    obtain ⟨c, hc, e⟩ := enough_mem (v := v) he
    cases hq : l.find? (fun c => enough s l c.2) with
    | none =>
      have := List.find?_eq_none.1 hq c hc
      rw [e] at this
      exact absurd he this
    | some d =>
      have := List.find?_some hq
      exact congrArg some (enough_one hs hr this he)
theorem want_mono {v : Int} {s : Nat} {l : List Ct} (c : Ct) (x : Bool × Nat) : sizeS (wantS l x) ≤ sizeS (wantS (putL v s l c) x) := by
  refine size_mono fun j _ hj => ?_
  obtain ⟨d, hd, h⟩ := test_want.1 hj
  refine test_want.2 ⟨d, ?_, h⟩
  unfold putL; split
  · exact mem_ins.2 (.inr hd)
  · exact hd
/-- What is chosen stays. -/
theorem chosen_stays {v : Int} {s : Nat} {l : List Ct} (c : Ct) {x : Bool × Nat} (hs : s < 65536) (h : chosen v s l = some x) : chosen v s (putL v s l c) = some x := by
  obtain ⟨hr, he⟩ := (chosen_some hs).1 h
  refine (chosen_some hs).2 ⟨right_put c hr, ?_⟩
  have := want_mono (v := v) (s := s) (l := l) c x
  have f1 : echoes (sizeS s : Nat) ≤ sizeS (wantS l x) := of_decide_eq_true he
  exact decide_eq_true (by omega)
theorem chosen_can {v : Int} {s : Nat} {l : List Ct} {x : Bool × Nat} (hs : s < 65536) (h : chosen v s l = some x) : appE v s x.1 x.2 = 0 ∧ echoes (sizeS s : Nat) ≤ sizeS (forS v s l x) := by
  obtain ⟨hr, he⟩ := (chosen_some hs).1 h
  obtain ⟨c, hc, rfl⟩ := enough_mem (v := v) he
  refine ⟨(ok_parts (hr.2.1 c hc)).1, ?_⟩
  unfold forS; rw [if_pos hr]; exact of_decide_eq_true he
/-- What was put wants something already. -/
theorem put_again {v : Int} {s : Nat} {l : List Ct} {c : Ct} (h : putE v s l c = 0) : putE v s (putL v s l c) c = 9 ∧ (forS v s (putL v s l c) c.2).testBit c.1 = true ∧ c.1 ≤ 15 := by
  have hr := right_ins h
  have hp : putL v s l c = insL l c := by unfold putL; rw [if_pos h]
  rw [hp]
  have hm : c ∈ insL l c := mem_ins.2 (.inl rfl)
  obtain ⟨-, h1, -, -⟩ := put_zero h
  have hf : fnd (insL l c) c.1 = true := List.any_eq_true.2 ⟨c, hm, decide_eq_true rfl⟩
  refine ⟨?_, ?_, (right_who hr hm).1⟩
  · unfold putE; rw [if_pos hr, if_pos h1, if_pos hf]
  · unfold forS; rw [if_pos hr]; exact test_want.2 ⟨c, hm, rfl, rfl, (right_who hr hm).1⟩

/-- Casts in a row. -/
noncomputable def putsL (v : Int) (s : Nat) : List Ct → List Ct → List Ct
  | l, [] => l
  | l, c :: cs => putsL v s (putL v s l c) cs
theorem puts_snoc (v : Int) (s : Nat) (c : Ct) : ∀ (l cs : List Ct), putsL v s l (cs ++ [c]) = putL v s (putsL v s l cs) c
  | l, [] => rfl
  | l, d :: cs => puts_snoc v s c (putL v s l d) cs
theorem puts_right {v : Int} {s : Nat} : ∀ {l cs : List Ct}, RightX v s l → RightX v s (putsL v s l cs)
  | l, [], h => h
  | l, c :: cs, h => puts_right (l := putL v s l c) (cs := cs) (right_put c h)
/-- Two boxes that are alike but for some members. -/
def Like (W a b : List Ct) : Prop := ∀ c : Ct, (∀ d ∈ W, d.1 ≠ c.1) → (c ∈ a ↔ c ∈ b)
theorem mem_put {v : Int} {s : Nat} {l : List Ct} {c x : Ct} : x ∈ putL v s l c ↔ x ∈ l ∨ (x = c ∧ putE v s l c = 0) := by
  unfold putL; split
  · rename_i h
    rw [mem_ins]
    constructor
    · rintro (h1 | h1)
      · exact .inr ⟨h1, h⟩
      · exact .inl h1
    · rintro (h1 | ⟨h1, -⟩)
      · exact .inr h1
      · exact .inl h1
  · rename_i h
    constructor
    · exact .inl
    · rintro (h1 | ⟨-, h1⟩)
      · exact h1
      · exact absurd h1 h
theorem putE_like {v : Int} {s : Nat} {W a b : List Ct} {c : Ct} (h : Like W a b) (ha : RightX v s a) (hb : RightX v s b) (hc : ∀ d ∈ W, d.1 ≠ c.1) : putE v s a c = putE v s b c := by
  have e : fnd a c.1 = fnd b c.1 := by
    cases h1 : fnd a c.1 with
    | true =>
      obtain ⟨d, hd, he⟩ := find_true h1
      exact (List.any_eq_true.2 ⟨d, (h d (fun z hz => by rw [he]; exact hc z hz)).1 hd, decide_eq_true he⟩).symm
    | false =>
      cases h2 : fnd b c.1 with
      | false => rfl
      | true =>
        obtain ⟨d, hd, he⟩ := find_true h2
        exact absurd he (find_false h1 d ((h d (fun z hz => by rw [he]; exact hc z hz)).2 hd))
  unfold putE
  rw [if_pos ha, if_pos hb, e]
theorem put_like {v : Int} {s : Nat} {W a b : List Ct} (c : Ct) (h : Like W a b) (ha : RightX v s a) (hb : RightX v s b) : Like W (putL v s a c) (putL v s b c) := fun x hx => by
  rw [mem_put, mem_put, h x hx]
  constructor
  · rintro (h1 | ⟨h1, h2⟩)
    · exact .inl h1
    · subst h1; exact .inr ⟨rfl, by rw [← putE_like h ha hb hx]; exact h2⟩
  · rintro (h1 | ⟨h1, h2⟩)
    · exact .inl h1
    · subst h1; exact .inr ⟨rfl, by rw [putE_like h ha hb hx]; exact h2⟩
theorem puts_like {v : Int} {s : Nat} {W : List Ct} : ∀ {cs a b : List Ct}, Like W a b → RightX v s a → RightX v s b → Like W (putsL v s a cs) (putsL v s b cs)
  | [], a, b, h, _, _ => h
  | c :: cs, a, b, h, ha, hb => puts_like (cs := cs) (put_like c h ha hb) (right_put c ha) (right_put c hb)
/-- All of a list's members. -/
def whoT : Nat → List Ct → Nat
  | t, [] => t
  | t, c :: l => whoT (withS t c.1) l
theorem test_who (j : Nat) : ∀ (l : List Ct) (t : Nat), (whoT t l).testBit j = true ↔ t.testBit j = true ∨ ∃ c ∈ l, c.1 = j ∧ j ≤ 15
  | [], t => by simp [whoT]
  | c :: l, t => by
    unfold whoT
    rw [test_who j l, test_with]
    simp only [Bool.or_eq_true, Bool.and_eq_true, decide_eq_true_eq]
    constructor
    · rintro ((h | ⟨h1, h2⟩) | ⟨d, hd, h⟩)
      · exact .inl h
      · exact .inr ⟨c, List.mem_cons.2 (.inl rfl), h2, by omega⟩
      · exact .inr ⟨d, List.mem_cons.2 (.inr hd), h⟩
    · rintro (h | ⟨d, hd, h2, h3⟩)
      · exact .inl (.inl h)
      · rcases List.mem_cons.1 hd with rfl | hd
        · exact .inl (.inr ⟨by omega, h2⟩)
        · exact .inr ⟨d, hd, h2, h3⟩
theorem size_withS (t i : Nat) : sizeS (withS t i) ≤ sizeS t + 1 := by
  by_cases h : i ≤ 15
  · by_cases hb : t.testBit i = true
    · unfold withS; simp [h, hb]
    · have hb' : t.testBit i = false := by simpa using hb
      have : withS t i = t + 2 ^ i := by unfold withS; simp [h, hb']
      rw [this, size_add h hb']; omega
  · unfold withS; simp [h]
theorem size_who : ∀ (l : List Ct) (t : Nat), sizeS (whoT t l) ≤ sizeS t + l.length
  | [], t => by simp [whoT]
  | c :: l, t => by
    have h1 := size_who l (withS t c.1)
    have h2 := size_withS t c.1
    rw [List.length_cons]; unfold whoT; omega
/-- Of two boxes that are alike but for those who may be corrupt no two unlike changes are chosen. -/
theorem chosen_alike {v : Int} {s : Nat} {W a b : List Ct} {x y : Bool × Nat} (hs : s < 65536) (h : Like W a b) (hW : W.length ≤ faulty (sizeS s : Nat)) (hx : chosen v s a = some x) (hy : chosen v s b = some y) : x = y := by
  obtain ⟨ra, ea⟩ := (chosen_some hs).1 hx
  obtain ⟨rb, eb⟩ := (chosen_some hs).1 hy
  refine Classical.byContradiction fun hne => ?_
  have e2 := size_or (wantS a x) (wantS b y)
  obtain ⟨b1, b2⟩ := size_bounds ra.1 hs
  have e3 : sizeS (wantS a x ||| wantS b y) ≤ sizeS s := size_mono fun j _ hj => by
    rw [Nat.testBit_or, Bool.or_eq_true] at hj
    rcases hj with hj | hj
    · obtain ⟨c, hc, _, rfl, _⟩ := test_want.1 hj; exact (right_who ra hc).2
    · obtain ⟨c, hc, _, rfl, _⟩ := test_want.1 hj; exact (right_who rb hc).2
  have e5 : sizeS (wantS a x &&& wantS b y) ≤ sizeS (whoT 0 W) := size_mono fun j hj16 hj => by
    rw [Nat.testBit_and, Bool.and_eq_true] at hj
    obtain ⟨c, hc, c1, c2, c3⟩ := test_want.1 hj.1
    obtain ⟨d, hd, d1, d2, d3⟩ := test_want.1 hj.2
    refine (test_who j W 0).2 (.inr ?_)
    refine Classical.byContradiction fun hn => hne ?_
    have hno : ∀ z ∈ W, z.1 ≠ d.1 := fun z hz e => hn ⟨z, hz, e.trans d2, c3⟩
    have hda := (h d hno).2 hd
    have := one_each ra.2.2 hc hda (c2.trans d2.symm)
    rw [← c1, ← d1, this]
  have e6 := size_who W 0
  rw [(size_zero_iff (s := 0) (by decide)).2 rfl] at e6
  have e4 := numbers (m := (sizeS s : Int)) (by omega) (by omega)
  have f1 : echoes (sizeS s : Nat) ≤ sizeS (wantS a x) := of_decide_eq_true ea
  have f2 : echoes (sizeS s : Nat) ≤ sizeS (wantS b y) := of_decide_eq_true eb
  omega
end Bt
end Go.Proofs.Ytfjdopmjcddnlaa
