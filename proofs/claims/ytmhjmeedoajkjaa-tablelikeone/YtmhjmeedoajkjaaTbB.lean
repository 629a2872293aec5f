/- Plain mathematics of layer 8: a table that may be, what a vote in it comes to, and that it may be then. -/
import Derived.Test.YtmhjmeedoajkjaaTbA
import Derived.Test.YtmhjmeedoajkjaaCtA
namespace Go.Proofs.Ytmhjmeedoajkjaa
namespace Tb

structure Tab where
  view : Int
  ms : Nat
  base : Nat → Nat
  opn : List Op
structure OkO (ms : Nat) (base : Nat → Nat) (o : Op) : Prop where
  has : Cn.hasS ms o.frm = true
  lo : (base o.frm : Int) ≤ o.seq
  hi : o.seq < (base o.frm : Int) + 8
  top : o.seq < 1000
  open_ : ¬ (o.seq = (base o.frm : Int) ∧ o.c.done = true)
  se : o.c.echoes.Pairwise Vt.Ap
  sr : o.c.readies.Pairwise Vt.Ap
structure Rt (t : Tab) : Prop where
  v0 : 0 ≤ t.view
  v1 : t.view ≤ 1000
  base : ∀ i, i < 16 → t.base i ≤ 1000 ∧ (0 < t.base i → Cn.hasS t.ms i = true)
  srt : Srt t.opn
  ok : ∀ o ∈ t.opn, OkO t.ms t.base o
def updB (b : Nat → Nat) (i v : Nat) : Nat → Nat := fun j => if j = i then v else b j
theorem updB_at (b : Nat → Nat) (i v : Nat) : updB b i v i = v := by simp [updB]
theorem updB_ne (b : Nat → Nat) {i j : Nat} (v : Nat) (h : j ≠ i) : updB b i v j = b j := by simp [updB, h]
theorem updB_self (b : Nat → Nat) (i : Nat) : updB b i (b i) = b := by funext j; unfold updB; split; subst_vars; rfl; rfl
theorem updB_updB (b : Nat → Nat) (i u v : Nat) : updB (updB b i u) i v = updB b i v := by funext j; unfold updB; split <;> rfl
structure TTold where
  t : Tab
  outs : List (Nat × ByteArray)
  body : ByteArray
  is : Bool
  e : Nat
def errT (t : Tab) (e : Nat) : TTold := ⟨t, [], Vt.none, false, e⟩
def may (t : Tab) (v : Int) (f : Nat) (s : Int) : Nat :=
  if v ≠ t.view then 11 else if Cn.hasS t.ms f = false then 10 else if s < 0 ∨ 1000 ≤ s then 2 else if s < (t.base f : Int) then 6 else if (t.base f : Int) + 8 ≤ s then 7 else 0
/-- What comes of a vote in a table that may be. -/
def take (t : Tab) (v : Int) (f : Nat) (s : Int) (kind : Int) (id : Nat) (x : ByteArray) : TTold :=
  if may t v f s ≠ 0 then errT t (may t v f s) else
  if (Vt.take (findC t.opn f s) t.ms f kind id x).e ≠ 0 then errT t (Vt.take (findC t.opn f s) t.ms f kind id x).e else
  ⟨⟨t.view, t.ms, updB t.base f (closeO f (putO t.opn ⟨f, s, (Vt.take (findC t.opn f s) t.ms f kind id x).c⟩).length (putO t.opn ⟨f, s, (Vt.take (findC t.opn f s) t.ms f kind id x).c⟩) (t.base f)).2,
    (closeO f (putO t.opn ⟨f, s, (Vt.take (findC t.opn f s) t.ms f kind id x).c⟩).length (putO t.opn ⟨f, s, (Vt.take (findC t.opn f s) t.ms f kind id x).c⟩) (t.base f)).1⟩,
    (Vt.take (findC t.opn f s) t.ms f kind id x).outs, (Vt.take (findC t.opn f s) t.ms f kind id x).body, (Vt.take (findC t.opn f s) t.ms f kind id x).is, 0⟩
theorem may_zero {t : Tab} {v : Int} {f : Nat} {s : Int} (h : may t v f s = 0) : v = t.view ∧ Cn.hasS t.ms f = true ∧ 0 ≤ s ∧ s < 1000 ∧ (t.base f : Int) ≤ s ∧ s < (t.base f : Int) + 8 := by
  unfold may at h
  by_cases h1 : v = t.view
  · rw [if_neg (by simpa using h1)] at h
    cases h2 : Cn.hasS t.ms f with
    | false => rw [if_pos h2] at h; cases h
    | true =>
      rw [if_neg (by simp [h2])] at h
      by_cases h3 : s < 0 ∨ 1000 ≤ s
      · rw [if_pos h3] at h; cases h
      · rw [if_neg h3] at h
        by_cases h4 : s < (t.base f : Int)
        · rw [if_pos h4] at h; cases h
        · rw [if_neg h4] at h
          by_cases h5 : (t.base f : Int) + 8 ≤ s
          · rw [if_pos h5] at h; cases h
          · exact ⟨h1, rfl, by omega⟩
  · rw [if_pos (by simpa using h1)] at h; cases h
theorem has_lt {ms f : Nat} (h : Cn.hasS ms f = true) : f < 16 := by
  unfold Cn.hasS at h; simp only [Bool.and_eq_true, decide_eq_true_eq] at h; omega
/-- The two ways of a vote: an error, or it is taken. -/
theorem take_ways (t : Tab) (v : Int) (f : Nat) (s : Int) (kind : Int) (id : Nat) (x : ByteArray) :
    (∃ e, e ≠ 0 ∧ take t v f s kind id x = errT t e) ∨
    (∃ u, may t v f s = 0 ∧ u = Vt.take (findC t.opn f s) t.ms f kind id x ∧ u.e = 0 ∧ take t v f s kind id x =
      ⟨⟨t.view, t.ms, updB t.base f (closeO f (putO t.opn ⟨f, s, u.c⟩).length (putO t.opn ⟨f, s, u.c⟩) (t.base f)).2, (closeO f (putO t.opn ⟨f, s, u.c⟩).length (putO t.opn ⟨f, s, u.c⟩) (t.base f)).1⟩, u.outs, u.body, u.is, 0⟩) := by
  unfold take
  by_cases h1 : may t v f s ≠ 0
  · rw [if_pos h1]; exact .inl ⟨_, h1, rfl⟩
  · rw [if_neg h1]
    by_cases h2 : (Vt.take (findC t.opn f s) t.ms f kind id x).e ≠ 0
    · rw [if_pos h2]; exact .inl ⟨_, h2, rfl⟩
    · rw [if_neg h2]
      exact .inr ⟨_, by simpa using h1, rfl, by simpa using h2, rfl⟩

theorem rem_len {l : List Op} (h : Srt l) {f : Nat} {s : Int} (hd : (findC l f s).done = true) : (remO l f s).length + 1 = l.length := by
  obtain ⟨o, ho, hn, _⟩ := find_done hd
  rcases drop_cases h f s with ⟨p, h1, h2, _⟩ | ⟨_, _, h3⟩
  · rw [(at_found h h1 h2).2.2, List.length_append, List.length_take, List.length_drop]
    have := (List.getElem?_eq_some_iff.1 h1).1
    omega
  · rw [h3 o ho] at hn; cases hn
/-- Enough rounds are enough. -/
theorem close_more {f : Nat} : ∀ {l : List Op} {k : Nat} {b : Nat}, Srt l → l.length ≤ k → closeO f k l b = closeO f l.length l b := by
  intro l
  induction hn : l.length generalizing l with
  | zero =>
    intro k b hs hk
    have hl : l = [] := List.length_eq_zero_iff.1 hn
    subst hl
    cases k with
    | zero => rfl
    | succ k => unfold closeO; rw [if_neg (by simp [findC, Vt.Cs.none])]
  | succ n ih =>
    intro k b hs hk
    cases k with
    | zero => omega
    | succ k =>
      unfold closeO
      cases hd : (findC l f (b : Int)).done with
      | false => rfl
      | true =>
        rw [if_pos rfl, if_pos rfl]
        exact ih (by have := rem_len hs hd; omega) (rem_srt hs _ _) (by omega)
theorem close_stop {f : Nat} {l : List Op} {b : Nat} (h : (findC l f (b : Int)).done = false) : ∀ k, closeO f k l b = (l, b)
  | 0 => rfl
  | k + 1 => by unfold closeO; rw [h]; rfl
theorem close_step {f : Nat} {l : List Op} {b : Nat} (hs : Srt l) (h : (findC l f (b : Int)).done = true) : closeO f l.length l b = closeO f (remO l f (b : Int)).length (remO l f (b : Int)) (b + 1) := by
  have := rem_len hs h
  rw [← this]
  conv => lhs; unfold closeO
  rw [h]; rfl
/-- What is let go of, and what stays. -/
structure Closed (f : Nat) (l : List Op) (b : Nat) (m : List Op) (d : Nat) : Prop where
  le : b ≤ d
  srt : Srt m
  keep : ∀ o, o ∈ m ↔ o ∈ l ∧ ¬ (o.frm = f ∧ (b : Int) ≤ o.seq ∧ o.seq < (d : Int))
  gone : ∀ i, b ≤ i → i < d → ∃ o ∈ l, o.frm = f ∧ o.seq = (i : Int) ∧ o.c.done = true
  stop : (findC m f (d : Int)).done = false
theorem close_closed {f : Nat} : ∀ {l : List Op} {b : Nat}, Srt l → Closed f l b (closeO f l.length l b).1 (closeO f l.length l b).2 := by
  intro l
  induction hn : l.length generalizing l with
  | zero =>
    intro b hs
    have hl : l = [] := List.length_eq_zero_iff.1 hn
    subst hl
    exact ⟨Nat.le_refl _, hs, fun o => ⟨fun h => absurd h (List.not_mem_nil), fun h => h.1⟩, fun i h1 h2 => absurd (show b < b from Nat.lt_of_le_of_lt h1 h2) (Nat.lt_irrefl _), rfl⟩
  | succ n ih =>
    intro b hs
    cases hd : (findC l f (b : Int)).done with
    | false =>
      rw [close_stop hd]
      exact ⟨Nat.le_refl _, hs, fun o => ⟨fun h => ⟨h, fun e => by show False; have := e.2.1; have := e.2.2; omega⟩, fun h => h.1⟩, fun i h1 h2 => absurd (show b < b from Nat.lt_of_le_of_lt h1 h2) (Nat.lt_irrefl _), hd⟩
    | true =>
      have e : closeO f (n + 1) l b = closeO f (remO l f (b : Int)).length (remO l f (b : Int)) (b + 1) := by rw [← hn]; exact close_step hs hd
      have hlen := rem_len hs hd
      have hc := ih (l := remO l f (b : Int)) (by omega) (b := b + 1) (rem_srt hs _ _)
      rw [e]
      rw [show (remO l f (b : Int)).length = n by omega]
      obtain ⟨c1, c2, c3, c4, c5⟩ := hc
      refine ⟨by omega, c2, fun o => ?_, fun i h1 h2 => ?_, c5⟩
      · rw [c3 o, mem_rem]
        cases hi : isN f (b : Int) o with
        | true =>
          rw [isN_iff] at hi
          constructor
          · rintro ⟨⟨_, h⟩, _⟩; cases h
          · rintro ⟨_, h⟩; exact absurd ⟨hi.1, by omega, by omega⟩ h
        | false =>
          have hi' : ¬ (o.frm = f ∧ o.seq = (b : Int)) := fun e => by rw [isN_iff.2 e] at hi; cases hi
          constructor
          · rintro ⟨⟨h1, _⟩, h2⟩; exact ⟨h1, fun ⟨e1, e2, e3⟩ => h2 ⟨e1, by have : o.seq ≠ (b : Int) := fun e => hi' ⟨e1, e⟩; omega, e3⟩⟩
          · rintro ⟨h1, h2⟩; exact ⟨⟨h1, rfl⟩, fun ⟨e1, e2, e3⟩ => h2 ⟨e1, by omega, e3⟩⟩
      · by_cases hib : i = b
        · subst hib
          obtain ⟨o, h3, h4, h5⟩ := find_done hd
          rw [isN_iff] at h4
          exact ⟨o, h3, h4.1, h4.2, h5⟩
        · obtain ⟨o, h3, h4⟩ := c4 i (by omega) h2
          exact ⟨o, (mem_rem.1 h3).1, h4⟩
theorem vt_sound {c : Vt.Cs} {ms frm : Nat} {kind : Int} {id : Nat} {x : ByteArray} (h1 : c.echoes.Pairwise Vt.Ap) (h2 : c.readies.Pairwise Vt.Ap) : (Vt.take c ms frm kind id x).c.echoes.Pairwise Vt.Ap ∧ (Vt.take c ms frm kind id x).c.readies.Pairwise Vt.Ap := by
  rcases Vt.take_full c ms frm kind id x with ⟨e, _, ht⟩ | ⟨_, _, _, _, ht⟩ | ⟨_, _, hv, ht⟩ | ⟨_, _, hv, _, ht⟩ | ⟨_, _, hv, _, _, ht⟩ <;> rw [ht]
  · exact ⟨h1, h2⟩
  · exact ⟨h1, h2⟩
  · exact ⟨Vt.pw_with h1 hv, h2⟩
  · exact ⟨h1, Vt.pw_with h2 hv⟩
  · exact ⟨h1, Vt.pw_with h2 hv⟩
theorem find_sound {t : Tab} (h : Rt t) (f : Nat) (s : Int) : (findC t.opn f s).echoes.Pairwise Vt.Ap ∧ (findC t.opn f s).readies.Pairwise Vt.Ap := by
  unfold findC
  cases e : t.opn.find? (isN f s) with
  | none => exact ⟨List.Pairwise.nil, List.Pairwise.nil⟩
  | some o => have := h.ok o (List.mem_of_find?_eq_some e); exact ⟨this.se, this.sr⟩
/-- A table that may be may be after a vote. -/
theorem take_rt {t : Tab} (h : Rt t) (v : Int) (f : Nat) (s : Int) (kind : Int) (id : Nat) (x : ByteArray) : Rt (take t v f s kind id x).t := by
  rcases take_ways t v f s kind id x with ⟨e, _, he⟩ | ⟨u, hm, hu, _, he⟩ <;> rw [he]
  · exact h
  · obtain ⟨_, hf, s0, s1, s2, s3⟩ := may_zero hm
    have hs := vt_sound (ms := t.ms) (frm := f) (kind := kind) (id := id) (x := x) (find_sound h f s).1 (find_sound h f s).2
    rw [← hu] at hs
    have hC := close_closed (f := f) (b := t.base f) (put_srt h.srt ⟨f, s, u.c⟩)
    generalize closeO f (putO t.opn ⟨f, s, u.c⟩).length (putO t.opn ⟨f, s, u.c⟩) (t.base f) = p at hC
    obtain ⟨m, d⟩ := p
    have hall : ∀ o ∈ putO t.opn ⟨f, s, u.c⟩, Cn.hasS t.ms o.frm = true ∧ (t.base o.frm : Int) ≤ o.seq ∧ o.seq < (t.base o.frm : Int) + 8 ∧ o.seq < 1000 ∧ o.c.echoes.Pairwise Vt.Ap ∧ o.c.readies.Pairwise Vt.Ap ∧ (o.frm ≠ f → ¬ (o.seq = (t.base o.frm : Int) ∧ o.c.done = true)) := fun o ho => by
      rcases mem_put.1 ho with rfl | ⟨ho, _⟩
      · exact ⟨hf, s2, s3, s1, hs.1, hs.2, fun e => absurd rfl e⟩
      · have := h.ok o ho; exact ⟨this.has, this.lo, this.hi, this.top, this.se, this.sr, fun _ => this.open_⟩
    have hd : d ≤ 1000 ∧ t.base f ≤ d := by
      refine ⟨?_, hC.le⟩
      by_cases e : t.base f < d
      · obtain ⟨o, h1, h2, h3, _⟩ := hC.gone (d - 1) (by omega) (by omega)
        have := (hall o h1).2.2.2.1
        omega
      · have h1 := (h.base f (has_lt hf)).1
        have h2 := hC.le
        have : d = t.base f := by omega
        rw [this]; exact h1
    refine ⟨h.v0, h.v1, fun i hi => ?_, hC.srt, fun o ho => ?_⟩
    · by_cases e : i = f
      · subst e
        show updB t.base i d i ≤ 1000 ∧ _
        rw [updB_at]
        exact ⟨hd.1, fun _ => hf⟩
      · show updB t.base f d i ≤ 1000 ∧ (0 < updB t.base f d i → _)
        rw [updB_ne _ _ e]
        exact h.base i hi
    · obtain ⟨h1, h2⟩ := (hC.keep o).1 ho
      obtain ⟨a1, a2, a3, a4, a5, a6, a7⟩ := hall o h1
      by_cases e : o.frm = f
      · have hlo : (d : Int) ≤ o.seq := by rw [e] at a2; exact Int.not_lt.1 fun hlt => h2 ⟨e, a2, hlt⟩
        refine ⟨a1, ?_, ?_, a4, ?_, a5, a6⟩
        · show ((updB t.base f d o.frm : Nat) : Int) ≤ o.seq
          rw [e, updB_at]; exact hlo
        · show o.seq < ((updB t.base f d o.frm : Nat) : Int) + 8
          rw [e] at a3
          rw [e, updB_at]; have := hd.2; omega
        · show ¬ (o.seq = ((updB t.base f d o.frm : Nat) : Int) ∧ _)
          rw [e, updB_at]
          rintro ⟨e1, e2⟩
          have := find_mem hC.srt ho (isN_iff.2 ⟨e, e1⟩)
          have h5 := hC.stop
          rw [this, e2] at h5; cases h5
      · refine ⟨a1, ?_, ?_, a4, ?_, a5, a6⟩
        · show ((updB t.base f d o.frm : Nat) : Int) ≤ o.seq
          rw [updB_ne _ _ e]; exact a2
        · show o.seq < ((updB t.base f d o.frm : Nat) : Int) + 8
          rw [updB_ne _ _ e]; exact a3
        · show ¬ (o.seq = ((updB t.base f d o.frm : Nat) : Int) ∧ _)
          rw [updB_ne _ _ e]; exact a7 e
theorem rt_empty (ms : Nat) : Rt ⟨0, ms, fun _ => 0, []⟩ := ⟨Int.le_refl 0, (by decide : (0 : Int) ≤ 1000), fun i _ => ⟨Nat.zero_le _, fun h => absurd h (Nat.lt_irrefl _)⟩, List.Pairwise.nil, fun o h => absurd h (List.not_mem_nil)⟩
end Tb
end Go.Proofs.Ytmhjmeedoajkjaa
