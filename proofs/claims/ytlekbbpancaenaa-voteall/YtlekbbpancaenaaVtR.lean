/- Plain mathematics: a vote with an error changes nothing; a vote that is taken stays. -/
import Derived.Test.YtlekbbpancaenaaVtM
namespace Go.Proofs.Ytlekbbpancaenaa
namespace Vt

theorem has_with_self {s id : Nat} (h : id ≤ 15) : Cn.hasS (Cn.withS s id) id = true := by
  unfold Cn.hasS; rw [Cn.test_with]; simp [h]
theorem voted_with {id : Nat} (h : id ≤ 15) (l : Bal) (x : ByteArray) : votedB (withB l id x) id = true := by
  unfold votedB
  induction l with
  | nil => simp [withB, has_with_self h]
  | cons b l ih =>
    unfold withB
    split
    · simp [has_with_self h]
    · rw [List.any_cons, ih, Bool.or_true]
/-- What a vote comes to: an error, or it is taken. -/
theorem take_two (c : Cs) (ms frm : Nat) (kind : Int) (id : Nat) (x : ByteArray) :
    (∃ e, e ≠ 0 ∧ take c ms frm kind id x = err c e) ∨
    (badArg kind x = false ∧ out ms frm id = false ∧ (decide (kind = 1) && decide (id ≠ frm)) = false ∧ old c kind id = false ∧ (take c ms frm kind id x).e = 0 ∧ (take c ms frm kind id x).c = (taken c (Cn.sizeS ms) kind id x).1 ∧ (take c ms frm kind id x).outs = (taken c (Cn.sizeS ms) kind id x).2) := by
  unfold take
  by_cases h1 : badArg kind x = true
  · rw [if_pos h1]; exact .inl ⟨2, by decide, rfl⟩
  rw [if_neg h1]
  by_cases h2 : out ms frm id = true
  · rw [if_pos h2]; exact .inl ⟨10, by decide, rfl⟩
  rw [if_neg h2]
  by_cases h3 : (decide (kind = 1) && decide (id ≠ frm)) = true
  · rw [if_pos h3]; exact .inl ⟨10, by decide, rfl⟩
  rw [if_neg h3]
  by_cases h4 : old c kind id = true
  · rw [if_pos h4]; exact .inl ⟨6, by decide, rfl⟩
  rw [if_neg h4]
  dsimp only
  refine .inr ⟨by simpa using h1, by simpa using h2, by simpa using h3, by simpa using h4, ?_⟩
  split <;> exact ⟨rfl, rfl, rfl⟩
theorem take_err {c : Cs} {ms frm : Nat} {kind : Int} {id : Nat} {x : ByteArray} {t : Told} (ht : take c ms frm kind id x = t) (h : t.e ≠ 0) : t = err c t.e := by
  rcases take_two c ms frm kind id x with ⟨e, _, he⟩ | ⟨_, _, _, _, h0, _⟩
  · rw [ht] at he; rw [he]; rfl
  · rw [ht] at h0; exact absurd h0 h
theorem old_taken {c : Cs} {ms frm : Nat} {kind : Int} {id : Nat} (x : ByteArray) (ho : out ms frm id = false) : old (taken c (Cn.sizeS ms) kind id x).1 kind id = true := by
  have hid : id ≤ 15 := by
    unfold out at ho
    cases hm : Cn.hasS ms id with
    | false => rw [hm] at ho; cases ho
    | true => unfold Cn.hasS at hm; rw [Bool.and_eq_true] at hm; exact of_decide_eq_true hm.1
  unfold old taken
  by_cases k1 : kind = 1
  · rw [if_pos k1, if_pos k1]
  · rw [if_neg k1, if_neg k1]
    by_cases k2 : kind = 2
    · rw [if_pos k2, if_pos k2]; exact voted_with hid _ _
    · rw [if_neg k2, if_neg k2]; exact voted_with hid _ _
theorem take_again {c : Cs} {ms frm : Nat} {kind : Int} {id : Nat} {x : ByteArray} {t : Told} (ht : take c ms frm kind id x = t) (h : t.e = 0) : take t.c ms frm kind id x = err t.c 6 := by
  rcases take_two c ms frm kind id x with ⟨e, h0, he⟩ | ⟨h1, h2, h3, _, _, hc, _⟩
  · rw [ht] at he; rw [he] at h; exact absurd h h0
  · rw [ht] at hc
    rw [hc]
    unfold take
    rw [h1, h2, h3, old_taken x h2]
    rfl
theorem readied_stays {c : Cs} {ms frm : Nat} {kind : Int} {id : Nat} {x : ByteArray} {t : Told} (ht : take c ms frm kind id x = t) (h : c.readied = true) : t.c.readied = true := by
  rcases take_two c ms frm kind id x with ⟨e, _, he⟩ | ⟨_, _, _, _, _, hc, _⟩
  · rw [ht] at he; rw [he]; exact h
  · rw [ht] at hc; rw [hc]
    unfold taken; split
    · exact h
    · split
      · show (c.readied || _) = true; rw [h]; rfl
      · show (c.readied || _) = true; rw [h]; rfl
theorem is_new {c : Cs} {ms frm : Nat} {kind : Int} {id : Nat} {x : ByteArray} {t : Told} (ht : take c ms frm kind id x = t) (h : c.done = true) : t.is = false := by
  subst ht
  unfold take
  split
  · rfl
  · split
    · rfl
    · split
      · rfl
      · split
        · rfl
        · dsimp only; rw [h, Bool.true_or, if_pos rfl]
end Vt
end Go.Proofs.Ytlekbbpancaenaa
