/- Plain mathematics of VoteAll: what is cast is under way or counted; if one honest member was told, all are in the end. No program. -/
import Derived.Test.YtlekbbpancaenaaBrA
import Derived.Test.YtlekbbpancaenaaCtA
import Derived.Test.YtlekbbpancaenaaVtN
import Derived.Test.YtlekbbpancaenaaVtR
namespace Go.Proofs.Ytlekbbpancaenaa
set_option linter.unusedVariables false
namespace Vt

theorem cast_mem {f n who to : Nat} {kind : Int} {body : ByteArray} (h1 : f ≤ to) (h2 : to < n) : (⟨to, who, kind, body⟩ : Und) ∈ castL f n who kind body := by
  unfold castL
  exact List.mem_map.2 ⟨to, List.mem_range'_1.2 ⟨h1, by omega⟩, rfl⟩
/-- What is newly stood for is under way to all that are honest. -/
def New (n f : Nat) (u : Und) (kind : Int) (g g' : Nat → Option ByteArray) (s : Tk) : Prop :=
  (∀ j b, g j = some b → g' j = some b) ∧ ∀ j b, g' j = some b → g j = some b ∨ (b = u.body ∧ ∀ to, f ≤ to → to < n → (⟨to, j, kind, b⟩ : Und) ∈ s.way)
theorem New.same (n f : Nat) (u : Und) (kind : Int) (g : Nat → Option ByteArray) (s : Tk) : New n f u kind g g s := ⟨fun _ _ h => h, fun _ _ h => .inl h⟩
theorem New.upd {n f : Nat} {u : Und} {kind : Int} {g : Nat → Option ByteArray} {s : Tk} (hg : ∀ j b, g j = some b → Vt.upd g u.to (some u.body) j = some b) (h : ∀ to, f ≤ to → to < n → (⟨to, u.to, kind, u.body⟩ : Und) ∈ s.way) : New n f u kind g (Vt.upd g u.to (some u.body)) s := by
  refine ⟨hg, fun j b hj => ?_⟩
  by_cases e : j = u.to
  · subst e
    rw [upd_self] at hj
    obtain rfl := Option.some.inj hj
    exact .inr ⟨rfl, h⟩
  · rw [upd_ne _ _ e] at hj; exact .inl hj

theorem inv_come2 {n f frm : Nat} {sent : ByteArray} {ech rdy : Nat → Option ByteArray} {s : Tk} {u : Und} (h1 : 1 ≤ n) (h7 : n ≤ 7) (hf : f = Cn.faulty n) (hI : Inv n f frm sent ech rdy s) (hu : May n f frm sent ech rdy u) :
    ((take (s.cs u.to) (2 ^ n - 1) frm u.kind u.who u.body).is = true → s.done u.to = false) ∧ ∃ ech' rdy', Inv n f frm sent ech' rdy' (come n f frm s u) ∧ New n f u 2 ech ech' (come n f frm s u) ∧ New n f u 3 rdy rdy' (come n f frm s u) := by
  obtain ⟨n1, n2, n3, n4, n5, n6, n7⟩ := num7 h1 h7 hf
  obtain ⟨u1, u2, u3⟩ := hu
  have hsz : Cn.sizeS (2 ^ n - 1) = n := Cn.size_all (by omega)
  have F := take_full (s.cs u.to) (2 ^ n - 1) frm u.kind u.who u.body
  rw [hsz] at F
  rcases F with ⟨e, he, ht⟩ | ⟨hm, hk, hid, hE, ht⟩ | ⟨hm, hk, hv, ht⟩ | ⟨hm, hk, hv, hd, ht⟩ | ⟨hm, hk, hv, hd0, hd, ht⟩
  · have hc : come n f frm s u = s := by
      unfold come; rw [ht]
      show (⟨upd s.cs u.to (s.cs u.to), s.told, s.done, s.way ++ []⟩ : Tk) = s
      rw [upd_same, List.append_nil]
    rw [hc, ht]
    exact ⟨(fun h => nomatch h), ech, rdy, hI, New.same _ _ _ _ _ _, New.same _ _ _ _ _ _⟩
  · -- an echo is cast
    have hc : come n f frm s u = ⟨upd s.cs u.to { s.cs u.to with echoed := true }, s.told, s.done, s.way ++ castL f n u.to (2 : Nat) u.body⟩ := by
      unfold come; rw [ht]; simp
    rw [hc, ht]
    have hnone : (ech u.to).isSome = false := by rw [← hI.e _ u1 u2]; exact hE
    have hg := upd_grows hnone u.body
    refine ⟨(fun h => nomatch h), upd ech u.to (some u.body), rdy, ⟨?_, ?_, ?_, ?_, ?_, ?_, ?_, ?_, ?_⟩, New.upd hg fun to x y => List.mem_append_right _ (cast_mem x y), New.same _ _ _ _ _ _⟩
    · intro i a b
      by_cases e : i = u.to
      · subst e; simp [upd_self]
      · simp only [upd_ne _ _ e]; exact hI.e i a b
    · intro i a b
      by_cases e : i = u.to
      · subst e; simp only [upd_self]; exact hI.r _ a b
      · simp only [upd_ne _ _ e]; exact hI.r i a b
    · intro i a b
      by_cases e : i = u.to
      · subst e; simp only [upd_self]; exact vi_mono (hI.ve _ a b) hg
      · simp only [upd_ne _ _ e]; exact vi_mono (hI.ve i a b) hg
    · intro i a b
      by_cases e : i = u.to
      · subst e; simp only [upd_self]; exact hI.vr _ a b
      · simp only [upd_ne _ _ e]; exact hI.vr i a b
    · intro v hv
      rcases List.mem_append.1 hv with hv | hv
      · exact way_mono (hI.way v hv) hg (fun _ _ h => h)
      · obtain ⟨m1, m2, m3, m4, m5⟩ := mem_cast hv
        exact ⟨m1, m2, by omega, by omega, .inr (.inl ⟨m4, by rw [m3, m5, upd_self]⟩)⟩
    · intro i a b x hx; exact eq_mono (hI.q i a b x hx) hg
    · intro hfr i a b x hx
      by_cases e : i = u.to
      · subst e
        rw [upd_self] at hx
        have hx' := Option.some.inj hx
        rcases u3 with u3 | ⟨_, _, _, _, ⟨_, _, u6⟩ | ⟨u6, _⟩ | ⟨u6, _⟩⟩
        · omega
        · rw [← hx', u6]
        · rw [hk] at u6; exact absurd u6 (by decide)
        · rw [hk] at u6; exact absurd u6 (by decide)
      · rw [upd_ne _ _ e] at hx; exact hI.h hfr i a b x hx
    · intro i a b
      by_cases e : i = u.to
      · subst e; simp only [upd_self]; exact hI.d _ a b
      · simp only [upd_ne _ _ e]; exact hI.d i a b
    · intro i a b hd; exact eq_mono (hI.t i a b hd) hg
  · -- an echo comes
    obtain ⟨l', hl'⟩ : ∃ l', withB (s.cs u.to).echoes u.who u.body = l' := ⟨_, rfl⟩
    have hw : f ≤ u.who → ech u.who = some u.body := fun hfw => by
      rcases u3 with u3 | ⟨_, _, _, _, ⟨u6, _, _⟩ | ⟨_, u6⟩ | ⟨u6, _⟩⟩
      · omega
      · rw [hk] at u6; exact absurd u6 (by decide)
      · exact u6
      · rw [hk] at u6; exact absurd u6 (by decide)
    have VL : VI n f ech l' := by rw [← hl']; exact vi_with (hI.ve _ u1 u2) (has_all hm) hw
    obtain ⟨q, hq⟩ : ∃ q, decide (Cn.echoes n ≤ sizeB l' u.body) = q := ⟨_, rfl⟩
    have et : echoT (s.cs u.to) n u.who u.body = ({ s.cs u.to with echoes := l', readied := (s.cs u.to).readied || q }, if (s.cs u.to).readied || !q then [] else [(3, u.body)]) := by
      unfold echoT ready; rw [hl', hq]
    rw [et] at ht
    have EQx : q = true → EQ n f ech u.body := fun h => by
      subst h
      exact ⟨forB l' u.body, fun j hj => vi_for VL u.body j hj, of_decide_eq_true hq⟩
    by_cases hn : ((s.cs u.to).readied || !q) = true
    · rw [if_pos hn] at ht
      have hc : come n f frm s u = ⟨upd s.cs u.to { s.cs u.to with echoes := l', readied := (s.cs u.to).readied || q }, s.told, s.done, s.way⟩ := by
        unfold come; rw [ht]; simp
      have hr : ((s.cs u.to).readied || q) = (s.cs u.to).readied := by cases h : (s.cs u.to).readied <;> cases q <;> rw [h] at hn <;> simp_all
      rw [hr] at hc
      rw [hc, ht]
      refine ⟨(fun h => nomatch h), ech, rdy, ⟨?_, ?_, ?_, ?_, hI.way, hI.q, hI.h, ?_, hI.t⟩, New.same _ _ _ _ _ _, New.same _ _ _ _ _ _⟩
      · intro i a b
        by_cases e : i = u.to
        · subst e; simp only [upd_self]; exact hI.e _ a b
        · simp only [upd_ne _ _ e]; exact hI.e i a b
      · intro i a b
        by_cases e : i = u.to
        · subst e; simp only [upd_self]; exact hI.r _ a b
        · simp only [upd_ne _ _ e]; exact hI.r i a b
      · intro i a b
        by_cases e : i = u.to
        · subst e; simp only [upd_self]; exact VL
        · simp only [upd_ne _ _ e]; exact hI.ve i a b
      · intro i a b
        by_cases e : i = u.to
        · subst e; simp only [upd_self]; exact hI.vr _ a b
        · simp only [upd_ne _ _ e]; exact hI.vr i a b
      · intro i a b
        by_cases e : i = u.to
        · subst e; simp only [upd_self]; exact hI.d _ a b
        · simp only [upd_ne _ _ e]; exact hI.d i a b
    · rw [if_neg hn] at ht
      have hr0 : (s.cs u.to).readied = false := by cases h : (s.cs u.to).readied <;> rw [h] at hn <;> simp_all
      have hq1 : q = true := by cases q <;> simp_all
      have hc : come n f frm s u = ⟨upd s.cs u.to { s.cs u.to with echoes := l', readied := true }, s.told, s.done, s.way ++ castL f n u.to (3 : Nat) u.body⟩ := by
        unfold come; rw [ht, hr0, hq1]; simp
      rw [hc, ht]
      have hnone : (rdy u.to).isSome = false := by rw [← hI.r _ u1 u2]; exact hr0
      have hg := upd_grows hnone u.body
      refine ⟨(fun h => nomatch h), ech, upd rdy u.to (some u.body), ⟨?_, ?_, ?_, ?_, ?_, ?_, hI.h, ?_, hI.t⟩, New.same _ _ _ _ _ _, New.upd hg fun to x y => List.mem_append_right _ (cast_mem x y)⟩
      · intro i a b
        by_cases e : i = u.to
        · subst e; simp only [upd_self]; exact hI.e _ a b
        · simp only [upd_ne _ _ e]; exact hI.e i a b
      · intro i a b
        by_cases e : i = u.to
        · subst e; simp [upd_self]
        · simp only [upd_ne _ _ e]; exact hI.r i a b
      · intro i a b
        by_cases e : i = u.to
        · subst e; simp only [upd_self]; exact VL
        · simp only [upd_ne _ _ e]; exact hI.ve i a b
      · intro i a b
        by_cases e : i = u.to
        · subst e; simp only [upd_self]; exact vi_mono (hI.vr _ a b) hg
        · simp only [upd_ne _ _ e]; exact vi_mono (hI.vr i a b) hg
      · intro v hv
        rcases List.mem_append.1 hv with hv | hv
        · exact way_mono (hI.way v hv) (fun _ _ h => h) hg
        · obtain ⟨m1, m2, m3, m4, m5⟩ := mem_cast hv
          exact ⟨m1, m2, by omega, by omega, .inr (.inr ⟨m4, by rw [m3, m5, upd_self]⟩)⟩
      · intro i a b x hx
        by_cases e : i = u.to
        · subst e; rw [upd_self] at hx; rw [← Option.some.inj hx]; exact EQx hq1
        · rw [upd_ne _ _ e] at hx; exact hI.q i a b x hx
      · intro i a b
        by_cases e : i = u.to
        · subst e; simp only [upd_self]; exact hI.d _ a b
        · simp only [upd_ne _ _ e]; exact hI.d i a b
  all_goals
    -- a ready comes
    obtain ⟨l', hl'⟩ : ∃ l', withB (s.cs u.to).readies u.who u.body = l' := ⟨_, rfl⟩
    have hw : f ≤ u.who → rdy u.who = some u.body := fun hfw => by
      rcases u3 with u3 | ⟨_, _, _, _, ⟨u6, _, _⟩ | ⟨u6, _⟩ | ⟨_, u6⟩⟩
      · omega
      · rw [hk] at u6; exact absurd u6 (by decide)
      · rw [hk] at u6; exact absurd u6 (by decide)
      · exact u6
    have VL : VI n f rdy l' := by rw [← hl']; exact vi_with (hI.vr _ u1 u2) (has_all hm) hw
    obtain ⟨q, hq⟩ : ∃ q, decide (Cn.readies n ≤ sizeB l' u.body) = q := ⟨_, rfl⟩
    obtain ⟨p, hp⟩ : ∃ p, decide (Cn.enough n ≤ sizeB l' u.body) = p := ⟨_, rfl⟩
    have et : readyT (s.cs u.to) n u.who u.body = ({ s.cs u.to with readies := l', done := (s.cs u.to).done || p, readied := (s.cs u.to).readied || q }, if (s.cs u.to).readied || !q then [] else [(3, u.body)]) := by
      unfold readyT ready; rw [hl', hq, hp]
    rw [et] at ht hd
    have EQx : q = true → EQ n f ech u.body := fun h => by
      subst h
      have hsz := of_decide_eq_true hq
      obtain ⟨j, j1, j2, j3⟩ := honest_in (n := n) (f := f) (q := forB l' u.body) (by omega) (fun j hj => (vi_for VL u.body j hj).1) (by have : sizeB l' u.body = Cn.sizeS (forB l' u.body) := rfl; omega)
      exact hI.q j j1 j2 _ ((vi_for VL u.body j j3).2 j1)
    have hpq : p = true → q = true := fun h => by
      subst h
      have := of_decide_eq_true hp
      rw [← hq]; exact decide_eq_true (by omega)
    dsimp only at hd
    obtain ⟨rdy', hR1, hR2, hR3, hR4⟩ : ∃ rdy' : Nat → Option ByteArray, (∀ j b, rdy j = some b → rdy' j = some b) ∧ (∀ j, j ≠ u.to → rdy' j = rdy j) ∧ ((s.cs u.to).readied || q) = (rdy' u.to).isSome ∧
        ((if (s.cs u.to).readied || !q then [] else [(3, u.body)] : List (Nat × ByteArray)) = [] ∧ rdy' = rdy ∨ (if (s.cs u.to).readied || !q then [] else [(3, u.body)] : List (Nat × ByteArray)) = [(3, u.body)] ∧ rdy' u.to = some u.body ∧ q = true) := by
      by_cases hn : ((s.cs u.to).readied || !q) = true
      · refine ⟨rdy, fun _ _ h => h, fun _ _ => rfl, ?_, .inl ⟨if_pos hn, rfl⟩⟩
        rw [← hI.r _ u1 u2]
        cases h : (s.cs u.to).readied <;> cases q <;> rw [h] at hn <;> simp_all
      · have hr0 : (s.cs u.to).readied = false := by cases h : (s.cs u.to).readied <;> rw [h] at hn <;> simp_all
        have hq1 : q = true := by cases q <;> simp_all
        have hnone : (rdy u.to).isSome = false := by rw [← hI.r _ u1 u2]; exact hr0
        exact ⟨upd rdy u.to (some u.body), upd_grows hnone u.body, fun j hj => upd_ne _ _ hj, by rw [upd_self, hq1]; simp, .inr ⟨if_neg hn, upd_self _ _ _, hq1⟩⟩
    generalize (if (s.cs u.to).readied || !q then [] else [(3, u.body)] : List (Nat × ByteArray)) = os at *
    have hway : ∀ v ∈ s.way ++ os.flatMap (fun o => castL f n u.to (o.1 : Nat) o.2), Way n f frm sent ech rdy' v := by
      intro v hv
      rcases List.mem_append.1 hv with hv | hv
      · exact way_mono (hI.way v hv) (fun _ _ h => h) hR1
      · rcases hR4 with ⟨h0, _⟩ | ⟨h0, h2, _⟩
        · rw [h0] at hv; simp at hv
        · rw [h0] at hv
          simp only [List.flatMap_cons, List.flatMap_nil, List.append_nil] at hv
          obtain ⟨m1, m2, m3, m4, m5⟩ := mem_cast hv
          exact ⟨m1, m2, by omega, by omega, .inr (.inr ⟨m4, by rw [m3, m5, h2]⟩)⟩
    have hnew : ∀ j b, rdy' j = some b → rdy j = some b ∨ (b = u.body ∧ ∀ to, f ≤ to → to < n → (⟨to, j, 3, b⟩ : Und) ∈ s.way ++ os.flatMap (fun o => castL f n u.to (o.1 : Nat) o.2)) := by
      intro j b hj
      by_cases e : j = u.to
      · subst e
        rcases hR4 with ⟨_, h2⟩ | ⟨h0, h2, _⟩
        · rw [h2] at hj; exact .inl hj
        · rw [h2] at hj
          obtain rfl := Option.some.inj hj
          refine .inr ⟨rfl, fun to x y => List.mem_append_right _ ?_⟩
          rw [h0]
          simp only [List.flatMap_cons, List.flatMap_nil, List.append_nil]
          exact cast_mem x y
      · rw [hR2 j e] at hj; exact .inl hj
    have hqq : ∀ i, f ≤ i → i < n → ∀ b, rdy' i = some b → EQ n f ech b := by
      intro i a b x hx
      by_cases e : i = u.to
      · subst e
        rcases hR4 with ⟨_, h2⟩ | ⟨_, h2, h3⟩
        · rw [h2] at hx; exact hI.q _ a b x hx
        · rw [h2] at hx; rw [← Option.some.inj hx]; exact EQx h3
      · rw [hR2 i e] at hx; exact hI.q i a b x hx
  · -- nothing is told
    have hdd : ((s.cs u.to).done || p) = (s.cs u.to).done := by
      rcases hd with hd | hd
      · rw [hd]; rfl
      · rw [hd]; cases h : (s.cs u.to).done with
        | true => rw [h] at hd; cases hd
        | false => rfl
    have hc : come n f frm s u = ⟨upd s.cs u.to { s.cs u.to with readies := l', done := (s.cs u.to).done || p, readied := (s.cs u.to).readied || q }, s.told, s.done, s.way ++ os.flatMap fun o => castL f n u.to (o.1 : Nat) o.2⟩ := by
      unfold come; rw [ht]; simp
    rw [hc, ht]
    refine ⟨(fun h => nomatch h), ech, rdy', ⟨?_, ?_, ?_, ?_, hway, hqq, hI.h, ?_, hI.t⟩, New.same _ _ _ _ _ _, ⟨hR1, hnew⟩⟩
    · intro i a b
      by_cases e : i = u.to
      · subst e; simp only [upd_self]; exact hI.e _ a b
      · simp only [upd_ne _ _ e]; exact hI.e i a b
    · intro i a b
      by_cases e : i = u.to
      · subst e; simp only [upd_self]; exact hR3
      · simp only [upd_ne _ _ e]; rw [hR2 i e]; exact hI.r i a b
    · intro i a b
      by_cases e : i = u.to
      · subst e; simp only [upd_self]; exact hI.ve _ a b
      · simp only [upd_ne _ _ e]; exact hI.ve i a b
    · intro i a b
      by_cases e : i = u.to
      · subst e; simp only [upd_self]; exact vi_mono VL hR1
      · simp only [upd_ne _ _ e]; exact vi_mono (hI.vr i a b) hR1
    · intro i a b
      by_cases e : i = u.to
      · subst e; simp only [upd_self]; rw [hdd]; exact hI.d _ a b
      · simp only [upd_ne _ _ e]; exact hI.d i a b
  · -- a body is told
    have hp1 : p = true := by rw [hd0, Bool.false_or] at hd; exact hd
    have hc : come n f frm s u = ⟨upd s.cs u.to { s.cs u.to with readies := l', done := (s.cs u.to).done || p, readied := (s.cs u.to).readied || q }, upd s.told u.to u.body, upd s.done u.to true, s.way ++ os.flatMap fun o => castL f n u.to (o.1 : Nat) o.2⟩ := by
      unfold come; rw [ht]; simp
    rw [hc]
    refine ⟨fun _ => by rw [hI.d _ u1 u2]; exact hd0, ech, rdy', ⟨?_, ?_, ?_, ?_, hway, hqq, hI.h, ?_, ?_⟩, New.same _ _ _ _ _ _, ⟨hR1, hnew⟩⟩
    · intro i a b
      by_cases e : i = u.to
      · subst e; simp only [upd_self]; exact hI.e _ a b
      · simp only [upd_ne _ _ e]; exact hI.e i a b
    · intro i a b
      by_cases e : i = u.to
      · subst e; simp only [upd_self]; exact hR3
      · simp only [upd_ne _ _ e]; rw [hR2 i e]; exact hI.r i a b
    · intro i a b
      by_cases e : i = u.to
      · subst e; simp only [upd_self]; exact hI.ve _ a b
      · simp only [upd_ne _ _ e]; exact hI.ve i a b
    · intro i a b
      by_cases e : i = u.to
      · subst e; simp only [upd_self]; exact vi_mono VL hR1
      · simp only [upd_ne _ _ e]; exact vi_mono (hI.vr i a b) hR1
    · intro i a b
      by_cases e : i = u.to
      · subst e; simp only [upd_self]; rw [hp1]; simp
      · simp only [upd_ne _ _ e]; exact hI.d i a b
    · intro i a b hd'
      by_cases e : i = u.to
      · subst e; simp only [upd_self]; exact EQx (hpq hp1)
      · simp only [upd_ne _ _ e] at hd' ⊢; exact hI.t i a b hd'


theorem voted_more {l : Bal} {i : Nat} (id : Nat) (x : ByteArray) (h : votedB l i = true) : votedB (withB l id x) i = true := by
  induction l with
  | nil => cases h
  | cons a l ih =>
    have e : votedB (a :: l) i = (Cn.hasS a.2 i || votedB l i) := rfl
    rw [e, Bool.or_eq_true] at h
    unfold withB
    by_cases ha : a.1 = x
    · rw [if_pos ha]
      show (Cn.hasS (Cn.withS a.2 id) i || votedB l i) = true
      rcases h with h | h
      · have : Cn.hasS (Cn.withS a.2 id) i = true := by
          unfold Cn.hasS at h ⊢
          simp only [Bool.and_eq_true] at h ⊢
          exact ⟨h.1, by rw [Cn.test_with, h.2]; rfl⟩
        rw [this]; rfl
      · rw [h, Bool.or_true]
    · rw [if_neg ha]
      show (Cn.hasS a.2 i || votedB (withB l id x) i) = true
      rcases h with h | h
      · rw [h]; rfl
      · rw [ih h, Bool.or_true]
/-- A vote that may be taken is taken, or was. -/
theorem take_old {c : Cs} {ms frm id : Nat} {kind : Int} {x : ByteArray} (hb : badArg kind x = false) (ho : out ms frm id = false) (hk : (decide (kind = 1) && decide (id ≠ frm)) = false) : old (take c ms frm kind id x).c kind id = true := by
  unfold take
  rw [hb, ho, hk]
  simp only [Bool.false_eq_true, if_false]
  by_cases h : old c kind id = true
  · rw [if_pos h]; exact h
  · rw [if_neg h]
    split <;> exact old_taken x ho
theorem take_mono (c : Cs) (ms frm : Nat) (kind : Int) (id : Nat) (x : ByteArray) : (c.echoed = true → (take c ms frm kind id x).c.echoed = true) ∧ (∀ i, votedB c.echoes i = true → votedB (take c ms frm kind id x).c.echoes i = true) ∧ (∀ i, votedB c.readies i = true → votedB (take c ms frm kind id x).c.readies i = true) := by
  rcases take_full c ms frm kind id x with ⟨e, _, ht⟩ | ⟨_, _, _, _, ht⟩ | ⟨_, _, _, ht⟩ | ⟨_, _, _, _, ht⟩ | ⟨_, _, _, _, _, ht⟩ <;> rw [ht]
  · exact ⟨fun h => h, fun _ h => h, fun _ h => h⟩
  · exact ⟨fun _ => rfl, fun _ h => h, fun _ h => h⟩
  · exact ⟨fun h => h, fun i h => voted_more id x h, fun _ h => h⟩
  · exact ⟨fun h => h, fun _ h => h, fun i h => voted_more id x h⟩
  · exact ⟨fun h => h, fun _ h => h, fun i h => voted_more id x h⟩
theorem take_pw {c : Cs} (ms frm : Nat) (kind : Int) (id : Nat) (x : ByteArray) (he : c.echoes.Pairwise Ap) (hr : c.readies.Pairwise Ap) : (take c ms frm kind id x).c.echoes.Pairwise Ap ∧ (take c ms frm kind id x).c.readies.Pairwise Ap := by
  rcases take_full c ms frm kind id x with ⟨e, _, ht⟩ | ⟨_, _, _, _, ht⟩ | ⟨_, _, hv, ht⟩ | ⟨_, _, hv, _, ht⟩ | ⟨_, _, hv, _, _, ht⟩ <;> rw [ht]
  · exact ⟨he, hr⟩
  · exact ⟨he, hr⟩
  · exact ⟨pw_with he hv, hr⟩
  · exact ⟨he, pw_with hr hv⟩
  · exact ⟨he, pw_with hr hv⟩
theorem take_done {c : Cs} (ms frm : Nat) (kind : Int) (id : Nat) (x : ByteArray) (h : c.done = hasE c.readies (Cn.enough (Cn.sizeS ms))) : (take c ms frm kind id x).c.done = hasE (take c ms frm kind id x).c.readies (Cn.enough (Cn.sizeS ms)) := by
  have key : (readyT c (Cn.sizeS ms) id x).1.done = hasE (readyT c (Cn.sizeS ms) id x).1.readies (Cn.enough (Cn.sizeS ms)) := by
    show (c.done || decide (Cn.enough (Cn.sizeS ms) ≤ sizeB (withB c.readies id x) x)) = hasE (withB c.readies id x) _
    rw [has_with, h]
  rcases take_full c ms frm kind id x with ⟨e, _, ht⟩ | ⟨_, _, _, _, ht⟩ | ⟨_, _, _, ht⟩ | ⟨_, _, _, _, ht⟩ | ⟨_, _, _, _, _, ht⟩ <;> rw [ht]
  · exact h
  · exact h
  · exact h
  · exact key
  · exact key

/-- What was cast is under way, in hand, or counted. -/
structure Tot (n f frm : Nat) (sent : ByteArray) (ech rdy : Nat → Option ByteArray) (s : Tk) (ex : Und → Prop) : Prop where
  snd : f ≤ frm → ∀ j, f ≤ j → j < n → ((⟨j, frm, 1, sent⟩ : Und) ∈ s.way ∨ ex ⟨j, frm, 1, sent⟩) ∨ (s.cs j).echoed = true
  ec : ∀ i b, f ≤ i → i < n → ech i = some b → ∀ j, f ≤ j → j < n → ((⟨j, i, 2, b⟩ : Und) ∈ s.way ∨ ex ⟨j, i, 2, b⟩) ∨ votedB (s.cs j).echoes i = true
  rd : ∀ i b, f ≤ i → i < n → rdy i = some b → ∀ j, f ≤ j → j < n → ((⟨j, i, 3, b⟩ : Und) ∈ s.way ∨ ex ⟨j, i, 3, b⟩) ∨ votedB (s.cs j).readies i = true
  eb : ∀ i b, ech i = some b → b.size ≤ 1000
  rb : ∀ i b, rdy i = some b → b.size ≤ 1000
  few : ∀ j, f ≤ j → j < n → FewOk n (s.cs j)
  dn : ∀ j, f ≤ j → j < n → (s.cs j).done = hasE (s.cs j).readies (Cn.enough n)
  pe : ∀ j, f ≤ j → j < n → (s.cs j).echoes.Pairwise Ap
  pr : ∀ j, f ≤ j → j < n → (s.cs j).readies.Pairwise Ap
theorem all_has {n j : Nat} (h : n ≤ 7) (hj : j < n) : Cn.hasS (2 ^ n - 1) j = true := by
  unfold Cn.hasS
  rw [Nat.testBit_two_pow_sub_one, decide_eq_true hj, decide_eq_true (show j ≤ 15 by omega)]; rfl
theorem tot_come {n f frm : Nat} {sent : ByteArray} {ech rdy ech' rdy' : Nat → Option ByteArray} {s : Tk} {u : Und} {ex : Und → Prop} (h7 : n ≤ 7) (hfr : frm < n) (hsz : sent.size ≤ 1000) (hu : u.body.size ≤ 1000) (hto : f ≤ u.to ∧ u.to < n) (hT : Tot n f frm sent ech rdy s ex) (hex : ∀ v, ex v → v = u)
    (hE : New n f u 2 ech ech' (come n f frm s u)) (hR : New n f u 3 rdy rdy' (come n f frm s u)) : Tot n f frm sent ech' rdy' (come n f frm s u) (fun _ => False) := by
  have hms : Cn.sizeS (2 ^ n - 1) = n := Cn.size_all (by omega)
  have hcs : ∀ j, (come n f frm s u).cs j = if j = u.to then (take (s.cs u.to) (2 ^ n - 1) frm u.kind u.who u.body).c else s.cs j := fun j => rfl
  have hway : ∀ v, v ∈ s.way → v ∈ (come n f frm s u).way := fun v hv => List.mem_append_left _ hv
  have M := take_mono (s.cs u.to) (2 ^ n - 1) frm u.kind u.who u.body
  have bad : ∀ k : Int, 1 ≤ k → k ≤ 3 → ∀ x : ByteArray, x.size ≤ 1000 → badArg k x = false := fun k a b x hx => by
    unfold badArg; rw [decide_eq_false (show ¬ k < 1 by omega), decide_eq_false (show ¬ 3 < k by omega), decide_eq_false (show ¬ 1000 < x.size by omega)]; rfl
  have nout : ∀ i, i < n → out (2 ^ n - 1) frm i = false := fun i hi => by unfold out; rw [all_has h7 hi, all_has h7 hfr]; rfl
  have mE : ∀ j, (s.cs j).echoed = true → ((come n f frm s u).cs j).echoed = true := fun j h => by
    rw [hcs]; split
    · next e => subst e; exact M.1 h
    · exact h
  have mV : ∀ j i, votedB (s.cs j).echoes i = true → votedB ((come n f frm s u).cs j).echoes i = true := fun j i h => by
    rw [hcs]; split
    · next e => subst e; exact M.2.1 i h
    · exact h
  have mW : ∀ j i, votedB (s.cs j).readies i = true → votedB ((come n f frm s u).cs j).readies i = true := fun j i h => by
    rw [hcs]; split
    · next e => subst e; exact M.2.2 i h
    · exact h
  have here : (come n f frm s u).cs u.to = (take (s.cs u.to) (2 ^ n - 1) frm u.kind u.who u.body).c := by rw [hcs, if_pos rfl]
  have ncs : ∀ (P : Cs → Prop) (j : Nat), (j = u.to → P (take (s.cs u.to) (2 ^ n - 1) frm u.kind u.who u.body).c) → P (s.cs j) → P ((come n f frm s u).cs j) := fun P j h1 h2 => by
    rw [hcs]; split
    · next e => exact h1 e
    · exact h2
  refine ⟨fun hf j a b => ?_, fun i b a1 a2 hi j c1 c2 => ?_, fun i b a1 a2 hi j c1 c2 => ?_, fun i b hi => ?_, fun i b hi => ?_, fun j a b => ?_, fun j a b => ?_, fun j a b => ?_, fun j a b => ?_⟩
  · rcases hT.snd hf j a b with (h | h) | h
    · exact .inl (.inl (hway _ h))
    · have e := hex _ h
      have e1 : j = u.to := congrArg Und.to e
      have e2 : frm = u.who := congrArg Und.who e
      have e3 : 1 = u.kind := congrArg Und.kind e
      have e4 : sent = u.body := congrArg Und.body e
      right
      rw [e1, here]
      have := take_old (c := s.cs u.to) (ms := 2 ^ n - 1) (frm := frm) (id := u.who) (kind := u.kind) (x := u.body) (by rw [← e3]; exact bad 1 (by omega) (by omega) _ hu) (by rw [← e2]; exact nout frm hfr) (by rw [← e2]; simp)
      rw [← e3] at this ⊢
      exact this
    · exact .inr (mE j h)
  · rcases hE.2 i b hi with hi' | ⟨_, hn⟩
    · rcases hT.ec i b a1 a2 hi' j c1 c2 with (h | h) | h
      · exact .inl (.inl (hway _ h))
      · have e := hex _ h
        have e1 : j = u.to := congrArg Und.to e
        have e2 : i = u.who := congrArg Und.who e
        have e3 : 2 = u.kind := congrArg Und.kind e
        right
        rw [e1, here]
        have := take_old (c := s.cs u.to) (ms := 2 ^ n - 1) (frm := frm) (id := u.who) (kind := u.kind) (x := u.body) (by rw [← e3]; exact bad 2 (by omega) (by omega) _ hu) (by rw [← e2]; exact nout i a2) (by rw [← e3]; rfl)
        rw [← e3, ← e2] at this ⊢
        exact this
      · exact .inr (mV j i h)
    · exact .inl (.inl (hn j c1 c2))
  · rcases hR.2 i b hi with hi' | ⟨_, hn⟩
    · rcases hT.rd i b a1 a2 hi' j c1 c2 with (h | h) | h
      · exact .inl (.inl (hway _ h))
      · have e := hex _ h
        have e1 : j = u.to := congrArg Und.to e
        have e2 : i = u.who := congrArg Und.who e
        have e3 : 3 = u.kind := congrArg Und.kind e
        right
        rw [e1, here]
        have := take_old (c := s.cs u.to) (ms := 2 ^ n - 1) (frm := frm) (id := u.who) (kind := u.kind) (x := u.body) (by rw [← e3]; exact bad 3 (by omega) (by omega) _ hu) (by rw [← e2]; exact nout i a2) (by rw [← e3]; rfl)
        rw [← e3, ← e2] at this ⊢
        exact this
      · exact .inr (mW j i h)
    · exact .inl (.inl (hn j c1 c2))
  · rcases hE.2 i b hi with h | ⟨h, _⟩
    · exact hT.eb i b h
    · rw [h]; exact hu
  · rcases hR.2 i b hi with h | ⟨h, _⟩
    · exact hT.rb i b h
    · rw [h]; exact hu
  · refine ncs (FewOk n) j (fun e => ?_) (hT.few j a b)
    have := few_take (ms := 2 ^ n - 1) frm u.kind u.who u.body (c := s.cs u.to) (by rw [hms]; exact hT.few u.to hto.1 hto.2)
    rw [hms] at this; exact this
  · refine ncs (fun c => c.done = hasE c.readies (Cn.enough n)) j (fun e => ?_) (hT.dn j a b)
    have := take_done (2 ^ n - 1) frm u.kind u.who u.body (c := s.cs u.to) (by rw [hms]; exact hT.dn u.to hto.1 hto.2)
    rw [hms] at this; exact this
  · exact ncs (fun c => c.echoes.Pairwise Ap) j (fun _ => (take_pw _ _ _ _ _ (hT.pe u.to hto.1 hto.2) (hT.pr u.to hto.1 hto.2)).1) (hT.pe j a b)
  · exact ncs (fun c => c.readies.Pairwise Ap) j (fun _ => (take_pw _ _ _ _ _ (hT.pe u.to hto.1 hto.2) (hT.pr u.to hto.1 hto.2)).2) (hT.pr j a b)
theorem tot_start {n f frm : Nat} {sent : ByteArray} : Tot n f frm sent (fun _ => Option.none) (fun _ => Option.none) (Tk.start n f frm sent) (fun _ => False) := by
  refine ⟨fun hf j a b => .inl (.inl ?_), (fun _ _ _ _ h => nomatch h), (fun _ _ _ _ h => nomatch h), (fun _ _ h => nomatch h), (fun _ _ h => nomatch h), fun _ _ _ => few_none n, fun _ _ _ => rfl, fun _ _ _ => List.Pairwise.nil, fun _ _ _ => List.Pairwise.nil⟩
  unfold Tk.start
  dsimp only
  rw [if_pos hf]
  exact cast_mem a b

theorem for_of_mem {l : Bal} {x : ByteArray} {s : Nat} (h : l.Pairwise Ap) (hm : (x, s) ∈ l) : forB l x = s := by
  induction l with
  | nil => cases hm
  | cons a l ih =>
    obtain ⟨h1, h2⟩ := List.pairwise_cons.1 h
    unfold forB
    rcases List.mem_cons.1 hm with e | hm
    · rw [← e, if_pos rfl]
    · rw [if_neg (h1 _ hm).1]; exact ih h2 hm
/-- Who voted, and stands for b, stands among those for b. -/
theorem voted_for {n f i : Nat} {g : Nat → Option ByteArray} {l : Bal} {b : ByteArray} (hv : VI n f g l) (hp : l.Pairwise Ap) (hi : f ≤ i) (hg : g i = some b) (h : votedB l i = true) : Cn.hasS (forB l b) i = true := by
  obtain ⟨⟨x, s⟩, hm, hs⟩ := List.any_eq_true.1 h
  have e := (hv x s hm i hs).2 hi
  rw [hg] at e
  obtain rfl := Option.some.inj e
  rw [for_of_mem hp hm]; exact hs
theorem has_size {l : Bal} {x : ByteArray} {E : Nat} (hE : 1 ≤ E) (h : E ≤ sizeB l x) : hasE l E = true := by
  rcases for_mem l x with h0 | h0
  · unfold sizeB at h; rw [h0] at h
    have : Cn.sizeS 0 = 0 := by decide
    omega
  · exact List.any_eq_true.2 ⟨_, h0, decide_eq_true h⟩
theorem pow128 {m : Nat} (h : m ≤ 7) : 2 ^ m ≤ 128 := Nat.le_trans (Nat.pow_le_pow_right (n := 2) (by decide) h) (by decide)
/-- All that are honest: as many as can be. -/
theorem honest_size {n f q : Nat} (hn : n ≤ 7) (hf : f ≤ n) (h : ∀ j, f ≤ j → j < n → Cn.hasS q j = true) : n - f ≤ Cn.sizeS q := by
  have e := Cn.size_of_test (a := 2 ^ n - 1) (b := 2 ^ f - 1) (c := (2 ^ n - 1) &&& q &&& (65535 - (2 ^ f - 1)))
  have hb : ∀ m : Nat, m ≤ 7 → 2 ^ m ≤ 128 := fun m hm => pow128 hm
  have h1 : ∀ j, j < 16 → ((2 ^ n - 1) &&& q &&& (65535 - (2 ^ f - 1))).testBit j = ((2 ^ n - 1).testBit j && !(2 ^ f - 1).testBit j) := fun j hj => by
    have hbf := hb f (by omega)
    have e2 : 65535 - (2 ^ f - 1) = 2 ^ 16 - ((2 ^ f - 1) + 1) := by omega
    rw [Nat.testBit_and, Nat.testBit_and, e2, Nat.testBit_two_pow_sub_succ (x := 2 ^ f - 1) (n := 16) (by omega), decide_eq_true hj, Bool.true_and]
    rw [Nat.testBit_two_pow_sub_one, Nat.testBit_two_pow_sub_one]
    by_cases hjn : j < n
    · by_cases hjf : j < f
      · simp [hjf]
      · have hq : q.testBit j = true := by have := h j (by omega) hjn; unfold Cn.hasS at this; simp only [Bool.and_eq_true] at this; exact this.2
        simp [hjn, hjf, hq]
    · simp [hjn]
  have e1 := e h1
  have e3 : Cn.sizeS ((2 ^ n - 1) &&& (2 ^ f - 1)) ≤ f := by
    have := Cn.size_mono (a := (2 ^ n - 1) &&& (2 ^ f - 1)) (b := 2 ^ f - 1) (fun j _ hj => by rw [Nat.testBit_and, Bool.and_eq_true] at hj; exact hj.2)
    rw [Cn.size_all (by omega)] at this; exact this
  rw [Cn.size_all (by omega)] at e1
  have e4 := Cn.size_mono (a := (2 ^ n - 1) &&& q &&& (65535 - (2 ^ f - 1))) (b := q) (fun j _ hj => by rw [Nat.testBit_and, Nat.testBit_and, Bool.and_eq_true, Bool.and_eq_true] at hj; exact hj.1.2)
  omega
/-- In the end: all are told, if one is, or if the sender is honest. -/
theorem tot_end {n f frm : Nat} {sent : ByteArray} {ech rdy : Nat → Option ByteArray} {s : Tk} (h1 : 1 ≤ n) (h7 : n ≤ 7) (hf : f = Cn.faulty n) (hI : Inv n f frm sent ech rdy s) (hT : Tot n f frm sent ech rdy s (fun _ => False)) (hw : s.way = []) :
    ((∃ i, f ≤ i ∧ i < n ∧ s.done i = true) ∨ f ≤ frm) → ∀ j, f ≤ j → j < n → s.done j = true := by
  obtain ⟨n1, n2, n3, n4, n5, n6, n7⟩ := num7 h1 h7 hf
  have hnum := Cn.numbers (m := (n : Int)) (by omega) (by omega)
  have RV : ∀ i b, f ≤ i → i < n → rdy i = some b → ∀ j, f ≤ j → j < n → Cn.hasS (forB (s.cs j).readies b) i = true := fun i b a1 a2 hi j c1 c2 => by
    rcases hT.rd i b a1 a2 hi j c1 c2 with (h | h) | h
    · rw [hw] at h; cases h
    · exact h.elim
    · exact voted_for (hI.vr j c1 c2) (hT.pr j c1 c2) a1 hi h
  -- all ready for one body: all are told
  have fin : ∀ b, (∀ i, f ≤ i → i < n → rdy i = some b) → ∀ j, f ≤ j → j < n → s.done j = true := fun b hb j c1 c2 => by
    rw [hI.d j c1 c2, hT.dn j c1 c2]
    refine has_size (x := b) (by omega) ?_
    have := honest_size (f := f) (q := forB (s.cs j).readies b) h7 (by omega) (fun i a1 a2 => RV i b a1 a2 (hb i a1 a2) j c1 c2)
    show _ ≤ Cn.sizeS (forB (s.cs j).readies b)
    omega
  have rdyE : ∀ j, f ≤ j → j < n → (s.cs j).readied = true → ∃ b, rdy j = some b := fun j c1 c2 h => by
    rw [hI.r j c1 c2] at h
    exact Option.isSome_iff_exists.1 h
  rintro (⟨i, i1, i2, hd⟩ | hfr)
  · -- one was told
    rw [hI.d i i1 i2, hT.dn i i1 i2] at hd
    obtain ⟨⟨b, S⟩, hm, hS⟩ := List.any_eq_true.1 hd
    have hS' := of_decide_eq_true hS
    dsimp only at hS'
    have VS : ∀ j, Cn.hasS S j = true → j < n ∧ (f ≤ j → rdy j = some b) := fun j hj => hI.vr i i1 i2 b S hm j hj
    obtain ⟨k0, k1, k2, k3⟩ := honest_in (n := n) (f := f) (q := S) (by omega) (fun j hj => (VS j hj).1) (by omega)
    have hEQ := hI.q k0 k1 k2 b ((VS k0 k3).2 k1)
    refine fin b fun j c1 c2 => ?_
    -- the honest ones of S were counted at j: f + 1 of them
    have hsub : Cn.readies n ≤ Cn.sizeS (forB (s.cs j).readies b) := by
      have m1 := Cn.size_of_test (a := S) (b := 2 ^ f - 1) (c := S &&& (65535 - (2 ^ f - 1))) (fun q hq => by
        have hp : 2 ^ f ≤ 128 := pow128 (show f ≤ 7 by omega)
        have e2 : 65535 - (2 ^ f - 1) = 2 ^ 16 - ((2 ^ f - 1) + 1) := by omega
        rw [Nat.testBit_and, e2, Nat.testBit_two_pow_sub_succ (by omega), decide_eq_true hq, Bool.true_and])
      have m2 : Cn.sizeS (S &&& (2 ^ f - 1)) ≤ f := by
        have := Cn.size_mono (a := S &&& (2 ^ f - 1)) (b := 2 ^ f - 1) (fun j _ hj => by rw [Nat.testBit_and, Bool.and_eq_true] at hj; exact hj.2)
        rw [Cn.size_all (by omega)] at this; exact this
      have m3 := Cn.size_mono (a := S &&& (65535 - (2 ^ f - 1))) (b := forB (s.cs j).readies b) (fun q hq hb => by
        have hp : 2 ^ f ≤ 128 := pow128 (show f ≤ 7 by omega)
        have e2 : 65535 - (2 ^ f - 1) = 2 ^ 16 - ((2 ^ f - 1) + 1) := by omega
        rw [Nat.testBit_and, e2, Nat.testBit_two_pow_sub_succ (by omega), decide_eq_true hq, Bool.true_and, Nat.testBit_two_pow_sub_one, Bool.and_eq_true] at hb
        have hqf : f ≤ q := by
          rcases Nat.lt_or_ge q f with x | x
          · rw [decide_eq_true x] at hb; exact absurd hb.2 (by simp)
          · exact x
        have hh := has_test hq hb.1
        have := RV q b hqf (VS q hh).1 ((VS q hh).2 hqf) j c1 c2
        unfold Cn.hasS at this
        simp only [Bool.and_eq_true] at this
        exact this.2)
      omega
    have hrd : (s.cs j).readied = true := by
      have := hT.few j c1 c2
      unfold FewOk at this
      rw [this, has_size (l := (s.cs j).readies) (x := b) (by omega) hsub, Bool.or_true]
    obtain ⟨b', hb'⟩ := rdyE j c1 c2 hrd
    rw [hb', eq_one h1 h7 hf (hI.q j c1 c2 b' hb') hEQ]
  · -- the sender is honest
    have hech : ∀ i, f ≤ i → i < n → ech i = some sent := fun i a1 a2 => by
      have : (s.cs i).echoed = true := by
        rcases hT.snd hfr i a1 a2 with (h | h) | h
        · rw [hw] at h; cases h
        · exact h.elim
        · exact h
      rw [hI.e i a1 a2] at this
      obtain ⟨b, hb⟩ := Option.isSome_iff_exists.1 this
      rw [hb, hI.h hfr i a1 a2 b hb]
    have hEQs : EQ n f ech sent := ⟨(2 ^ n - 1), fun j hj => ⟨has_all hj, fun hfj => hech j hfj (has_all hj)⟩, by rw [Cn.size_all (by omega)]; omega⟩
    refine fin sent fun j c1 c2 => ?_
    have hsub : Cn.echoes n ≤ Cn.sizeS (forB (s.cs j).echoes sent) := by
      have := honest_size (f := f) (q := forB (s.cs j).echoes sent) h7 (by omega) (fun i a1 a2 => by
        rcases hT.ec i sent a1 a2 (hech i a1 a2) j c1 c2 with (h | h) | h
        · rw [hw] at h; cases h
        · exact h.elim
        · exact voted_for (hI.ve j c1 c2) (hT.pe j c1 c2) a1 (hech i a1 a2) h)
      omega
    have hrd : (s.cs j).readied = true := by
      have := hT.few j c1 c2
      unfold FewOk at this
      rw [this, has_size (l := (s.cs j).echoes) (x := sent) (by omega) hsub, Bool.true_or]
    obtain ⟨b', hb'⟩ := rdyE j c1 c2 hrd
    rw [hb', eq_one h1 h7 hf (hI.q j c1 c2 b' hb') hEQs]
end Vt
end Go.Proofs.Ytlekbbpancaenaa
