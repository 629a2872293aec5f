/- Plain mathematics of VoteAll: how many ballots there are at most; votes under way come to an end. No program. -/
import Derived.Test.YtlekbbpancaenaaBrB
namespace Go.Proofs.Ytlekbbpancaenaa
set_option linter.unusedVariables false
namespace Vt

theorem count_mono {p q : Nat → Bool} {L : List Nat} (h : ∀ i, p i = true → q i = true) : L.countP p ≤ L.countP q := List.countP_mono_left fun i _ hi => h i hi
theorem count_less {p q : Nat → Bool} {L : List Nat} {a : Nat} (h : ∀ i, p i = true → q i = true) (ha : a ∈ L) (hp : p a = false) (hq : q a = true) : L.countP p + 1 ≤ L.countP q := by
  induction L with
  | nil => cases ha
  | cons b L ih =>
    rw [List.countP_cons, List.countP_cons]
    by_cases e : b = a
    · subst e
      rw [hp, hq]
      have := count_mono (L := L) h
      simp
      omega
    · have ha' : a ∈ L := by
        rcases List.mem_cons.1 ha with h | h
        · exact absurd h.symm e
        · exact h
      have := ih ha'
      have hb := h b
      cases hpb : p b with
      | false => simp; split <;> omega
      | true => rw [hb hpb]; simp; omega
/-- How many voted. -/
def Vc (l : Bal) : Nat := (List.range 16).countP (votedB l)
theorem vc_le (l : Bal) : Vc l ≤ 16 := by
  unfold Vc
  have := List.countP_le_length (p := votedB l) (l := List.range 16)
  simpa using this
theorem vlen_with {l : Bal} {id : Nat} {x : ByteArray} (h : l.length ≤ Vc l) (hv : votedB l id = false) (h15 : id ≤ 15) : (withB l id x).length ≤ Vc (withB l id x) := by
  have h1 := len_with l id x
  have h2 : Vc l + 1 ≤ Vc (withB l id x) := count_less (a := id) (fun i hi => voted_more id x hi) (List.mem_range.2 (by omega)) hv (voted_with h15 l x)
  omega
theorem has_15 {s id : Nat} (h : Cn.hasS s id = true) : id ≤ 15 := by
  unfold Cn.hasS at h
  simp only [Bool.and_eq_true, decide_eq_true_eq] at h
  exact h.1
theorem take_vlen {c : Cs} (ms frm : Nat) (kind : Int) (id : Nat) (x : ByteArray) (h : c.echoes.length ≤ Vc c.echoes ∧ c.readies.length ≤ Vc c.readies) : (take c ms frm kind id x).c.echoes.length ≤ Vc (take c ms frm kind id x).c.echoes ∧ (take c ms frm kind id x).c.readies.length ≤ Vc (take c ms frm kind id x).c.readies := by
  rcases take_full c ms frm kind id x with ⟨e, _, ht⟩ | ⟨_, _, _, _, ht⟩ | ⟨hm, _, hv, ht⟩ | ⟨hm, _, hv, _, ht⟩ | ⟨hm, _, hv, _, _, ht⟩ <;> rw [ht]
  · exact h
  · exact h
  · exact ⟨vlen_with h.1 hv (has_15 hm), h.2⟩
  · exact ⟨h.1, vlen_with h.2 hv (has_15 hm)⟩
  · exact ⟨h.1, vlen_with h.2 hv (has_15 hm)⟩
def VLen (s : Tk) : Prop := ∀ j, (s.cs j).echoes.length ≤ Vc (s.cs j).echoes ∧ (s.cs j).readies.length ≤ Vc (s.cs j).readies
theorem vlen_come {n f frm : Nat} {s : Tk} (u : Und) (h : VLen s) : VLen (come n f frm s u) := by
  intro j
  show (upd s.cs u.to _ j).echoes.length ≤ _ ∧ _
  have hcs : (come n f frm s u).cs j = upd s.cs u.to (take (s.cs u.to) (2 ^ n - 1) frm u.kind u.who u.body).c j := rfl
  rw [hcs]
  by_cases e : j = u.to
  · subst e; rw [upd_self]; exact take_vlen _ _ _ _ _ (h u.to)
  · rw [upd_ne _ _ e]; exact h j
theorem vlen_start (n f frm : Nat) (sent : ByteArray) : VLen (Tk.start n f frm sent) := fun _ => ⟨Nat.zero_le _, Nat.zero_le _⟩

/-- Votes under way, and all that may still be cast. -/
def mu (n f : Nat) (s : Tk) : Nat := s.way.length + 7 * ((List.range' f (n - f)).countP (fun i => !(s.cs i).echoed) + (List.range' f (n - f)).countP (fun i => !(s.cs i).readied))
theorem mu_come {n f frm : Nat} {s : Tk} {u : Und} (h7 : n ≤ 7) (hto : f ≤ u.to ∧ u.to < n) : mu n f (come n f frm s u) ≤ mu n f s := by
  have hmem : u.to ∈ List.range' f (n - f) := List.mem_range'_1.2 ⟨hto.1, by omega⟩
  have M := take_mono (s.cs u.to) (2 ^ n - 1) frm u.kind u.who u.body
  have hcs : ∀ j, (come n f frm s u).cs j = upd s.cs u.to (take (s.cs u.to) (2 ^ n - 1) frm u.kind u.who u.body).c j := fun _ => rfl
  have hE : ∀ j, (!((come n f frm s u).cs j).echoed) = true → (!(s.cs j).echoed) = true := fun j h => by
    rw [hcs] at h
    by_cases e : j = u.to
    · subst e
      rw [upd_self] at h
      cases he : (s.cs u.to).echoed with
      | false => rfl
      | true => rw [M.1 he] at h; cases h
    · rw [upd_ne _ _ e] at h; exact h
  have hRm : (s.cs u.to).readied = true → (take (s.cs u.to) (2 ^ n - 1) frm u.kind u.who u.body).c.readied = true := fun h => readied_stays rfl h
  have hR : ∀ j, (!((come n f frm s u).cs j).readied) = true → (!(s.cs j).readied) = true := fun j h => by
    rw [hcs] at h
    by_cases e : j = u.to
    · subst e
      rw [upd_self] at h
      cases he : (s.cs u.to).readied with
      | false => rfl
      | true => rw [hRm he] at h; cases h
    · rw [upd_ne _ _ e] at h; exact h
  have cE := count_mono (L := List.range' f (n - f)) hE
  have cR := count_mono (L := List.range' f (n - f)) hR
  have here : (come n f frm s u).cs u.to = (take (s.cs u.to) (2 ^ n - 1) frm u.kind u.who u.body).c := by rw [hcs, upd_self]
  have hway : (come n f frm s u).way.length = s.way.length + ((take (s.cs u.to) (2 ^ n - 1) frm u.kind u.who u.body).outs.flatMap fun o => castL f n u.to (o.1 : Nat) o.2).length := List.length_append
  have c7 : ∀ (k : Int) (x : ByteArray), (castL f n u.to k x).length ≤ 7 := fun k x => by unfold castL; simp; omega
  unfold mu
  rw [hway]
  have noc : ∀ (os : List (Nat × ByteArray)), os = [] → (os.flatMap fun o => castL f n u.to (o.1 : Nat) o.2).length = 0 := fun os h => by rw [h]; rfl
  have onec : ∀ (os : List (Nat × ByteArray)) (k : Nat) (x : ByteArray), os = [(k, x)] → (os.flatMap fun o => castL f n u.to (o.1 : Nat) o.2).length ≤ 7 := fun os k x h => by
    rw [h]; simp only [List.flatMap_cons, List.flatMap_nil, List.append_nil]; exact c7 _ _
  -- no cast, an echo is cast, a ready is cast
  have key : (take (s.cs u.to) (2 ^ n - 1) frm u.kind u.who u.body).outs = [] ∨
      ((take (s.cs u.to) (2 ^ n - 1) frm u.kind u.who u.body).outs = [(2, u.body)] ∧ (s.cs u.to).echoed = false ∧ (take (s.cs u.to) (2 ^ n - 1) frm u.kind u.who u.body).c.echoed = true) ∨
      ((take (s.cs u.to) (2 ^ n - 1) frm u.kind u.who u.body).outs = [(3, u.body)] ∧ (s.cs u.to).readied = false ∧ (take (s.cs u.to) (2 ^ n - 1) frm u.kind u.who u.body).c.readied = true) := by
    have rk : ∀ (c : Cs) (x : ByteArray) (q : Bool), (ready c x q).2 = [] ∨ ((ready c x q).2 = [(3, x)] ∧ c.readied = false ∧ (ready c x q).1.readied = true) := fun c x q => by
      unfold ready
      dsimp only
      cases c.readied <;> cases q <;> simp
    rcases take_full (s.cs u.to) (2 ^ n - 1) frm u.kind u.who u.body with ⟨e, _, ht⟩ | ⟨_, _, _, h0, ht⟩ | ⟨_, _, _, ht⟩ | ⟨_, _, _, _, ht⟩ | ⟨_, _, _, _, _, ht⟩ <;> rw [ht]
    · exact .inl rfl
    · exact .inr (.inl ⟨rfl, h0, rfl⟩)
    · rcases rk { s.cs u.to with echoes := withB (s.cs u.to).echoes u.who u.body } u.body (decide (Cn.echoes (Cn.sizeS (2 ^ n - 1)) ≤ sizeB (withB (s.cs u.to).echoes u.who u.body) u.body)) with h | ⟨a, b, c⟩
      · exact .inl h
      · exact .inr (.inr ⟨a, b, c⟩)
    all_goals
      rcases rk { s.cs u.to with readies := withB (s.cs u.to).readies u.who u.body, done := (s.cs u.to).done || decide (Cn.enough (Cn.sizeS (2 ^ n - 1)) ≤ sizeB (withB (s.cs u.to).readies u.who u.body) u.body) } u.body (decide (Cn.readies (Cn.sizeS (2 ^ n - 1)) ≤ sizeB (withB (s.cs u.to).readies u.who u.body) u.body)) with h | ⟨a, b, c⟩
      · exact .inl h
      · exact .inr (.inr ⟨a, b, c⟩)
  rcases key with h | ⟨h, h0, h1⟩ | ⟨h, h0, h1⟩
  · rw [noc _ h]; omega
  · have l1 := onec _ _ _ h
    have l2 := count_less (L := List.range' f (n - f)) (a := u.to) hE hmem (by rw [here, h1]; rfl) (by rw [h0]; rfl)
    omega
  · have l1 := onec _ _ _ h
    have l2 := count_less (L := List.range' f (n - f)) (a := u.to) hR hmem (by rw [here, h1]; rfl) (by rw [h0]; rfl)
    omega
end Vt
end Go.Proofs.Ytlekbbpancaenaa
