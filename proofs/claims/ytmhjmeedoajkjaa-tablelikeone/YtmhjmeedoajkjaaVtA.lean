/- Plain mathematics of layer 7, no program: ballots, and what a vote in a case comes to. -/
import Derived.Test.YtmhjmeedoajkjaaCnA
import Derived.Lib.SlBy
namespace Go.Proofs.Ytmhjmeedoajkjaa
namespace Vt

/-- Ballots: a body, and who voted for it. -/
abbrev Bal := List (ByteArray × Nat)
def forB : Bal → ByteArray → Nat
  | [], _ => 0
  | b :: l, x => if b.1 = x then b.2 else forB l x
def votedB (l : Bal) (id : Nat) : Bool := l.any fun b => Cn.hasS b.2 id
def withB : Bal → Nat → ByteArray → Bal
  | [], id, x => [(x, Cn.withS 0 id)]
  | b :: l, id, x => if b.1 = x then (b.1, Cn.withS b.2 id) :: l else b :: withB l id x
def Small (l : Bal) : Prop := ∀ b ∈ l, b.2 < 65536
def sizeB (l : Bal) (x : ByteArray) : Nat := Cn.sizeS (forB l x)

/-- A case: whether it echoed, is ready, is done; the echoes and the readies. -/
structure Cs where
  echoed : Bool
  readied : Bool
  done : Bool
  echoes : Bal
  readies : Bal
def Cs.none : Cs := ⟨false, false, false, [], []⟩
def Cs.Small (c : Cs) : Prop := Vt.Small c.echoes ∧ Vt.Small c.readies
/-- What comes of a vote. -/
structure Told where
  c : Cs
  outs : List (Nat × ByteArray)
  body : ByteArray
  is : Bool
  e : Nat
def none : ByteArray := ⟨#[]⟩
def err (c : Cs) (e : Nat) : Told := ⟨c, [], none, false, e⟩
def ready (c : Cs) (x : ByteArray) (enough : Bool) : Cs × List (Nat × ByteArray) :=
  ({ c with readied := c.readied || enough }, if c.readied || !enough then [] else [(3, x)])
def echoT (c : Cs) (n : Nat) (id : Nat) (x : ByteArray) : Cs × List (Nat × ByteArray) :=
  ready { c with echoes := withB c.echoes id x } x (decide (Cn.echoes n ≤ sizeB (withB c.echoes id x) x))
def readyT (c : Cs) (n : Nat) (id : Nat) (x : ByteArray) : Cs × List (Nat × ByteArray) :=
  ready { c with readies := withB c.readies id x, done := c.done || decide (Cn.enough n ≤ sizeB (withB c.readies id x) x) } x (decide (Cn.readies n ≤ sizeB (withB c.readies id x) x))
def old (c : Cs) (kind : Int) (id : Nat) : Bool := if kind = 1 then c.echoed else if kind = 2 then votedB c.echoes id else votedB c.readies id
def taken (c : Cs) (n : Nat) (kind : Int) (id : Nat) (x : ByteArray) : Cs × List (Nat × ByteArray) :=
  if kind = 1 then ({ c with echoed := true }, [(2, x)]) else if kind = 2 then echoT c n id x else readyT c n id x
def badArg (kind : Int) (x : ByteArray) : Bool := decide (kind < 1) || decide (3 < kind) || decide (1000 < x.size)
def out (ms frm : Nat) (id : Nat) : Bool := !Cn.hasS ms id || !Cn.hasS ms frm
/-- What comes of a vote of kind, of id, for x, in the case c of the broadcast of frm among ms. -/
def take (c : Cs) (ms frm : Nat) (kind : Int) (id : Nat) (x : ByteArray) : Told :=
  if badArg kind x then err c 2 else if out ms frm id then err c 10 else if decide (kind = 1) && decide (id ≠ frm) then err c 10 else if old c kind id then err c 6
  else let r := taken c (Cn.sizeS ms) kind id x
    if c.done || !r.1.done then ⟨r.1, r.2, none, false, 0⟩ else ⟨r.1, r.2, x, true, 0⟩

/-- Where a body stands. -/
def idx (l : Bal) (x : ByteArray) : Int := Lib.idxBy (fun _ y => decide (y.1 = x)) l default
theorem idx_cases (l : Bal) (x : ByteArray) :
    (idx l x = -1 ∧ forB l x = 0 ∧ ∀ id, withB l id x = l ++ [(x, Cn.withS 0 id)]) ∨
    ∃ k s, idx l x = (k : Nat) ∧ l[k]? = some (x, s) ∧ forB l x = s ∧ ∀ id, withB l id x = l.set k (x, Cn.withS s id) := by
  have gen : ∀ (l : Bal) (i : Nat),
      (Lib.idxByFrom (fun _ y => decide (y.1 = x)) default l i = -1 ∧ forB l x = 0 ∧ ∀ id, withB l id x = l ++ [(x, Cn.withS 0 id)]) ∨
      ∃ k s, Lib.idxByFrom (fun _ y => decide (y.1 = x)) default l i = ((i + k : Nat) : Int) ∧ l[k]? = some (x, s) ∧ forB l x = s ∧ ∀ id, withB l id x = l.set k (x, Cn.withS s id) := by
    intro l
    induction l with
    | nil => intro i; exact .inl ⟨rfl, rfl, fun id => rfl⟩
    | cons b l ih =>
      intro i
      by_cases h : b.1 = x
      · refine .inr ⟨0, b.2, ?_, ?_, ?_, fun id => ?_⟩
        · unfold Lib.idxByFrom; rw [if_pos (by simp [h])]; rfl
        · rw [← h]; rfl
        · unfold forB; rw [if_pos h]
        · unfold withB; rw [if_pos h, h]; rfl
      · have e : Lib.idxByFrom (fun _ (y : ByteArray × Nat) => decide (y.1 = x)) default (b :: l) i = Lib.idxByFrom (fun _ y => decide (y.1 = x)) default l (i + 1) := by
          conv => lhs; unfold Lib.idxByFrom
          rw [if_neg (by simp [h])]
        rcases ih (i + 1) with ⟨h1, h2, h3⟩ | ⟨k, s, h1, h2, h3, h4⟩
        · refine .inl ⟨e.trans h1, ?_, fun id => ?_⟩
          · unfold forB; rw [if_neg h, h2]
          · unfold withB; rw [if_neg h, h3]; rfl
        · refine .inr ⟨k + 1, s, e.trans (h1.trans (by omega)), ?_, ?_, fun id => ?_⟩
          · simpa using h2
          · unfold forB; rw [if_neg h, h3]
          · unfold withB; rw [if_neg h, h4]; rfl
  rcases gen l 0 with h | ⟨k, s, h1, h2⟩
  · exact .inl h
  · exact .inr ⟨k, s, by rw [Nat.zero_add] at h1; exact h1, h2⟩

theorem small_with {l : Bal} (h : Small l) (id : Nat) (x : ByteArray) : Small (withB l id x) := by
  induction l with
  | nil =>
    intro b hb
    simp only [withB, List.mem_cons, List.not_mem_nil, or_false] at hb
    subst hb; exact Cn.with_small (by omega)
  | cons a l ih =>
    have h1 := h a (by simp)
    have h2 : Small l := fun b hb => h b (by simp [hb])
    unfold withB
    split
    · intro b hb
      rcases List.mem_cons.1 hb with rfl | hb
      · exact Cn.with_small h1
      · exact h2 b hb
    · intro b hb
      rcases List.mem_cons.1 hb with rfl | hb
      · exact h1
      · exact ih h2 b hb
theorem small_for {l : Bal} (h : Small l) (x : ByteArray) : forB l x < 65536 := by
  induction l with
  | nil => exact Nat.zero_lt_succ _
  | cons a l ih =>
    unfold forB; split
    · exact h a (by simp)
    · exact ih fun b hb => h b (by simp [hb])
theorem len_with (l : Bal) (id : Nat) (x : ByteArray) : (withB l id x).length ≤ l.length + 1 := by
  induction l with
  | nil => exact Nat.le_refl _
  | cons a l ih => unfold withB; split <;> simp; omega

end Vt
end Go.Proofs.Ytmhjmeedoajkjaa
