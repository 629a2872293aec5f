/- Plain mathematics: a case is ready just if enough voted for one body. -/
import Derived.Test.YtlekbbpancaenaaVtM
namespace Go.Proofs.Ytlekbbpancaenaa
namespace Vt

theorem for_with (l : Bal) (id : Nat) (x : ByteArray) : forB (withB l id x) x = Cn.withS (forB l x) id := by
  induction l with
  | nil => unfold withB forB; simp
  | cons b l ih =>
    unfold withB
    split
    · next h => simp [forB, h]
    · next h => simp [forB, h, ih]
theorem size_with_le (s id : Nat) : Cn.sizeS s ≤ Cn.sizeS (Cn.withS s id) := Cn.size_mono fun j _ h => by rw [Cn.test_with, h]; rfl
/-- Some body has E votes. -/
def hasE (l : Bal) (E : Nat) : Bool := l.any fun b => decide (E ≤ Cn.sizeS b.2)
theorem has_with (l : Bal) (id : Nat) (x : ByteArray) (E : Nat) : hasE (withB l id x) E = (hasE l E || decide (E ≤ sizeB (withB l id x) x)) := by
  unfold sizeB
  rw [for_with]
  induction l with
  | nil => exact Bool.or_comm _ _
  | cons b l ih =>
    unfold withB
    split
    · next h =>
      have hm := size_with_le b.2 id
      simp only [hasE, List.any_cons, forB, h, if_true]
      by_cases h1 : E ≤ Cn.sizeS b.2
      · simp [h1, Nat.le_trans h1 hm]
      · simp only [h1, decide_false, Bool.false_or]
        rw [Bool.or_comm]
    · next h =>
      have : hasE (b :: withB l id x) E = (decide (E ≤ Cn.sizeS b.2) || hasE (withB l id x) E) := rfl
      rw [this, ih]
      simp only [hasE, List.any_cons, forB, h, if_false, Bool.or_assoc]
/-- Ready just if enough voted. -/
def FewOk (n : Nat) (c : Cs) : Prop := c.readied = (hasE c.echoes (Cn.echoes n) || hasE c.readies (Cn.readies n))
theorem few_none (n : Nat) : FewOk n Cs.none := rfl
theorem few_take {c : Cs} {ms : Nat} (frm : Nat) (kind : Int) (id : Nat) (x : ByteArray) (h : FewOk (Cn.sizeS ms) c) : FewOk (Cn.sizeS ms) (take c ms frm kind id x).c := by
  have key : FewOk (Cn.sizeS ms) (taken c (Cn.sizeS ms) kind id x).1 := by
    unfold taken
    split
    · exact h
    · split
      · show (c.readied || decide (Cn.echoes (Cn.sizeS ms) ≤ sizeB (withB c.echoes id x) x)) = (hasE (withB c.echoes id x) _ || hasE c.readies _)
        rw [has_with, h]
        cases hasE c.echoes (Cn.echoes (Cn.sizeS ms)) <;> cases hasE c.readies (Cn.readies (Cn.sizeS ms)) <;> simp
      · show (c.readied || decide (Cn.readies (Cn.sizeS ms) ≤ sizeB (withB c.readies id x) x)) = (hasE c.echoes _ || hasE (withB c.readies id x) _)
        rw [has_with, h]
        cases hasE c.echoes (Cn.echoes (Cn.sizeS ms)) <;> cases hasE c.readies (Cn.readies (Cn.sizeS ms)) <;> simp
  unfold take err
  split
  · exact h
  · split
    · exact h
    · split
      · exact h
      · split
        · exact h
        · dsimp only; split <;> exact key
theorem any_step {l : Bal} {p : ByteArray × Nat → Bool} {j : Nat} {b : ByteArray × Nat} (h : l[j]? = some b) : (l.take (j + 1)).any p = ((l.take j).any p || p b) := by
  rw [List.take_add_one, h]; simp
end Vt
end Go.Proofs.Ytlekbbpancaenaa
