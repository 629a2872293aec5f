/- The document's words on bodies, as plain functions: vectors, which bodies may be, whether they are alike. -/
namespace Go.Proofs.Ytbacnjkookakcaa
namespace Ps

def joinV (f g : Nat → Nat) : Nat → Nat := fun i => max (f i) (g i)
def belowB (f g : Nat → Nat) : Bool := (List.range 16).all fun i => decide (f i ≤ g i)
def eqV (f g : Nat → Nat) : Bool := (List.range 16).all fun i => decide (f i = g i)
theorem belowB_iff {f g : Nat → Nat} : belowB f g = true ↔ ∀ i, i < 16 → f i ≤ g i := by
  unfold belowB; rw [List.all_eq_true]
  exact ⟨fun h i hi => of_decide_eq_true (h i (List.mem_range.2 hi)), fun h i hi => decide_eq_true (h i (List.mem_range.1 hi))⟩
theorem eqV_iff {f g : Nat → Nat} : eqV f g = true ↔ ∀ i, i < 16 → f i = g i := by
  unfold eqV; rw [List.all_eq_true]
  exact ⟨fun h i hi => of_decide_eq_true (h i (List.mem_range.2 hi)), fun h i hi => decide_eq_true (h i (List.mem_range.1 hi))⟩
/-- One is below another one just if their join is that. -/
theorem eqV_join (f g : Nat → Nat) : eqV (joinV f g) g = belowB f g := by
  rw [Bool.eq_iff_iff, eqV_iff, belowB_iff]
  unfold joinV
  exact ⟨fun h i hi => by have := h i hi; omega, fun h i hi => by have := h i hi; omega⟩

structure Bd where
  kind : Int
  past : Nat → Nat
  text : ByteArray

def may (b : Bd) : Bool := decide (1 ≤ b.kind) && decide (b.kind ≤ 3) && belowB b.past (fun _ => 1000) && decide (b.text.size ≤ 400)
theorem may_iff {b : Bd} : may b = true ↔ 1 ≤ b.kind ∧ b.kind ≤ 3 ∧ (∀ i, i < 16 → b.past i ≤ 1000) ∧ b.text.size ≤ 400 := by
  unfold may; simp [and_assoc, belowB_iff]

/-- Two bodies that are the same, as far as a body goes. -/
def Alike (a b : Bd) : Prop := a.kind = b.kind ∧ (∀ i, i < 16 → a.past i = b.past i) ∧ a.text = b.text
theorem Alike.refl (a : Bd) : Alike a a := ⟨rfl, fun _ _ => rfl, rfl⟩
theorem Alike.symm {a b : Bd} (h : Alike a b) : Alike b a := ⟨h.1.symm, fun i hi => (h.2.1 i hi).symm, h.2.2.symm⟩
theorem Alike.trans {a b c : Bd} (h : Alike a b) (g : Alike b c) : Alike a c := ⟨h.1.trans g.1, fun i hi => (h.2.1 i hi).trans (g.2.1 i hi), h.2.2.trans g.2.2⟩
theorem may_alike {a b : Bd} (h : Alike a b) : may a = may b := by
  rw [Bool.eq_iff_iff, may_iff, may_iff]
  obtain ⟨h1, h2, h3⟩ := h
  rw [h1, h3]
  exact ⟨fun ⟨a1, a2, a3, a4⟩ => ⟨a1, a2, fun i hi => h2 i hi ▸ a3 i hi, a4⟩, fun ⟨a1, a2, a3, a4⟩ => ⟨a1, a2, fun i hi => (h2 i hi).symm ▸ a3 i hi, a4⟩⟩

end Ps
end Go.Proofs.Ytbacnjkookakcaa
