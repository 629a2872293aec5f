/- What few gives: whether fields are few and their texts short. -/
import Derived.Test.YtkphpdejcmkdeaaEncD
namespace Go.Proofs.Ytkphpdejcmkdeaa
open Go.RowKit

/-- One field's four cells, as the document's own. -/
def RefAt (w : World) (b o : Nat) (f : Pk.Fld) : Prop :=
  w.cell? ⟨b, o, none⟩ = some (.int .i64 f.kind) ∧ w.cell? ⟨b, o + 1, none⟩ = some (.int .u64 (f.num.toNat : Int)) ∧
  w.cell? ⟨b, o + 2, none⟩ = some (.string f.text) ∧ w.cell? ⟨b, o + 3, none⟩ = some (.int .u64 (f.real.toNat : Int))

/-- The document's fields lie behind an address: four cells a field. -/
def AtR (w : World) (a : Option Addr) (l : List Pk.Fld) : Prop :=
  l = [] ∨ ∃ b off, a = some ⟨b, off, none⟩ ∧ ∀ j f, l[j]? = some f → RefAt w b (off + j * 4) f

theorem refAt_later {w w' : World} {B b o : Nat} {f : Pk.Fld} (hb : Below B w w') (hB : B = w.heap.size) (h : RefAt w b o f) : RefAt w' b o f := by
  subst hB
  exact ⟨cell_later hb h.1, cell_later hb h.2.1, cell_later hb h.2.2.1, cell_later hb h.2.2.2⟩

end Go.Proofs.Ytkphpdejcmkdeaa
