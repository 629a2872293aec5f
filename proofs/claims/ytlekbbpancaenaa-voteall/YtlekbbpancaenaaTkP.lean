/- Plays in memory. -/
import Derived.Test.YtlekbbpancaenaaVtM
namespace Go.Proofs.Ytlekbbpancaenaa
open Go.RowKit Go.Shelf

/-- A play. -/
structure Ply where
  lie : Bool
  at_ : Nat
  to : Nat
  kind : Int
  who : Nat
  body : ByteArray
def AtP (w : World) (a : Option Addr) (l : List Ply) : Prop :=
  l = [] ∨ ∃ b off, a = some ⟨b, off, none⟩ ∧ ∀ (j : Nat) (p : Ply), l[j]? = some p → w.cell? ⟨b, off + j * 6, none⟩ = some (.bool p.lie) ∧ w.cell? ⟨b, off + j * 6 + 1, none⟩ = some (.int .u16 (p.at_ : Int)) ∧ w.cell? ⟨b, off + j * 6 + 2, none⟩ = some (.int .u8 (p.to : Int)) ∧ w.cell? ⟨b, off + j * 6 + 3, none⟩ = some (.int .i64 p.kind) ∧ w.cell? ⟨b, off + j * 6 + 4, none⟩ = some (.int .u8 (p.who : Int)) ∧ w.cell? ⟨b, off + j * 6 + 5, none⟩ = some (.string p.body)
theorem AtP.later {w w' : World} {a : Option Addr} {l : List Ply} (h : AtP w a l) (hb : Below w.heap.size w w') : AtP w' a l := by
  rcases h with rfl | ⟨b, off, rfl, hc⟩
  · exact .inl rfl
  · exact .inr ⟨b, off, rfl, fun j p hp => ⟨cell_later hb (hc j p hp).1, cell_later hb (hc j p hp).2.1, cell_later hb (hc j p hp).2.2.1, cell_later hb (hc j p hp).2.2.2.1, cell_later hb (hc j p hp).2.2.2.2.1, cell_later hb (hc j p hp).2.2.2.2.2⟩⟩

end Go.Proofs.Ytlekbbpancaenaa
