/- What Open gives, the program's and the document's: what was sealed by a key, or the error. -/
import Derived.Test.YtdpnffnogckfjaaRefD
import Derived.Test.YtdpnffnogckfjaaRefE
namespace Go.Proofs.Ytdpnffnogckfjaa
open Go.RowKit

theorem eq_lists (x y : ByteArray) : (x.toList == y.toList) = decide (x.data.toList = y.data.toList) := by
  rw [ByteArray.toList_eq, ByteArray.toList_eq]
  by_cases h : x.data.toList = y.data.toList
  · rw [h]; simp
  · rw [decide_eq_false h]; simpa using h

namespace Tm
theorem seal_parts {bs : List UInt8} (h : chk bs = 0) (hk : kindOf bs = 115) : ∃ x y, partsOf bs = [x, y] := by
  obtain ⟨t, k, r, ht, hw, hbs, hk2, hpt, har, hwk, hlen, hr⟩ := parts_at h
  rw [hk] at hk2
  subst hk2
  rw [show ar1 115 = 2 by decide] at har
  match hks : kids t, har with
  | [a, b], _ => exact ⟨text a, text b, by rw [hpt, hks]; rfl⟩
end Tm

/-- What Open is to give. -/
def OpenPost (key bs : List UInt8) (w : World) (e : Ending) (w' : World) : Prop :=
  e = .returned (.tuple #[str (Tm.openR key bs), .int .i64 (Tm.openE key bs : Nat)]) ∧ Below w.heap.size w w'

theorem openPost_err {key bs : List UInt8} {w w' : World} {c : Nat} (h : Tm.openE key bs = c) (hc : c ≠ 0) (hb : Below w.heap.size w w') : OpenPost key bs w (.returned (.tuple #[.string ⟨#[]⟩, .int .i64 (c : Nat)])) w' := by
  refine ⟨?_, hb⟩
  have : Tm.openR key bs = [] := by unfold Tm.openR; rw [if_neg (by omega)]
  rw [this, h]; rfl

end Go.Proofs.Ytdpnffnogckfjaa
