/- TermOpens: the walk. -/
import Derived.Test.YtldojinnipbblaaAlive
namespace Go.Proofs.Ytldojinnipbblaa
open Go.RowKit

set_option maxHeartbeats 2000000 in
theorem opens_walk (key s : ByteArray) (w : World) : Calls Try.prog 5 #[.string key, .string s] w fun e w' => e = .returned (.bool true) ∧ Below w.heap.size w w' := by
  by_cases h1 : 2100 < key.size
  · have t1 : (2100 : Int) < (key.size : Int) := by omega
    go_enter Try.func5, Try.ntmps5
    go_wp2_with fail
    refine (alive_any w).mono ?_
    rintro e w1 ⟨rfl, hb1⟩
    go_wp2
    go_ret
    exact ⟨rfl, hb1⟩
  · have t1 : ¬ (2100 : Int) < (key.size : Int) := by omega
    by_cases h2 : 2100 < s.size
    · have t2 : (2100 : Int) < (s.size : Int) := by omega
      go_enter Try.func5, Try.ntmps5
      go_wp2_with fail
      refine (alive_any w).mono ?_
      rintro e w1 ⟨rfl, hb1⟩
      go_wp2
      go_ret
      exact ⟨rfl, hb1⟩
    · have t2 : ¬ (2100 : Int) < (s.size : Int) := by omega
      have H1 : Aside (∀ W, _) := fun W => open_any key s W
      have H2 : Aside (∀ W, _) := fun W => ropen_any key s W
      unfold OpenPost str at H1 H2
      generalize (⟨(Tm.openR key.data.toList s.data.toList).toArray⟩ : ByteArray) = x at *
      generalize Tm.openE key.data.toList s.data.toList = c at *
      go_enter Try.func5, Try.ntmps5
      go_wp2_with fail
      refine (alive_any w).mono ?_
      rintro e w1 ⟨rfl, hb1⟩
      have B1 : Aside (Below w.heap.size w w1) := hb1
      clear hb1
      go_wp2_with fail
      refine (H1.out w1).mono ?_
      rintro e w2 ⟨rfl, hb2⟩
      have B2 : Aside (Below w.heap.size w w2) := below_step B1.out hb2
      clear hb2 B1 H1
      go_wp2_with fail
      refine (H2.out w2).mono ?_
      rintro e w3 ⟨rfl, hb3⟩
      have B3 : Aside (Below w.heap.size w w3) := below_step B2.out hb3
      clear hb3 B2 H2
      go_wp2
      go_ret
      exact ⟨rfl, B3.out⟩

end Go.Proofs.Ytldojinnipbblaa
