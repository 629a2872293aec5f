/- What Put gives, whole. -/
import Derived.Test.YtbacnjkookakcaaHdS
set_option linter.unusedVariables false
namespace Go.Proofs.Ytbacnjkookakcaa
open Go.RowKit
namespace Hd
open Ps

/-- What Put gives. -/
theorem put_any (f : Nat → Nat) (a : Option Addr) (c : Nat) (l : List It) (x : It) (w : World) (ha : AtI w a l) (hf : ∀ y ∈ l, Fit y) (hx : Fit x) (hv : ∀ i, i < 16 → f i < 65536) (hn : l.length ≤ 1000) :
    Calls Try.prog 11 #[.agg (holdA f (.slice a l.length c)), .agg (itA x)] w (PutP w (putF f l x) (putL f l x) (putO f l x) (putE f l x)) := by
  cases h1 : rightH f l with
  | false => exact put_e1 f a c l x w ha hf hx hv hn h1
  | true =>
    cases h2 : mayI x with
    | false => exact put_e2 f a c l x w ha hf hx hv hn h1 h2
    | true =>
      cases h3 : wtK l l.length x.frm x.seq with
      | some i => exact put_e3 f a c l x w ha hf hx hv hn h1 h2 (by rw [h3]; rfl)
      | none =>
        cases h4 : oldI f x with
        | true => exact put_e4 f a c l x w ha hf hx hv hn h1 h2 h3 h4
        | false =>
          by_cases h5 : l.length = 64
          · cases h6 : readyI f x with
            | false => exact put_e5 f a c l x w ha hf hx hv hn h1 h2 h3 h4 h5 h6
            | true => exact put_o2 f a c l x w ha hf hx hv hn h1 h2 h3 h4 h5 h6
          · exact put_o1 f a c l x w ha hf hx hv hn h1 h2 h3 h4 h5
end Hd
end Go.Proofs.Ytbacnjkookakcaa
