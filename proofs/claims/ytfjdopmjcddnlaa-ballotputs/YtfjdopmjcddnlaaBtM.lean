/- Casts in a row put into a box: what the laws' walks share. -/
import Derived.Test.YtfjdopmjcddnlaaBtL
import Derived.Deep.RegionHeld3
import Derived.Deep.DeepCutAuto
set_option linter.unusedVariables false
namespace Go.Proofs.Ytfjdopmjcddnlaa
open Go.RowKit Cn Rl Bt

namespace Bt
theorem puts_wrong {v : Int} {s : Nat} (h : rightB v s = false) : ∀ cs : List Ct, putsL v s [] cs = []
  | [] => rfl
  | c :: cs => by
    have e : putL v s [] c = [] := by
      have : putE v s [] c = 2 := by unfold putE; rw [if_neg (fun hr => by rw [hr.1] at h; cases h)]
      unfold putL; rw [this]; rfl
    unfold putsL; rw [e]; exact puts_wrong h cs
theorem puts_small (v : Int) (s : Nat) (cs : List Ct) : (putsL v s [] cs).length ≤ 16 := by
  cases h : rightB v s with
  | true => exact right_len (puts_right (right_nil h))
  | false => rw [puts_wrong h]; simp
theorem puts_take {v : Int} {s k : Nat} {L : List Ct} {e : Ct} (l : List Ct) (he : L[k]? = some e) : putsL v s l (L.take (k + 1)) = putL v s (putsL v s l (L.take k)) e := by
  rw [List.take_add_one, he]
  exact puts_snoc v s e l (L.take k)
theorem or_members {v : Int} {s : Nat} {l : List Ct} (x y : Bool × Nat) (hs : s < 65536) : (forS v s l x ||| forS v s l y) &&& (65535 - s) = 0 := by
  refine Nat.eq_of_testBit_eq fun j => ?_
  rw [Nat.testBit_and, Nat.zero_testBit, show 65535 - s = 2 ^ 16 - (s + 1) by omega, Nat.testBit_two_pow_sub_succ (by omega : s < 2 ^ 16), Nat.testBit_or]
  cases h1 : (forS v s l x).testBit j with
  | true => rw [for_member h1]; simp
  | false =>
    cases h2 : (forS v s l y).testBit j with
    | true => rw [for_member h2]; simp
    | false => simp
end Bt
/-- Put at a box of casts. -/
theorem put_box (v : Int) (s : Nat) (a : Option Addr) (c : Nat) (l : List Ct) (z : Ct) (W : World) (h : AtC W a l) (hs : s < 65536) (hn : l.length ≤ 16) :
    Calls Try.prog 9 #[.agg #[.int .i64 v, .int .u16 (s : Int), .slice a l.length c], .agg #[.int .u8 (z.1 : Int), .bool z.2.1, .int .u8 (z.2.2 : Int)]] W (PutP W v s (putL v s l z) (putE v s l z)) := put_any v s a c l z W h hs (by omega)
theorem for_box (v : Int) (s : Nat) (a : Option Addr) (c : Nat) (l : List Ct) (ca : Bool) (ci : Nat) (W : World) (h : AtC W a l) (hs : s < 65536) (hn : l.length ≤ 16) :
    Calls Try.prog 17 #[.agg #[.int .i64 v, .int .u16 (s : Int), .slice a l.length c], .agg #[.bool ca, .int .u8 (ci : Int)]] W fun e w' => e = .returned (.int .u16 (forS v s l (ca, ci) : Nat)) ∧ Below W.heap.size W w' := for_any v s a c l ca ci W h hs (by omega)
theorem chosen_box (v : Int) (s : Nat) (a : Option Addr) (c : Nat) (l : List Ct) (W : World) (h : AtC W a l) (hs : s < 65536) (hn : l.length ≤ 16) :
    Calls Try.prog 13 #[.agg #[.int .i64 v, .int .u16 (s : Int), .slice a l.length c]] W fun e w' => e = .returned (.tuple #[.agg #[.bool (chA (chosen v s l)), .int .u8 (chI (chosen v s l) : Int)], .bool (chB (chosen v s l))]) ∧ Below W.heap.size W w' := chosen_any v s a c l W h hs (by omega)
theorem theirs_box (z : Ct) (W : World) : Calls Try.prog 11 #[.agg #[.int .u8 (z.1 : Int), .bool z.2.1, .int .u8 (z.2.2 : Int)]] W fun e w' => e = .returned (.agg #[.int .u8 (z.1 : Int), .bool z.2.1, .int .u8 (z.2.2 : Int)]) ∧ Below W.heap.size W w' := theirs_any z W
end Go.Proofs.Ytfjdopmjcddnlaa
