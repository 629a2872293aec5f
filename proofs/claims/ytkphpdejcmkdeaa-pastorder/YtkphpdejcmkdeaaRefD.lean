/- What the document's own value gives: the number of so many bytes at a place. -/
import Derived.Test.YtkphpdejcmkdeaaRefB
namespace Go.Proofs.Ytkphpdejcmkdeaa
open Go.RowKit

theorem step_val (v y : Nat) (hv : v < 256 ^ 7) (hy : y < 256) :
    IntKind.u64.wrap (IntKind.u64.wrap ((v : Int) * 256) + IntKind.u64.wrap (y : Int)) = ((y + 256 * v : Nat) : Int) := by
  have e1 : IntKind.u64.wrap ((v : Int) * 256) = (v : Int) * 256 := by rw [IntKind.wrap_u64]; omega
  have e2 : IntKind.u64.wrap (y : Int) = (y : Int) := by rw [IntKind.wrap_u64]; omega
  rw [e1, e2, IntKind.wrap_u64]
  omega

theorem val_step (bs : List UInt8) (p s : Nat) (h : p < bs.length) : Pk.val ((bs.drop p).take (s + 1)) = bs[p].toNat + 256 * Pk.val ((bs.drop (p + 1)).take s) := by
  rw [List.drop_eq_getElem_cons h, List.take_succ_cons]
  rfl

theorem val_past (bs : List UInt8) (p s : Nat) (h : bs.length ≤ p) : Pk.val ((bs.drop p).take s) = 0 := by
  rw [List.drop_of_length_le h]
  simp [Pk.val]

set_option maxRecDepth 20000 in
set_option maxHeartbeats 2000000 in
theorem value_any (a : Option Addr) (m cap at_ size : Nat) (bs : List UInt8) (w : World) (hm : Hid (bs.length = m)) (hb : AtB w a bs) (h8 : m ≤ 8000) (hat : at_ ≤ 8010) (hs : size ≤ 8) :
    Calls Try.prog 55 #[.slice a m cap, .int .i64 (at_ : Nat), .int .i64 (size : Nat)] w fun e w' => e = .returned (.int .u64 (Pk.val ((bs.drop at_).take size) : Nat)) ∧ w' = w := by
  have A : Aside (AtB w a bs) := hb
  clear hb
  go_enter Try.func55, Try.ntmps55
  go_wp2_with fail
  go_loopw [7, 8] (fun n i wr => ∃ j : Nat, j ≤ size ∧ i = .int .i64 ((j : Int) - 1) ∧ n = .int .u64 (Pk.val ((bs.drop (at_ + j)).take (size - j)) : Nat) ∧ wr = w) (fun _ i _ => (intOf i + 1).toNat)
  case atStart => exact ⟨size, Nat.le_refl _, rfl, by rw [Nat.sub_self]; simp [Pk.val], rfl⟩
  case round =>
    obtain ⟨j, hj, rfl, rfl, hwr⟩ := hrel
    subst hwr
    cases j with
    | zero =>
      go_wp2
      go_ret
      exact ⟨rfl, rfl⟩
    | succ p =>
      have e1 : ((p + 1 : Nat) : Int) - 1 = (p : Int) := by omega
      rw [e1]
      by_cases hlt : at_ + p < m
      · have hl2 : at_ + p < bs.length := by rw [hm.out]; exact hlt
        rcases A.out with he | ⟨b, off, rfl, hcs⟩
        · exfalso; rw [he] at hl2; simp at hl2
        have c0 := hcs (at_ + p) hl2
        have S : Hid (_ = _) := step_val (Pk.val ((bs.drop (at_ + (p + 1))).take (size - (p + 1)))) bs[at_ + p].toNat (by
          have := Pk.val_lt ((bs.drop (at_ + (p + 1))).take (size - (p + 1)))
          have h2 : ((bs.drop (at_ + (p + 1))).take (size - (p + 1))).length ≤ 7 := by rw [List.length_take]; omega
          exact Nat.lt_of_lt_of_le this (Nat.pow_le_pow_right (by omega) h2)) bs[at_ + p].toNat_lt
        rw [← Nat.add_assoc, ← val_step bs (at_ + p) (size - (p + 1)) hl2, show size - (p + 1) + 1 = size - p by omega] at S
        rw [← Nat.add_assoc]
        generalize bs[at_ + p].toNat = y at c0 S
        generalize Pk.val ((bs.drop (at_ + p + 1)).take (size - (p + 1))) = v at S ⊢
        have t1 : (at_ : Int) + (p : Int) < (m : Int) := by omega
        have t0 : 0 ≤ (at_ : Int) + (p : Int) := by omega
        clear hcs e1
        go_wp2
        go_roundw
        case rel => exact ⟨p, by omega, rfl, congrArg (Value.int .u64) S.out, by first | rfl | trivial⟩
        case measure => simp [intOf] <;> omega
      · have t1 : ¬ (at_ : Int) + (p : Int) < (m : Int) := by omega
        have Z1 : Hid (Pk.val ((bs.drop (at_ + (p + 1))).take (size - (p + 1))) = 0) := val_past _ _ _ (by rw [hm.out]; omega)
        have Z2 : Hid (Pk.val ((bs.drop (at_ + p)).take (size - p)) = 0) := val_past _ _ _ (by rw [hm.out]; omega)
        rw [Z1.out]
        go_wp2
        go_roundw
        case rel => exact ⟨p, by omega, rfl, by rw [Z2.out], by first | rfl | trivial⟩
        case measure => simp [intOf] <;> omega

end Go.Proofs.Ytkphpdejcmkdeaa
