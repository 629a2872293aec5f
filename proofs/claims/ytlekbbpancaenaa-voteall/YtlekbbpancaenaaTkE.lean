/- Of a talk: do all that delivered tell one body, which is that of an honest sender? -/
import Derived.Test.YtlekbbpancaenaaTkB
import Derived.BigQuiet
namespace Go.Proofs.Ytlekbbpancaenaa
open Go.RowKit Go.Shelf

theorem neq_arr (x y : ByteArray) : (x.toList != y.toList) = !decide (x = y) := by
  show (!(x.toList == y.toList)) = _
  rw [eq_arr]

set_option maxHeartbeats 16000000 in
set_option maxRecDepth 100000 in
theorem agree_any (w0 : World) (n f frm : Nat) (s : Vt.Tk) (cb sb db : Nat) (vw : Value) (a1 a2 : Nat → Option Addr) (k1 k2 : Nat → Nat) (sent : ByteArray) (w : World) (h7 : n ≤ 7) (hfn : f ≤ n) (hfr : frm < n)
    (hA : (∀ i j, f ≤ i → i < n → f ≤ j → j < n → s.done i = true → s.done j = true → s.told i = s.told j) ∧ (f ≤ frm → ∀ i, f ≤ i → i < n → s.done i = true → s.told i = sent)) (h : Talk w0 w n f frm s cb sb db vw a1 a2 k1 k2) :
    Calls Try.prog 25 #[.pointer (some ⟨w0.heap.size, 0, none⟩), .string sent] w fun e w' => e = .returned (.bool true) ∧ Drew w w' := by
  have H : Aside (Talk w0 w n f frm s cb sb db vw a1 a2 k1 k2) := h
  have HA : Aside (_ ∧ _) := hA
  have p1 := h.p1
  have pl := World.block_lt_of_cell? _ _ p1
  dsimp only at pl
  have DT : Aside (∀ W, Drew w W → Talk w0 W n f frm s cb sb db vw a1 a2 k1 k2) := fun W ⟨q, e⟩ => by rw [e]; exact h.later (below_drew (Below.refl _ w) q)
  clear h hA
  go_enter Try.func25, Try.ntmps25
  go_wp2_with fail
  go_loopw [5, 6, 7] (fun bd an i wr => ∃ m b y, f ≤ m ∧ m ≤ n ∧ i = .int .i64 (m : Nat) ∧ an = .bool b ∧ bd = .string y ∧ Aside (Drew w wr ∧ (b = true → ∃ j, f ≤ j ∧ j < n ∧ s.done j = true ∧ s.told j = y))) (fun _ _ i _ => n - (intOf i).toNat)
  case atStart => exact ⟨f, false, ⟨#[]⟩, Nat.le_refl _, hfn, rfl, rfl, rfl, ⟨0, rfl⟩, fun h => nomatch h⟩
  case round =>
    obtain ⟨m, b, y, hm1, hm2, rfl, rfl, rfl, hB⟩ := hrel
    clear p1 pl
    have TT : Aside (Talk w0 wr n f frm s cb sb db vw a1 a2 k1 k2) := DT.out wr hB.out.1
    have DD : Aside (∀ k, Drew w (wr.drewN k)) := fun k => drew_more hB.out.1 k
    have D0 : Aside (Drew w wr) := hB.out.1
    have q0 := TT.out.p0
    have ql := World.block_lt_of_cell? _ _ q0
    dsimp only at ql
    by_cases hlt : m < n
    · have t1 : (m : Int) < (n : Int) := by omega
      have t2 : (0 : Int) ≤ (m : Int) := by omega
      have q5 := TT.out.p5
      have qd := TT.out.d m hlt
      rcases (show s.done m = true ∨ s.done m = false by cases s.done m <;> simp) with hdn | hdn
      · rw [hdn] at qd
        have NB : Aside (∃ j, f ≤ j ∧ j < n ∧ s.done j = true ∧ s.told j = s.told m) := ⟨m, hm1, hlt, hdn, rfl⟩
        have q1 := TT.out.p1
        have q2 := TT.out.p2
        have q4 := TT.out.p4
        have qt := TT.out.t m hlt
        have Y : Aside (b = true → s.told m = y) := fun hb => by
          obtain ⟨j, j1, j2, j3, j4⟩ := hB.out.2 hb
          rw [← j4]; exact HA.out.1 m j hm1 hlt j1 j2 hdn j3
        have Z : Aside (f ≤ frm → s.told m = sent) := fun hf => HA.out.2 hf m hm1 hlt hdn
        clear hB TT hdn
        generalize s.told m = tm at *
        cases b with
        | true =>
          obtain rfl : tm = y := Y.out rfl
          have eb := eq_arr tm tm
          rw [decide_eq_true rfl] at eb
          by_cases hff : f ≤ frm
          · obtain rfl : tm = sent := Z.out hff
            have t5 : (f : Int) ≤ (frm : Int) := by omega
            go_wp2_with fail
            go_quiet (fail)
            go_wp2
            go_roundw
            case rel => exact ⟨m + 1, true, _, by omega, by omega, by go_num, rfl, rfl, DD.out _, fun _ => NB.out⟩
            case measure => simp [intOf]; omega
          · have t5 : ¬ (f : Int) ≤ (frm : Int) := by omega
            go_wp2_with fail
            go_quiet (fail)
            go_wp2
            go_roundw
            case rel => exact ⟨m + 1, true, _, by omega, by omega, by go_num, rfl, rfl, DD.out _, fun _ => NB.out⟩
            case measure => simp [intOf]; omega
        | false =>
          by_cases hff : f ≤ frm
          · obtain rfl : tm = sent := Z.out hff
            have eb := eq_arr tm tm
            rw [decide_eq_true rfl] at eb
            have t5 : (f : Int) ≤ (frm : Int) := by omega
            go_wp2_with fail
            go_quiet (fail)
            go_wp2
            go_roundw
            case rel => exact ⟨m + 1, true, _, by omega, by omega, by go_num, rfl, rfl, DD.out _, fun _ => NB.out⟩
            case measure => simp [intOf]; omega
          · have t5 : ¬ (f : Int) ≤ (frm : Int) := by omega
            go_wp2_with fail
            go_quiet (fail)
            go_wp2
            go_roundw
            case rel => exact ⟨m + 1, true, _, by omega, by omega, by go_num, rfl, rfl, DD.out _, fun _ => NB.out⟩
            case measure => simp [intOf]; omega
      · rw [hdn] at qd
        have BB : Aside (b = true → ∃ j, f ≤ j ∧ j < n ∧ s.done j = true ∧ s.told j = y) := hB.out.2
        clear hB TT hdn
        go_wp2
        go_roundw
        case rel => exact ⟨m + 1, b, y, by omega, by omega, by go_num, rfl, rfl, D0.out, BB.out⟩
        case measure => simp [intOf]; omega
    · obtain rfl : m = n := by omega
      clear hB TT
      go_wp2
      go_ret
      exact ⟨rfl, D0.out⟩
end Go.Proofs.Ytlekbbpancaenaa
