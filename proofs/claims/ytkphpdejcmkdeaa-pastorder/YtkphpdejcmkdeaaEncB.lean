/- What appendLow, appendNumber and appendField give: the bytes that they were given, and behind them those of a number, or of a field that may be. -/
import Derived.Test.YtkphpdejcmkdeaaEncA
import Derived.Lib.AppendStr
namespace Go.Proofs.Ytkphpdejcmkdeaa
open Go.RowKit

theorem info5 : (Try.prog.info? 5).map (fun i => (i.zero, i.size, i.bytes)) = some (some (.int .u8 0), 1, 1) := by kernel_rfl

/-- Bytes, as the program's cells. -/
def bcs (bs : List UInt8) : List Value := bs.map fun b => .int .u8 (b.toNat : Int)

theorem bcs_append (a b : List UInt8) : bcs (a ++ b) = bcs a ++ bcs b := by unfold bcs; rw [List.map_append]

theorem grown_below {w wr w2 : World} {B e n s : Nat} {v : Value} {xs : List Value} {o : Obj} (hs : B ≤ wr.heap.size) (hown : wr.ownsRow B e s v n xs) (hnx : Below B w wr) (hg : (wr.alloc o).grownBy w2 v.ownBlock) : Below B w w2 := by
  refine (hnx.alloc hs o).grown hg (by simp; omega) ?_
  intro j hj
  exact (hown.lt j hj).1

theorem grown_below' {w wr w2 : World} {B e n s : Nat} {v : Value} {xs : List Value} (hs : B ≤ wr.heap.size) (hown : wr.ownsRow B e s v n xs) (hnx : Below B w wr) (hg : wr.grownBy w2 v.ownBlock) : Below B w w2 := by
  refine hnx.grown hg hs ?_
  intro j hj
  exact (hown.lt j hj).1

/-- Blocks of cells that are not bytes stay as they were. -/
def Keep5 (w w' : World) : Prop := ∀ (c : Nat) (cs : Array Value) (t : TypeId) (fr : Nat × Nat), t ≠ 5 → w.heap[c]? = some (Obj.cells cs t fr) → w'.heap[c]? = some (Obj.cells cs t fr)

theorem Keep5.refl (w : World) : Keep5 w w := fun _ _ _ _ _ h => h
theorem Keep5.trans {a b c : World} (h : Keep5 a b) (k : Keep5 b c) : Keep5 a c := fun i cs t fr ht hi => k i cs t fr ht (h i cs t fr ht hi)
theorem Keep5.alloc (w : World) (o : Obj) : Keep5 w (w.alloc o) := fun c cs t fr _ h => by
  rw [Below.heap_alloc w o c (Array.getElem?_eq_some_iff.1 h).1]; exact h
theorem Keep5.grown {w w' : World} {B n s : Nat} {v : Value} {xs : List Value} (hown : w.ownsRow B 5 s v n xs) (hg : w.grownBy w' v.ownBlock) : Keep5 w w' := by
  intro c cs t fr ht h
  rw [hg.block c (Array.getElem?_eq_some_iff.1 h).1 ?_]
  · exact h
  · intro e
    rcases hown.2 with ⟨rfl, _⟩ | ⟨g, cap, cur, rfl, _, hh, _⟩
    · simp [Value.ownBlock] at e
    · simp only [Value.ownBlock, Option.some.injEq] at e
      subst e
      rw [h] at hh
      simp only [Option.some.injEq, Obj.cells.injEq] at hh
      exact ht hh.2.1
theorem keep_step {w wr w2 : World} {B n s : Nat} {v : Value} {xs : List Value} {o : Obj} (hown : wr.ownsRow B 5 s v n xs) (hk : Keep5 w wr) (hg : (wr.alloc o).grownBy w2 v.ownBlock) : Keep5 w w2 :=
  (hk.trans (Keep5.alloc wr o)).trans (Keep5.grown (hown.alloc o) hg)

theorem lo_next (x k : Nat) : Pk.lo x (k + 1) = Pk.lo x k ++ [UInt8.ofNat (x / 256 ^ k)] := by
  unfold Pk.lo
  rw [List.range_succ, List.map_append]
  rfl

theorem byte_cell (y : Nat) : Value.int .u8 ((UInt8.ofNat y).toNat : Int) = .int .u8 ((y : Int) % 256) := by
  have : (UInt8.ofNat y).toNat = y % 256 := by simp
  rw [this]
  congr 1

theorem low_cells (bs : List UInt8) (x k : Nat) : bcs (bs ++ Pk.lo x (k + 1)) = bcs (bs ++ Pk.lo x k) ++ [.int .u8 ((x : Int) / 2 ^ (8 * k) % 256)] := by
  rw [lo_next, ← List.append_assoc, bcs_append]
  congr 1
  show [Value.int .u8 _] = _
  rw [byte_cell]
  congr 2
  rw [show (256 : Nat) ^ k = 2 ^ (8 * k) by rw [Nat.pow_mul]]
  simp

set_option maxHeartbeats 1000000 in
theorem appendLow_any (v : Value) (n x m B : Nat) (bs : List UInt8) (w : World) (hm : m ≤ 8) (hn : n ≤ 1000000) (hB : B ≤ w.heap.size) (hv : w.ownsRow B 5 1 v n (bcs bs)) :
    Calls Try.prog 46 #[v, .int .u64 (x : Int), .int .i64 (m : Nat)] w fun e w' => ∃ v', e = .returned v' ∧ w'.ownsRow B 5 1 v' (n + m) (bcs (bs ++ Pk.lo x m)) ∧ Below B w w' ∧ Keep5 w w' := by
  obtain ⟨i0, hi, hz0, hz1, hz2⟩ := info_parts info5
  have I : Aside (Try.prog.info? 5 = some i0 ∧ i0.zero = some (.int .u8 0) ∧ i0.size = 1 ∧ i0.bytes = 1) := ⟨hi, hz0, hz1, hz2⟩
  have V : Aside (w.ownsRow B 5 1 v n (bcs bs)) := hv
  clear hi hz0 hz1 hz2 hv
  go_enter Try.func46, Try.ntmps46
  go_wp2_with fail
  go_loopw [0, 9] (fun v i wr => ∃ k : Nat, k ≤ m ∧ i = .int .i64 k ∧ wr.ownsRow B 5 1 v (n + k) (bcs (bs ++ Pk.lo x k)) ∧ Below B w wr ∧ Keep5 w wr) (fun _ i _ => m - (intOf i).toNat)
  case atStart => exact ⟨0, Nat.zero_le _, rfl, by simpa [Pk.lo] using V.out, Below.refl _ _, Keep5.refl _⟩
  case round =>
    obtain ⟨k, hk, rfl, hown, hnx, hkp⟩ := hrel
    have KP : Aside (Keep5 w wr) := hkp
    clear hkp
    by_cases hlt : k < m
    · have hsn : Hid (_ = _) := low_cells bs x k
      go_wp2_with (at_builtin; refine wpList_append_own _ rfl _ _ 54 rfl B 5 i0 (.int .u8 0) 1 1 Try.underlying54 I.out.1 I.out.2.1 I.out.2.2.1 I.out.2.2.2 rfl (by decide) _ _ _ rfl (hown.alloc _) ⟨wr.heap.size, 0, none⟩ 1 1 [.int .u8 ((x : Int) / 2 ^ (8 * k) % 256)] rfl rfl ?c1 ?c2 ?c3 ?c4 ?c5 ?_)
      case c1 => exact cell_one_new _ _ _
      case c2 => intro u hu; simp at hu; subst hu; rfl
      case c3 => unfold maxLen; omega
      case c4 => omega
      case c5 => have := hnx.size; simp; omega
      intro v' w2 hown' hgrow _
      have hbn := grown_below (Nat.le_trans hB hnx.size) hown hnx hgrow
      have hk2 : Aside (Keep5 w w2) := keep_step hown KP.out hgrow
      rw [← hsn.out] at hown'
      clear hown hgrow hnx
      go_wp2
      go_roundw
      case rel => exact ⟨k + 1, by omega, by go_num, hown', hbn, hk2.out⟩
      case measure => simp [intOf]; omega
    · obtain rfl : k = m := by omega
      go_wp2
      go_ret
      exact ⟨_, rfl, hown, hnx, KP.out⟩

theorem numB_length (x : Nat) : (Pk.numB x).length = 1 + Pk.nb x := by simp [Pk.numB, Pk.lo]; omega

set_option maxRecDepth 20000 in
set_option maxHeartbeats 1000000 in
theorem appendNumber_any (v : Value) (n x B : Nat) (bs : List UInt8) (w : World) (hx : x < 18446744073709551616) (hn : n ≤ 900000) (hB : B ≤ w.heap.size) (hv : w.ownsRow B 5 1 v n (bcs bs)) :
    Calls Try.prog 45 #[v, .int .u64 (x : Int)] w fun e w' => ∃ v', e = .returned v' ∧ w'.ownsRow B 5 1 v' (n + (Pk.numB x).length) (bcs (bs ++ Pk.numB x)) ∧ Below B w w' ∧ Keep5 w w' := by
  obtain ⟨i0, hi, hz0, hz1, hz2⟩ := info_parts info5
  have I : Aside (Try.prog.info? 5 = some i0 ∧ i0.zero = some (.int .u8 0) ∧ i0.size = 1 ∧ i0.bytes = 1) := ⟨hi, hz0, hz1, hz2⟩
  have V : Aside (w.ownsRow B 5 1 v n (bcs bs)) := hv
  have hb := bytesOf_any x w hx
  have h8 := nb_le x hx
  have E : Aside (bcs bs ++ [Value.int .u8 ((Pk.nb x : Nat) : Int)] = bcs (bs ++ [UInt8.ofNat (Pk.nb x)])) := by
    unfold Aside
    rw [bcs_append]; congr 1
    show _ = [Value.int .u8 _]
    rw [byte_cell]; congr 2; omega
  have A : Aside (∀ v1 w1, B ≤ w1.heap.size → w1.ownsRow B 5 1 v1 (n + 1) (bcs (bs ++ [UInt8.ofNat (Pk.nb x)])) → Calls Try.prog 46 #[v1, .int .u64 (x : Int), .int .i64 (Pk.nb x : Nat)] w1 fun e w' => ∃ v', e = .returned v' ∧ w'.ownsRow B 5 1 v' (n + (Pk.numB x).length) (bcs (bs ++ Pk.numB x)) ∧ Below B w1 w' ∧ Keep5 w1 w') := by
    intro v1 w1 h1 h2
    have := appendLow_any v1 (n + 1) x (Pk.nb x) B _ w1 h8 (by omega) h1 h2
    rw [numB_length, ← Nat.add_assoc]
    rw [List.append_assoc] at this
    exact this
  generalize (Pk.numB x).length = L at A ⊢
  generalize bcs (bs ++ Pk.numB x) = R at A ⊢
  generalize bcs (bs ++ [UInt8.ofNat (Pk.nb x)]) = S at A E
  generalize Pk.nb x = q at hb h8 A E
  clear hi hz0 hz1 hz2 hv hx
  go_enter Try.func45, Try.ntmps45
  go_wp2_with fail
  refine hb.mono ?_; rintro e w' ⟨rfl, hw'⟩
  replace hw' := hw'.symm; subst hw'
  clear hb
  go_wp2_with (at_builtin; refine wpList_append_own _ rfl _ _ 54 rfl B 5 i0 (.int .u8 0) 1 1 Try.underlying54 I.out.1 I.out.2.1 I.out.2.2.1 I.out.2.2.2 rfl (by decide) _ _ _ rfl (V.out.alloc _) ⟨w.heap.size, 0, none⟩ 1 1 [.int .u8 (q : Int)] rfl rfl ?c1 ?c2 ?c3 ?c4 ?c5 ?_)
  case c1 => exact cell_one_new _ _ _
  case c2 => intro u hu; simp at hu; subst hu; rfl
  case c3 => unfold maxLen; omega
  case c4 => omega
  case c5 => simp; omega
  intro v1 w1 hown' hgrow _
  have hbn := grown_below hB V.out (Below.refl _ _) hgrow
  have hk2 : Aside (Keep5 w w1) := keep_step V.out (Keep5.refl _) hgrow
  have hA := A.out v1 w1 (Nat.le_trans hB hbn.size) (by rw [← E.out]; exact hown')
  clear hgrow hown' A E V
  go_wp2_with fail
  refine hA.mono ?_
  rintro e w2 ⟨v2, rfl, h2, h3, h4⟩
  go_wp2
  go_ret
  exact ⟨_, rfl, h2, hbn.trans h3, hk2.out.trans h4⟩

end Go.Proofs.Ytkphpdejcmkdeaa
