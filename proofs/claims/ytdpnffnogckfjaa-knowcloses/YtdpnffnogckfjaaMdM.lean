/- The iterator of slices.Backward over a row of terms. -/
import Derived.Test.YtdpnffnogckfjaaMdL
import Derived.RangeFuncNested
import Derived.RangeFuncBound
import Derived.RangeFuncCalls
import Derived.RangeFuncLeaves
import Derived.Shelf.Abstract
import Derived.Shelf.RegionOpen
import Derived.WalkKit
import Derived.OwnWalkIn
import Derived.TacticsInMore
import Derived.LoopNIn
import Derived.LoopIn
namespace Go.Proofs.Ytdpnffnogckfjaa
open Go.RowKit Go.Maps Go.Shelf
attribute [local go_sem] Oper.semAt_some

/-- An index, and a good term. -/
abbrev Item := { x : Int × List UInt8 // Tm.chk x.2 = 0 }
def encI (x : Item) : Array Value := #[.int .i64 x.1.1, str x.1.2]
/-- Two blocks stay. -/
def Two (a b : Nat) (W W' : World) : Prop := W'.heap[a]? = W.heap[a]? ∧ W'.heap[b]? = W.heap[b]?

set_option maxRecDepth 100000 in
set_option maxHeartbeats 4000000 in
theorem back1_in (F : Fence) (n : Nat) (h60 : F.fn 60) (hro : F.round = none) (hn : 1 ≤ n) (l Bs b len cap : Nat) (L : List (List UInt8)) (hL : L.length = len) (hlen : len ≤ 2000) (hgood : ∀ t ∈ L, Tm.chk t = 0) (J Jx : List Item → World → Prop)
    (hY : ∀ pre x W, J pre W → pre.length < len → YieldAt F (n - 1) Try.prog l (encI x) W fun e W' =>
      (e = .returned (.bool true) ∧ J (pre ++ [x]) W' ∧ Two Bs b W W') ∨ (e = .returned (.bool false) ∧ Jx (pre ++ [x]) W'))
    (W : World) (hBs : W.cell? ⟨Bs, 0, none⟩ = some (.slice (some ⟨b, 0, none⟩) len cap)) (hc : ∀ j x, L[j]? = some x → W.cell? ⟨b, j, none⟩ = some (str x)) (h0 : J [] W) :
    CallsIn F n Try.prog 60 #[.func (.yield l) #[] #[], .pointer (some ⟨Bs, 0, none⟩)] W fun e W' => (∃ v, e = .returned v) ∧
      ((∃ ys : List Item, ys.map (·.1.2) = L.reverse ∧ J ys W') ∨ (∃ pre, True ∧ Jx pre W')) := by
  refine callsIn_of_wp Try.func60 rfl h60 ?_ hro
  simp only [Try.ntmps60, List.size_toArray, List.length_cons, List.length_nil, Nat.reduceAdd, Nat.reduceSub, Array.replicate_succ, Array.replicate_zero, List.push_toArray, List.append_toArray, List.nil_append, List.cons_append]
  have HL : Hid (L.length = len) := hL
  have HG : Aside (∀ t ∈ L, Tm.chk t = 0) := hgood
  have HC : Aside (∀ j x, L[j]? = some x → W.cell? ⟨b, j, none⟩ = some (str x)) := hc
  have HY : Aside (∀ pre x W, J pre W → pre.length < len → _) := hY
  have H0 : Aside (J [] W) := h0
  clear hL hgood hc hY h0
  gi_wp2
  gi_loopw [3] (fun i wr => ∃ (k : Nat) (pre : List Item), k ≤ len ∧ i = .int .i64 ((len : Int) - 1 - k) ∧ pre.length = k ∧ pre.map (·.1.2) = L.reverse.take k ∧ J pre wr ∧ Two Bs b W wr)
    (fun i _ => (intOf i + 1).toNat)
  case atStart => exact ⟨0, [], Nat.zero_le _, by go_num, rfl, by simp, H0.out, rfl, rfl⟩
  case round =>
    obtain ⟨k, pre, hk, rfl, hpl, hpm, hJ, ht⟩ := hrel
    have S : Aside (pre.map (·.1.2) = L.reverse.take k ∧ J pre wr ∧ Two Bs b W wr) := ⟨hpm, hJ, ht⟩
    clear hpm hJ ht H0
    have cB : wr.cell? ⟨Bs, 0, none⟩ = some (.slice (some ⟨b, 0, none⟩) len cap) := (World.cell?_of_block (w := W) S.out.2.2.1).trans hBs
    by_cases hlt : k < len
    · obtain ⟨q, hq⟩ : ∃ q : Nat, q + 1 + k = len := ⟨len - 1 - k, by omega⟩
      have hqi : (len : Int) - 1 - k = (q : Int) := by omega
      rw [hqi]
      have hql : q < L.length := by rw [HL.out]; omega
      have hx := List.getElem?_eq_getElem hql
      have ct : wr.cell? ⟨b, q, none⟩ = some (str L[q]) := (World.cell?_of_block (w := W) S.out.2.2.2).trans (HC.out q L[q] hx)
      have hgd := HG.out L[q] (List.getElem_mem hql)
      have hyy := HY.out pre ⟨((q : Int), L[q]), hgd⟩ wr S.out.2.1 (by omega)
      obtain ⟨fn, tmps, assign, body, hy, hR⟩ := hyy
      unfold encI str at hy
      dsimp only at hy
      have RR : Aside (RoundIn _ _ _ _ _ _ _ _ _ _) := hR
      have NX : Aside ((pre ++ [(⟨((q : Int), L[q]), hgd⟩ : Item)]).map (·.1.2) = L.reverse.take (k + 1)) := by
        show _ = _
        rw [List.map_append, S.out.1]
        have hkr : k < L.reverse.length := by rw [List.length_reverse, HL.out]; exact hlt
        rw [List.take_succ_eq_append_getElem hkr]
        congr 1
        simp only [List.map_cons, List.map_nil, List.getElem_reverse]
        congr 2
        have := HL.out
        omega
      unfold str at ct
      clear hR hx
      have q0 : (0 : Int) ≤ (q : Int) := by omega
      have q1 : (q : Int) < (len : Int) := by omega
      generalize (⟨L[q].toArray⟩ : ByteArray) = x at *
      gi_wp2
      refine RR.out.mono ?_
      rintro e W3 (⟨rfl, hJ3, hk3⟩ | ⟨rfl, hJx3⟩)
      · have T3 : Aside (J (pre ++ [(⟨((q : Int), L[q]), hgd⟩ : Item)]) W3 ∧ Two Bs b W W3) := ⟨hJ3, hk3.1.trans S.out.2.2.1, hk3.2.trans S.out.2.2.2⟩
        clear RR hJ3 hk3 cB ct hy
        gi_wp2
        go_roundw
        case rel => exact ⟨k + 1, pre ++ [(⟨((q : Int), L[q]), hgd⟩ : Item)], by omega, by first | go_num | (congr 1; omega), by simp; omega, NX.out, T3.out.1, T3.out.2⟩
        case measure => simp [intOf]
      · have T3 : Aside (Jx (pre ++ [(⟨((q : Int), L[q]), hgd⟩ : Item)]) W3) := hJx3
        clear RR hJx3 cB ct hy
        gi_wp2
        refine bodyPost_ret (results_none rfl _ _ _) rfl ?_
        exact ⟨⟨_, rfl⟩, .inr ⟨_, trivial, T3.out⟩⟩
    · obtain rfl : k = len := by omega
      have e : (k : Int) - 1 - k = -1 := by omega
      rw [e]
      gi_wp2
      go_end0
      refine ⟨⟨_, rfl⟩, .inl ⟨pre, ?_, S.out.2.1⟩⟩
      rw [S.out.1, List.take_of_length_le (by rw [List.length_reverse, HL.out]; exact Nat.le_refl _)]

set_option maxHeartbeats 1000000 in
/-- slices.Backward: the slice is boxed, the function value captures the box. -/
theorem back_in (F : Fence) (n : Nat) (h50 : F.fn 50) (hro : F.round = none) (a : Option Addr) (len cap : Nat) (w : World) :
    CallsIn F n Try.prog 50 #[.slice a len cap] w fun e w' => e = .returned (.func (.func 60) #[] #[.pointer (some ⟨w.heap.size, 0, none⟩)]) ∧ w' = w.alloc (.cells #[.slice a len cap] 22) := by
  refine callsIn_of_wp Try.func50 rfl h50 ?_ hro
  simp only [Try.ntmps50, List.size_toArray, List.length_cons, List.length_nil, Nat.reduceAdd, Nat.reduceSub, Array.replicate_succ, Array.replicate_zero, List.push_toArray, List.append_toArray, List.nil_append, List.cons_append]
  gi_wp2
  go_ret
  exact ⟨rfl, rfl⟩

theorem back_stops (F : Fence) (n : Nat) (h60 : F.fn 60) (hro : F.round = none) (hn : 1 ≤ n) (Bs b cap : Nat) (L : List (List UInt8)) (hlen : L.length ≤ 2000) (hgood : ∀ t ∈ L, Tm.chk t = 0) (w : World) (hBs : Bs < w.heap.size) (hb : b < w.heap.size)
    (hc : w.cell? ⟨Bs, 0, none⟩ = some (.slice (some ⟨b, 0, none⟩) L.length cap)) (hcs : ∀ j x, L[j]? = some x → w.cell? ⟨b, j, none⟩ = some (str x)) :
    SeqStopsK F n Try.prog 60 #[.pointer (some ⟨Bs, 0, none⟩)] encI (Two Bs b) (fun ys : List Item => ys.map (·.1.2) = L.reverse) (fun _ => True) L.length w := fun l J Jx W hW _ _ hY h0 =>
  back1_in F n h60 hro hn l Bs b L.length cap L rfl hlen hgood J Jx hY W ((hW.cell (p := ⟨Bs, 0, none⟩) hBs).trans hc) (fun j x hx => (hW.cell (p := ⟨b, j, none⟩) hb).trans (hcs j x hx)) h0

end Go.Proofs.Ytdpnffnogckfjaa
