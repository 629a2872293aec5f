/- A text's pieces: the iterator of slices.Chunk. -/
import Derived.Test.YtimeggbjmcnnoaaLnB
import Derived.RangeFuncNested
import Derived.RangeFuncBound
import Derived.RangeFuncCalls
import Derived.RangeFuncLeaves
import Derived.RangeFuncBox
import Derived.Shelf.Abstract
import Derived.Shelf.RegionOpen
import Derived.WalkKit
import Derived.OwnWalkIn
import Derived.TacticsInMore
import Derived.LoopNIn
import Derived.LoopIn
import Derived.BigRegionIn
namespace Go.Proofs.Ytimeggbjmcnnoaa
open Go.RowKit Go.Shelf
attribute [local go_sem] Oper.semAt_some

/-- Two blocks stay. -/
def Two (a b : Nat) (W W' : World) : Prop := W'.heap[a]? = W.heap[a]? ∧ W'.heap[b]? = W.heap[b]?

/-- Where a piece begins, and how long it is. -/
def chunks (len k : Nat) : List (Nat × Nat) := (List.range k).map fun j => (40 * j, min 40 (len - 40 * j))
theorem chunks_succ (len k : Nat) : chunks len (k + 1) = chunks len k ++ [(40 * k, min 40 (len - 40 * k))] := by simp [chunks, List.range_succ]
theorem chunks_len (len k : Nat) : (chunks len k).length = k := by simp [chunks]
abbrev Pc (len : Nat) := { x : Nat × Nat // x.1 + x.2 ≤ len }
def encC (len b : Nat) (x : Pc len) : Array Value := #[.slice (some ⟨b, x.1.1, none⟩) x.1.2 x.1.2]

theorem grown_drew0 (w : World) (q : Nat) (row : Option Nat) : w.grownBy (w.drewN q) row := ⟨rfl, rfl, rfl, Nat.le_refl _, fun _ _ _ => rfl⟩

set_option maxRecDepth 100000 in
set_option maxHeartbeats 4000000 in
theorem chunk1_in (n : Nat) (hn : 1 ≤ n) (l Bs Bn b len cap N : Nat) (hlen : len ≤ 2000) (hcap : len ≤ cap) (hN : len ≤ 40 * N ∧ 40 * N < len + 40) (J Jx : List (Pc len) → World → Prop) {B : Nat} (hA : AbidesFrom B J)
    (hY : ∀ pre x W, J pre W → pre.length < N → YieldAt Fence.wide (n - 1) Try.prog l (encC len b x) W fun e W' =>
      (e = .returned (.bool true) ∧ J (pre ++ [x]) W' ∧ Two Bs Bn W W') ∨ (e = .returned (.bool false) ∧ Jx (pre ++ [x]) W'))
    (W : World) (hBs : W.cell? ⟨Bs, 0, none⟩ = some (.slice (some ⟨b, 0, none⟩) len cap)) (hBn : W.cell? ⟨Bn, 0, none⟩ = some (.int .i64 40)) (h0 : J [] W) :
    CallsIn Fence.wide n Try.prog 51 #[.func (.yield l) #[] #[], .pointer (some ⟨Bs, 0, none⟩), .pointer (some ⟨Bn, 0, none⟩)] W fun e W' => (∃ v, e = .returned v) ∧
      ((∃ ys : List (Pc len), ys.map (·.1) = chunks len N ∧ J ys W') ∨ (∃ pre, True ∧ Jx pre W')) := by
  refine callsIn_of_wp Try.func51 rfl trivial ?_ rfl
  simp only [Try.ntmps51, List.size_toArray, List.length_cons, List.length_nil, Nat.reduceAdd, Nat.reduceSub, Array.replicate_succ, Array.replicate_zero, List.push_toArray, List.append_toArray, List.nil_append, List.cons_append]
  have HY : Aside (∀ pre x W, J pre W → pre.length < N → _) := hY
  have H0 : Aside (J [] W) := h0
  have HA : Aside (AbidesFrom B J) := hA
  clear hY h0 hA
  gi_wp2
  gi_loopw [4] (fun i wr => ∃ (k : Nat) (pre : List (Pc len)), k ≤ N ∧ i = .int .i64 ((40 * k : Nat) : Int) ∧ pre.length = k ∧ pre.map (·.1) = chunks len k ∧ J pre wr ∧ Two Bs Bn W wr)
    (fun i _ => 40 * N + 40 - (intOf i).toNat)
  case atStart => exact ⟨0, [], Nat.zero_le _, rfl, rfl, rfl, H0.out, rfl, rfl⟩
  case round =>
    obtain ⟨k, pre, hk, rfl, hpl, hpm, hJ, ht⟩ := hrel
    have S : Aside (J pre wr ∧ Two Bs Bn W wr) := ⟨hJ, ht⟩
    have PM : Aside (pre.length = k ∧ pre.map (·.1) = chunks len k) := ⟨hpl, hpm⟩
    clear hJ ht H0 hpl hpm
    have cB : wr.cell? ⟨Bs, 0, none⟩ = some (.slice (some ⟨b, 0, none⟩) len cap) := (World.cell?_of_block (w := W) S.out.2.1).trans hBs
    have cN : wr.cell? ⟨Bn, 0, none⟩ = some (.int .i64 40) := (World.cell?_of_block (w := W) S.out.2.2).trans hBn
    by_cases hlt : k < N
    · obtain ⟨i, hi⟩ : ∃ i : Nat, i = 40 * k := ⟨_, rfl⟩
      have hiI : ((40 * k : Nat) : Int) = (i : Int) := by rw [hi]
      rw [hiI]
      obtain ⟨m, hm⟩ : ∃ m : Nat, m = min 40 (len - i) := ⟨_, rfl⟩
      have hil : i < len := by omega
      have hm1 : 1 ≤ m ∧ i + m ≤ len := by omega
      have NX : Aside (chunks len k ++ [(i, m)] = chunks len (k + 1)) := by show _ = _; rw [chunks_succ, hm, hi]
      have q1 : (i : Int) < (len : Int) := by omega
      have q2 : min (40 : Int) ((len - i : Nat) : Int) = (m : Int) := by omega
      have q3 : ¬ cap = i := by omega
      have q4 : ((i : Int) + (m : Int)).toNat - i = m := by omega
      have q5 : ((i : Int) + (m : Int)) ≤ (cap : Int) := by omega
      have q6 : (i : Int) ≤ (i : Int) + (m : Int) := by omega
      have q7 : (0 : Int) ≤ (i : Int) := by omega
      have q8 : ¬ m = 0 := by omega
      have HI : Hid (i = 40 * k) := hi
      have HM : Aside ((1 ≤ m ∧ i + m ≤ len) ∧ len ≤ 40 * N ∧ 40 * N < len + 40) := ⟨hm1, hN⟩
      clear hi hiI hm hm1 hil hN
      gi_wp2
      refine wpIn_wide.2 ?_
      go_quiet (fail)
      have hyy := HY.out pre ⟨(i, m), HM.out.1.2⟩ (wr.drewN nq) (HA.out _ _ _ none S.out.1 (grown_drew0 _ _ _) (fun r e => by cases e)) (by rw [PM.out.1]; exact hlt)
      obtain ⟨fn, tmps, assign, body, hy, hR⟩ := hyy
      unfold encC at hy
      dsimp only at hy
      have RR : Aside (RoundIn _ _ _ _ _ _ _ _ _ _) := hR
      clear hR
      gi_wp2
      refine RR.out.mono ?_
      rintro e W3 (⟨rfl, hJ3, hk3⟩ | ⟨rfl, hJx3⟩)
      · have T3 : Aside (J (pre ++ [⟨(i, m), HM.out.1.2⟩]) W3 ∧ Two Bs Bn W W3) := ⟨hJ3, hk3.1.trans S.out.2.1, hk3.2.trans S.out.2.2⟩
        have cN3 : W3.cell? ⟨Bn, 0, none⟩ = some (.int .i64 40) := (World.cell?_of_block (w := W) T3.out.2.2).trans hBn
        clear RR hJ3 hk3 cB cN hy
        gi_wp2
        go_roundw
        case rel => exact ⟨k + 1, pre ++ [⟨(i, m), HM.out.1.2⟩], by omega, by rw [HI.out]; first | go_num | (congr 1; omega), by simp [PM.out.1], by rw [List.map_append, PM.out.2]; exact NX.out, T3.out.1, T3.out.2⟩
        case measure =>
          have := HI.out
          have := HM.out
          simp [intOf]
          omega
      · have T3 : Aside (Jx (pre ++ [⟨(i, m), HM.out.1.2⟩]) W3) := hJx3
        clear RR hJx3 cB cN hy
        gi_wp2
        refine bodyPost_ret (results_none rfl _ _ _) rfl ?_
        exact ⟨⟨_, rfl⟩, .inr ⟨_, trivial, T3.out⟩⟩
    · obtain rfl : k = N := by omega
      have q1 : ¬ ((40 * k : Nat) : Int) < (len : Int) := by omega
      generalize ((40 * k : Nat) : Int) = kk at *
      gi_wp2
      go_end0
      exact ⟨⟨_, rfl⟩, .inl ⟨pre, PM.out.2, S.out.1⟩⟩

set_option maxRecDepth 100000 in
set_option maxHeartbeats 1000000 in
/-- slices.Chunk: the slice and the number are boxed, the function value captures the boxes. -/
theorem chunk_in (n : Nat) (a : Option Addr) (len cap : Nat) (w : World) :
    CallsIn Fence.wide n Try.prog 47 #[.slice a len cap, .int .i64 40] w fun e w' => e = .returned (.func (.func 51) #[] #[.pointer (some ⟨w.heap.size, 0, none⟩), .pointer (some ⟨w.heap.size + 1, 0, none⟩)]) ∧ w' = (w.alloc (.cells #[.slice a len cap] 24)).alloc (.cells #[.int .i64 40] 3) := by
  refine callsIn_of_wp Try.func47 rfl trivial ?_ rfl
  simp only [Try.ntmps47, List.size_toArray, List.length_cons, List.length_nil, Nat.reduceAdd, Nat.reduceSub, Array.replicate_succ, Array.replicate_zero, List.push_toArray, List.append_toArray, List.nil_append, List.cons_append]
  gi_wp2
  go_ret
  exact ⟨rfl, rfl⟩

theorem chunk_stops (n : Nat) (hn : 1 ≤ n) (Bs Bn b len cap N : Nat) (hlen : len ≤ 2000) (hcap : len ≤ cap) (hN : len ≤ 40 * N ∧ 40 * N < len + 40) (w : World) (hs : Bs < w.heap.size) (hb : Bn < w.heap.size)
    (hBs : w.cell? ⟨Bs, 0, none⟩ = some (.slice (some ⟨b, 0, none⟩) len cap)) (hBn : w.cell? ⟨Bn, 0, none⟩ = some (.int .i64 40)) :
    SeqStopsK Fence.wide n Try.prog 51 #[.pointer (some ⟨Bs, 0, none⟩), .pointer (some ⟨Bn, 0, none⟩)] (encC len b) (Two Bs Bn) (fun ys : List (Pc len) => ys.map (·.1) = chunks len N) (fun _ => True) N w := fun l J Jx W hW hA _ hY h0 =>
  chunk1_in n hn l Bs Bn b len cap N hlen hcap hN J Jx hA hY W ((hW.cell (p := ⟨Bs, 0, none⟩) hs).trans hBs) ((hW.cell (p := ⟨Bn, 0, none⟩) hb).trans hBn) h0

/-- A step of a drawing region that appends to a row of one's own, inside a fence. -/
theorem stepIn_append {F : Fence} {n : Nat} {P : Program} (w : World) {ops : Array Oper} {o : Oper} {a : Act} {K : Act → World → Prop} {Q : Exit → Act → World → Prop} {E : Prop}
    (hg : o.guard = none) (s x : Operand) (t : TypeId) (hop : o.op = Op.call { callee := Callee.builtin Builtin.append, args := #[s, x], argTypes := #[t, t] })
    (base : Nat) (e : TypeId) (i : TypeInfo) (z : Value) (size bytes : Nat) (h1 : P.underlying t = some (.slice e)) (h2 : P.info? e = some i) (h3 : i.zero = some z) (h4 : i.size = size) (h5 : i.bytes = bytes) (h6 : z.cells.size = size) (h7 : 0 < size)
    (v : Value) (k : Nat) (xs : List Value) (hs : a.eval s = v) (hown : w.ownsRow base e size v k xs) (ad : Addr) (m c : Nat) (news : List Value) (hx : a.eval x = .slice (some ad) m c) (hn : news.length = m * size)
    (hc : ∀ j u, news[j]? = some u → w.cell? (ad.add j) = some u) (h1c : ∀ u ∈ news, u.oneCell' = true) (b1 : k + m ≤ maxLen) (b2 : (k + m) * bytes ≤ 140737488355328) (b3 : base ≤ w.heap.size)
    (hK : ∀ v' w', w'.ownsRow base e size v' (k + m) (xs ++ news) → w.grownBy w' v.ownBlock → K (a.put o.dst v') w') :
    if Region.wanted o (yielded ops a.tmps) = true then Oper.wpIn F n P o a w K Q else E := by
  have hw : Region.wanted o (yielded ops a.tmps) = true := by simp [Region.wanted, hg]
  rw [if_pos hw]
  obtain ⟨v', w', hrun, r1, r2, r3⟩ := run_append_own (P := P) w base t o.type e i z size bytes h1 h2 h3 h4 h5 h6 h7 v k xs hown ad m c news hn hc h1c b1 b2 b3
  unfold Oper.wpIn
  refine ⟨?_, ?_⟩
  · simp [Oper.about, hop, resolve, Target.leads, Sem.run_pure]
  · rw [Oper.semAt_plain F _ _ (by rw [hop]; intro c hc'; cases hc')]
    simp [execOp, hop, resolve, invoke, builtin, hs, hx, hrun, Result.andThen]
    exact hK v' w' r1 r2

end Go.Proofs.Ytimeggbjmcnnoaa
