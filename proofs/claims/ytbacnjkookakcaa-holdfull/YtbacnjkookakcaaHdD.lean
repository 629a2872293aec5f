/- Items in a row; the places of those that wait (waiting). -/
import Derived.Test.YtbacnjkookakcaaHdC
import Derived.Carry
set_option linter.unusedVariables false
namespace Go.Proofs.Ytbacnjkookakcaa
open Go.RowKit Go.Maps
namespace Hd
open Ps

/-- Items lie behind an address. -/
def AtI (w : World) (a : Option Addr) (l : List It) : Prop :=
  l = [] ∨ ∃ b off, a = some ⟨b, off, none⟩ ∧ ∀ (j : Nat) (x : It), l[j]? = some x → ∀ i u, (itA x)[i]? = some u → w.cell? ⟨b, off + j * 20 + i, none⟩ = some u
theorem cell_later {w w' : World} (hb : Below w.heap.size w w') {a : Addr} {v : Value} (h : w.cell? a = some v) : w'.cell? a = some v :=
  (World.cell?_of_block (hb.block a.block (World.block_lt_of_cell? w a h))).trans h
theorem AtI.later {w w' : World} {a : Option Addr} {l : List It} (h : AtI w a l) (hb : Below w.heap.size w w') : AtI w' a l := by
  rcases h with rfl | ⟨b, off, rfl, hc⟩
  · exact .inl rfl
  · exact .inr ⟨b, off, rfl, fun j x hx i u hu => cell_later hb (hc j x hx i u hu)⟩
theorem AtI.get {w : World} {a : Option Addr} {l : List It} (h : AtI w a l) {j : Nat} (hj : j < l.length) : ∃ b off x, a = some ⟨b, off, none⟩ ∧ l[j]? = some x ∧ ∀ i u, (itA x)[i]? = some u → w.cell? ⟨b, off + j * 20 + i, none⟩ = some u := by
  rcases h with rfl | ⟨b, off, rfl, hc⟩
  · simp at hj
  · exact ⟨b, off, l[j], rfl, List.getElem?_eq_getElem hj, hc j _ (List.getElem?_eq_getElem hj)⟩
theorem load_row {w : World} {b off : Nat} {x : It} (h : ∀ i u, (itA x)[i]? = some u → w.cell? ⟨b, off + i, none⟩ = some u) : Sem.run Try.prog (loadCellsFrom ⟨b, off, none⟩ 0 20 #[]) w = .ok (itA x) w := by
  have := run_loadCellsFrom_list Try.prog w ⟨b, off, none⟩ (itA x).toList 20 rfl (fun j v hj => by
    rw [Addr.add_lit]; exact h j v (by simpa using hj))
  simpa using this
theorem wpList_row43 {w : World} {ops : Array Oper} {rest : List Oper} {o : Oper} {a : Act} {Q : Exit → Act → World → Prop} {b off : Nat} {x : It} (h : ∀ i u, (itA x)[i]? = some u → w.cell? ⟨b, off + i, none⟩ = some u) (hg : o.guard = none) (p : Operand) (ho : o.op = .load 43 p)
    (hp : a.eval p = .pointer (some ⟨b, off, none⟩)) (hn : wpList Try.prog ops Q rest (a.put o.dst (.agg (itA x))) w) : wpList Try.prog ops Q (o :: rest) a w :=
  wpList_loadr hg 43 20 p ho (Try.isAgg43 _) (Try.sizeOf43 _) _ _ hp (load_row h) hn
/-- The number of an item is one of Go's. -/
def Fit (x : It) : Prop := x.frm < 256 ∧ -9223372036854775808 ≤ x.seq ∧ x.seq ≤ 9223372036854775807 ∧ Small x.body
/-- The place of each item that waits, and how many there are, as far as the k-th. -/
def wtK (l : List It) : Nat → Nat → Int → Option Int
  | 0 => fun _ _ => none
  | k + 1 => match l[k]? with
    | some x => updH (wtK l k) x.frm x.seq (k : Int)
    | none => wtK l k
def wtN (l : List It) : Nat → Nat
  | 0 => 0
  | k + 1 => match l[k]? with
    | some x => if (wtK l k x.frm x.seq).isSome then wtN l k else wtN l k + 1
    | none => wtN l k
theorem wtN_le (l : List It) : ∀ k, wtN l k ≤ k
  | 0 => Nat.le_refl _
  | k + 1 => by
    have := wtN_le l k
    unfold wtN
    split
    · split <;> omega
    · omega
theorem wpList_build2 {P : Program} {w : World} {ops : Array Oper} {rest : List Oper} {o : Oper} {a : Act} {Q : Exit → Act → World → Prop} (hg : o.guard = none) (t : TypeId) (p0 p1 : Operand) (ho : o.op = .build t #[(0, p0), (1, p1)]) (v0 v1 v : Value)
    (hr : (Instr.build t #[(0, v0), (1, v1)]).run P w = .ok v w) (h0 : a.eval p0 = v0) (h1 : a.eval p1 = v1) (h : wpList P ops Q rest (a.put o.dst v) w) : wpList P ops Q (o :: rest) a w := by
  refine wpList_plain hg fun K hK => ?_
  unfold Oper.wp
  have : (execOp a.eval o).run P w = .ok (.value v) w := by
    generalize a.eval = ev at h0 h1 ⊢
    generalize hB : Instr.build t #[(0, v0), (1, v1)] = B at hr
    have hB' : Instr.build t ((#[(0, p0), (1, p1)] : Array (Nat × Operand)).map fun x => match x with | (i, x) => (i, ev x)) = B := by
      rw [← hB, ← h0, ← h1]; congr 1; simp
    simp only [execOp, ho]
    rw [hB']
    simp [hr]
  rw [this]
  exact hK _ _ h
theorem build70 (f : Nat) (s : Int) (w : World) : (Instr.build 70 #[(0, .int .u8 (f : Int)), (1, .int .i64 s)]).run Try.prog w = .ok (keyV f s) w := run_build w 70 _ _ (by kernel_rfl)
theorem wpList_put {P : Program} {w : World} {ops : Array Oper} {rest : List Oper} {o : Oper} {a : Act} {Q : Exit → Act → World → Prop} (hg : o.guard = none) (m x v : Operand) (t : TypeId) (hop : o.op = Op.mapUpdate t m x v) (mv key val : Value) (w' : World) (hrun : (Instr.mapUpdate t mv key val).run P w = .ok () w')
    (hm : a.eval m = mv) (hx : a.eval x = key) (hv : a.eval v = val) (hK : wpList P ops Q rest (a.put o.dst undef) w') : wpList P ops Q (o :: rest) a w := by
  refine wpList_plain hg fun K' hK' => ?_
  unfold Oper.wp
  simp [execOp, hop, hm, hx, hv, hrun, Result.andThen]
  exact hK' _ _ hK
theorem below_of_grown {B : Nat} {w w' w'' : World} {r : Option Nat} (h : Below B w w') (hg : w'.grownBy w'' r) (hs : B ≤ w'.heap.size) (hr : ∀ k, r = some k → B ≤ k) : Below B w w'' :=
  ⟨hg.os.trans h.os, hg.tape.trans h.tape, hg.output.trans h.output, Nat.le_trans h.size hg.size, fun k hk => (hg.block k (by omega) (fun e => by have := hr k e.symm; omega)).trans (h.block k hk)⟩

set_option maxHeartbeats 4000000 in
set_option maxRecDepth 100000 in
/-- What waiting gives. -/
theorem waiting_any (a : Option Addr) (c : Nat) (l : List It) (w : World) (ha : AtI w a l) (hf : ∀ x ∈ l, Fit x) (hn : l.length ≤ 1000) :
    Calls Try.prog 28 #[.slice a l.length c] w fun e w' => ∃ b, e = .returned (.map (some b)) ∧ MapH w' b (wtN l l.length) (wtK l l.length) ∧ Below w.heap.size w w' ∧ w.heap.size ≤ b := by
  have HA : Aside (AtI w a l ∧ ∀ x ∈ l, Fit x) := ⟨ha, hf⟩
  have RZ : Aside (∀ w', MapH w' w.heap.size (wtN l l.length) (wtK l l.length) → Below w.heap.size w w' → ∃ b, Ending.returned (.map (some w.heap.size)) = .returned (.map (some b)) ∧ MapH w' b (wtN l l.length) (wtK l l.length) ∧ Below w.heap.size w w' ∧ w.heap.size ≤ b) := fun w' h1 h2 => ⟨_, rfl, h1, h2, Nat.le_refl _⟩
  obtain ⟨n, en⟩ : ∃ n, n = l.length := ⟨_, rfl⟩
  have HN : Aside (n = l.length) := en
  rw [← en] at RZ hn ⊢
  clear ha hf en
  have M0 : Aside (MapH (w.alloc (.map #[] 0)) w.heap.size 0 (fun _ _ => none) ∧ Below w.heap.size w (w.alloc (.map #[] 0))) := ⟨MapH.made w, (Below.refl _ w).alloc (Nat.le_refl _) _⟩
  have hmm := @run_makeMap Try.prog
  go_enter Try.func28, Try.ntmps28
  go_wp2_with fail
  go_loopw [9] (fun i wr => ∃ k : Nat, k ≤ n ∧ i = .int .i64 (k : Nat) ∧ Aside (MapH wr w.heap.size (wtN l k) (wtK l k) ∧ Below w.heap.size w wr)) (fun i _ => n - (intOf i).toNat)
  case atStart => exact ⟨0, by omega, rfl, M0.out⟩
  case round =>
    obtain ⟨k, hk, rfl, hM⟩ := hrel
    clear M0
    by_cases hlt : k < n
    · have t1 : (k : Int) < (n : Int) := by omega
      have t0 : (0 : Int) ≤ (k : Int) := by omega
      obtain ⟨b9, off9, x, rfl, hx, hcs⟩ := (HA.out.1.later hM.out.2).get (by rw [← HN.out]; exact hlt)
      have FX : Aside (Fit x) := HA.out.2 x (List.mem_of_getElem? hx)
      have HC : Aside (∀ i u, (itA x)[i]? = some u → wr.cell? ⟨b9, off9 + k * 20 + i, none⟩ = some u) := hcs
      have HC2 : Aside (∀ i u, (itA x)[i]? = some u → (wr.alloc (.cells #[.int .u8 0, .int .i64 0, .int .i64 0, .int .u16 0, .int .u16 0, .int .u16 0, .int .u16 0, .int .u16 0, .int .u16 0, .int .u16 0, .int .u16 0, .int .u16 0, .int .u16 0, .int .u16 0, .int .u16 0, .int .u16 0, .int .u16 0, .int .u16 0, .int .u16 0, .string ⟨#[]⟩] 43)).cell? ⟨b9, off9 + k * 20 + i, none⟩ = some u) := fun i u hu => cell_later ((Below.refl _ wr).alloc (Nat.le_refl _) _) (hcs i u hu)
      have ZB : Aside (I20 (wr.alloc (.cells #[.int .u8 0, .int .i64 0, .int .i64 0, .int .u16 0, .int .u16 0, .int .u16 0, .int .u16 0, .int .u16 0, .int .u16 0, .int .u16 0, .int .u16 0, .int .u16 0, .int .u16 0, .int .u16 0, .int .u16 0, .int .u16 0, .int .u16 0, .int .u16 0, .int .u16 0, .string ⟨#[]⟩] 43)) wr.heap.size 43 ⟨0, 0, ⟨0, fun _ => 0, ⟨#[]⟩⟩⟩) := I20.zeroT wr 43
      obtain ⟨W2, hW2⟩ : ∃ W2, W2 = (wr.alloc (.cells #[.int .u8 0, .int .i64 0, .int .i64 0, .int .u16 0, .int .u16 0, .int .u16 0, .int .u16 0, .int .u16 0, .int .u16 0, .int .u16 0, .int .u16 0, .int .u16 0, .int .u16 0, .int .u16 0, .int .u16 0, .int .u16 0, .int .u16 0, .int .u16 0, .int .u16 0, .string ⟨#[]⟩] 43)).setCells wr.heap.size 0 (itA x).toList := ⟨_, rfl⟩
      have S2 : Aside (I20 W2 wr.heap.size 43 x ∧ MapH W2 w.heap.size (wtN l k) (wtK l k) ∧ Below w.heap.size w W2) := by
        have hb : Below wr.heap.size wr W2 := by rw [hW2]; exact below_cells _ _ ((Below.refl _ wr).alloc (Nat.le_refl _) _) (Nat.le_refl _)
        exact ⟨by rw [hW2]; exact ZB.out.whole x, hM.out.1.kept (hb.block _ hM.out.1.lt), step_below hM.out.2 hb⟩
      have d0 := S2.out.1.frm
      have d1 := S2.out.1.seq
      obtain ⟨w4, hr4, hm4, hg4⟩ := S2.out.2.1.store (f := x.frm) (s := x.seq) ⟨FX.out.1, FX.out.2.1, FX.out.2.2.1⟩ (by have := wtN_le l k; omega) (k : Int)
      have M4 : Aside (MapH w4 w.heap.size (wtN l (k + 1)) (wtK l (k + 1)) ∧ Below w.heap.size w w4) := by
        refine ⟨?_, below_of_grown S2.out.2.2 hg4 S2.out.2.2.size (fun j hj => by have := Option.some.inj hj; omega)⟩
        have e1 : wtN l (k + 1) = if (wtK l k x.frm x.seq).isSome then wtN l k else wtN l k + 1 := by show (match l[k]? with | some x => _ | none => _) = _; rw [hx]
        have e2 : wtK l (k + 1) = updH (wtK l k) x.frm x.seq (k : Int) := by show (match l[k]? with | some x => _ | none => _) = _; rw [hx]
        rw [e1, e2]; exact hm4
      have R4 : Aside _ := hr4
      clear hM hx hcs hr4 hm4 hg4
      go_wp2_with (first
        | (with_reducible refine wpList_row43 HC.out rfl _ rfl rfl ?_)
        | (with_reducible refine wpList_row43 HC2.out rfl _ rfl rfl ?_)
        | ((with_reducible refine wpList_it_store ZB.out rfl _ _ rfl rfl rfl ?_); rw [← hW2]; clear hW2 ZB HC HC2)
        | (with_reducible refine wpList_build2 rfl 70 _ _ rfl _ _ (keyV x.frm x.seq) (build70 x.frm x.seq _) rfl rfl ?_)
        | (with_reducible refine wpList_put rfl _ _ _ 66 rfl _ _ _ w4 R4.out rfl rfl rfl ?_))
      go_roundw
      case rel => exact ⟨k + 1, by omega, by go_num, M4.out⟩
      case measure => simp [intOf]; omega
    · obtain rfl : k = n := by omega
      have Q1 : Aside _ := RZ.out wr hM.out.1 hM.out.2
      clear hM
      go_wp2_with fail
      go_ret
      exact Q1.out
end Hd
end Go.Proofs.Ytbacnjkookakcaa
