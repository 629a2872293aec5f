/- The same box under the document's type; the very same boxes. -/
import Derived.Test.YtfjdopmjcddnlaaBtM
set_option linter.unusedVariables false
namespace Go.Proofs.Ytfjdopmjcddnlaa
open Go.RowKit Cn Rl Bt

theorem info32 : (Try.prog.info? 32).map (fun i => (i.zero, i.size, i.bytes)) = some (some (.agg #[.int .u8 0, .bool false, .int .u8 0]), 3, 3) := by kernel_rfl
set_option maxRecDepth 100000 in
theorem equal30 (q : Nat) (p : Bool) (w : World) : (Op.equalIn 9999 30 (.agg #[.bool p, .int .u8 (q : Int)]) (.agg #[.bool p, .int .u8 (q : Int)])).run Try.prog w = .ok true w := by
  have u4 := Try.underlying4
  have a4 := Try.isAgg4
  have z4 := Try.sizeOf4
  have u5 := Try.underlying5
  have a5 := Try.isAgg5
  have z5 := Try.sizeOf5
  have hS3 : Try.prog.underlying 30 = some (.struct (Try.prog.fieldsOf 30)) := by kernel_rfl
  have hp3 : Try.prog.stoodInHeld 30 = false := by kernel_rfl
  rw [show (9999 : Nat) = 9998 + 1 from rfl, run_equalIn_agg w 9998 30 _ _ hS3 hp3]
  simp only [Program.fieldsOf, Try.underlying30]
  go_simp
  try simp
set_option maxRecDepth 100000 in
theorem neq32 (f q : Nat) (p : Bool) (w : World) : (binOp .neq 32 (.agg #[.int .u8 (f : Int), .bool p, .int .u8 (q : Int)]) (.agg #[.int .u8 (f : Int), .bool p, .int .u8 (q : Int)])).run Try.prog w = .ok (.bool false) w := by
  have u5 := Try.underlying5
  have a5 := Try.isAgg5
  have z5 := Try.sizeOf5
  have a30 := Try.isAgg30
  have z30 := Try.sizeOf30
  have e30 := fun w => equal30 q p w
  have hS : Try.prog.underlying 32 = some (.struct (Try.prog.fieldsOf 32)) := by kernel_rfl
  have hp : Try.prog.stoodInHeld 32 = false := by kernel_rfl
  rw [run_neq_struct, show (10000 : Nat) = 9999 + 1 from rfl, run_equalIn_agg w 9999 32 _ _ hS hp]
  simp only [Program.fieldsOf, Try.underlying32]
  go_simp
theorem neq32_guard (x y : Operand) (xs ys : Array Value) (w : World) : (eqGuard .neq 32 x y (.agg xs) (.agg ys)).run Try.prog w = .ok () w :=
  run_eqGuard_agg w .neq 32 x y xs ys (by kernel_rfl)
theorem cell_three (w : World) (x y z : Value) (t : TypeId) : ∀ j u, [x, y, z][j]? = some u → (w.alloc (.cells #[x, y, z] t)).cell? ((⟨w.heap.size, 0, none⟩ : Addr).add j) = some u := by
  intro j u hj
  obtain ⟨h0, h1, h2⟩ := (X3.new w t x y z).cells
  match j, hj with
  | 0, hj => simp at hj; subst hj; exact h0
  | 1, hj => simp at hj; subst hj; exact h1
  | 2, hj => simp at hj; subst hj; exact h2
  | j + 3, hj => simp at hj
/-- A box made anew, under another type. -/
def MadeB (w : World) (v : Int) (s : Nat) (l : List Ct) (e : Ending) (w' : World) : Prop := ∃ a c, e = .returned (.agg #[.int .i64 v, .int .u16 (s : Int), .slice a l.length c]) ∧ AtC w' a l ∧ Below w.heap.size w w'

set_option maxHeartbeats 8000000 in
set_option maxRecDepth 100000 in
/-- What Ours gives. -/
theorem ours_any (v : Int) (s : Nat) (a : Option Addr) (c : Nat) (l : List Ct) (w : World) (hl : AtC w a l) (hn : l.length ≤ 100) :
    Calls Try.prog 16 #[boxV v s (.slice a l.length c)] w (MadeB w v s l) := by
  obtain ⟨i0, hi, hz0, hz1, hz2⟩ := info_parts info32
  have I : Aside (Try.prog.info? 32 = some i0 ∧ i0.zero = some (.agg #[.int .u8 0, .bool false, .int .u8 0]) ∧ i0.size = 3 ∧ i0.bytes = 3) := ⟨hi, hz0, hz1, hz2⟩
  clear hi hz0 hz1 hz2
  obtain ⟨n, en⟩ : ∃ n, n = l.length := ⟨_, rfl⟩
  have RT : Aside (∀ (g : Option Addr) (q : Nat) (W : World), W.ownsRow (w.heap.size + 1 + 1 + 1) 32 3 (.slice g n q) n (rowC (l.take n)) → Below w.heap.size w W → MadeB w v s l (.returned (.agg #[.int .i64 v, .int .u16 (s : Int), .slice g n q])) W) := fun g q W ho hb => by
    rw [List.take_of_length_le (by omega)] at ho
    obtain ⟨a', c', e, hat, _, _⟩ := own_slice ho
    cases e
    rw [en]
    exact ⟨g, q, rfl, hat, hb⟩
  generalize MadeB w v s l = Q at RT ⊢
  rw [← en] at hn ⊢
  have HA : Aside (AtC w a l ∧ n = l.length) := ⟨hl, en⟩
  clear hl en
  obtain ⟨V, hV⟩ : ∃ V, V = ((w.alloc (.cells #[.int .i64 v, .int .u16 (s : Int), .slice a n c] 37)).alloc (.cells #[.int .i64 0, .int .u16 0, .slice none 0 0] 28)).alloc (.cells #[.int .i64 v, .int .u16 (s : Int), .slice none 0 0] 28) := ⟨_, rfl⟩
  have X : Aside (X3 V (w.heap.size + 1) 28 (.int .i64 0) (.int .u16 0) (.slice none 0 0) ∧ X3 V (w.heap.size + 1 + 1) 28 (.int .i64 v) (.int .u16 (s : Int)) (.slice none 0 0) ∧ Below w.heap.size w V ∧ V.heap.size = w.heap.size + 1 + 1 + 1) := by
    rw [hV]; exact ⟨(X3.new1 w _ _ _ _ _).alloc _, X3.new2 w _ _ _ _ _ _, ((below_one w _).alloc (by simp) _).alloc (by simp; omega) _, by simp⟩
  unfold boxV
  go_enter Try.func16, Try.ntmps16
  go_wp2_with fail
  rw [← hV]
  clear hV
  go_loopw [12] (fun i wr => ∃ k g q, k ≤ n ∧ i = .int .i64 (k : Nat) ∧ Aside (wr.ownsRow (w.heap.size + 1 + 1 + 1) 32 3 (.slice g k q) k (rowC (l.take k)) ∧ X3 wr (w.heap.size + 1 + 1) 28 (.int .i64 v) (.int .u16 (s : Int)) (.slice g k q) ∧ X3 wr (w.heap.size + 1) 28 (.int .i64 0) (.int .u16 0) (.slice none 0 0) ∧ Below w.heap.size w wr ∧ w.heap.size + 1 + 1 + 1 ≤ wr.heap.size)) (fun i _ => n - (intOf i).toNat)
  case atStart => exact ⟨0, none, 0, Nat.zero_le _, rfl, World.ownsRow_nil _ _ _ _, X.out.2.1, X.out.1, X.out.2.2.1, Nat.le_of_eq X.out.2.2.2.symm⟩
  case round =>
    obtain ⟨k, g, q, hk, rfl, HC⟩ := hrel
    obtain ⟨x0, x1, x2⟩ := HC.out.2.1.cells
    have f2 := HC.out.2.1.frozen 2
    by_cases hlt : k < n
    · have t1 : (k : Int) < (n : Int) := by omega
      have t0 : (0 : Int) ≤ (k : Int) := by omega
      obtain ⟨e, hke⟩ : ∃ e, l[k]? = some e := ⟨_, List.getElem?_eq_getElem (by have := HA.out.2; omega)⟩
      obtain ⟨b, off, rfl, y0, y1, y2⟩ := AtC.get (HA.out.1.later HC.out.2.2.2.1) hke
      have ST : Aside (rowC (l.take k) ++ [.int .u8 (e.1 : Int), .bool e.2.1, .int .u8 (e.2.2 : Int)] = rowC (l.take (k + 1))) := by
        show _ = _
        rw [List.take_add_one, hke, Option.toList, rowC_append]; simp [rowC, encC]
      clear hke
      have kz : w.heap.size + 1 + 1 ≠ wr.heap.size := by have := HC.out.2.2.2.2; omega
      have x2a : (wr.alloc (.cells #[.int .u8 (e.1 : Int), .bool e.2.1, .int .u8 (e.2.2 : Int)] 44)).cell? ⟨w.heap.size + 1 + 1, 2, none⟩ = some (.slice g k q) := cell_later (below_one wr _) x2
      obtain ⟨d0, d1, d2⟩ := (X3.new wr 44 (.int .u8 (e.1 : Int)) (.bool e.2.1) (.int .u8 (e.2.2 : Int))).cells
      go_wp2_with (at_builtin; refine wpList_append_own _ rfl _ _ 26 rfl (w.heap.size + 1 + 1 + 1) 32 i0 (.agg #[.int .u8 0, .bool false, .int .u8 0]) 3 3 Try.underlying26 I.out.1 I.out.2.1 I.out.2.2.1 I.out.2.2.2 rfl (by decide) _ _ _ rfl ((HC.out.1.alloc _).alloc _) ⟨wr.heap.size + 1, 0, none⟩ 1 1 [.int .u8 (e.1 : Int), .bool e.2.1, .int .u8 (e.2.2 : Int)] rfl rfl ?c1 ?c2 ?c3 ?c4 ?c5 ?_)
      case c1 => have := cell_three (wr.alloc (.cells #[.int .u8 (e.1 : Int), .bool e.2.1, .int .u8 (e.2.2 : Int)] 44)) (.int .u8 (e.1 : Int)) (.bool e.2.1) (.int .u8 (e.2.2 : Int)) 32; rw [World.size_alloc] at this; exact this
      case c2 => intro u hu; simp at hu; rcases hu with rfl | rfl | rfl <;> rfl
      case c3 => unfold maxLen; omega
      case c4 => omega
      case c5 => have := HC.out.2.2.2.2; simp; omega
      intro v' wn hown hgrow _
      rw [ST.out] at hown
      obtain ⟨g2, q2, rfl, -, -, -⟩ := own_slice hown
      have KB : ∀ bq, bq < w.heap.size + 1 + 1 + 1 → (Value.slice g k q).ownBlock ≠ some bq := fun bq hb e => by have := (HC.out.1.lt bq e).1; omega
      have NX : Aside (wn.ownsRow (w.heap.size + 1 + 1 + 1) 32 3 (.slice g2 (k + 1) q2) (k + 1) (rowC (l.take (k + 1))) ∧ X3 wn (w.heap.size + 1 + 1) 28 (.int .i64 v) (.int .u16 (s : Int)) (.slice g k q) ∧ X3 wn (w.heap.size + 1) 28 (.int .i64 0) (.int .u16 0) (.slice none 0 0) ∧ Below w.heap.size w wn ∧ w.heap.size + 1 + 1 + 1 ≤ wn.heap.size) := by
        have hsz := HC.out.2.2.2.2
        have bl : Below w.heap.size w ((wr.alloc (.cells #[.int .u8 (e.1 : Int), .bool e.2.1, .int .u8 (e.2.2 : Int)] 44)).alloc (.cells #[.int .u8 (e.1 : Int), .bool e.2.1, .int .u8 (e.2.2 : Int)] 32)) := (HC.out.2.2.2.1.alloc HC.out.2.2.2.1.size _).alloc (by have := HC.out.2.2.2.1.size; simp; omega) _
        refine ⟨hown, ((HC.out.2.1.alloc _).alloc _).grown hgrow (KB _ (by omega)), ((HC.out.2.2.1.alloc _).alloc _).grown hgrow (KB _ (by omega)), bl.grown hgrow (by have := HC.out.2.2.2.1.size; simp; omega) (fun j hj => by have := (HC.out.1.lt j hj).1; omega), ?_⟩
        have := hgrow.size
        simp at this
        omega
      clear hown hgrow KB x0 x1 x2 x2a f2 y0 y1 y2 d0 d1 d2 kz
      obtain ⟨x0, x1, x2⟩ := NX.out.2.1.cells
      have f2 := NX.out.2.1.frozen 2
      have NY : Aside _ := (⟨own_off NX.out.1 (by omega) _, NX.out.2.1.set2 (.slice g2 (k + 1) q2), NX.out.2.2.1.far (by omega) _, below_set1 NX.out.2.2.2.1 (by omega) _, by simpa using NX.out.2.2.2.2⟩ : (wn.setCell ⟨w.heap.size + 1 + 1, 2, none⟩ (.slice g2 (k + 1) q2)).ownsRow (w.heap.size + 1 + 1 + 1) 32 3 (.slice g2 (k + 1) q2) (k + 1) (rowC (l.take (k + 1))) ∧ X3 (wn.setCell ⟨w.heap.size + 1 + 1, 2, none⟩ (.slice g2 (k + 1) q2)) (w.heap.size + 1 + 1) 28 (.int .i64 v) (.int .u16 (s : Int)) (.slice g2 (k + 1) q2) ∧ X3 (wn.setCell ⟨w.heap.size + 1 + 1, 2, none⟩ (.slice g2 (k + 1) q2)) (w.heap.size + 1) 28 (.int .i64 0) (.int .u16 0) (.slice none 0 0) ∧ Below w.heap.size w (wn.setCell ⟨w.heap.size + 1 + 1, 2, none⟩ (.slice g2 (k + 1) q2)) ∧ w.heap.size + 1 + 1 + 1 ≤ (wn.setCell ⟨w.heap.size + 1 + 1, 2, none⟩ (.slice g2 (k + 1) q2)).heap.size)
      go_wp2
      go_roundw
      case rel => exact ⟨k + 1, g2, q2, by omega, by go_num, NY.out⟩
      case measure => simp [intOf]; omega
    · obtain rfl : k = n := by omega
      obtain ⟨z0, z1, z2⟩ := HC.out.2.2.1.cells
      have h0 := HC.out.2.2.1.frozen 0; have h1 := HC.out.2.2.1.frozen 1; have h2 := HC.out.2.2.1.frozen 2
      have Q1 : Aside (Q (.returned (.agg #[.int .i64 v, .int .u16 (s : Int), .slice g k q])) (((wr.setCell ⟨w.heap.size + 1, 0, none⟩ (.int .i64 v)).setCell ⟨w.heap.size + 1, 1, none⟩ (.int .u16 (s : Int))).setCell ⟨w.heap.size + 1, 2, none⟩ (.slice g k q))) :=
        RT.out g q _ (own_off (own_off (own_off HC.out.1 (by omega) _) (by omega) _) (by omega) _) (below_set3 HC.out.2.2.2.1 (by omega) _ _ _)
      clear RT
      go_wp2_with fail
      exact bodyPost_ret (results_one rfl rfl (Try.isAgg28 _) (Try.sizeOf28 _) (load_three (HC.out.2.2.1.set _ _ _))) rfl Q1.out

set_option maxHeartbeats 8000000 in
set_option maxRecDepth 100000 in
/-- The very same boxes. -/
theorem same_eq (v : Int) (s : Nat) (a a' : Option Addr) (c c' : Nat) (l : List Ct) (w : World) (hl : AtC w a l) (hl' : AtC w a' l) (hn : l.length ≤ 100) :
    Calls Try.prog 15 #[.agg #[.int .i64 v, .int .u16 (s : Int), .slice a l.length c], .agg #[.int .i64 v, .int .u16 (s : Int), .slice a' l.length c']] w fun e w' => e = .returned (.bool true) ∧ Below w.heap.size w w' := by
  obtain ⟨n, en⟩ : ∃ n, n = l.length := ⟨_, rfl⟩
  rw [← en] at hn ⊢
  have HA : Aside (AtC w a l ∧ AtC w a' l ∧ n = l.length) := ⟨hl, hl', en⟩
  clear hl hl' en
  obtain ⟨V, hV⟩ : ∃ V, V = (w.alloc (.cells #[.int .i64 v, .int .u16 (s : Int), .slice a n c] 28)).alloc (.cells #[.int .i64 v, .int .u16 (s : Int), .slice a' n c'] 28) := ⟨_, rfl⟩
  have X : Aside (X3 V w.heap.size 28 (.int .i64 v) (.int .u16 (s : Int)) (.slice a n c) ∧ X3 V (w.heap.size + 1) 28 (.int .i64 v) (.int .u16 (s : Int)) (.slice a' n c') ∧ Below w.heap.size w V) := by
    rw [hV]; exact ⟨(X3.new w _ _ _ _).alloc _, X3.new1 w _ _ _ _ _, (below_one w _).alloc (by simp) _⟩
  have q1 := fun W => neq25 v v s s W
  rw [decide_eq_true ⟨rfl, rfl⟩] at q1
  have g1 := fun x y xs ys W => neq25_guard x y xs ys W
  go_enter Try.func15, Try.ntmps15
  go_wp2_with fail
  rw [← hV]
  clear hV
  obtain ⟨x0, x1, x2⟩ := X.out.1.cells
  obtain ⟨y0, y1, y2⟩ := X.out.2.1.cells
  go_wp2_with fail
  clear x0 x1 x2 y0 y1 y2
  go_loopw [5] (fun i wr => ∃ k : Nat, k ≤ n ∧ i = .int .i64 (k : Nat) ∧ Aside (Drew V wr)) (fun i _ => n - (intOf i).toNat)
  case atStart => exact ⟨0, Nat.zero_le _, rfl, 0, rfl⟩
  case round =>
    obtain ⟨k, hk, rfl, HD⟩ := hrel
    have BV : Aside (Below V.heap.size V wr) := drew_below HD.out
    obtain ⟨x0, x1, x2⟩ := (X.out.1.later BV.out).cells
    obtain ⟨y0, y1, y2⟩ := (X.out.2.1.later BV.out).cells
    by_cases hlt : k < n
    · have t1 : (k : Int) < (n : Int) := by omega
      have t0 : (0 : Int) ≤ (k : Int) := by omega
      obtain ⟨e, hke⟩ : ∃ e, l[k]? = some e := ⟨_, List.getElem?_eq_getElem (by have := HA.out.2.2; omega)⟩
      obtain ⟨b, off, rfl, d0, d1, d2⟩ := AtC.get (HA.out.1.later (below_step X.out.2.2 BV.out)) hke
      obtain ⟨b', off', rfl, h0, h1, h2⟩ := AtC.get (HA.out.2.1.later (below_step X.out.2.2 BV.out)) hke
      clear hke
      have q2 := fun W => neq32 e.1 e.2.2 e.2.1 W
      have g2 := fun x y xs ys W => neq32_guard x y xs ys W
      have DN : Aside (∀ q, Drew V (wr.drewN q)) := fun q => drew_more HD.out q
      go_wp2_with fail
      go_quiet (fail)
      go_wp2
      go_roundw
      case rel => exact ⟨k + 1, by omega, by go_num, DN.out _⟩
      case measure => simp [intOf]; omega
    · obtain rfl : k = n := by omega
      have B3 : Aside (Below w.heap.size w wr) := below_step X.out.2.2 BV.out
      go_wp2_with fail
      go_ret
      exact ⟨rfl, B3.out⟩
end Go.Proofs.Ytfjdopmjcddnlaa
