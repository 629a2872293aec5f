/- Views and changes compared; who wants a change, and which one is chosen. -/
import Derived.Test.YtfjdopmjcddnlaaBtD
import Derived.Deep.LoopGhost
set_option linter.unusedVariables false
namespace Go.Proofs.Ytfjdopmjcddnlaa
open Go.RowKit Cn Rl Bt

set_option maxRecDepth 100000 in
theorem eql42 (v v' : Bool) (s s' : Nat) (w : World) : (binOp .eql 42 (.agg #[.bool v, .int .u8 (s : Int)]) (.agg #[.bool v', .int .u8 (s' : Int)])).run Try.prog w = .ok (.bool (decide (v = v' ∧ s = s'))) w := by
  have u4 := Try.underlying4
  have a4 := Try.isAgg4
  have z4 := Try.sizeOf4
  have u5 := Try.underlying5
  have a5 := Try.isAgg5
  have z5 := Try.sizeOf5
  have hS : Try.prog.underlying 42 = some (.struct (Try.prog.fieldsOf 42)) := by kernel_rfl
  have hp : Try.prog.stoodInHeld 42 = false := by kernel_rfl
  rw [run_eql_struct, show (10000 : Nat) = 9999 + 1 from rfl, run_equalIn_agg w 9999 42 _ _ hS hp]
  simp only [Program.fieldsOf, Try.underlying42]
  go_simp
  by_cases h1 : v = v'
  · by_cases h2 : s = s'
    · simp [h1, h2]
    · have : ¬ ((s : Int) = (s' : Int)) := by omega
      simp [h1, h2, this]
  · simp [h1]
theorem eql42_guard (x y : Operand) (xs ys : Array Value) (w : World) : (eqGuard .eql 42 x y (.agg xs) (.agg ys)).run Try.prog w = .ok () w :=
  run_eqGuard_agg w .eql 42 x y xs ys (by kernel_rfl)
set_option maxRecDepth 100000 in
theorem eql30 (v v' : Bool) (s s' : Nat) (w : World) : (binOp .eql 30 (.agg #[.bool v, .int .u8 (s : Int)]) (.agg #[.bool v', .int .u8 (s' : Int)])).run Try.prog w = .ok (.bool (decide (v = v' ∧ s = s'))) w := by
  have u4 := Try.underlying4
  have a4 := Try.isAgg4
  have z4 := Try.sizeOf4
  have u5 := Try.underlying5
  have a5 := Try.isAgg5
  have z5 := Try.sizeOf5
  have hS : Try.prog.underlying 30 = some (.struct (Try.prog.fieldsOf 30)) := by kernel_rfl
  have hp : Try.prog.stoodInHeld 30 = false := by kernel_rfl
  rw [run_eql_struct, show (10000 : Nat) = 9999 + 1 from rfl, run_equalIn_agg w 9999 30 _ _ hS hp]
  simp only [Program.fieldsOf, Try.underlying30]
  go_simp
  by_cases h1 : v = v'
  · by_cases h2 : s = s'
    · simp [h1, h2]
    · have : ¬ ((s : Int) = (s' : Int)) := by omega
      simp [h1, h2, this]
  · simp [h1]
theorem eql30_guard (x y : Operand) (xs ys : Array Value) (w : World) : (eqGuard .eql 30 x y (.agg xs) (.agg ys)).run Try.prog w = .ok () w :=
  run_eqGuard_agg w .eql 30 x y xs ys (by kernel_rfl)
set_option maxRecDepth 100000 in
theorem neq42 (v v' : Bool) (s s' : Nat) (w : World) : (binOp .neq 42 (.agg #[.bool v, .int .u8 (s : Int)]) (.agg #[.bool v', .int .u8 (s' : Int)])).run Try.prog w = .ok (.bool (!decide (v = v' ∧ s = s'))) w := by
  have u4 := Try.underlying4
  have a4 := Try.isAgg4
  have z4 := Try.sizeOf4
  have u5 := Try.underlying5
  have a5 := Try.isAgg5
  have z5 := Try.sizeOf5
  have hS : Try.prog.underlying 42 = some (.struct (Try.prog.fieldsOf 42)) := by kernel_rfl
  have hp : Try.prog.stoodInHeld 42 = false := by kernel_rfl
  rw [run_neq_struct, show (10000 : Nat) = 9999 + 1 from rfl, run_equalIn_agg w 9999 42 _ _ hS hp]
  simp only [Program.fieldsOf, Try.underlying42]
  go_simp
  by_cases h1 : v = v'
  · by_cases h2 : s = s'
    · simp [h1, h2]
    · have : ¬ ((s : Int) = (s' : Int)) := by omega
      simp [h1, h2, this]
  · simp [h1]
theorem neq42_guard (x y : Operand) (xs ys : Array Value) (w : World) : (eqGuard .neq 42 x y (.agg xs) (.agg ys)).run Try.prog w = .ok () w :=
  run_eqGuard_agg w .neq 42 x y xs ys (by kernel_rfl)
set_option maxRecDepth 100000 in
theorem neq25 (v v' : Int) (s s' : Nat) (w : World) : (binOp .neq 25 (.agg #[.int .i64 v, .int .u16 (s : Int)]) (.agg #[.int .i64 v', .int .u16 (s' : Int)])).run Try.prog w = .ok (.bool (!decide (v = v' ∧ s = s'))) w := by
  have u3 := Try.underlying3
  have a3 := Try.isAgg3
  have z3 := Try.sizeOf3
  have u23 := Try.underlying23
  have a23 := Try.isAgg23
  have z23 := Try.sizeOf23
  have hS : Try.prog.underlying 25 = some (.struct (Try.prog.fieldsOf 25)) := by kernel_rfl
  have hp : Try.prog.stoodInHeld 25 = false := by kernel_rfl
  rw [run_neq_struct, show (10000 : Nat) = 9999 + 1 from rfl, run_equalIn_agg w 9999 25 _ _ hS hp]
  simp only [Program.fieldsOf, Try.underlying25]
  go_simp
  by_cases h1 : v = v'
  · by_cases h2 : s = s'
    · simp [h1, h2]
    · have : ¬ ((s : Int) = (s' : Int)) := by omega
      simp [h1, h2, this]
  · simp [h1]
theorem neq25_guard (x y : Operand) (xs ys : Array Value) (w : World) : (eqGuard .neq 25 x y (.agg xs) (.agg ys)).run Try.prog w = .ok () w :=
  run_eqGuard_agg w .neq 25 x y xs ys (by kernel_rfl)
set_option maxRecDepth 100000 in
theorem neq30 (v v' : Bool) (s s' : Nat) (w : World) : (binOp .neq 30 (.agg #[.bool v, .int .u8 (s : Int)]) (.agg #[.bool v', .int .u8 (s' : Int)])).run Try.prog w = .ok (.bool (!decide (v = v' ∧ s = s'))) w := by
  have u4 := Try.underlying4
  have a4 := Try.isAgg4
  have z4 := Try.sizeOf4
  have u5 := Try.underlying5
  have a5 := Try.isAgg5
  have z5 := Try.sizeOf5
  have hS : Try.prog.underlying 30 = some (.struct (Try.prog.fieldsOf 30)) := by kernel_rfl
  have hp : Try.prog.stoodInHeld 30 = false := by kernel_rfl
  rw [run_neq_struct, show (10000 : Nat) = 9999 + 1 from rfl, run_equalIn_agg w 9999 30 _ _ hS hp]
  simp only [Program.fieldsOf, Try.underlying30]
  go_simp
  by_cases h1 : v = v'
  · by_cases h2 : s = s'
    · simp [h1, h2]
    · have : ¬ ((s : Int) = (s' : Int)) := by omega
      simp [h1, h2, this]
  · simp [h1]
theorem neq30_guard (x y : Operand) (xs ys : Array Value) (w : World) : (eqGuard .neq 30 x y (.agg xs) (.agg ys)).run Try.prog w = .ok () w :=
  run_eqGuard_agg w .neq 30 x y xs ys (by kernel_rfl)

namespace Bt
theorem wantT_take {l : List Ct} {k : Nat} {e : Ct} (ch : Bool × Nat) (he : l[k]? = some e) : wantT ch 0 (l.take (k + 1)) = if e.2 = ch then withS (wantT ch 0 (l.take k)) e.1 else wantT ch 0 (l.take k) := by
  rw [List.take_add_one, he]
  exact wantT_snoc ch e _ _
end Bt
set_option maxHeartbeats 4000000 in
set_option maxRecDepth 100000 in
/-- What wanting gives. -/
theorem want_any (a : Option Addr) (c : Nat) (l : List Ct) (ca : Bool) (ci : Nat) (w : World) (hl : AtC w a l) (hn : l.length ≤ 1000) :
    Calls Try.prog 34 #[.slice a l.length c, chV ca ci] w fun e w' => e = .returned (.int .u16 (wantS l (ca, ci) : Nat)) ∧ Below w.heap.size w w' := by
  have R : Aside (∀ m w', m = wantT (ca, ci) 0 (l.take l.length) → Below w.heap.size w w' → (fun (e : Ending) (w' : World) => e = .returned (.int .u16 (wantS l (ca, ci) : Nat)) ∧ Below w.heap.size w w') (.returned (.int .u16 (m : Nat))) w') := fun m w' h hb => ⟨by rw [h, List.take_length]; rfl, hb⟩
  generalize (fun (e : Ending) (w' : World) => e = .returned (.int .u16 (wantS l (ca, ci) : Nat)) ∧ Below w.heap.size w w') = Q at R ⊢
  obtain ⟨n, en⟩ : ∃ n, n = l.length := ⟨_, rfl⟩
  rw [← en] at hn R ⊢
  have HA : Aside (AtC w a l ∧ n = l.length) := ⟨hl, en⟩
  clear hl en
  unfold chV
  obtain ⟨V, hV⟩ : ∃ V, V = w.alloc (.cells #[.bool ca, .int .u8 (ci : Int)] 42) := ⟨_, rfl⟩
  have XV : Aside (P2 V w.heap.size 42 (.bool ca) (.int .u8 (ci : Int)) ∧ Below w.heap.size w V) := by rw [hV]; exact ⟨P2.new w _ _ _, below_one w _⟩
  go_enter Try.func34, Try.ntmps34
  go_wp2_with fail
  rw [← hV]
  clear hV
  go_loopw [5, 10] (fun s5 i wr => ∃ k m : Nat, k ≤ n ∧ i = .int .i64 (k : Nat) ∧ s5 = .int .u16 (m : Nat) ∧ m < 65536 ∧ Aside (m = wantT (ca, ci) 0 (l.take k)) ∧ Aside (Below V.heap.size V wr)) (fun _ i _ => n - (intOf i).toNat)
  case atStart => exact ⟨0, 0, Nat.zero_le _, rfl, rfl, by decide, rfl, Below.refl _ _⟩
  case round =>
    obtain ⟨k, m, hk, rfl, rfl, hm, HM, HB⟩ := hrel
    by_cases hlt : k < n
    · have t1 : (k : Int) < (n : Int) := by omega
      have t0 : (0 : Int) ≤ (k : Int) := by omega
      obtain ⟨e, hke⟩ : ∃ e, l[k]? = some e := ⟨_, List.getElem?_eq_getElem (by have := HA.out.2; omega)⟩
      obtain ⟨b, off, rfl, y0, y1, y2⟩ := AtC.get (HA.out.1.later (below_step XV.out.2 HB.out)) hke
      obtain ⟨f, p, q⟩ := e
      have ST : Aside (wantT (ca, ci) 0 (l.take (k + 1)) = if (p, q) = (ca, ci) then withS m f else m) := by
        show _ = _
        have := wantT_take (ca, ci) hke; dsimp only at this; rw [this, ← HM.out]
      clear hke
      dsimp only at y0 y1 y2
      have q1 := fun W => eql42 p ca q ci W
      have g1 := fun x y xs ys W => eql42_guard x y xs ys W
      have C51 : Aside (∀ W : World, Calls Try.prog 51 #[.int .u16 (m : Nat), .int .u8 (f : Int)] W fun e w' => e = .returned (.int .u16 (withS m f : Nat)) ∧ w' = W) := fun W => with_any m f W hm
      have WS : Aside (withS m f < 65536) := with_small hm
      have PX := (XV.out.1.later HB.out)
      obtain ⟨c0, c1⟩ := (PX.alloc (.cells #[.int .u8 (f : Int), .bool p, .int .u8 (q : Int)] 44)).cells
      obtain ⟨d0, d1, d2⟩ := (X3.new wr 44 (.int .u8 (f : Int)) (.bool p) (.int .u8 (q : Int))).cells
      have BN : Aside (Below V.heap.size V (wr.alloc (.cells #[.int .u8 (f : Int), .bool p, .int .u8 (q : Int)] 44))) := HB.out.alloc HB.out.size _
      clear PX
      by_cases hc : p = ca ∧ q = ci
      · rw [decide_eq_true hc] at q1
        have S2 : Aside (wantT (ca, ci) 0 (l.take (k + 1)) = withS m f) := by show _ = _; rw [ST.out, if_pos (by rw [hc.1, hc.2])]
        clear hc ST
        go_wp2_with (go_at_call 51; refine (C51.out _).mono ?_; rintro e w' ⟨rfl, rfl⟩)
        go_roundw
        case rel => exact ⟨k + 1, withS m f, by omega, by go_num, rfl, WS.out, S2.out.symm, BN.out⟩
        case measure => simp [intOf]; omega
      · rw [decide_eq_false hc] at q1
        have S2 : Aside (wantT (ca, ci) 0 (l.take (k + 1)) = m) := by show _ = _; rw [ST.out, if_neg (fun h => hc (by cases h; exact ⟨rfl, rfl⟩))]
        clear hc ST
        go_wp2_with fail
        go_roundw
        case rel => exact ⟨k + 1, m, by omega, by go_num, rfl, hm, S2.out.symm, BN.out⟩
        case measure => simp [intOf]; omega
    · obtain rfl : k = n := by omega
      have Q1 : Aside _ := R.out m wr HM.out (below_step XV.out.2 HB.out)
      clear R
      go_wp2_with fail
      exact Q1.out

set_option maxHeartbeats 2000000 in
set_option maxRecDepth 100000 in
/-- What For gives. -/
theorem for_any (v : Int) (s : Nat) (a : Option Addr) (c : Nat) (l : List Ct) (ca : Bool) (ci : Nat) (w : World) (hl : AtC w a l) (hs : s < 65536) (hn : l.length ≤ 1000) :
    Calls Try.prog 17 #[boxV v s (.slice a l.length c), chV ca ci] w fun e w' => e = .returned (.int .u16 (forS v s l (ca, ci) : Nat)) ∧ Below w.heap.size w w' := by
  obtain ⟨V, hV⟩ : ∃ V, V = (w.alloc (.cells #[.int .i64 v, .int .u16 (s : Int), .slice a l.length c] 37)).alloc (.cells #[.bool ca, .int .u8 (ci : Int)] 42) := ⟨_, rfl⟩
  have X : Aside (X3 V w.heap.size 37 (.int .i64 v) (.int .u16 (s : Int)) (.slice a l.length c) ∧ P2 V (w.heap.size + 1) 42 (.bool ca) (.int .u8 (ci : Int)) ∧ Below w.heap.size w V) := by
    rw [hV]; exact ⟨(X3.new w _ _ _ _).alloc _, P2.new1 w _ _ _ _, (below_one w _).alloc (by simp) _⟩
  have C25 : Aside (∀ W, Below w.heap.size w W → Calls Try.prog 25 #[.agg #[.int .i64 v, .int .u16 (s : Int), .slice a l.length c]] W fun e w' => e = .returned (.bool (rightY v s l)) ∧ Below W.heap.size W w') := fun W hb => bright_any v s a c l W (hl.later hb) hs hn
  have C34 : Aside (∀ W, Below w.heap.size w W → Calls Try.prog 34 #[.slice a l.length c, .agg #[.bool ca, .int .u8 (ci : Int)]] W fun e w' => e = .returned (.int .u16 (wantS l (ca, ci) : Nat)) ∧ Below W.heap.size W w') := fun W hb => want_any a c l ca ci W (hl.later hb) hn
  clear hl
  unfold boxV chV
  by_cases hr : RightX v s l
  · rw [rightY_true hr] at C25
    have E : forS v s l (ca, ci) = wantS l (ca, ci) := by unfold forS; rw [if_pos hr]
    rw [E]
    clear E hr
    generalize l.length = n at *
    generalize wantS l (ca, ci) = m at C34 ⊢
    go_enter Try.func17, Try.ntmps17
    go_wp2_with fail
    rw [← hV]
    clear hV
    obtain ⟨x0, x1, x2⟩ := X.out.1.cells
    obtain ⟨y0, y1⟩ := X.out.2.1.cells
    go_wp2_with (first
      | (go_at_call 25; refine (C25.out _ X.out.2.2).mono ?_; rintro e w1 ⟨rfl, hb⟩; have Y : Aside (X3 w1 w.heap.size 37 (.int .i64 v) (.int .u16 (s : Int)) (.slice a n c) ∧ P2 w1 (w.heap.size + 1) 42 (.bool ca) (.int .u8 (ci : Int)) ∧ Below w.heap.size w w1) := ⟨X.out.1.later hb, X.out.2.1.later hb, below_step X.out.2.2 hb⟩; clear hb x0 x1 x2 y0 y1; obtain ⟨x0, x1, x2⟩ := Y.out.1.cells; obtain ⟨y0, y1⟩ := Y.out.2.1.cells)
      | (go_at_call 34; refine (C34.out _ Y.out.2.2).mono ?_; rintro e w2 ⟨rfl, hb⟩; have B2 : Aside (Below w.heap.size w w2) := below_step Y.out.2.2 hb; clear hb)
      | fail)
    go_ret
    exact ⟨rfl, B2.out⟩
  · rw [rightY_false hr] at C25
    have E : forS v s l (ca, ci) = 0 := by unfold forS; rw [if_neg hr]
    rw [E]
    clear E hr C34
    generalize l.length = n at *
    go_enter Try.func17, Try.ntmps17
    go_wp2_with fail
    rw [← hV]
    clear hV
    obtain ⟨x0, x1, x2⟩ := X.out.1.cells
    go_wp2_with (first
      | (go_at_call 25; refine (C25.out _ X.out.2.2).mono ?_; rintro e w1 ⟨rfl, hb⟩; have B2 : Aside (Below w.heap.size w w1) := below_step X.out.2.2 hb; clear hb x0 x1 x2)
      | fail)
    go_ret
    exact ⟨rfl, B2.out⟩

theorem results_one {P : Program} {fn : Func} {tmps : Array Value} {w : World} {a : Tmp} {t k b : Nat} {arr : Array Value} (h : fn.results = #[.cell a t]) (hp : tmps.getD a undef = .pointer (some ⟨b, 0, none⟩))
    (aE : (isAgg t).run P w = .ok true w) (zE : (Go.sizeOf t).run P w = .ok k w) (hl : Sem.run P (loadCellsFrom ⟨b, 0, none⟩ 0 k #[]) w = .ok arr w) : (results fn tmps).run P w = .ok (.agg arr) w := by
  have e : (loadVar t ⟨b, 0, none⟩).run P w = .ok (.agg arr) w := by simp [loadVar, aE, zE, loadCells, hl]
  generalize (⟨b, 0, none⟩ : Addr) = q at *
  have hp2 : tmps[a]?.getD undef = .pointer (some q) := by simpa using hp
  simp [results, h, hp2, asAddr, e]
set_option maxHeartbeats 2000000 in
set_option maxRecDepth 100000 in
/-- What theirs gives. -/
theorem theirs_any (z : Ct) (w : World) : Calls Try.prog 11 #[castV z] w fun e w' => e = .returned (castV z) ∧ Below w.heap.size w w' := by
  obtain ⟨f, p, q⟩ := z
  unfold castV
  dsimp only
  have B : Aside (Below w.heap.size w ((w.alloc (.cells #[.int .u8 (f : Int), .bool p, .int .u8 (q : Int)] 32)).alloc (.cells #[.int .u8 (f : Int), .bool p, .int .u8 (q : Int)] 44))) := (below_one w _).alloc (by simp) _
  go_enter Try.func11, Try.ntmps11
  go_wp2_with fail
  exact bodyPost_ret (results_one rfl rfl (Try.isAgg44 _) (Try.sizeOf44 _) (load_three (X3.new1 w _ 44 _ _ _))) rfl ⟨rfl, B.out⟩
end Go.Proofs.Ytfjdopmjcddnlaa
