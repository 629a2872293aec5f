/- Who wants a change, and which one is chosen: what the document's For and Chosen give. -/
import Derived.Test.YtfjdopmjcddnlaaBtR
set_option linter.unusedVariables false
namespace Go.Proofs.Ytfjdopmjcddnlaa
open Go.RowKit Cn Rl Bt

set_option maxHeartbeats 8000000 in
set_option maxRecDepth 100000 in
/-- What the document's For gives. -/
theorem rfor_any (v : Int) (s : Nat) (a : Option Addr) (c : Nat) (l : List Ct) (ca : Bool) (ci : Nat) (w : World) (hl : AtC w a l) (hs : s < 65536) (hn : l.length ≤ 1000) (h8 : ∀ z ∈ l, z.1 < 256 ∧ z.2.2 < 256) :
    Calls Try.prog 18 #[boxV v s (.slice a l.length c), chV ca ci] w fun e w' => e = .returned (.int .u16 (forS v s l (ca, ci) : Nat)) ∧ Below w.heap.size w w' := by
  have R : Aside (∀ m w', m = forS v s l (ca, ci) → Below w.heap.size w w' → (fun (e : Ending) (w' : World) => e = .returned (.int .u16 (forS v s l (ca, ci) : Nat)) ∧ Below w.heap.size w w') (.returned (.int .u16 (m : Nat))) w') := fun m w' h hb => ⟨by rw [h], hb⟩
  generalize (fun (e : Ending) (w' : World) => e = .returned (.int .u16 (forS v s l (ca, ci) : Nat)) ∧ Below w.heap.size w w') = Q at R ⊢
  obtain ⟨n, en⟩ : ∃ n, n = l.length := ⟨_, rfl⟩
  have C30 : Aside (∀ W, Below w.heap.size w W → Calls Try.prog 30 #[.agg #[.int .i64 v, .int .u16 (s : Int), .slice a n c]] W fun e w' => e = .returned (.bool (rightY v s l)) ∧ Below W.heap.size W w') := fun W hb => by rw [en]; exact rbright_any v s a c l W (hl.later hb) hs hn h8
  rw [← en] at hn ⊢
  have HA : Aside (AtC w a l ∧ n = l.length ∧ ∀ z ∈ l, z.1 < 256) := ⟨hl, en, fun z hz => (h8 z hz).1⟩
  clear hl en h8
  obtain ⟨V0, hV⟩ : ∃ V, V = (w.alloc (.cells #[.int .i64 v, .int .u16 (s : Int), .slice a n c] 28)).alloc (.cells #[.bool ca, .int .u8 (ci : Int)] 30) := ⟨_, rfl⟩
  have X : Aside (X3 V0 w.heap.size 28 (.int .i64 v) (.int .u16 (s : Int)) (.slice a n c) ∧ P2 V0 (w.heap.size + 1) 30 (.bool ca) (.int .u8 (ci : Int)) ∧ Below w.heap.size w V0) := by
    rw [hV]; exact ⟨(X3.new w _ _ _ _).alloc _, P2.new1 w _ _ _ _, (below_one w _).alloc (by simp) _⟩
  unfold boxV chV
  by_cases hr : RightX v s l
  · rw [rightY_true hr] at C30
    have RW : Aside (forS v s l (ca, ci) = wantT (ca, ci) 0 (l.take n)) := by
      show _ = _
      unfold forS; rw [if_pos hr, List.take_of_length_le (Nat.le_of_eq HA.out.2.1.symm)]; rfl
    clear hr
    go_enter Try.func18, Try.ntmps18
    go_wp2_with fail
    rw [← hV]
    clear hV
    obtain ⟨x0, x1, x2⟩ := X.out.1.cells
    go_wp2_with (first
      | (go_at_call 30; refine (C30.out _ X.out.2.2).mono ?_; rintro e V ⟨rfl, hb⟩; have XV : Aside (X3 V w.heap.size 28 (.int .i64 v) (.int .u16 (s : Int)) (.slice a n c) ∧ P2 V (w.heap.size + 1) 30 (.bool ca) (.int .u8 (ci : Int)) ∧ Below w.heap.size w V) := ⟨X.out.1.later hb, X.out.2.1.later hb, below_step X.out.2.2 hb⟩; clear hb x0 x1 x2 X C30)
      | fail)
    go_loopw [5, 6] (fun s5 i wr => ∃ k m : Nat, k ≤ n ∧ i = .int .i64 (k : Nat) ∧ s5 = .int .u16 (m : Nat) ∧ m < 65536 ∧ Aside (m = wantT (ca, ci) 0 (l.take k)) ∧ Aside (Drew V wr)) (fun _ i _ => n - (intOf i).toNat)
    case atStart => exact ⟨0, 0, Nat.zero_le _, rfl, rfl, by decide, rfl, 0, rfl⟩
    case round =>
      obtain ⟨k, m, hk, rfl, rfl, hm, HM, HD⟩ := hrel
      have HB : Aside (Below V.heap.size V wr) := drew_below HD.out
      obtain ⟨x0, x1, x2⟩ := (XV.out.1.later HB.out).cells
      obtain ⟨c0, c1⟩ := (XV.out.2.1.later HB.out).cells
      by_cases hlt : k < n
      · have t1 : (k : Int) < (n : Int) := by omega
        have t0 : (0 : Int) ≤ (k : Int) := by omega
        obtain ⟨e, hke⟩ : ∃ e, l[k]? = some e := ⟨_, List.getElem?_eq_getElem (by have := HA.out.2.1; omega)⟩
        have E8 : e.1 < 256 := HA.out.2.2 e (List.mem_of_getElem? hke)
        obtain ⟨b, off, rfl, y0, y1, y2⟩ := AtC.get (HA.out.1.later (below_step XV.out.2.2 HB.out)) hke
        obtain ⟨f, p, q⟩ := e
        have ST : Aside (wantT (ca, ci) 0 (l.take (k + 1)) = if (p, q) = (ca, ci) then withS m f else m) := by
          show _ = _
          have := wantT_take (ca, ci) hke; dsimp only at this; rw [this, ← HM.out]
        clear hke
        dsimp only at y0 y1 y2 E8
        have q1 := fun W => eql30 p ca q ci W
        have g1 := fun x y xs ys W => eql30_guard x y xs ys W
        have C35 : Aside (∀ W : World, Calls Try.prog 35 #[.int .u16 (m : Nat), .int .u8 (f : Int)] W fun e w' => e = .returned (.int .u16 (withS m f : Nat)) ∧ w' = W) := fun W => rwith_any m f W hm E8
        have WS : Aside (withS m f < 65536) := with_small hm
        have DN : Aside (∀ q, Drew V (wr.drewN q)) := fun q => drew_more HD.out q
        by_cases hc : p = ca ∧ q = ci
        · rw [decide_eq_true hc] at q1
          have S2 : Aside (wantT (ca, ci) 0 (l.take (k + 1)) = withS m f) := by show _ = _; rw [ST.out, if_pos (by rw [hc.1, hc.2])]
          clear hc ST
          go_wp2_with fail
          go_quiet (fail)
          go_wp2_with (go_at_call 35; refine (C35.out _).mono ?_; rintro e w' ⟨rfl, rfl⟩)
          go_roundw
          case rel => exact ⟨k + 1, withS m f, by omega, by go_num, rfl, WS.out, S2.out.symm, DN.out _⟩
          case measure => simp [intOf]; omega
        · rw [decide_eq_false hc] at q1
          have S2 : Aside (wantT (ca, ci) 0 (l.take (k + 1)) = m) := by show _ = _; rw [ST.out, if_neg (fun h => hc (by cases h; exact ⟨rfl, rfl⟩))]
          clear hc ST
          go_wp2_with fail
          go_quiet (fail)
          go_wp2_with fail
          go_roundw
          case rel => exact ⟨k + 1, m, by omega, by go_num, rfl, hm, S2.out.symm, DN.out _⟩
          case measure => simp [intOf]; omega
      · obtain rfl : k = n := by omega
        have Q1 : Aside _ := R.out m wr (HM.out.trans RW.out.symm) (below_step XV.out.2.2 HB.out)
        clear R
        go_wp2_with fail
        exact Q1.out
  · rw [rightY_false hr] at C30
    have Q1 : Aside (∀ w', Below w.heap.size w w' → Q (.returned (.int .u16 ((0 : Nat) : Int))) w') := fun w' hb => R.out 0 w' (by unfold forS; rw [if_neg hr]) hb
    clear R hr
    go_enter Try.func18, Try.ntmps18
    go_wp2_with fail
    rw [← hV]
    clear hV
    obtain ⟨x0, x1, x2⟩ := X.out.1.cells
    go_wp2_with (first
      | (go_at_call 30; refine (C30.out _ X.out.2.2).mono ?_; rintro e V ⟨rfl, hb⟩; have Q2 : Aside _ := Q1.out V (below_step X.out.2.2 hb); clear hb x0 x1 x2)
      | fail)
    exact Q2.out

set_option maxHeartbeats 8000000 in
set_option maxRecDepth 100000 in
/-- What the document's Chosen gives. -/
theorem rchosen_any (v : Int) (s : Nat) (a : Option Addr) (c : Nat) (l : List Ct) (w : World) (hl : AtC w a l) (hs : s < 65536) (hn : l.length ≤ 1000) (h8 : ∀ z ∈ l, z.1 < 256 ∧ z.2.2 < 256) :
    Calls Try.prog 14 #[boxV v s (.slice a l.length c)] w fun e w' => e = .returned (.tuple #[chV (chA (chosen v s l)) (chI (chosen v s l)), .bool (chB (chosen v s l))]) ∧ Below w.heap.size w w' := by
  have RT : Aside (∀ x w', chosen v s l = some x → Below w.heap.size w w' → (fun (e : Ending) (w' : World) => e = .returned (.tuple #[chV (chA (chosen v s l)) (chI (chosen v s l)), .bool (chB (chosen v s l))]) ∧ Below w.heap.size w w') (.returned (.tuple #[chV x.1 x.2, .bool true])) w') := fun x w' h hb => ⟨by rw [h]; rfl, hb⟩
  have RF : Aside (∀ w', chosen v s l = none → Below w.heap.size w w' → (fun (e : Ending) (w' : World) => e = .returned (.tuple #[chV (chA (chosen v s l)) (chI (chosen v s l)), .bool (chB (chosen v s l))]) ∧ Below w.heap.size w w') (.returned (.tuple #[chV false 0, .bool false])) w') := fun w' h hb => ⟨by rw [h]; rfl, hb⟩
  generalize (fun (e : Ending) (w' : World) => e = .returned (.tuple #[chV (chA (chosen v s l)) (chI (chosen v s l)), .bool (chB (chosen v s l))]) ∧ Below w.heap.size w w') = Q at RT RF ⊢
  obtain ⟨n, en⟩ : ∃ n, n = l.length := ⟨_, rfl⟩
  have C30 : Aside (∀ W, Below w.heap.size w W → Calls Try.prog 30 #[.agg #[.int .i64 v, .int .u16 (s : Int), .slice a n c]] W fun e w' => e = .returned (.bool (rightY v s l)) ∧ Below W.heap.size W w') := fun W hb => by rw [en]; exact rbright_any v s a c l W (hl.later hb) hs hn h8
  have C18 : Aside (∀ W (e : Ct), Below w.heap.size w W → Calls Try.prog 18 #[.agg #[.int .i64 v, .int .u16 (s : Int), .slice a n c], .agg #[.bool e.2.1, .int .u8 (e.2.2 : Int)]] W fun z w' => z = .returned (.int .u16 (forS v s l e.2 : Nat)) ∧ Below W.heap.size W w') := fun W e hb => by rw [en]; exact rfor_any v s a c l e.2.1 e.2.2 W (hl.later hb) hs hn h8
  have C19 : Aside (∀ (t : Nat) W, t < 65536 → Calls Try.prog 19 #[.int .u16 (t : Nat)] W fun e w' => e = .returned (.int .i64 (sizeS t : Nat)) ∧ Below W.heap.size W w') := fun t W ht => rsize_any t W ht
  have C21 : Aside (∀ (m : Nat) W, Calls Try.prog 21 #[.int .i64 (m : Nat)] W fun e w' => e = .returned (.int .i64 (echoes (m : Nat) : Nat)) ∧ w' = W) := fun m W => rechoes_any m W
  rw [← en] at hn ⊢
  have HA : Aside (AtC w a l ∧ n = l.length) := ⟨hl, en⟩
  clear hl en h8
  obtain ⟨V0, hV⟩ : ∃ V, V = (w.alloc (.cells #[.int .i64 v, .int .u16 (s : Int), .slice a n c] 28)).alloc (.cells #[.bool false, .int .u8 0] 30) := ⟨_, rfl⟩
  have X : Aside (X3 V0 w.heap.size 28 (.int .i64 v) (.int .u16 (s : Int)) (.slice a n c) ∧ P2 V0 (w.heap.size + 1) 30 (.bool false) (.int .u8 0) ∧ Below w.heap.size w V0) := by
    rw [hV]; exact ⟨(X3.new w _ _ _ _).alloc _, P2.new1 w _ _ _ _, (below_one w _).alloc (by simp) _⟩
  unfold boxV
  go_enter Try.func14, Try.ntmps14
  go_wp2_with fail
  rw [← hV]
  clear hV
  obtain ⟨x0, x1, x2⟩ := X.out.1.cells
  go_wp2_with (first
    | (go_at_call 19; refine (C19.out s _ hs).mono ?_; rintro e V ⟨rfl, hb⟩; have XV : Aside (X3 V w.heap.size 28 (.int .i64 v) (.int .u16 (s : Int)) (.slice a n c) ∧ P2 V (w.heap.size + 1) 30 (.bool false) (.int .u8 0) ∧ Below w.heap.size w V) := ⟨X.out.1.later hb, X.out.2.1.later hb, below_step X.out.2.2 hb⟩; clear hb x0 x1 x2 X)
    | fail)
  obtain ⟨sz, hsz⟩ : ∃ sz, sz = sizeS s := ⟨_, rfl⟩
  rw [← hsz]
  have E21 : Aside (∀ W, Calls Try.prog 21 #[.int .i64 (sz : Nat)] W fun e w' => e = .returned (.int .i64 (echoes (sz : Nat) : Nat)) ∧ w' = W) := fun W => C21.out sz W
  obtain ⟨ec, hec⟩ : ∃ ec, ec = echoes (sz : Nat) := ⟨_, rfl⟩
  rw [← hec] at E21
  have EN : Aside (∀ e : Ct, enough s l e.2 = decide (ec ≤ sizeS (wantS l e.2))) := fun e => by rw [hec, hsz]; rfl
  clear hec hsz C21
  go_loopw [5] (fun i wr => ∃ k : Nat, k ≤ n ∧ i = .int .i64 (k : Nat) ∧ Aside (RightX v s l → ∀ c ∈ l.take k, enough s l c.2 = false) ∧ Aside (Below V.heap.size V wr)) (fun i _ => n - (intOf i).toNat)
  case atStart => exact ⟨0, Nat.zero_le _, rfl, (fun _ c hc => by simp at hc), Below.refl _ _⟩
  case round =>
    obtain ⟨k, hk, rfl, HM, HB⟩ := hrel
    obtain ⟨x0, x1, x2⟩ := (XV.out.1.later HB.out).cells
    obtain ⟨z0, z1⟩ := (XV.out.2.1.later HB.out).cells
    have f0 := (XV.out.2.1.later HB.out).frozen 0; have f1 := (XV.out.2.1.later HB.out).frozen 1
    by_cases hlt : k < n
    · have t1 : (k : Int) < (n : Int) := by omega
      have t0 : (0 : Int) ≤ (k : Int) := by omega
      by_cases hr : RightX v s l
      · rw [rightY_true hr] at C30
        obtain ⟨e, hke⟩ : ∃ e, l[k]? = some e := ⟨_, List.getElem?_eq_getElem (by have := HA.out.2; omega)⟩
        obtain ⟨b, off, rfl, y0, y1, y2⟩ := AtC.get (HA.out.1.later (below_step XV.out.2.2 HB.out)) hke
        have KE : Aside (l[k]? = some e ∧ RightX v s l) := ⟨hke, hr⟩
        clear hke hr
        have WS : Aside (forS v s l e.2 < 65536) := for_small _ _ _ _
        have N1 : Aside (enough s l e.2 = false → ∀ c ∈ l.take (k + 1), enough s l c.2 = false) := fun h c hc => by
          rw [List.take_add_one, KE.out.1] at hc
          rcases List.mem_append.1 hc with hc | hc
          · exact HM.out KE.out.2 c hc
          · have : c = e := by simpa using hc
            rw [this]; exact h
        have D18 : Aside (∀ W, Below w.heap.size w W → _) := fun W hb => C18.out W e hb
        have E1 : enough s l e.2 = decide (ec ≤ sizeS (forS v s l e.2)) := by unfold forS; rw [if_pos KE.out.2]; exact EN.out e
        generalize hbo : enough s l e.2 = bo at N1 E1
        have OB : Aside (enough s l e.2 = bo) := hbo
        clear hbo
        generalize forS v s l e.2 = ws at D18 WS E1
        have sw : Aside (∀ W : World, Calls Try.prog 19 #[.int .u16 (ws : Nat)] W fun e w' => e = .returned (.int .i64 (sizeS ws : Nat)) ∧ Below W.heap.size W w') := fun W => C19.out ws W WS.out
        generalize sizeS ws = z at sw E1
        have PB : Aside (Below w.heap.size w wr) := below_step XV.out.2.2 HB.out
        cases bo with
        | true =>
          have ge : (ec : Int) ≤ (z : Int) := by have := of_decide_eq_true E1.symm; omega
          have Q1 : Aside (∀ w', Below w.heap.size w w' → Q (.returned (.tuple #[chV e.2.1 e.2.2, .bool true])) w') := fun w' hb => RT.out e.2 w' (chosen_at KE.out.2 (HM.out KE.out.2) KE.out.1 OB.out) hb
          clear RT RF E1
          go_wp2_with (first
            | (go_at_call 30; refine (C30.out _ PB.out).mono ?_; rintro e' w1 ⟨rfl, hb⟩; have P1 : Aside (X3 (w1.alloc (.cells #[.bool e.2.1, .int .u8 (e.2.2 : Int)] 30)) w.heap.size 28 (.int .i64 v) (.int .u16 (s : Int)) (.slice (some ⟨b, off, none⟩) n c) ∧ P2 (w1.alloc (.cells #[.bool e.2.1, .int .u8 (e.2.2 : Int)] 30)) (w.heap.size + 1) 30 (.bool false) (.int .u8 0) ∧ Below V.heap.size V (w1.alloc (.cells #[.bool e.2.1, .int .u8 (e.2.2 : Int)] 30)) ∧ P2 (w1.alloc (.cells #[.bool e.2.1, .int .u8 (e.2.2 : Int)] 30)) w1.heap.size 30 (.bool e.2.1) (.int .u8 (e.2.2 : Int))) := ⟨((XV.out.1.later HB.out).later hb).alloc _, ((XV.out.2.1.later HB.out).later hb).alloc _, (below_step HB.out hb).alloc (below_step HB.out hb).size _, P2.new _ _ _ _⟩; have ya := cell_later hb y0; have yb := cell_later hb y1; have yc := cell_later hb y2; have xa := cell_later hb x0; have xb := cell_later hb x1; have xc := cell_later hb x2; clear hb x0 x1 x2 y0 y1 y2 z0 z1 f0 f1; obtain ⟨x0, x1, x2⟩ := P1.out.1.cells; obtain ⟨d0, d1⟩ := P1.out.2.2.2.cells)
            | (go_at_call 18; refine (D18.out _ (below_step XV.out.2.2 P1.out.2.2.1)).mono ?_; rintro e' w2 ⟨rfl, hb⟩; have P2' : Aside (X3 w2 w.heap.size 28 (.int .i64 v) (.int .u16 (s : Int)) (.slice (some ⟨b, off, none⟩) n c) ∧ P2 w2 (w.heap.size + 1) 30 (.bool false) (.int .u8 0) ∧ Below V.heap.size V w2 ∧ P2 w2 w1.heap.size 30 (.bool e.2.1) (.int .u8 (e.2.2 : Int))) := ⟨P1.out.1.later hb, P1.out.2.1.later hb, below_step P1.out.2.2.1 hb, P1.out.2.2.2.later hb⟩; clear hb x0 x1 x2 d0 d1 ya yb yc xa xb xc)
            | (go_at_call 19; refine (sw.out _).mono ?_; rintro e' w4 ⟨rfl, hb⟩; have P4 : Aside (Below V.heap.size V w4) := below_step P2'.out.2.2.1 hb; have P3 : Aside (P2 w4 w1.heap.size 30 (.bool e.2.1) (.int .u8 (e.2.2 : Int)) ∧ P2 w4 (w.heap.size + 1) 30 (.bool false) (.int .u8 0) ∧ Below w.heap.size w w4) := ⟨P2'.out.2.2.2.later hb, P2'.out.2.1.later hb, below_step XV.out.2.2 P4.out⟩; clear hb P2'; obtain ⟨d0, d1⟩ := P3.out.1.cells; obtain ⟨z0, z1⟩ := P3.out.2.1.cells; have f0 := P3.out.2.1.frozen 0; have f1 := P3.out.2.1.frozen 1)
            | (go_at_call 21; refine (E21.out _).mono ?_; rintro e' w5 ⟨rfl, hw⟩; replace hw := hw.symm; subst hw)
            | fail)
          exact bodyPost_ret (results_cell2 rfl rfl (Try.isAgg30 _) (Try.sizeOf30 _) (load_two (P3.out.2.1.put _ _))) rfl (Q1.out _ (below_put P3.out.2.2 (by omega) _ _))
        | false =>
          have ge : ¬ (ec : Int) ≤ (z : Int) := by have := of_decide_eq_false E1.symm; omega
          have NX : Aside (RightX v s l → ∀ c ∈ l.take (k + 1), enough s l c.2 = false) := fun _ => N1.out rfl
          clear RT RF E1
          go_wp2_with (first
            | (go_at_call 30; refine (C30.out _ PB.out).mono ?_; rintro e' w1 ⟨rfl, hb⟩; have P1 : Aside (X3 (w1.alloc (.cells #[.bool e.2.1, .int .u8 (e.2.2 : Int)] 30)) w.heap.size 28 (.int .i64 v) (.int .u16 (s : Int)) (.slice (some ⟨b, off, none⟩) n c) ∧ P2 (w1.alloc (.cells #[.bool e.2.1, .int .u8 (e.2.2 : Int)] 30)) (w.heap.size + 1) 30 (.bool false) (.int .u8 0) ∧ Below V.heap.size V (w1.alloc (.cells #[.bool e.2.1, .int .u8 (e.2.2 : Int)] 30)) ∧ P2 (w1.alloc (.cells #[.bool e.2.1, .int .u8 (e.2.2 : Int)] 30)) w1.heap.size 30 (.bool e.2.1) (.int .u8 (e.2.2 : Int))) := ⟨((XV.out.1.later HB.out).later hb).alloc _, ((XV.out.2.1.later HB.out).later hb).alloc _, (below_step HB.out hb).alloc (below_step HB.out hb).size _, P2.new _ _ _ _⟩; have ya := cell_later hb y0; have yb := cell_later hb y1; have yc := cell_later hb y2; have xa := cell_later hb x0; have xb := cell_later hb x1; have xc := cell_later hb x2; clear hb x0 x1 x2 y0 y1 y2 z0 z1 f0 f1; obtain ⟨x0, x1, x2⟩ := P1.out.1.cells; obtain ⟨d0, d1⟩ := P1.out.2.2.2.cells)
            | (go_at_call 18; refine (D18.out _ (below_step XV.out.2.2 P1.out.2.2.1)).mono ?_; rintro e' w2 ⟨rfl, hb⟩; have P2' : Aside (X3 w2 w.heap.size 28 (.int .i64 v) (.int .u16 (s : Int)) (.slice (some ⟨b, off, none⟩) n c) ∧ P2 w2 (w.heap.size + 1) 30 (.bool false) (.int .u8 0) ∧ Below V.heap.size V w2 ∧ P2 w2 w1.heap.size 30 (.bool e.2.1) (.int .u8 (e.2.2 : Int))) := ⟨P1.out.1.later hb, P1.out.2.1.later hb, below_step P1.out.2.2.1 hb, P1.out.2.2.2.later hb⟩; clear hb x0 x1 x2 d0 d1 ya yb yc xa xb xc)
            | (go_at_call 19; refine (sw.out _).mono ?_; rintro e' w4 ⟨rfl, hb⟩; have P4 : Aside (Below V.heap.size V w4) := below_step P2'.out.2.2.1 hb; have P3 : Aside (P2 w4 w1.heap.size 30 (.bool e.2.1) (.int .u8 (e.2.2 : Int)) ∧ P2 w4 (w.heap.size + 1) 30 (.bool false) (.int .u8 0) ∧ Below w.heap.size w w4) := ⟨P2'.out.2.2.2.later hb, P2'.out.2.1.later hb, below_step XV.out.2.2 P4.out⟩; clear hb P2'; obtain ⟨d0, d1⟩ := P3.out.1.cells; obtain ⟨z0, z1⟩ := P3.out.2.1.cells; have f0 := P3.out.2.1.frozen 0; have f1 := P3.out.2.1.frozen 1)
            | (go_at_call 21; refine (E21.out _).mono ?_; rintro e' w5 ⟨rfl, hw⟩; replace hw := hw.symm; subst hw)
            | fail)
          have B4 : Aside (Below V.heap.size V w4) := P4.out
          go_roundw
          case rel => exact ⟨k + 1, by omega, by go_num, NX.out, B4.out⟩
          case measure => simp [intOf]; omega
      · rw [rightY_false hr] at C30
        have Q1 : Aside (∀ w', Below w.heap.size w w' → Q (.returned (.tuple #[chV false 0, .bool false])) w') := fun w' hb => RF.out w' (chosen_wrong hr) hb
        have PW : Aside (P2 wr (w.heap.size + 1) 30 (.bool false) (.int .u8 0) ∧ Below w.heap.size w wr) := ⟨XV.out.2.1.later HB.out, below_step XV.out.2.2 HB.out⟩
        clear RT RF hr C18 C19 HM
        go_wp2_with (first
          | (go_at_call 30; refine (C30.out _ PW.out.2).mono ?_; rintro e w1 ⟨rfl, hb⟩; have P3 : Aside (P2 w1 (w.heap.size + 1) 30 (.bool false) (.int .u8 0) ∧ Below w.heap.size w w1) := ⟨PW.out.1.later hb, below_step PW.out.2 hb⟩; clear hb x0 x1 x2 z0 z1 f0 f1; obtain ⟨z0, z1⟩ := P3.out.1.cells; have f0 := P3.out.1.frozen 0; have f1 := P3.out.1.frozen 1)
          | fail)
        exact bodyPost_ret (results_cell2 rfl rfl (Try.isAgg30 _) (Try.sizeOf30 _) (load_two (P3.out.1.put _ _))) rfl (Q1.out _ (below_put P3.out.2 (by omega) _ _))
    · obtain rfl : k = n := by omega
      have Q1 : Aside (∀ w', Below w.heap.size w w' → Q (.returned (.tuple #[chV false 0, .bool false])) w') := fun w' hb => RF.out w' (Classical.byCases (p := RightX v s l) (fun hr => chosen_none (by have := HA.out.2; omega) (HM.out hr)) (fun hr => chosen_wrong hr)) hb
      have P3 : Aside (P2 wr (w.heap.size + 1) 30 (.bool false) (.int .u8 0) ∧ Below w.heap.size w wr) := ⟨XV.out.2.1.later HB.out, below_step XV.out.2.2 HB.out⟩
      clear RT RF
      go_wp2_with fail
      exact bodyPost_ret (results_cell2 rfl rfl (Try.isAgg30 _) (Try.sizeOf30 _) (load_two (P3.out.1.put _ _))) rfl (Q1.out _ (below_put P3.out.2 (by omega) _ _))
end Go.Proofs.Ytfjdopmjcddnlaa
