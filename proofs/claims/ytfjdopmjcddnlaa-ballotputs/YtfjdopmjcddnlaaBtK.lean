/- Which change is chosen; alive answers true. -/
import Derived.Test.YtfjdopmjcddnlaaBtI
import Derived.Test.YtfjdopmjcddnlaaBtJ
set_option linter.unusedVariables false
namespace Go.Proofs.Ytfjdopmjcddnlaa
open Go.RowKit Cn Rl Bt

namespace Bt
theorem find_at {α : Type} {p : α → Bool} : ∀ {l : List α} {k : Nat} {e : α}, (∀ c ∈ l.take k, p c = false) → l[k]? = some e → p e = true → l.find? p = some e
  | [], k, e, _, h, _ => by simp at h
  | a :: l, 0, e, _, h, hp => by simp at h; subst h; rw [List.find?_cons, hp]
  | a :: l, k + 1, e, h1, h, hp => by
    rw [List.take_succ_cons] at h1
    rw [List.find?_cons, h1 a (List.mem_cons.2 (.inl rfl))]
    exact find_at (fun c hc => h1 c (List.mem_cons.2 (.inr hc))) (by simpa using h) hp
def chA (o : Option (Bool × Nat)) : Bool := match o with | some x => x.1 | none => false
def chI (o : Option (Bool × Nat)) : Nat := match o with | some x => x.2 | none => 0
def chB (o : Option (Bool × Nat)) : Bool := match o with | some _ => true | none => false
theorem chosen_at {v : Int} {s k : Nat} {l : List Ct} {e : Ct} (hr : RightX v s l) (h1 : ∀ c ∈ l.take k, enough s l c.2 = false) (he : l[k]? = some e) (hp : enough s l e.2 = true) : chosen v s l = some e.2 := by
  unfold chosen
  rw [if_pos hr, find_at (p := fun c => enough s l c.2) h1 he hp]
  rfl
theorem chosen_none {v : Int} {s k : Nat} {l : List Ct} (hk : l.length ≤ k) (h1 : ∀ c ∈ l.take k, enough s l c.2 = false) : chosen v s l = none := by
  unfold chosen
  split
  · rw [List.take_of_length_le hk] at h1
    rw [List.find?_eq_none.2 (fun c hc => by rw [h1 c hc]; decide)]; rfl
  · rfl
theorem chosen_wrong {v : Int} {s : Nat} {l : List Ct} (h : ¬ RightX v s l) : chosen v s l = none := by unfold chosen; rw [if_neg h]
end Bt

set_option maxHeartbeats 4000000 in
set_option maxRecDepth 100000 in
/-- What Chosen gives. -/
theorem chosen_any (v : Int) (s : Nat) (a : Option Addr) (c : Nat) (l : List Ct) (w : World) (hl : AtC w a l) (hs : s < 65536) (hn : l.length ≤ 1000) :
    Calls Try.prog 13 #[boxV v s (.slice a l.length c)] w fun e w' => e = .returned (.tuple #[chV (chA (chosen v s l)) (chI (chosen v s l)), .bool (chB (chosen v s l))]) ∧ Below w.heap.size w w' := by
  have RT : Aside (∀ x w', chosen v s l = some x → Below w.heap.size w w' → (fun (e : Ending) (w' : World) => e = .returned (.tuple #[chV (chA (chosen v s l)) (chI (chosen v s l)), .bool (chB (chosen v s l))]) ∧ Below w.heap.size w w') (.returned (.tuple #[chV x.1 x.2, .bool true])) w') := fun x w' h hb => ⟨by rw [h]; rfl, hb⟩
  have RF : Aside (∀ w', chosen v s l = none → Below w.heap.size w w' → (fun (e : Ending) (w' : World) => e = .returned (.tuple #[chV (chA (chosen v s l)) (chI (chosen v s l)), .bool (chB (chosen v s l))]) ∧ Below w.heap.size w w') (.returned (.tuple #[chV false 0, .bool false])) w') := fun w' h hb => ⟨by rw [h]; rfl, hb⟩
  generalize (fun (e : Ending) (w' : World) => e = .returned (.tuple #[chV (chA (chosen v s l)) (chI (chosen v s l)), .bool (chB (chosen v s l))]) ∧ Below w.heap.size w w') = Q at RT RF ⊢
  obtain ⟨n, en⟩ : ∃ n, n = l.length := ⟨_, rfl⟩
  have C25 : Aside (∀ W, Below w.heap.size w W → Calls Try.prog 25 #[.agg #[.int .i64 v, .int .u16 (s : Int), .slice a n c]] W fun e w' => e = .returned (.bool (rightY v s l)) ∧ Below W.heap.size W w') := fun W hb => by rw [en]; exact bright_any v s a c l W (hl.later hb) hs hn
  have C34 : Aside (∀ W (e : Ct), Below w.heap.size w W → Calls Try.prog 34 #[.slice a n c, .agg #[.bool e.2.1, .int .u8 (e.2.2 : Int)]] W fun z w' => z = .returned (.int .u16 (wantS l e.2 : Nat)) ∧ Below W.heap.size W w') := fun W e hb => by rw [en]; exact want_any a c l e.2.1 e.2.2 W (hl.later hb) hn
  have C33 : Aside (∀ (t : Nat) W, t < 65536 → Calls Try.prog 33 #[.int .u16 (t : Nat)] W fun e w' => e = .returned (.int .i64 (sizeS t : Nat)) ∧ Below W.heap.size W w') := fun t W ht => (size_any t W ht).mono fun e w' ⟨h1, h2⟩ => ⟨h1, drew_below h2⟩
  have C32 : Aside (∀ (m : Nat) W, Calls Try.prog 32 #[.int .i64 (m : Nat)] W fun e w' => e = .returned (.int .i64 (echoes (m : Nat) : Nat)) ∧ w' = W) := fun m W => echoes_any m W
  rw [← en] at hn ⊢
  have HA : Aside (AtC w a l ∧ n = l.length) := ⟨hl, en⟩
  clear hl en
  obtain ⟨V, hV⟩ : ∃ V, V = (w.alloc (.cells #[.int .i64 v, .int .u16 (s : Int), .slice a n c] 37)).alloc (.cells #[.bool false, .int .u8 0] 42) := ⟨_, rfl⟩
  have X : Aside (X3 V w.heap.size 37 (.int .i64 v) (.int .u16 (s : Int)) (.slice a n c) ∧ P2 V (w.heap.size + 1) 42 (.bool false) (.int .u8 0) ∧ Below w.heap.size w V) := by
    rw [hV]; exact ⟨(X3.new w _ _ _ _).alloc _, P2.new1 w _ _ _ _, (below_one w _).alloc (by simp) _⟩
  unfold boxV
  by_cases hr : RightX v s l
  · rw [rightY_true hr] at C25
    have HR : Aside (RightX v s l) := hr
    clear hr
    go_enter Try.func13, Try.ntmps13
    go_wp2_with fail
    rw [← hV]
    clear hV
    obtain ⟨x0, x1, x2⟩ := X.out.1.cells
    go_wp2_with (first
      | (go_at_call 25; refine (C25.out _ X.out.2.2).mono ?_; rintro e w1 ⟨rfl, hb⟩; have Y : Aside (X3 w1 w.heap.size 37 (.int .i64 v) (.int .u16 (s : Int)) (.slice a n c) ∧ P2 w1 (w.heap.size + 1) 42 (.bool false) (.int .u8 0) ∧ Below w.heap.size w w1) := ⟨X.out.1.later hb, X.out.2.1.later hb, below_step X.out.2.2 hb⟩; clear hb x0 x1 x2 C25; obtain ⟨x0, x1, x2⟩ := Y.out.1.cells)
      | (go_at_call 33; refine (C33.out s _ hs).mono ?_; rintro e V1 ⟨rfl, hb⟩; have XV : Aside (X3 V1 w.heap.size 37 (.int .i64 v) (.int .u16 (s : Int)) (.slice a n c) ∧ P2 V1 (w.heap.size + 1) 42 (.bool false) (.int .u8 0) ∧ Below w.heap.size w V1) := ⟨Y.out.1.later hb, Y.out.2.1.later hb, below_step Y.out.2.2 hb⟩; clear hb x0 x1 x2 Y X; obtain ⟨x0, x1, x2⟩ := XV.out.1.cells)
      | (go_at_call 32; refine (C32.out (sizeS s) _).mono ?_; rintro e w' ⟨rfl, hw⟩; replace hw := hw.symm; subst hw)
      | fail)
    obtain ⟨en, hen⟩ : ∃ en, en = echoes (sizeS s : Nat) := ⟨_, rfl⟩
    rw [← hen]
    have EN : Aside (∀ e : Ct, enough s l e.2 = decide (en ≤ sizeS (wantS l e.2))) := fun e => by rw [hen]; rfl
    clear hen x0 x1 x2 C32
    go_loopw [19] (fun i wr => ∃ k : Nat, k ≤ n ∧ i = .int .i64 (k : Nat) ∧ Aside (∀ c ∈ l.take k, enough s l c.2 = false) ∧ Aside (Below V1.heap.size V1 wr)) (fun i _ => n - (intOf i).toNat)
    case atStart => exact ⟨0, Nat.zero_le _, rfl, (fun c hc => by simp at hc), Below.refl _ _⟩
    case round =>
      obtain ⟨k, hk, rfl, HM, HB⟩ := hrel
      by_cases hlt : k < n
      · have t1 : (k : Int) < (n : Int) := by omega
        have t0 : (0 : Int) ≤ (k : Int) := by omega
        obtain ⟨e, hke⟩ : ∃ e, l[k]? = some e := ⟨_, List.getElem?_eq_getElem (by have := HA.out.2; omega)⟩
        obtain ⟨b, off, rfl, y0, y1, y2⟩ := AtC.get (HA.out.1.later (below_step XV.out.2.2 HB.out)) hke
        have KE : Aside (l[k]? = some e) := hke
        clear hke
        have WS : Aside (wantS l e.2 < 65536) := want_small _ _
        have N1 : Aside (enough s l e.2 = false → ∀ c ∈ l.take (k + 1), enough s l c.2 = false) := fun h c hc => by
          rw [List.take_add_one, KE.out] at hc
          rcases List.mem_append.1 hc with hc | hc
          · exact HM.out c hc
          · have : c = e := by simpa using hc
            rw [this]; exact h
        have D34 : Aside (∀ W, Below w.heap.size w W → _) := fun W hb => C34.out W e hb
        have E1 := EN.out e
        generalize hbo : enough s l e.2 = bo at N1 E1
        have OB : Aside (enough s l e.2 = bo) := hbo
        clear hbo
        generalize wantS l e.2 = ws at D34 WS E1
        have sw : Aside (∀ W : World, Calls Try.prog 33 #[.int .u16 (ws : Nat)] W fun e w' => e = .returned (.int .i64 (sizeS ws : Nat)) ∧ Below W.heap.size W w') := fun W => C33.out ws W WS.out
        generalize sizeS ws = z at sw E1
        have PX : Aside (X3 (wr.alloc (.cells #[.int .u8 (e.1 : Int), .bool e.2.1, .int .u8 (e.2.2 : Int)] 44)) w.heap.size 37 (.int .i64 v) (.int .u16 (s : Int)) (.slice (some ⟨b, off, none⟩) n c) ∧ X3 (wr.alloc (.cells #[.int .u8 (e.1 : Int), .bool e.2.1, .int .u8 (e.2.2 : Int)] 44)) wr.heap.size 44 (.int .u8 (e.1 : Int)) (.bool e.2.1) (.int .u8 (e.2.2 : Int)) ∧ P2 (wr.alloc (.cells #[.int .u8 (e.1 : Int), .bool e.2.1, .int .u8 (e.2.2 : Int)] 44)) (w.heap.size + 1) 42 (.bool false) (.int .u8 0) ∧ Below V1.heap.size V1 (wr.alloc (.cells #[.int .u8 (e.1 : Int), .bool e.2.1, .int .u8 (e.2.2 : Int)] 44))) :=
          ⟨(XV.out.1.later HB.out).alloc _, X3.new _ _ _ _ _, (XV.out.2.1.later HB.out).alloc _, HB.out.alloc HB.out.size _⟩
        obtain ⟨x0, x1, x2⟩ := PX.out.1.cells
        obtain ⟨d0, d1, d2⟩ := PX.out.2.1.cells
        cases bo with
        | true =>
          have ge : (en : Int) ≤ (z : Int) := by have := of_decide_eq_true E1.symm; omega
          have Q1 : Aside (∀ w', Below w.heap.size w w' → Q (.returned (.tuple #[chV e.2.1 e.2.2, .bool true])) w') := fun w' hb => RT.out e.2 w' (chosen_at HR.out HM.out KE.out OB.out) hb
          clear RT RF E1
          go_wp2_with (first
            | (go_at_call 34; refine (D34.out _ (below_step XV.out.2.2 PX.out.2.2.2)).mono ?_; rintro e' w2 ⟨rfl, hb⟩; have P2' : Aside (X3 w2 wr.heap.size 44 (.int .u8 (e.1 : Int)) (.bool e.2.1) (.int .u8 (e.2.2 : Int)) ∧ P2 w2 (w.heap.size + 1) 42 (.bool false) (.int .u8 0) ∧ Below w.heap.size w w2) := ⟨PX.out.2.1.later hb, PX.out.2.2.1.later hb, below_step (below_step XV.out.2.2 PX.out.2.2.2) hb⟩; clear hb x0 x1 x2 y0 y1 y2 d0 d1 d2)
            | (go_at_call 33; refine (sw.out _).mono ?_; rintro e' w3 ⟨rfl, hb⟩; have P3 : Aside (X3 w3 wr.heap.size 44 (.int .u8 (e.1 : Int)) (.bool e.2.1) (.int .u8 (e.2.2 : Int)) ∧ P2 w3 (w.heap.size + 1) 42 (.bool false) (.int .u8 0) ∧ Below w.heap.size w w3) := ⟨P2'.out.1.later hb, P2'.out.2.1.later hb, below_step P2'.out.2.2 hb⟩; clear hb P2'; obtain ⟨y0, y1, y2⟩ := P3.out.1.cells; obtain ⟨z0, z1⟩ := P3.out.2.1.cells; have f0 := P3.out.2.1.frozen 0; have f1 := P3.out.2.1.frozen 1)
            | fail)
          exact bodyPost_ret (results_cell2 rfl rfl (Try.isAgg42 _) (Try.sizeOf42 _) (load_two (P3.out.2.1.put _ _))) rfl (Q1.out _ (below_put P3.out.2.2 (by omega) _ _))
        | false =>
          have ge : ¬ (en : Int) ≤ (z : Int) := by have := of_decide_eq_false E1.symm; omega
          have NX : Aside (∀ c ∈ l.take (k + 1), enough s l c.2 = false) := N1.out rfl
          clear RT RF E1
          go_wp2_with (first
            | (go_at_call 34; refine (D34.out _ (below_step XV.out.2.2 PX.out.2.2.2)).mono ?_; rintro e' w2 ⟨rfl, hb⟩; have P2' : Aside (Below V1.heap.size V1 w2) := below_step PX.out.2.2.2 hb; clear hb x0 x1 x2 y0 y1 y2 d0 d1 d2)
            | (go_at_call 33; refine (sw.out _).mono ?_; rintro e' w3 ⟨rfl, hb⟩; have P3 : Aside (Below V1.heap.size V1 w3) := below_step P2'.out hb; clear hb P2')
            | fail)
          go_roundw
          case rel => exact ⟨k + 1, by omega, by go_num, NX.out, P3.out⟩
          case measure => simp [intOf]; omega
      · obtain rfl : k = n := by omega
        have Q1 : Aside (∀ w', Below w.heap.size w w' → Q (.returned (.tuple #[chV false 0, .bool false])) w') := fun w' hb => RF.out w' (chosen_none (by have := HA.out.2; omega) HM.out) hb
        have P3 : Aside (P2 wr (w.heap.size + 1) 42 (.bool false) (.int .u8 0) ∧ Below w.heap.size w wr) := ⟨XV.out.2.1.later HB.out, below_step XV.out.2.2 HB.out⟩
        clear RT RF
        obtain ⟨z0, z1⟩ := P3.out.1.cells; have f0 := P3.out.1.frozen 0; have f1 := P3.out.1.frozen 1
        go_wp2_with fail
        exact bodyPost_ret (results_cell2 rfl rfl (Try.isAgg42 _) (Try.sizeOf42 _) (load_two (P3.out.1.put _ _))) rfl (Q1.out _ (below_put P3.out.2 (by omega) _ _))
  · rw [rightY_false hr] at C25
    have Q1 : Aside (∀ w', Below w.heap.size w w' → Q (.returned (.tuple #[chV false 0, .bool false])) w') := fun w' hb => RF.out w' (chosen_wrong hr) hb
    clear RT RF hr C34 C33 C32
    go_enter Try.func13, Try.ntmps13
    go_wp2_with fail
    rw [← hV]
    clear hV
    obtain ⟨x0, x1, x2⟩ := X.out.1.cells
    go_wp2_with (first
      | (go_at_call 25; refine (C25.out _ X.out.2.2).mono ?_; rintro e w1 ⟨rfl, hb⟩; have P3 : Aside (P2 w1 (w.heap.size + 1) 42 (.bool false) (.int .u8 0) ∧ Below w.heap.size w w1) := ⟨X.out.2.1.later hb, below_step X.out.2.2 hb⟩; clear hb x0 x1 x2; obtain ⟨z0, z1⟩ := P3.out.1.cells; have f0 := P3.out.1.frozen 0; have f1 := P3.out.1.frozen 1)
      | fail)
    exact bodyPost_ret (results_cell2 rfl rfl (Try.isAgg42 _) (Try.sizeOf42 _) (load_two (P3.out.1.put _ _))) rfl (Q1.out _ (below_put P3.out.2 (by omega) _ _))
end Go.Proofs.Ytfjdopmjcddnlaa
