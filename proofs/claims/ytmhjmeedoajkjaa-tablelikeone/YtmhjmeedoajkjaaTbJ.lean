/- Are ballots sound? The program's own answer: sets one by one, bodies sorted. -/
import Derived.Test.YtmhjmeedoajkjaaTbI
import Derived.Test.YtmhjmeedoajkjaaTbD
import Derived.Test.YtmhjmeedoajkjaaLayB
import Derived.Laws.MakeOwn
import Derived.Lib.OwnBridge
set_option linter.unusedVariables false
namespace Go.Proofs.Ytmhjmeedoajkjaa
open Go.RowKit Go.Shelf Go.Sort

theorem info9 : (Try.prog.info? 9).map (fun i => (i.zero, i.size, i.bytes)) = some (some (.string ⟨#[]⟩), 1, 16) := by kernel_rfl
def bod (l : Vt.Bal) : List Value := l.map fun b => .string b.1
theorem bod_enc (l : Vt.Bal) : (l.map fun b => Tb.txt b.1).map encStr = bod l := by
  unfold bod
  rw [List.map_map]
  apply List.map_congr_left
  intro x _
  simp [encStr, Tb.txt]
/-- What sound answers. -/
def SndPost (l : Vt.Bal) (w : World) (e : Ending) (w' : World) : Prop := ∃ b, e = .returned (.bool b) ∧ (b = true ↔ l.Pairwise Vt.Ap) ∧ Below w.heap.size w w'
/-- Bodies sorted, and put together where two are alike. -/
theorem sort_own (B : Nat) (v : Value) (l : Vt.Bal) (w : World) (h : w.ownsRow B 9 1 v l.length (bod l)) (hn : l.length ≤ 1000) :
    Calls Try.prog 68 #[v] w fun e w' => e = .returned (.tuple #[]) ∧ w'.ownsRow B 9 1 v l.length (((l.map fun b => Tb.txt b.1).mergeSort fun x y => decide (x ≤ y)).map encStr) ∧ Below B w w' := by
  rw [← bod_enc] at h
  by_cases hv : v = .slice none 0 0
  · subst hv
    have hl : l = [] := by
      rcases h.2 with ⟨_, e⟩ | ⟨_, _, _, e, _⟩
      · exact List.length_eq_zero_iff.1 e
      · cases e
    subst hl
    have := AnyM.slices_Sort_string_none Try.sort68 none 0 w
    change Calls Try.prog 68 _ _ _ at this
    exact this.mono fun e w' ⟨h1, h2⟩ => by subst h2; exact ⟨h1, by simpa using h, Below.refl _ _⟩
  · obtain ⟨g, cap, rfl, hBg, hg, hc, hcm, hl, hH⟩ := Lib.holds_of_ownsRow h hv
    have := AnyM.slices_Sort_string Try.sort68 g 0 cap (l.map fun b => Tb.txt b.1) w hH hg (by rw [hl]; omega)
    rw [hl] at this
    change Calls Try.prog 68 _ _ _ at this
    refine this.mono fun e w' ⟨h1, n, os, h2⟩ => ⟨h1, ?_, ?_⟩
    · have hp := List.mergeSort_perm (l.map fun b => Tb.txt b.1) (fun x y => decide (x ≤ y))
      have := Lib.ownsRow_putRow (q := n) (k := l.length) h (ys := (l.map fun b => Tb.txt b.1).mergeSort fun x y => decide (x ≤ y)) (by rw [hp.length_eq, hl]) (Nat.le_refl _)
      rw [List.take_of_length_le (by rw [hp.length_eq, hl]; exact Nat.le_refl _)] at this
      rw [h2]
      generalize putRow encStr (Sort.ahead w n) g 0 _ = W at this
      exact this.kept (row := none) ⟨rfl, rfl, rfl, by simp [grow], fun k hk _ => by simp [grow, Array.getElem?_append_left hk]⟩ (by cases (Value.slice _ _ _).ownBlock <;> simp)
    · rw [h2]
      have hb := Lib.below_putRow (enc := encStr) (q := n) (d := ((l.map fun b => Tb.txt b.1).mergeSort fun x y => decide (x ≤ y)).toArray) (Below.refl B w) hBg
      generalize putRow encStr (Sort.ahead w n) g 0 _ = W at hb
      exact hb.trans ⟨rfl, rfl, rfl, by simp [grow], fun k hk => by
        have : k < W.heap.size := by have := hb.size; omega
        simp [grow, Array.getElem?_append_left this]⟩
theorem compact_own (B : Nat) (v : Value) (zs : List (List UInt8)) (n : Nat) (w : World) (h : w.ownsRow B 9 1 v n (zs.map encStr)) (hn : n ≤ 1000) :
    Calls Try.prog 69 #[v] w fun e w' => ∃ a c, e = .returned (.slice a (Lib.compact zs).length c) ∧ Below B w w' := by
  have hzl : zs.length = n := by simpa using h.1
  by_cases hv : v = .slice none 0 0
  · subst hv
    have hl : zs = [] := by
      rcases h.2 with ⟨_, e⟩ | ⟨_, _, _, e, _⟩
      · exact List.length_eq_zero_iff.1 (hzl.trans e)
      · cases e
    subst hl
    have := AnyG.slices_Compact_string_empty Try.compact69 none 0 w
    change Calls Try.prog 69 _ _ _ at this
    exact this.mono fun e w' ⟨h1, h2⟩ => by subst h2; exact ⟨none, 0, h1, Below.refl _ _⟩
  · obtain ⟨g, cap, rfl, hBg, hg, hc, hcm, hl, hH⟩ := Lib.holds_of_ownsRow h hv
    have := AnyG.slices_Compact_string Try.compact69 g 0 cap zs w hH (by omega) (by omega)
    rw [hl] at this
    change Calls Try.prog 69 _ _ _ at this
    refine this.mono fun e w' ⟨h1, q, h2⟩ => ⟨_, _, h1, ?_⟩
    rw [h2]
    exact Lib.below_putRow (Below.refl B w) hBg

set_option maxHeartbeats 4000000 in
set_option maxRecDepth 100000 in
theorem sound8_any (a : Option Addr) (c : Nat) (l : Vt.Bal) (w : World) (h1 : Vt.At w a l) (hs : Vt.Small l) (hn : l.length ≤ 900) :
    Calls Try.prog 57 #[.slice a l.length c] w (SndPost l w) := by
  have HA : Aside (Vt.At w a l ∧ Vt.Small l) := ⟨h1, hs⟩
  have RF : Aside (∀ w', ¬ Tb.Dis l → Below w.heap.size w w' → SndPost l w (.returned (.bool false)) w') := fun w' hq hd => ⟨false, rfl, ⟨(fun h => nomatch h), fun h => absurd ((Tb.ap_iff l).1 h).1 hq⟩, hd⟩
  have RT : Aside (∀ b w', Tb.Dis l → (b = true ↔ (l.map Prod.fst).Nodup) → Below w.heap.size w w' → SndPost l w (.returned (.bool b)) w') := fun b w' hq hb hd => ⟨b, rfl, ⟨fun h => (Tb.ap_iff l).2 ⟨hq, hb.1 h⟩, fun h => hb.2 ((Tb.ap_iff l).1 h).2⟩, hd⟩
  generalize SndPost l w = Q at RT RF ⊢
  clear h1 hs
  obtain ⟨i0, hi, hz0, hz1, hz2⟩ := info_parts info9
  have I : Aside (Try.prog.info? 9 = some i0 ∧ i0.zero = some (.string ⟨#[]⟩) ∧ i0.size = 1 ∧ i0.bytes = 16) := ⟨hi, hz0, hz1, hz2⟩
  clear hi hz0 hz1 hz2
  obtain ⟨n, hn'⟩ : ∃ n : Nat, n = l.length := ⟨_, rfl⟩
  obtain ⟨V, hmk, hown, hgr⟩ := run_make_own w w.heap.size 121 9 i0 (.string ⟨#[]⟩) 1 Try.underlying121 I.out.1 I.out.2.1 I.out.2.2.1 .i64 .i64 n (by rw [I.out.2.2.2]; omega) (by unfold maxLen; omega) (Nat.le_refl _) (P := Try.prog)
  rw [← hn'] at hn ⊢
  have HN : Aside (n = l.length) := hn'
  clear hn'
  have S0 : Aside (V.ownsRow w.heap.size 9 1 (.slice (some ⟨w.heap.size, 0, none⟩) 0 n) 0 [] ∧ Below w.heap.size w V) := ⟨hown, ⟨hgr.os, hgr.tape, hgr.output, hgr.size, fun k hk => hgr.block k hk (by simp)⟩⟩
  clear hown hgr
  go_enter Try.func57, Try.ntmps57
  go_wp2_with fail
  go_loopw [3, 4, 12] (fun vd bo i wr => ∃ (k : Nat) (vs : Nat) (ga : Option Addr) (gc : Nat), k ≤ n ∧ i = .int .i64 (k : Nat) ∧ vd = .int .u16 (vs : Nat) ∧ bo = .slice ga k gc ∧ Aside (vs = Tb.orS (l.take k) ∧ wr.ownsRow w.heap.size 9 1 (.slice ga k gc) k (bod (l.take k)) ∧ Below w.heap.size w wr ∧ Tb.Dis (l.take k))) (fun _ _ i _ => n - (intOf i).toNat)
  case atStart => exact ⟨0, 0, _, _, Nat.zero_le _, rfl, rfl, rfl, rfl, S0.out.1, S0.out.2, List.Pairwise.nil⟩
  case round =>
    clear S0 hmk
    obtain ⟨k, vs, ga, gc, hk, rfl, rfl, rfl, ST⟩ := hrel
    by_cases hlt : k < n
    · have t1 : (k : Int) < (n : Int) := by omega
      have t2 : (0 : Int) ≤ (k : Int) := by omega
      obtain ⟨⟨bx, bs⟩, hbb⟩ : ∃ bb, l[k]? = some bb := ⟨_, List.getElem?_eq_getElem (by have := HN.out; omega)⟩
      have DN : Aside (_ ∧ _ ∧ _) := Tb.dis_next hbb ST.out.2.2.2
      have BN : Aside (bod (l.take (k + 1)) = bod (l.take k) ++ [.string bx]) := by unfold bod; rw [List.take_add_one, hbb, List.map_append]; rfl
      obtain ⟨b, off, rfl, y0, y1⟩ := at_cell (HA.out.1.later ST.out.2.2.1) hbb
      have sm1 : vs < 65536 := by rw [ST.out.1]; exact Tb.orS_small fun b hb => HA.out.2 b (List.mem_of_mem_take hb)
      have sm2 : bs < 65536 := HA.out.2 _ (List.mem_of_getElem? hbb)
      have hu := u16_and_nat vs bs sm1 sm2
      have ho := u16_or_nat vs bs sm1 sm2
      clear hbb
      by_cases hz : vs &&& bs = 0
      · rw [hz] at hu
        obtain ⟨vo, hvo⟩ : ∃ vo, vo = vs ||| bs := ⟨_, rfl⟩
        rw [← hvo] at ho
        have VO : Aside (vo = Tb.orS (l.take (k + 1)) ∧ Tb.Dis (l.take (k + 1))) := ⟨by rw [hvo, DN.out.2.2, ST.out.1], DN.out.1 (by rw [← ST.out.1]; exact hz)⟩
        clear hvo hz DN
        have RW : Aside (∀ o, (wr.alloc o).ownsRow w.heap.size 9 1 (.slice ga k gc) k (bod (l.take k))) := fun o => ST.out.2.1.alloc o
        have SZ : Aside (w.heap.size ≤ wr.heap.size) := ST.out.2.2.1.size
        go_wp2_with (at_builtin; refine wpList_append_own _ rfl _ _ 121 rfl w.heap.size 9 i0 (.string ⟨#[]⟩) 1 16 Try.underlying121 I.out.1 I.out.2.1 I.out.2.2.1 I.out.2.2.2 rfl (by decide) _ k (bod (l.take k)) rfl ((RW.out _).alloc _) ⟨wr.heap.size + 1, 0, none⟩ 1 1 [.string bx] rfl rfl ?c1 ?c2 ?c3 ?c4 ?c5 ?_)
        case c1 => have := cell_new1 (wr.alloc (.cells #[.string bx, .int .u16 (bs : Int)] 94)) (.string bx) 9; rw [World.size_alloc] at this; exact this
        case c2 => intro u hu; simp at hu; rw [hu]; rfl
        case c3 => unfold maxLen; omega
        case c4 => omega
        case c5 => have := SZ.out; simp; omega
        intro v' wn hown hgrow _
        obtain ⟨g2, q2, rfl⟩ : ∃ g2 q2, v' = .slice g2 (k + 1) q2 := by
          rcases hown.2 with ⟨_, e2⟩ | ⟨g, c2, _, e2, _⟩
          · omega
          · exact ⟨_, _, e2⟩
        have NX : Aside (vo = Tb.orS (l.take (k + 1)) ∧ wn.ownsRow w.heap.size 9 1 (.slice g2 (k + 1) q2) (k + 1) (bod (l.take (k + 1))) ∧ Below w.heap.size w wn ∧ Tb.Dis (l.take (k + 1))) := by
          refine ⟨VO.out.1, by rw [BN.out]; exact hown, ?_, VO.out.2⟩
          have b1 : Below w.heap.size w ((wr.alloc (.cells #[.string bx, .int .u16 (bs : Int)] 94)).alloc (.cells #[.string bx] 9)) := (ST.out.2.2.1.alloc SZ.out _).alloc (by have := SZ.out; simp; omega) _
          exact b1.grown hgrow (by have := SZ.out; simp; omega) (fun j hj => (ST.out.2.1.lt j hj).1)
        clear hown hgrow
        go_wp2
        go_roundw
        case rel => exact ⟨k + 1, vo, g2, q2, by omega, by go_num, rfl, rfl, NX⟩
        case measure => simp [intOf]; omega
      · have Q1 : Aside (∀ o, Q (.returned (.bool false)) (wr.alloc o)) := fun o => RF.out _ (fun hd => hz (by rw [ST.out.1]; exact DN.out.2.1 hd)) (ST.out.2.2.1.alloc ST.out.2.2.1.size _)
        have hz' : (((vs &&& bs : Nat) : Int) != 0) = true := by
          have : ¬ ((vs &&& bs : Nat) : Int) = 0 := by omega
          simpa using this
        generalize ((vs &&& bs : Nat) : Int) = an at hu hz'
        clear DN RF RT hz BN ho
        go_wp2
        exact Q1.out _
    · obtain rfl : k = n := by omega
      have eT : l.take k = l := List.take_of_length_le (by rw [← HN.out]; exact Nat.le_refl _)
      have S2 : Aside (wr.ownsRow w.heap.size 9 1 (.slice ga k gc) l.length (bod l) ∧ Below w.heap.size w wr ∧ Tb.Dis l) := by
        have h := ST.out
        rw [eT] at h
        refine ⟨?_, h.2.2.1, h.2.2.2⟩
        have h2 := h.2.1
        rw [HN.out] at h2 ⊢
        exact h2
      clear ST eT
      have LE : Aside (l.length ≤ 1000) := by have := HN.out; show l.length ≤ 1000; omega
      have C2 : Aside (∀ W : World, W.ownsRow w.heap.size 9 1 (.slice ga k gc) l.length (((l.map fun b => Tb.txt b.1).mergeSort fun x y => decide (x ≤ y)).map encStr) → Calls Try.prog 69 #[.slice ga k gc] W fun e w' => ∃ a c, e = .returned (.slice a (Lib.compact ((l.map fun b => Tb.txt b.1).mergeSort fun x y => decide (x ≤ y))).length c) ∧ Below w.heap.size W w') := fun W hW => compact_own _ _ _ _ W hW (by have := HN.out; omega)
      have SX : Aside ((Lib.compact ((l.map fun b => Tb.txt b.1).mergeSort fun x y => decide (x ≤ y))).length = k ↔ (l.map Prod.fst).Nodup) := by
        have := Tb.sorted_txt l
        rw [← HN.out] at this
        exact this
      generalize (Lib.compact ((l.map fun b => Tb.txt b.1).mergeSort fun x y => decide (x ≤ y))).length = cl at C2 SX
      by_cases hcl : cl = k
      · have Q1 : Aside (∀ w', Below w.heap.size w w' → Q (.returned (.bool true)) w') := fun w' hb => RT.out true w' S2.out.2.2 ⟨fun _ => SX.out.1 hcl, fun _ => rfl⟩ hb
        have hcl2 : ((cl : Int) == (k : Int)) = true := by simp [hcl]
        clear RT RF hcl
        go_wp2_with (first
          | (go_at_call 68; refine (sort_own w.heap.size (.slice ga k gc) l wr S2.out.1 LE.out).mono ?_; rintro e w2 ⟨rfl, o2, b2⟩; have O2 : Aside (w2.ownsRow w.heap.size 9 1 (.slice ga k gc) l.length (((l.map fun b => Tb.txt b.1).mergeSort fun x y => decide (x ≤ y)).map encStr)) := o2; have B2 : Aside (Below w.heap.size w w2) := S2.out.2.1.trans b2; clear o2 b2)
          | (go_at_call 69; refine (C2.out w2 O2.out).mono ?_; rintro e w3 ⟨a3, c3, rfl, b3⟩; have B3 : Aside (Below w.heap.size w w3) := B2.out.trans b3; clear b3))
        exact Q1.out _ B3.out
      · have Q1 : Aside (∀ w', Below w.heap.size w w' → Q (.returned (.bool false)) w') := fun w' hb => RT.out false w' S2.out.2.2 ⟨(fun h => nomatch h), fun h => absurd (SX.out.2 h) hcl⟩ hb
        have hcl2 : ((cl : Int) == (k : Int)) = false := by
          have : ¬ (cl : Int) = (k : Int) := by omega
          simpa using this
        clear RT RF
        go_wp2_with (first
          | (go_at_call 68; refine (sort_own w.heap.size (.slice ga k gc) l wr S2.out.1 LE.out).mono ?_; rintro e w2 ⟨rfl, o2, b2⟩; have O2 : Aside (w2.ownsRow w.heap.size 9 1 (.slice ga k gc) l.length (((l.map fun b => Tb.txt b.1).mergeSort fun x y => decide (x ≤ y)).map encStr)) := o2; have B2 : Aside (Below w.heap.size w w2) := S2.out.2.1.trans b2; clear o2 b2)
          | (go_at_call 69; refine (C2.out w2 O2.out).mono ?_; rintro e w3 ⟨a3, c3, rfl, b3⟩; have B3 : Aside (Below w.heap.size w w3) := B2.out.trans b3; clear b3))
        exact Q1.out _ B3.out
end Go.Proofs.Ytmhjmeedoajkjaa
