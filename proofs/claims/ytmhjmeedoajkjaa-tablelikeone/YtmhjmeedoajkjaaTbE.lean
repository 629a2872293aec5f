/- Where a name stands among open broadcasts: the library's binary search. -/
import Derived.Test.YtmhjmeedoajkjaaTbD
import Derived.Deep.LoopGhost
set_option linter.unusedVariables false
namespace Go.Proofs.Ytmhjmeedoajkjaa
open Go.RowKit Go.Shelf

def ops (l : List En) : List Tb.Op := l.map En.o
def pos (l : List En) (f : Nat) (s : Int) : Nat := (ops l).countP (Tb.ahead f s)
def fnd (l : List En) (f : Nat) (s : Int) : Bool := match l[pos l f s]? with | some e => Tb.isN f s e.o | none => false
theorem ops_get {l : List En} {k : Nat} {e : En} (h : l[k]? = some e) : (ops l)[k]? = some e.o := by unfold ops; rw [List.getElem?_map, h]; rfl
theorem ops_len (l : List En) : (ops l).length = l.length := by unfold ops; simp
theorem countP_bound (p : Tb.Op → Bool) : ∀ (l : List Tb.Op) (i : Nat), i ≤ l.length → (∀ t o, t < i → l[t]? = some o → p o = true) → (∀ t o, i ≤ t → l[t]? = some o → p o = false) → l.countP p = i
  | [], i, hi, _, _ => by simp at hi; simp [hi]
  | a :: r, 0, _, _, h2 => by
    rw [List.countP_eq_zero]
    intro x hx
    obtain ⟨t, ht⟩ := List.getElem?_of_mem hx
    rw [h2 t x (Nat.zero_le _) ht]; exact Bool.false_ne_true
  | a :: r, i + 1, hi, h1, h2 => by
    have ha : p a = true := h1 0 a (Nat.succ_pos _) rfl
    rw [List.countP_cons_of_pos ha, countP_bound p r i (by simpa using hi) (fun t o ht ho => h1 (t + 1) o (by omega) (by simpa using ho)) (fun t o h3 h4 => h2 (t + 1) o (by omega) (by simpa using h4))]
theorem eg34 : ∀ args w, (callFunc 34 args).run Try.prog w = .ok (.enter 34 args) w := enters_of Try.func34 (by kernel_rfl) rfl

def targetV (f : Nat) (s : Int) : Value := .agg #[.int .u8 (f : Int), .int .i64 s, .bool false, .bool false, .bool false, .slice none 0 0, .slice none 0 0]
set_option maxHeartbeats 4000000 in
set_option maxRecDepth 100000 in
theorem search_any (a : Option Addr) (c : Nat) (l : List En) (f : Nat) (s : Int) (w : World) (h : AtR w a l) (hs : Tb.Srt (ops l)) (hn : l.length ≤ 1000) :
    Calls Try.prog 38 #[.slice a l.length c, targetV f s, .func (.func 34) #[] #[]] w fun e w' => e = .returned (.tuple #[.int .i64 (pos l f s : Nat), .bool (fnd l f s)]) ∧ Below w.heap.size w w' := by
  have R : Aside (∀ k b w', pos l f s = k → fnd l f s = b → Below w.heap.size w w' → (fun (e : Ending) (w' : World) => e = .returned (.tuple #[.int .i64 (pos l f s : Nat), .bool (fnd l f s)]) ∧ Below w.heap.size w w') (.returned (.tuple #[.int .i64 (k : Nat), .bool b])) w') := fun k b w' h1 h2 h3 => by subst h1 h2; exact ⟨rfl, h3⟩
  generalize (fun (e : Ending) (w' : World) => e = .returned (.tuple #[.int .i64 (pos l f s : Nat), .bool (fnd l f s)]) ∧ Below w.heap.size w w') = Q at R ⊢
  have HA : Aside (AtR w a l ∧ Tb.Srt (ops l)) := ⟨h, hs⟩
  clear h hs
  have eg := eg34
  obtain ⟨n, hn'⟩ : ∃ n : Nat, n = l.length := ⟨_, rfl⟩
  rw [← hn'] at hn ⊢
  have HN : Aside (n = l.length) := hn'
  clear hn'
  unfold targetV
  obtain ⟨V, hV⟩ : ∃ V, V = w.alloc (.cells #[.int .u8 (f : Int), .int .i64 s, .bool false, .bool false, .bool false, .slice none 0 0, .slice none 0 0] 50) := ⟨_, rfl⟩
  have XV : Aside (X7 V w.heap.size (.int .u8 (f : Int)) (.int .i64 s) (.bool false) (.bool false) (.bool false) (.slice none 0 0) (.slice none 0 0) ∧ Below w.heap.size w V) := by rw [hV]; exact ⟨X7.new w _ _ _ _ _ _ _, (Below.refl _ w).alloc (Nat.le_refl _) _⟩
  have OC : Aside (∀ (e : En) (W : World), Calls Try.prog 34 #[.agg #[.int .u8 (e.o.frm : Int), .int .i64 e.o.seq, .bool e.o.c.echoed, .bool e.o.c.readied, .bool e.o.c.done, .slice e.a1 e.o.c.echoes.length e.k1, .slice e.a2 e.o.c.readies.length e.k2], .agg #[.int .u8 (f : Int), .int .i64 s, .bool false, .bool false, .bool false, .slice none 0 0, .slice none 0 0]] W fun z w' => z = .returned (.int .i64 (Tb.cmpO e.o ⟨f, s, Vt.Cs.none⟩)) ∧ Below W.heap.size W w') := fun e W => order_any e.o ⟨f, s, Vt.Cs.none⟩ _ _ _ _ _ _ _ _ _ _ W
  go_enter Try.func38, Try.ntmps38
  go_wp2_with fail
  rw [← hV]
  clear hV
  go_loopg [9, 10] n (fun kx s9 s10 wr => ∃ lo hi : Nat, s9 = .int .i64 lo ∧ s10 = .int .i64 hi ∧ lo ≤ hi ∧ hi ≤ n ∧ hi - lo ≤ kx ∧ Aside (Below V.heap.size V wr) ∧
    Aside ((∀ t o, t < lo → (ops l)[t]? = some o → Tb.ahead f s o = true) ∧ (∀ t o, hi ≤ t → (ops l)[t]? = some o → Tb.ahead f s o = false)))
  case atStart =>
    refine ⟨0, n, rfl, rfl, Nat.zero_le _, Nat.le_refl _, by omega, Below.refl _ V, (⟨(fun t o ht => absurd ht (Nat.not_lt_zero _)), fun t o h1 h2 => ?_⟩ : _ ∧ _)⟩
    have := (List.getElem?_eq_some_iff.1 h2).1
    rw [ops_len, ← HN.out] at this; omega
  case round =>
    obtain ⟨lo, hi, rfl, rfl, hlh, hin, hg, S1, I⟩ := hrel
    obtain ⟨x0, x1, x2, x3, x4, x5, x6⟩ := (XV.out.1.later S1.out).cells
    by_cases hlt : lo < hi
    · obtain ⟨e, he⟩ : ∃ e, l[(lo + hi) / 2]? = some e := ⟨_, List.getElem?_eq_getElem (by have := HN.out; omega)⟩
      obtain ⟨b, off, rfl, y0, y1, y2, y3, y4, y5, y6⟩ := AtR.get (HA.out.1.later (below_step XV.out.2 S1.out)) he
      have HE : Aside (l[(lo + hi) / 2]? = some e) := he
      clear he
      have hm1 : ((lo : Int) + (hi : Int)) / 2 = (((lo + hi) / 2 : Nat) : Int) := by omega
      have CE : Aside (decide (Tb.cmpO e.o ⟨f, s, Vt.Cs.none⟩ < 0) = Tb.ahead f s e.o) := Tb.cmp_neg _ _
      have O1 : Aside (∀ W : World, _) := fun W => OC.out e W
      generalize Tb.cmpO e.o ⟨f, s, Vt.Cs.none⟩ = cv at CE O1
      have MM : Aside (lo ≤ (lo + hi) / 2 ∧ (lo + hi) / 2 < hi) := ⟨by omega, by omega⟩
      obtain ⟨mid, hmid⟩ : ∃ mid, mid = (lo + hi) / 2 := ⟨_, rfl⟩
      rw [← hmid] at hm1 HE MM y0 y1 y2 y3 y4 y5 y6
      clear hmid
      have t1 : (0 : Int) ≤ (mid : Int) := by omega
      have t2 : (mid : Int) < (n : Int) := by have := MM.out; omega
      have p0 : ∀ p : Bw wr, p.w'.cell? ⟨w.heap.size, 0, none⟩ = some (.int .u8 (f : Int)) := fun p => cell_later p.h x0
      have p1 : ∀ p : Bw wr, p.w'.cell? ⟨w.heap.size, 1, none⟩ = some (.int .i64 s) := fun p => cell_later p.h x1
      have p2 : ∀ p : Bw wr, p.w'.cell? ⟨w.heap.size, 2, none⟩ = some (.bool false) := fun p => cell_later p.h x2
      have p3 : ∀ p : Bw wr, p.w'.cell? ⟨w.heap.size, 3, none⟩ = some (.bool false) := fun p => cell_later p.h x3
      have p4 : ∀ p : Bw wr, p.w'.cell? ⟨w.heap.size, 4, none⟩ = some (.bool false) := fun p => cell_later p.h x4
      have p5 : ∀ p : Bw wr, p.w'.cell? ⟨w.heap.size, 5, none⟩ = some (.slice none 0 0) := fun p => cell_later p.h x5
      have p6 : ∀ p : Bw wr, p.w'.cell? ⟨w.heap.size, 6, none⟩ = some (.slice none 0 0) := fun p => cell_later p.h x6
      have r0 : ∀ p : Bw wr, p.w'.cell? ⟨b, off + mid * 7, none⟩ = some (.int .u8 (e.o.frm : Int)) := fun p => cell_later p.h y0
      have r1 : ∀ p : Bw wr, p.w'.cell? ⟨b, off + mid * 7 + 1, none⟩ = some (.int .i64 e.o.seq) := fun p => cell_later p.h y1
      have r2 : ∀ p : Bw wr, p.w'.cell? ⟨b, off + mid * 7 + 2, none⟩ = some (.bool e.o.c.echoed) := fun p => cell_later p.h y2
      have r3 : ∀ p : Bw wr, p.w'.cell? ⟨b, off + mid * 7 + 3, none⟩ = some (.bool e.o.c.readied) := fun p => cell_later p.h y3
      have r4 : ∀ p : Bw wr, p.w'.cell? ⟨b, off + mid * 7 + 4, none⟩ = some (.bool e.o.c.done) := fun p => cell_later p.h y4
      have r5 : ∀ p : Bw wr, p.w'.cell? ⟨b, off + mid * 7 + 5, none⟩ = some (.slice e.a1 e.o.c.echoes.length e.k1) := fun p => cell_later p.h y5
      have r6 : ∀ p : Bw wr, p.w'.cell? ⟨b, off + mid * 7 + 6, none⟩ = some (.slice e.a2 e.o.c.readies.length e.k2) := fun p => cell_later p.h y6
      clear x0 x1 x2 x3 x4 x5 x6 y0 y1 y2 y3 y4 y5 y6
      have BP : Aside (∀ p : Bw wr, Below V.heap.size V p.w') := fun p => below_step S1.out p.h
      have HM := HE
      by_cases hyx : cv < 0
      · go_wp2_with fail
        have hne := Bw.some wr
        refine wp_region_bw (by kernel_rfl) (by kernel_rfl) ?_
        repeat (quiet_step ((go_at_call 34; exact Calls.bw_of (O1.out _))))
        refine wpQuiet_nil ?_
        intro _ hw'
        obtain ⟨pq, hw''⟩ := hw'
        subst hw''
        go_wp2
        go_roundg (hi - (mid + 1))
        case measure => have := MM.out; omega
        case rel =>
          have I2 : Aside ((∀ t o, t < mid + 1 → (ops l)[t]? = some o → Tb.ahead f s o = true) ∧ (∀ t o, hi ≤ t → (ops l)[t]? = some o → Tb.ahead f s o = false)) := ⟨fun t o ht ho => by
            have ha : Tb.ahead f s e.o = true := by rw [← CE.out]; exact decide_eq_true hyx
            by_cases htm : t = mid
            · subst htm; rw [ops_get HE.out] at ho; rw [← Option.some.inj ho]; exact ha
            · obtain ⟨t1', t2'⟩ := List.getElem?_eq_some_iff.1 ho
              obtain ⟨m1', m2'⟩ := List.getElem?_eq_some_iff.1 (ops_get HE.out)
              have := List.pairwise_iff_getElem.1 HA.out.2 t mid t1' m1' (by omega)
              rw [t2', m2'] at this
              exact Tb.ahead_trans this ha, I.out.2⟩
          exact ⟨mid + 1, hi, by go_num, rfl, by have := MM.out; omega, hin, Nat.le_refl _, BP.out _, I2⟩
      · go_wp2_with fail
        have hne := Bw.some wr
        refine wp_region_bw (by kernel_rfl) (by kernel_rfl) ?_
        repeat (quiet_step ((go_at_call 34; exact Calls.bw_of (O1.out _))))
        refine wpQuiet_nil ?_
        intro _ hw'
        obtain ⟨pq, hw''⟩ := hw'
        subst hw''
        go_wp2
        go_roundg (mid - lo)
        case measure => have := MM.out; omega
        case rel =>
          have I2 : Aside ((∀ t o, t < lo → (ops l)[t]? = some o → Tb.ahead f s o = true) ∧ (∀ t o, mid ≤ t → (ops l)[t]? = some o → Tb.ahead f s o = false)) := ⟨I.out.1, fun t o ht ho => by
            have ha : Tb.ahead f s e.o = false := by rw [← CE.out]; exact decide_eq_false (Int.not_lt.2 hyx)
            by_cases htm : t = mid
            · subst htm; rw [ops_get HE.out] at ho; rw [← Option.some.inj ho]; exact ha
            · obtain ⟨t1', t2'⟩ := List.getElem?_eq_some_iff.1 ho
              obtain ⟨m1', m2'⟩ := List.getElem?_eq_some_iff.1 (ops_get HE.out)
              have := List.pairwise_iff_getElem.1 HA.out.2 mid t m1' t1' (by omega)
              rw [t2', m2'] at this
              cases hq : Tb.ahead f s o with
              | false => rfl
              | true => rw [Tb.ahead_trans this hq] at ha; cases ha⟩
          exact ⟨lo, mid, rfl, by go_num, by have := MM.out; omega, by have := MM.out; omega, Nat.le_refl _, BP.out _, I2⟩
    · obtain rfl : hi = lo := by omega
      have PC : Aside (pos l f s = hi) := countP_bound _ _ _ (by rw [ops_len, ← HN.out]; exact hin) I.out.1 I.out.2
      by_cases hlt2 : hi < n
      · obtain ⟨e, he⟩ : ∃ e, l[hi]? = some e := ⟨_, List.getElem?_eq_getElem (by have := HN.out; omega)⟩
        have FN : Aside (fnd l f s = Tb.isN f s e.o) := by unfold fnd; rw [PC.out, he]; rfl
        obtain ⟨b, off, rfl, y0, y1, y2, y3, y4, y5, y6⟩ := AtR.get (HA.out.1.later (below_step XV.out.2 S1.out)) he
        clear he
        have CE : Aside (decide (Tb.cmpO e.o ⟨f, s, Vt.Cs.none⟩ = 0) = Tb.isN f s e.o) := Tb.cmp_zero _ _
        have O1 : Aside (∀ W : World, _) := fun W => OC.out e W
        generalize Tb.cmpO e.o ⟨f, s, Vt.Cs.none⟩ = cv at CE O1
        have t1 : (0 : Int) ≤ (hi : Int) := by omega
        have t2 : (hi : Int) < (n : Int) := by omega
        have p0 : ∀ p : Bw wr, p.w'.cell? ⟨w.heap.size, 0, none⟩ = some (.int .u8 (f : Int)) := fun p => cell_later p.h x0
        have p1 : ∀ p : Bw wr, p.w'.cell? ⟨w.heap.size, 1, none⟩ = some (.int .i64 s) := fun p => cell_later p.h x1
        have p2 : ∀ p : Bw wr, p.w'.cell? ⟨w.heap.size, 2, none⟩ = some (.bool false) := fun p => cell_later p.h x2
        have p3 : ∀ p : Bw wr, p.w'.cell? ⟨w.heap.size, 3, none⟩ = some (.bool false) := fun p => cell_later p.h x3
        have p4 : ∀ p : Bw wr, p.w'.cell? ⟨w.heap.size, 4, none⟩ = some (.bool false) := fun p => cell_later p.h x4
        have p5 : ∀ p : Bw wr, p.w'.cell? ⟨w.heap.size, 5, none⟩ = some (.slice none 0 0) := fun p => cell_later p.h x5
        have p6 : ∀ p : Bw wr, p.w'.cell? ⟨w.heap.size, 6, none⟩ = some (.slice none 0 0) := fun p => cell_later p.h x6
        have r0 : ∀ p : Bw wr, p.w'.cell? ⟨b, off + hi * 7, none⟩ = some (.int .u8 (e.o.frm : Int)) := fun p => cell_later p.h y0
        have r1 : ∀ p : Bw wr, p.w'.cell? ⟨b, off + hi * 7 + 1, none⟩ = some (.int .i64 e.o.seq) := fun p => cell_later p.h y1
        have r2 : ∀ p : Bw wr, p.w'.cell? ⟨b, off + hi * 7 + 2, none⟩ = some (.bool e.o.c.echoed) := fun p => cell_later p.h y2
        have r3 : ∀ p : Bw wr, p.w'.cell? ⟨b, off + hi * 7 + 3, none⟩ = some (.bool e.o.c.readied) := fun p => cell_later p.h y3
        have r4 : ∀ p : Bw wr, p.w'.cell? ⟨b, off + hi * 7 + 4, none⟩ = some (.bool e.o.c.done) := fun p => cell_later p.h y4
        have r5 : ∀ p : Bw wr, p.w'.cell? ⟨b, off + hi * 7 + 5, none⟩ = some (.slice e.a1 e.o.c.echoes.length e.k1) := fun p => cell_later p.h y5
        have r6 : ∀ p : Bw wr, p.w'.cell? ⟨b, off + hi * 7 + 6, none⟩ = some (.slice e.a2 e.o.c.readies.length e.k2) := fun p => cell_later p.h y6
        clear x0 x1 x2 x3 x4 x5 x6 y0 y1 y2 y3 y4 y5 y6
        have BP : Aside (∀ p : Bw wr, Below w.heap.size w p.w') := fun p => below_step (below_step XV.out.2 S1.out) p.h
        by_cases hyx : cv = 0
        · have Q1 : Aside (∀ p : Bw wr, Q (.returned (.tuple #[.int .i64 (hi : Nat), .bool true])) p.w') := fun p => R.out hi true _ PC.out (by rw [FN.out, ← CE.out]; exact decide_eq_true hyx) (BP.out p)
          clear R CE FN PC
          have hb : (cv == 0) = true := by simp [hyx]
          clear hyx
          go_wp2_with fail
          have hne := Bw.some wr
          refine wp_region_bw (by kernel_rfl) (by kernel_rfl) ?_
          repeat (quiet_step ((go_at_call 34; exact Calls.bw_of (O1.out _))))
          refine wpQuiet_nil ?_
          intro _ hw'
          obtain ⟨pq, hw''⟩ := hw'
          subst hw''
          go_wp2
          exact Q1.out _
        · have Q1 : Aside (∀ p : Bw wr, Q (.returned (.tuple #[.int .i64 (hi : Nat), .bool false])) p.w') := fun p => R.out hi false _ PC.out (by rw [FN.out, ← CE.out]; exact decide_eq_false hyx) (BP.out p)
          clear R CE FN PC
          have hb : (cv == 0) = false := by simp [hyx]
          clear hyx
          go_wp2_with fail
          have hne := Bw.some wr
          refine wp_region_bw (by kernel_rfl) (by kernel_rfl) ?_
          repeat (quiet_step ((go_at_call 34; exact Calls.bw_of (O1.out _))))
          refine wpQuiet_nil ?_
          intro _ hw'
          obtain ⟨pq, hw''⟩ := hw'
          subst hw''
          go_wp2
          exact Q1.out _
      · have FN : Aside (fnd l f s = false) := by unfold fnd; rw [PC.out, List.getElem?_eq_none (by have := HN.out; omega)]; rfl
        have Q1 : Aside (∀ q, Q (.returned (.tuple #[.int .i64 (hi : Nat), .bool false])) (wr.drewN q)) := fun q => R.out hi false _ PC.out FN.out (below_drew (below_step XV.out.2 S1.out) q)
        have eh : hi = n := by omega
        subst eh
        clear hlh hin hn hg hlt hlt2 R FN PC I x0 x1 x2 x3 x4 x5 x6
        go_wp2_with fail
        go_quiet (fail)
        go_wp2
        exact Q1.out _

/-- Where a name stands, and whether it does. -/
theorem place8_any (a : Option Addr) (c : Nat) (l : List En) (f : Nat) (s : Int) (w : World) (h : AtR w a l) (hs : Tb.Srt (ops l)) (hn : l.length ≤ 1000) :
    Calls Try.prog 20 #[.slice a l.length c, .int .u8 (f : Int), .int .i64 s] w fun e w' => e = .returned (.tuple #[.int .i64 (pos l f s : Nat), .bool (fnd l f s)]) ∧ Below w.heap.size w w' := by
  have C := search_any a c l f s w h hs hn
  unfold targetV at C
  generalize fnd l f s = b at C ⊢
  generalize pos l f s = k at C ⊢
  go_enter Try.func20, Try.ntmps20
  go_wp2_with (go_at_call 38; refine C.mono ?_; rintro e w' ⟨rfl, hb⟩)
  go_ret2
  exact ⟨rfl, hb⟩
end Go.Proofs.Ytmhjmeedoajkjaa
