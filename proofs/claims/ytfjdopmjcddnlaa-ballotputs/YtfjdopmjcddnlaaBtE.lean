/- Where a name stands among casts: the library's binary search. -/
import Derived.Test.YtfjdopmjcddnlaaBtC
import Derived.Deep.LoopGhost
import Derived.Shelf.Abstract
set_option linter.unusedVariables false
namespace Go.Proofs.Ytfjdopmjcddnlaa
open Go.RowKit Go.Shelf Cn Rl Bt
namespace Bt
theorem countP_bound (p : Ct → Bool) : ∀ (l : List Ct) (i : Nat), i ≤ l.length → (∀ t o, t < i → l[t]? = some o → p o = true) → (∀ t o, i ≤ t → l[t]? = some o → p o = false) → l.countP p = i
  | [], i, hi, _, _ => by simp at hi; simp [hi]
  | a :: r, 0, _, _, h2 => by
    rw [List.countP_eq_zero]
    intro x hx
    obtain ⟨t, ht⟩ := List.getElem?_of_mem hx
    rw [h2 t x (Nat.zero_le _) ht]; exact Bool.false_ne_true
  | a :: r, i + 1, hi, h1, h2 => by
    have ha : p a = true := h1 0 a (Nat.succ_pos _) rfl
    rw [List.countP_cons_of_pos ha, countP_bound p r i (by simpa using hi) (fun t o ht ho => h1 (t + 1) o (by omega) (by simpa using ho)) (fun t o h3 h4 => h2 (t + 1) o (by omega) (by simpa using h4))]
theorem fnd_at {l : List Ct} {f k : Nat} {e : Ct} (hs : Srt l) (hp : pos l f = k) (he : l[k]? = some e) : fnd l f = decide (e.1 = f) := by
  subst hp
  obtain ⟨p1, p2⟩ := pos_split hs f
  obtain ⟨hk, rfl⟩ := List.getElem?_eq_some_iff.1 he
  cases hq : fnd l f with
  | true =>
    obtain ⟨c, hc, e1⟩ := find_true hq
    obtain ⟨j, hj, rfl⟩ := List.getElem_of_mem hc
    refine (decide_eq_true ?_).symm
    have h2 := p2 l[pos l f] (List.mem_of_getElem? (i := 0) (by rw [List.getElem?_drop]; exact he))
    rcases Nat.lt_trichotomy j (pos l f) with h | h | h
    · have := p1 l[j] (List.mem_of_getElem? (i := j) (by rw [List.getElem?_take, if_pos h]; exact List.getElem?_eq_getElem hj))
      omega
    · have h3 : l[j]? = l[pos l f]? := by rw [h]
      rw [List.getElem?_eq_getElem hj, List.getElem?_eq_getElem hk] at h3
      rw [← Option.some.inj h3]; exact e1
    · have := List.pairwise_iff_getElem.1 hs _ j hk hj h
      omega
  | false => exact (decide_eq_false (find_false hq _ (List.getElem_mem hk))).symm
theorem fnd_end {l : List Ct} {f k : Nat} (hs : Srt l) (hp : pos l f = k) (hk : l.length ≤ k) : fnd l f = false := by
  subst hp
  cases hq : fnd l f with
  | true =>
    obtain ⟨c, hc, e1⟩ := find_true hq
    have := (pos_split hs f).1 c (by rw [List.take_of_length_le hk]; exact hc)
    omega
  | false => rfl
end Bt
theorem eg28 : ∀ args w, (callFunc 28 args).run Try.prog w = .ok (.enter 28 args) w := enters_of Try.func28 (by kernel_rfl) rfl

set_option maxHeartbeats 4000000 in
set_option maxRecDepth 100000 in
theorem search_any (a : Option Addr) (c : Nat) (l : List Ct) (z : Ct) (w : World) (h : AtC w a l) (hs : Srt l) (hn : l.length ≤ 1000) :
    Calls Try.prog 27 #[.slice a l.length c, castV z, .func (.func 28) #[] #[]] w fun e w' => e = .returned (.tuple #[.int .i64 (pos l z.1 : Nat), .bool (fnd l z.1)]) ∧ Below w.heap.size w w' := by
  obtain ⟨f, g, h9⟩ := z
  dsimp only
  have R : Aside (∀ k b w', pos l f = k → fnd l f = b → Below w.heap.size w w' → (fun (e : Ending) (w' : World) => e = .returned (.tuple #[.int .i64 (pos l f : Nat), .bool (fnd l f)]) ∧ Below w.heap.size w w') (.returned (.tuple #[.int .i64 (k : Nat), .bool b])) w') := fun k b w' h1 h2 h3 => by subst h1 h2; exact ⟨rfl, h3⟩
  generalize (fun (e : Ending) (w' : World) => e = .returned (.tuple #[.int .i64 (pos l f : Nat), .bool (fnd l f)]) ∧ Below w.heap.size w w') = Q at R ⊢
  have HA : Aside (AtC w a l ∧ Srt l) := ⟨h, hs⟩
  clear h hs
  have eg := eg28
  obtain ⟨n, hn'⟩ : ∃ n : Nat, n = l.length := ⟨_, rfl⟩
  rw [← hn'] at hn ⊢
  have HN : Aside (n = l.length) := hn'
  clear hn'
  unfold castV
  dsimp only
  obtain ⟨V, hV⟩ : ∃ V, V = w.alloc (.cells #[.int .u8 (f : Int), .bool g, .int .u8 (h9 : Int)] 44) := ⟨_, rfl⟩
  have XV : Aside (X3 V w.heap.size 44 (.int .u8 (f : Int)) (.bool g) (.int .u8 (h9 : Int)) ∧ Below w.heap.size w V) := by rw [hV]; exact ⟨X3.new w _ _ _ _, (Below.refl _ w).alloc (Nat.le_refl _) _⟩
  have OC : Aside (∀ (e : Ct) (W : World), Calls Try.prog 28 #[.agg #[.int .u8 (e.1 : Int), .bool e.2.1, .int .u8 (e.2.2 : Int)], .agg #[.int .u8 (f : Int), .bool g, .int .u8 (h9 : Int)]] W fun z w' => z = .returned (.int .i64 (cmpI (e.1 : Int) (f : Int))) ∧ Below W.heap.size W w') := fun e W => order_any e ⟨f, g, h9⟩ W
  go_enter Try.func27, Try.ntmps27
  go_wp2_with fail
  rw [← hV]
  clear hV
  go_loopg [9, 10] n (fun kx s9 s10 wr => ∃ lo hi : Nat, s9 = .int .i64 lo ∧ s10 = .int .i64 hi ∧ lo ≤ hi ∧ hi ≤ n ∧ hi - lo ≤ kx ∧ Aside (Below V.heap.size V wr) ∧
    Aside ((∀ t o, t < lo → l[t]? = some o → decide (o.1 < f) = true) ∧ (∀ t o, hi ≤ t → l[t]? = some o → decide (o.1 < f) = false)))
  case atStart =>
    refine ⟨0, n, rfl, rfl, Nat.zero_le _, Nat.le_refl _, by omega, Below.refl _ V, (⟨(fun t o ht => absurd ht (Nat.not_lt_zero _)), fun t o h1 h2 => ?_⟩ : _ ∧ _)⟩
    have := (List.getElem?_eq_some_iff.1 h2).1
    have := HN.out; omega
  case round =>
    obtain ⟨lo, hi, rfl, rfl, hlh, hin, hg, S1, I⟩ := hrel
    obtain ⟨x0, x1, x2⟩ := (XV.out.1.later S1.out).cells
    by_cases hlt : lo < hi
    · obtain ⟨e, he⟩ : ∃ e, l[(lo + hi) / 2]? = some e := ⟨_, List.getElem?_eq_getElem (by have := HN.out; omega)⟩
      obtain ⟨b, off, rfl, y0, y1, y2⟩ := AtC.get (HA.out.1.later (below_step XV.out.2 S1.out)) he
      have HE : Aside (l[(lo + hi) / 2]? = some e) := he
      clear he
      have hm1 : ((lo : Int) + (hi : Int)) / 2 = (((lo + hi) / 2 : Nat) : Int) := by omega
      have CE : Aside (decide (cmpI (e.1 : Int) (f : Int) < 0) = decide (e.1 < f)) := cmpI_lt _ _
      have O1 : Aside (∀ W : World, _) := fun W => OC.out e W
      generalize cmpI (e.1 : Int) (f : Int) = cv at CE O1
      have MM : Aside (lo ≤ (lo + hi) / 2 ∧ (lo + hi) / 2 < hi) := ⟨by omega, by omega⟩
      obtain ⟨mid, hmid⟩ : ∃ mid, mid = (lo + hi) / 2 := ⟨_, rfl⟩
      rw [← hmid] at hm1 HE MM y0 y1 y2
      clear hmid
      have t1 : (0 : Int) ≤ (mid : Int) := by omega
      have t2 : (mid : Int) < (n : Int) := by have := MM.out; omega
      have p0 : ∀ p : Bw wr, p.w'.cell? ⟨w.heap.size, 0, none⟩ = some (.int .u8 (f : Int)) := fun p => cell_later p.h x0
      have p1 : ∀ p : Bw wr, p.w'.cell? ⟨w.heap.size, 1, none⟩ = some (.bool g) := fun p => cell_later p.h x1
      have p2 : ∀ p : Bw wr, p.w'.cell? ⟨w.heap.size, 2, none⟩ = some (.int .u8 (h9 : Int)) := fun p => cell_later p.h x2
      have r0 : ∀ p : Bw wr, p.w'.cell? ⟨b, off + mid * 3, none⟩ = some (.int .u8 (e.1 : Int)) := fun p => cell_later p.h y0
      have r1 : ∀ p : Bw wr, p.w'.cell? ⟨b, off + mid * 3 + 1, none⟩ = some (.bool e.2.1) := fun p => cell_later p.h y1
      have r2 : ∀ p : Bw wr, p.w'.cell? ⟨b, off + mid * 3 + 2, none⟩ = some (.int .u8 (e.2.2 : Int)) := fun p => cell_later p.h y2
      clear x0 x1 x2 y0 y1 y2
      have BP : Aside (∀ p : Bw wr, Below V.heap.size V p.w') := fun p => below_step S1.out p.h
      have HM := HE
      by_cases hyx : cv < 0
      · go_wp2_with fail
        have hne := Bw.some wr
        refine wp_region_bw (by kernel_rfl) (by kernel_rfl) ?_
        repeat (quiet_step ((go_at_call 28; exact Calls.bw_of (O1.out _))))
        refine wpQuiet_nil ?_
        intro _ hw'
        obtain ⟨pq, hw''⟩ := hw'
        subst hw''
        go_wp2
        go_roundg (hi - (mid + 1))
        case measure => have := MM.out; omega
        case rel =>
          have I2 : Aside ((∀ t o, t < mid + 1 → l[t]? = some o → decide (o.1 < f) = true) ∧ (∀ t o, hi ≤ t → l[t]? = some o → decide (o.1 < f) = false)) := ⟨fun t o ht ho => by
            have ha : decide (e.1 < f) = true := by rw [← CE.out]; exact decide_eq_true hyx
            by_cases htm : t = mid
            · subst htm; rw [HE.out] at ho; rw [← Option.some.inj ho]; exact ha
            · obtain ⟨t1', t2'⟩ := List.getElem?_eq_some_iff.1 ho
              obtain ⟨m1', m2'⟩ := List.getElem?_eq_some_iff.1 HE.out
              have := List.pairwise_iff_getElem.1 HA.out.2 t mid t1' m1' (by omega)
              rw [t2', m2'] at this
              have h1 := of_decide_eq_true ha; exact decide_eq_true (by omega), I.out.2⟩
          exact ⟨mid + 1, hi, by go_num, rfl, by have := MM.out; omega, hin, Nat.le_refl _, BP.out _, I2⟩
      · go_wp2_with fail
        have hne := Bw.some wr
        refine wp_region_bw (by kernel_rfl) (by kernel_rfl) ?_
        repeat (quiet_step ((go_at_call 28; exact Calls.bw_of (O1.out _))))
        refine wpQuiet_nil ?_
        intro _ hw'
        obtain ⟨pq, hw''⟩ := hw'
        subst hw''
        go_wp2
        go_roundg (mid - lo)
        case measure => have := MM.out; omega
        case rel =>
          have I2 : Aside ((∀ t o, t < lo → l[t]? = some o → decide (o.1 < f) = true) ∧ (∀ t o, mid ≤ t → l[t]? = some o → decide (o.1 < f) = false)) := ⟨I.out.1, fun t o ht ho => by
            have ha : decide (e.1 < f) = false := by rw [← CE.out]; exact decide_eq_false (Int.not_lt.2 hyx)
            by_cases htm : t = mid
            · subst htm; rw [HE.out] at ho; rw [← Option.some.inj ho]; exact ha
            · obtain ⟨t1', t2'⟩ := List.getElem?_eq_some_iff.1 ho
              obtain ⟨m1', m2'⟩ := List.getElem?_eq_some_iff.1 HE.out
              have := List.pairwise_iff_getElem.1 HA.out.2 mid t m1' t1' (by omega)
              rw [t2', m2'] at this
              have h1 := of_decide_eq_false ha
              exact decide_eq_false (by omega)⟩
          exact ⟨lo, mid, rfl, by go_num, by have := MM.out; omega, by have := MM.out; omega, Nat.le_refl _, BP.out _, I2⟩
    · obtain rfl : hi = lo := by omega
      have PC : Aside (pos l f = hi) := countP_bound _ _ _ (by rw [← HN.out]; exact hin) I.out.1 I.out.2
      by_cases hlt2 : hi < n
      · obtain ⟨e, he⟩ : ∃ e, l[hi]? = some e := ⟨_, List.getElem?_eq_getElem (by have := HN.out; omega)⟩
        have FN : Aside (fnd l f = decide (e.1 = f)) := by exact fnd_at HA.out.2 PC.out he
        obtain ⟨b, off, rfl, y0, y1, y2⟩ := AtC.get (HA.out.1.later (below_step XV.out.2 S1.out)) he
        clear he
        have CE : Aside (decide (cmpI (e.1 : Int) (f : Int) = 0) = decide (e.1 = f)) := cmpI_eq _ _
        have O1 : Aside (∀ W : World, _) := fun W => OC.out e W
        generalize cmpI (e.1 : Int) (f : Int) = cv at CE O1
        have t1 : (0 : Int) ≤ (hi : Int) := by omega
        have t2 : (hi : Int) < (n : Int) := by omega
        have p0 : ∀ p : Bw wr, p.w'.cell? ⟨w.heap.size, 0, none⟩ = some (.int .u8 (f : Int)) := fun p => cell_later p.h x0
        have p1 : ∀ p : Bw wr, p.w'.cell? ⟨w.heap.size, 1, none⟩ = some (.bool g) := fun p => cell_later p.h x1
        have p2 : ∀ p : Bw wr, p.w'.cell? ⟨w.heap.size, 2, none⟩ = some (.int .u8 (h9 : Int)) := fun p => cell_later p.h x2
        have r0 : ∀ p : Bw wr, p.w'.cell? ⟨b, off + hi * 3, none⟩ = some (.int .u8 (e.1 : Int)) := fun p => cell_later p.h y0
        have r1 : ∀ p : Bw wr, p.w'.cell? ⟨b, off + hi * 3 + 1, none⟩ = some (.bool e.2.1) := fun p => cell_later p.h y1
        have r2 : ∀ p : Bw wr, p.w'.cell? ⟨b, off + hi * 3 + 2, none⟩ = some (.int .u8 (e.2.2 : Int)) := fun p => cell_later p.h y2
        clear x0 x1 x2 y0 y1 y2
        have BP : Aside (∀ p : Bw wr, Below w.heap.size w p.w') := fun p => below_step (below_step XV.out.2 S1.out) p.h
        by_cases hyx : cv = 0
        · have Q1 : Aside (∀ p : Bw wr, Q (.returned (.tuple #[.int .i64 (hi : Nat), .bool true])) p.w') := fun p => R.out hi true _ PC.out (by rw [FN.out, ← CE.out]; exact decide_eq_true hyx) (BP.out p)
          clear R CE FN PC
          have hb : (cv == 0) = true := by simp [hyx]
          clear hyx
          go_wp2_with fail
          have hne := Bw.some wr
          refine wp_region_bw (by kernel_rfl) (by kernel_rfl) ?_
          repeat (quiet_step ((go_at_call 28; exact Calls.bw_of (O1.out _))))
          refine wpQuiet_nil ?_
          intro _ hw'
          obtain ⟨pq, hw''⟩ := hw'
          subst hw''
          go_wp2
          exact Q1.out _
        · have Q1 : Aside (∀ p : Bw wr, Q (.returned (.tuple #[.int .i64 (hi : Nat), .bool false])) p.w') := fun p => R.out hi false _ PC.out (by rw [FN.out, ← CE.out]; exact decide_eq_false hyx) (BP.out p)
          clear R CE FN PC
          have hb : (cv == 0) = false := by simp [hyx]
          clear hyx
          go_wp2_with fail
          have hne := Bw.some wr
          refine wp_region_bw (by kernel_rfl) (by kernel_rfl) ?_
          repeat (quiet_step ((go_at_call 28; exact Calls.bw_of (O1.out _))))
          refine wpQuiet_nil ?_
          intro _ hw'
          obtain ⟨pq, hw''⟩ := hw'
          subst hw''
          go_wp2
          exact Q1.out _
      · have FN : Aside (fnd l f = false) := by exact fnd_end HA.out.2 PC.out (by have := HN.out; omega)
        have Q1 : Aside (∀ q, Q (.returned (.tuple #[.int .i64 (hi : Nat), .bool false])) (wr.drewN q)) := fun q => R.out hi false _ PC.out FN.out (below_drew (below_step XV.out.2 S1.out) q)
        have eh : hi = n := by omega
        subst eh
        clear hlh hin hn hg hlt hlt2 R FN PC I x0 x1 x2
        go_wp2_with fail
        go_quiet (fail)
        go_wp2
        exact Q1.out _
end Go.Proofs.Ytfjdopmjcddnlaa
