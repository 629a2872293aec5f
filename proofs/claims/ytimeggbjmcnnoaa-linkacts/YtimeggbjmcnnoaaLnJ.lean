/- What the document's own Accept gives. -/
import Derived.Test.YtimeggbjmcnnoaaLnI
namespace Go.Proofs.Ytimeggbjmcnnoaa
open Go.RowKit

theorem wrap_small {y : Nat} (h : y + 1 < 18446744073709551616) : IntKind.u64.wrap ((y : Int) + 1) = ((y + 1 : Nat) : Int) := by
  rw [IntKind.wrap_u64]
  omega
theorem wrap_sum {x y : Nat} (h : x + y < 18446744073709551616) : IntKind.u64.wrap ((x : Int) + (y : Int)) = ((x + y : Nat) : Int) := by
  rw [IntKind.wrap_u64]
  omega
theorem up_facts {tp cm s : Nat} (h : tp < s) (hcm : cm < 18446744073709551616) (hs : s < 4294967296) :
    Tm.isNew tp cm s = true ∧ Tm.accT tp s = s ∧ Tm.accC tp cm s = Tm.shl cm (s - tp) + 1 ∧ Tm.shl cm (s - tp) + 1 < 18446744073709551616 ∧ ∀ W, Calls Try.prog 39 #[.int .u64 (cm : Int), .int .u32 ((s - tp : Nat) : Int)] W fun e w' => e = .returned (.int .u64 (Tm.shl cm (s - tp) : Nat)) ∧ w' = W := by
  have n1 : Tm.isNew tp cm s = true := by unfold Tm.isNew; rw [decide_eq_true h]; rfl
  have n2 : Tm.accC tp cm s = Tm.shl cm (s - tp) + 1 := by unfold Tm.accC; rw [if_pos h]
  refine ⟨n1, by unfold Tm.accT; rw [if_pos h], n2, ?_, fun W => shifted_any cm _ W hcm (by omega)⟩
  have := Tm.accC_lt hcm n1
  rw [n2] at this
  exact this
theorem quo_form {x y : Nat} (h : x < 18446744073709551616) : (IntKind.u64.wrap ((x : Int).tdiv (y : Int))).tmod 2 = ((x / y % 2 : Nat) : Int) := by
  have e : (x : Int).tdiv (y : Int) = ((x / y : Nat) : Int) := by
    rw [Int.tdiv_eq_ediv_of_nonneg (by omega)]
    simp
  have h2 : x / y ≤ x := Nat.div_le_self _ _
  rw [e, IntKind.wrap_u64]
  generalize x / y = z at *
  have e2 : (z : Int) % 18446744073709551616 = (z : Int) := by omega
  rw [e2, Int.tmod_eq_emod_of_nonneg (by omega)]
  omega
/-- Of a number that is not above the greatest one. -/
def DownF (tp cm s : Nat) : Prop :=
  (64 ≤ tp - s → Tm.shl 1 (tp - s) = 0 ∧ Tm.isNew tp cm s = false) ∧
  (tp - s < 64 → Tm.shl 1 (tp - s) ≠ 0 ∧ ((IntKind.u64.wrap ((cm : Int).tdiv (Tm.shl 1 (tp - s) : Nat))).tmod 2 = 1 ∧ Tm.isNew tp cm s = false ∨ ¬ (IntKind.u64.wrap ((cm : Int).tdiv (Tm.shl 1 (tp - s) : Nat))).tmod 2 = 1 ∧ Tm.isNew tp cm s = true ∧ Tm.accT tp s = tp ∧ Tm.accC tp cm s = cm + Tm.shl 1 (tp - s) ∧ cm + Tm.shl 1 (tp - s) < 18446744073709551616))
theorem down_facts {tp cm s : Nat} (h : ¬ tp < s) (hcm : cm < 18446744073709551616) : DownF tp cm s := by
  refine ⟨fun h6 => ⟨Tm.shl_far h6, ?_⟩, fun h6 => ?_⟩
  · unfold Tm.isNew; rw [decide_eq_false h, decide_eq_false (by omega)]; rfl
  · have hp : 2 ^ (tp - s) < 18446744073709551616 := Nat.pow_lt_pow_right (a := 2) (by omega) h6
    have e : Tm.shl 1 (tp - s) = 2 ^ (tp - s) := by unfold Tm.shl; rw [Nat.one_mul, Nat.mod_eq_of_lt hp]
    have e0 : Tm.isNew tp cm s = !cm.testBit (tp - s) := by unfold Tm.isNew; rw [decide_eq_false h, decide_eq_true h6]; rfl
    have e1 := quo_form (x := cm) (y := 2 ^ (tp - s)) hcm
    rw [e]
    refine ⟨by have := Nat.two_pow_pos (tp - s); omega, ?_⟩
    rw [e1]
    by_cases g : cm / 2 ^ (tp - s) % 2 = 1
    · left
      refine ⟨by omega, ?_⟩
      rw [e0, Nat.testBit_eq_decide_div_mod_eq, decide_eq_true g]
      rfl
    · right
      have n1 : Tm.isNew tp cm s = true := by rw [e0, Nat.testBit_eq_decide_div_mod_eq, decide_eq_false g]; rfl
      have n2 : Tm.accC tp cm s = cm + 2 ^ (tp - s) := by unfold Tm.accC; rw [if_neg h]
      refine ⟨by omega, n1, by unfold Tm.accT; rw [if_neg h], n2, ?_⟩
      have := Tm.accC_lt hcm n1
      rw [n2] at this
      exact this

set_option maxRecDepth 100000 in
set_option maxHeartbeats 8000000 in
theorem raccept_any (key : List UInt8) (nx tp cm me f t s : Nat) (a : Option Addr) (n cap : Nat) (g : ByteArray) (body : List UInt8) (w : World)
    (htp : tp < 4294967296) (hcm : cm < 18446744073709551616) (hf : f < 256) (ht : t < 256) (hs : s < 4294967296) (hB : Byt w a n cap body) :
    Calls Try.prog 20 #[.agg #[str key, .int .u32 (nx : Int), .int .u32 (tp : Int), .int .u64 (cm : Int)], .int .u8 (me : Int), .agg #[.int .u8 (f : Int), .int .u8 (t : Int), .int .u32 (s : Int), .slice a n cap, .string g]] w (AccPost key nx tp cm me f t s body g.data.toList w) := by
  have GE : Aside (∀ c w', Tm.accE key me f t s tp cm body g.data.toList = c → c ≠ 0 → Below w.heap.size w w' → AccPost key nx tp cm me f t s body g.data.toList w (.returned (.tuple #[.agg #[str key, .int .u32 (nx : Int), .int .u32 (tp : Int), .int .u64 (cm : Int)], .int .i64 (c : Nat)])) w') := fun c w' h1 h2 h3 => accPost_err h1 h2 h3
  have GO : Aside (∀ w', Tm.accE key me f t s tp cm body g.data.toList = 0 → Below w.heap.size w w' → AccPost key nx tp cm me f t s body g.data.toList w (.returned (.tuple #[.agg #[str key, .int .u32 (nx : Int), .int .u32 (Tm.accT tp s : Nat), .int .u64 (Tm.accC tp cm s : Nat)], .int .i64 0])) w') := fun w' h1 h3 => accPost_ok h1 h3
  have B0 : Aside (∀ o o' o'', Below w.heap.size w (((w.alloc o).alloc o').alloc o'')) := fun o o' o'' => (((Below.refl _ w).alloc (Nat.le_refl _) o).alloc (by simp) o').alloc (by simp; omega) o''
  have AT : Aside (∀ W, Calls Try.prog 28 #[.int .u8 (f : Int), .int .u8 (t : Int)] W _) := fun W => two_any f t W
  have TG : Aside (∀ o o' o'', Calls Try.prog 16 #[str key, .agg #[.int .u8 (f : Int), .int .u8 (t : Int), .int .u32 (s : Int), .slice a n cap, .string g]] (((w.alloc o).alloc o').alloc o'') (TagPost key f t s body (((w.alloc o).alloc o').alloc o''))) := fun o o' o'' => rtag_any key f t s a n cap g body _ hf ht hs (hB.later (B0.out o o' o''))
  have UP : Aside (tp < s → Tm.isNew tp cm s = true ∧ Tm.accT tp s = s ∧ Tm.accC tp cm s = Tm.shl cm (s - tp) + 1 ∧ Tm.shl cm (s - tp) + 1 < 18446744073709551616 ∧ ∀ W, Calls Try.prog 39 #[.int .u64 (cm : Int), .int .u32 ((s - tp : Nat) : Int)] W fun e w' => e = .returned (.int .u64 (Tm.shl cm (s - tp) : Nat)) ∧ w' = W) := fun h => up_facts h hcm hs
  have DN : Aside (¬ tp < s → (∀ W, Calls Try.prog 39 #[.int .u64 1, .int .u32 ((tp - s : Nat) : Int)] W fun e w' => e = .returned (.int .u64 (Tm.shl 1 (tp - s) : Nat)) ∧ w' = W) ∧ DownF tp cm s) := fun h => ⟨fun W => shifted_any 1 _ W (by decide) (by omega), down_facts h hcm⟩
  have NB : Aside (tp < 4294967296 ∧ s < 4294967296) := ⟨htp, hs⟩
  have EE : Aside (Tm.accE key me f t s tp cm body g.data.toList = if t ≠ me ∨ Tm.two f t = false ∨ s = 0 then 2 else if Tm.tagE key f t s body ≠ 0 then Tm.tagE key f t s body else if g.data.toList ≠ Tm.tag key f t s body then 5 else if Tm.isNew tp cm s = false then 6 else 0) := rfl
  generalize AccPost key nx tp cm me f t s body g.data.toList w = Q at *
  generalize Tm.accE key me f t s tp cm body g.data.toList = ae at *
  unfold TagPost at TG
  generalize Tm.tagE key f t s body = te at *
  obtain ⟨tg, htg⟩ : ∃ tg : ByteArray, tg.data.toList = Tm.tag key f t s body := ⟨⟨(Tm.tag key f t s body).toArray⟩, rfl⟩
  rw [← htg, str_of] at TG
  have TQ : Aside ((tg.toList == g.toList) = decide (g.data.toList = Tm.tag key f t s body)) := by show _ = _; rw [eq_lists, htg, decide_eq_decide]; exact eq_comm
  generalize Tm.tag key f t s body = tl at *
  generalize Tm.two f t = tw at *
  unfold str at *
  generalize (⟨key.toArray⟩ : ByteArray) = k at *
  clear hB hf ht hs htp hcm htg
  by_cases h1 : t = me
  · have t1 : ((t : Int) != (me : Int)) = false := by simp [h1]
    cases tw
    · -- no two
      have Q1 : Aside (∀ w', Below w.heap.size w w' → _) := fun w' hb => GE.out 2 w' (by rw [EE.out, if_pos (.inr (.inl rfl))]) (by omega) hb
      clear GE GO EE TG UP DN TQ h1
      go_enter Try.func20, Try.ntmps20
      go_wp2_with fail
      refine (AT.out _).mono ?_
      rintro e w1 ⟨rfl, hw⟩
      replace hw := hw.symm; subst hw
      clear AT
      go_wp2
      refine ⟨rfl, _, ?_, Q1.out _ (B0.out _ _ _)⟩
      simp [results, Try.results20, go_sem]
    · by_cases h2 : s = 0
      · subst h2
        have Q1 : Aside (∀ w', Below w.heap.size w w' → _) := fun w' hb => GE.out 2 w' (by rw [EE.out, if_pos (.inr (.inr rfl))]) (by omega) hb
        clear GE GO EE TG UP DN TQ h1
        go_enter Try.func20, Try.ntmps20
        go_wp2_with fail
        refine (AT.out _).mono ?_
        rintro e w1 ⟨rfl, hw⟩
        replace hw := hw.symm; subst hw
        clear AT
        go_wp2
        refine ⟨rfl, _, ?_, Q1.out _ (B0.out _ _ _)⟩
        simp [results, Try.results20, go_sem]
      · have t2 : ((s : Int) == 0) = false := by
          have : ¬ (s : Int) = 0 := by omega
          simpa using this
        have EE2 : Aside (ae = if te ≠ 0 then te else if g.data.toList ≠ tl then 5 else if Tm.isNew tp cm s = false then 6 else 0) := by
          show _ = _
          rw [EE.out, if_neg]
          rintro (h | h | h)
          · exact h h1
          · cases h
          · exact h2 h
        clear EE h1 h2
        go_enter Try.func20, Try.ntmps20
        go_wp2_with fail
        refine (AT.out _).mono ?_
        rintro e w1 ⟨rfl, hw⟩
        replace hw := hw.symm; subst hw
        clear AT
        go_wp2_with fail
        refine (TG.out _ _ _).mono ?_
        rintro e w1 ⟨rfl, hb1⟩
        have B1 : Aside (Below w.heap.size w w1) := below_step (B0.out _ _ _) hb1
        have E1 := (((E4.new w 40 (.string k) (.int .u32 (nx : Int)) (.int .u32 (tp : Int)) (.int .u64 (cm : Int))).alloc (.cells #[.int .u8 (f : Int), .int .u8 (t : Int), .int .u32 (s : Int), .slice a n cap, .string g] 26)).alloc (.cells #[.string ⟨#[]⟩, .int .u32 0, .int .u32 0, .int .u64 0] 40)).later hb1
        have X1 := ((L5.new (w.alloc (.cells #[.string k, .int .u32 (nx : Int), .int .u32 (tp : Int), .int .u64 (cm : Int)] 40)) 26 (.int .u8 (f : Int)) (.int .u8 (t : Int)) (.int .u32 (s : Int)) (.slice a n cap) (.string g)).alloc (.cells #[.string ⟨#[]⟩, .int .u32 0, .int .u32 0, .int .u64 0] 40)).later hb1
        have R1 := (E4.new ((w.alloc (.cells #[.string k, .int .u32 (nx : Int), .int .u32 (tp : Int), .int .u64 (cm : Int)] 40)).alloc (.cells #[.int .u8 (f : Int), .int .u8 (t : Int), .int .u32 (s : Int), .slice a n cap, .string g] 26)) 40 (.string ⟨#[]⟩) (.int .u32 0) (.int .u32 0) (.int .u64 0)).later hb1
        simp only [World.size_alloc, Nat.add_assoc, Nat.reduceAdd] at X1 R1
        clear TG hb1 B0
        have EE1 : Aside (E4 w1 w.heap.size 40 _ _ _ _) := E1
        have RR1 : Aside (E4 w1 (w.heap.size + 2) 40 _ _ _ _) := R1
        have XX1 : Aside (L5 w1 (w.heap.size + 1) 26 _ _ _ _ _) := X1
        obtain ⟨e0, e1, e2, e3⟩ := E1.cells
        obtain ⟨x0, x1, x2, x3, x4⟩ := X1.cells
        obtain ⟨r0, r1, r2, r3⟩ := R1.cells
        have zz := R1.frozen
        clear E1 X1 R1
        by_cases h3 : te = 0
        · subst h3
          by_cases h4 : g.data.toList = tl
          · have t4 : (tg.toList == g.toList) = true := by rw [TQ.out]; exact decide_eq_true h4
            have t5 : (tg.toList != g.toList) = false := by unfold bne; rw [t4]; rfl
            have EE3 : Aside (ae = if Tm.isNew tp cm s = false then 6 else 0) := by show _ = _; rw [EE2.out, if_neg (by omega), if_neg (by simp [h4])]
            clear TQ h4 EE2
            by_cases h5 : tp < s
            · obtain ⟨u1, u2, u3, u4, u5⟩ := UP.out h5
              have Q1 : Aside (∀ w', Below w.heap.size w w' → _) := fun w' hb => GO.out w' (by rw [EE3.out, if_neg (by rw [u1]; simp)]) hb
              rw [u2, u3] at Q1
              have t6 : (tp : Int) < (s : Int) := by omega
              obtain ⟨d, hd⟩ : ∃ d : Nat, d = s - tp := ⟨_, rfl⟩
              have t7 : (s : Int) - (tp : Int) = (d : Int) := by omega
              have t8 : (d : Int) < 4294967296 := by have := NB.out; omega
              rw [← hd] at u5 Q1 u4
              generalize Tm.shl cm d = y at *
              have SH : Aside (∀ W, _) := u5
              have hw := wrap_small u4
              generalize y + 1 = c at *
              clear GE GO EE3 UP DN NB u1 u2 u3 u4 u5 hd h5
              have V1 : E4 ((((w1.setCell ⟨w.heap.size, 3, none⟩ (.int .u64 (y : Int))).setCell ⟨w.heap.size, 3, none⟩ (.int .u64 (c : Int))).setCell ⟨w.heap.size, 2, none⟩ (.int .u32 (s : Int)))) w.heap.size 40 (.string k) (.int .u32 (nx : Int)) (.int .u32 (s : Int)) (.int .u64 (c : Int)) := row_set (row_set (row_set EE1.out _) _) _
              have V2 : E4 ((((w1.setCell ⟨w.heap.size, 3, none⟩ (.int .u64 (y : Int))).setCell ⟨w.heap.size, 3, none⟩ (.int .u64 (c : Int))).setCell ⟨w.heap.size, 2, none⟩ (.int .u32 (s : Int)))) (w.heap.size + 2) 40 (.string ⟨#[]⟩) (.int .u32 0) (.int .u32 0) (.int .u64 0) := (row_far (by omega) _).trans ((row_far (by omega) _).trans ((row_far (by omega) _).trans RR1.out))
              have V3 : Below w.heap.size w ((((w1.setCell ⟨w.heap.size, 3, none⟩ (.int .u64 (y : Int))).setCell ⟨w.heap.size, 3, none⟩ (.int .u64 (c : Int))).setCell ⟨w.heap.size, 2, none⟩ (.int .u32 (s : Int)))) := ((B1.out.setCell (p := ⟨w.heap.size, 3, none⟩) (Nat.le_refl _) _).setCell (p := ⟨w.heap.size, 3, none⟩) (Nat.le_refl _) _).setCell (p := ⟨w.heap.size, 2, none⟩) (Nat.le_refl _) _
              have D2 : Aside (E4 _ _ _ _ _ _ _) := V2.set (.string k) (.int .u32 (nx : Int)) (.int .u32 (s : Int)) (.int .u64 (c : Int))
              have C2 : Aside (Below _ _ _) := below_set4 V3 (b := w.heap.size + 2) (by omega) (.string k) (.int .u32 (nx : Int)) (.int .u32 (s : Int)) (.int .u64 (c : Int))
              have ez := EE1.out.frozen
              clear V1 V2 V3 EE1 RR1 XX1 B1
              go_wp2_with fail
              refine (SH.out _).mono ?_
              rintro e w2 ⟨rfl, hw2⟩
              replace hw2 := hw2.symm; subst hw2
              clear SH
              go_wp2
              obtain ⟨d0, d1, d2, d3⟩ := D2.out.cells
              refine ⟨rfl, _, ?_, Q1.out _ C2.out⟩
              simp [results, Try.results20, go_sem, d0, d1, d2, d3]
            · obtain ⟨SH0, dn⟩ := DN.out h5
              have t6 : ¬ (tp : Int) < (s : Int) := by omega
              obtain ⟨d, hd⟩ : ∃ d : Nat, d = tp - s := ⟨_, rfl⟩
              have t7 : (tp : Int) - (s : Int) = (d : Int) := by omega
              have t8 : (d : Int) < 4294967296 := by have := NB.out; omega
              unfold DownF at dn
              rw [← hd] at SH0 dn
              have SH : Aside (∀ W, _) := SH0
              by_cases h6 : 64 ≤ d
              · obtain ⟨v1, v2⟩ := dn.1 h6
                rw [v1] at SH
                have Q1 : Aside (∀ w', Below w.heap.size w w' → _) := fun w' hb => GE.out 6 w' (by rw [EE3.out, if_pos v2]) (by omega) hb
                have D2 : Aside (E4 _ _ _ _ _ _ _) := RR1.out.set (.string k) (.int .u32 (nx : Int)) (.int .u32 (tp : Int)) (.int .u64 (cm : Int))
                have C2 : Aside (Below _ _ _) := below_set4 B1.out (b := w.heap.size + 2) (by omega) (.string k) (.int .u32 (nx : Int)) (.int .u32 (tp : Int)) (.int .u64 (cm : Int))
                clear GE GO EE3 UP DN NB hd h5 dn v1 v2 SH0 h6 EE1 RR1 XX1 B1
                have tz : (0 : Int) ≤ (d : Int) := by omega
                generalize (tp : Int) = A at *
                generalize (s : Int) = S at *
                generalize (d : Int) = Dd at *
                go_wp2_with fail
                refine (SH.out _).mono ?_
                rintro e w2 ⟨rfl, hw2⟩
                replace hw2 := hw2.symm; subst hw2
                clear SH
                go_wp2
                obtain ⟨d0, d1, d2, d3⟩ := D2.out.cells
                refine ⟨rfl, _, ?_, Q1.out _ C2.out⟩
                simp [results, Try.results20, go_sem, d0, d1, d2, d3]
              · obtain ⟨v0, dd⟩ := dn.2 (by omega)
                generalize Tm.shl 1 d = bt at *
                have t9 : ((bt : Int) == 0) = false := by
                  have : ¬ (bt : Int) = 0 := by omega
                  simpa using this
                have t10 : ¬ (bt : Int) = 0 := by omega
                rcases dd with ⟨v1, v2⟩ | ⟨v1, v2, v3, v4, v5⟩
                · have Q1 : Aside (∀ w', Below w.heap.size w w' → _) := fun w' hb => GE.out 6 w' (by rw [EE3.out, if_pos v2]) (by omega) hb
                  have D2 : Aside (E4 _ _ _ _ _ _ _) := RR1.out.set (.string k) (.int .u32 (nx : Int)) (.int .u32 (tp : Int)) (.int .u64 (cm : Int))
                  have C2 : Aside (Below _ _ _) := below_set4 B1.out (b := w.heap.size + 2) (by omega) (.string k) (.int .u32 (nx : Int)) (.int .u32 (tp : Int)) (.int .u64 (cm : Int))
                  have t11 : ((IntKind.u64.wrap ((cm : Int).tdiv (bt : Int))).tmod 2 == 1) = true := by simpa using v1
                  clear GE GO EE3 UP DN NB hd h5 dn v1 v2 SH0 h6 EE1 RR1 XX1 B1 v0
                  have tz : (0 : Int) ≤ (d : Int) := by omega
                  generalize (tp : Int) = A at *
                  generalize (s : Int) = S at *
                  generalize (d : Int) = Dd at *
                  have ty : (0 : Int) ≤ (bt : Int) := by omega
                  have tx : (0 : Int) ≤ (cm : Int) := by omega
                  generalize (bt : Int) = BT at *
                  generalize (cm : Int) = CM at *
                  go_wp2_with fail
                  refine (SH.out _).mono ?_
                  rintro e w2 ⟨rfl, hw2⟩
                  replace hw2 := hw2.symm; subst hw2
                  clear SH
                  go_wp2
                  obtain ⟨d0, d1, d2, d3⟩ := D2.out.cells
                  refine ⟨rfl, _, ?_, Q1.out _ C2.out⟩
                  simp [results, Try.results20, go_sem, d0, d1, d2, d3]
                · have Q1 : Aside (∀ w', Below w.heap.size w w' → _) := fun w' hb => GO.out w' (by rw [EE3.out, if_neg (by rw [v2]; simp)]) hb
                  rw [v3, v4] at Q1
                  have t11 : ((IntKind.u64.wrap ((cm : Int).tdiv (bt : Int))).tmod 2 == 1) = false := by simpa using v1
                  have hw := wrap_sum v5
                  generalize cm + bt = c at *
                  have V1 : E4 (w1.setCell ⟨w.heap.size, 3, none⟩ (.int .u64 (c : Int))) w.heap.size 40 (.string k) (.int .u32 (nx : Int)) (.int .u32 (tp : Int)) (.int .u64 (c : Int)) := row_set EE1.out _
                  have V2 : E4 (w1.setCell ⟨w.heap.size, 3, none⟩ (.int .u64 (c : Int))) (w.heap.size + 2) 40 (.string ⟨#[]⟩) (.int .u32 0) (.int .u32 0) (.int .u64 0) := (row_far (by omega) _).trans RR1.out
                  have D2 : Aside (E4 _ _ _ _ _ _ _) := V2.set (.string k) (.int .u32 (nx : Int)) (.int .u32 (tp : Int)) (.int .u64 (c : Int))
                  have C2 : Aside (Below _ _ _) := below_set4 (B1.out.setCell (p := ⟨w.heap.size, 3, none⟩) (Nat.le_refl _) (.int .u64 (c : Int))) (b := w.heap.size + 2) (by omega) (.string k) (.int .u32 (nx : Int)) (.int .u32 (tp : Int)) (.int .u64 (c : Int))
                  have ez := EE1.out.frozen
                  clear GE GO EE3 UP DN NB hd h5 dn v1 v2 v3 v4 v5 SH0 h6 EE1 RR1 XX1 B1 v0 V1 V2
                  have tz : (0 : Int) ≤ (d : Int) := by omega
                  generalize (tp : Int) = A at *
                  generalize (s : Int) = S at *
                  generalize (d : Int) = Dd at *
                  have ty : (0 : Int) ≤ (bt : Int) := by omega
                  have tx : (0 : Int) ≤ (cm : Int) := by omega
                  generalize (bt : Int) = BT at *
                  generalize (cm : Int) = CM at *
                  go_wp2_with fail
                  refine (SH.out _).mono ?_
                  rintro e w2 ⟨rfl, hw2⟩
                  replace hw2 := hw2.symm; subst hw2
                  clear SH
                  go_wp2
                  obtain ⟨d0, d1, d2, d3⟩ := D2.out.cells
                  refine ⟨rfl, _, ?_, Q1.out _ C2.out⟩
                  simp [results, Try.results20, go_sem, d0, d1, d2, d3]
          · have t4 : (tg.toList == g.toList) = false := by rw [TQ.out]; exact decide_eq_false h4
            have t5 : (tg.toList != g.toList) = true := by unfold bne; rw [t4]; rfl
            have Q1 : Aside (∀ w', Below w.heap.size w w' → _) := fun w' hb => GE.out 5 w' (by rw [EE2.out, if_neg (by omega), if_pos h4]) (by omega) hb
            have D2 : Aside (E4 _ _ _ _ _ _ _) := RR1.out.set (.string k) (.int .u32 (nx : Int)) (.int .u32 (tp : Int)) (.int .u64 (cm : Int))
            have C2 : Aside (Below _ _ _) := below_set4 B1.out (b := w.heap.size + 2) (by omega) (.string k) (.int .u32 (nx : Int)) (.int .u32 (tp : Int)) (.int .u64 (cm : Int))
            clear GE GO EE2 UP DN TQ h4 EE1 RR1 XX1 B1
            go_wp2
            obtain ⟨d0, d1, d2, d3⟩ := D2.out.cells
            refine ⟨rfl, _, ?_, Q1.out _ C2.out⟩
            simp [results, Try.results20, go_sem, d0, d1, d2, d3]
        · have t3 : ((te : Int) != 0) = true := by
            have : ¬ (te : Int) = 0 := by omega
            simpa using this
          have Q1 : Aside (∀ w', Below w.heap.size w w' → _) := fun w' hb => GE.out te w' (by rw [EE2.out, if_pos h3]) h3 hb
          have D2 : Aside (E4 _ _ _ _ _ _ _) := RR1.out.set (.string k) (.int .u32 (nx : Int)) (.int .u32 (tp : Int)) (.int .u64 (cm : Int))
          have C2 : Aside (Below _ _ _) := below_set4 B1.out (b := w.heap.size + 2) (by omega) (.string k) (.int .u32 (nx : Int)) (.int .u32 (tp : Int)) (.int .u64 (cm : Int))
          clear GE GO EE2 UP DN TQ h3 EE1 RR1 XX1 B1
          go_wp2
          obtain ⟨d0, d1, d2, d3⟩ := D2.out.cells
          refine ⟨rfl, _, ?_, Q1.out _ C2.out⟩
          simp [results, Try.results20, go_sem, d0, d1, d2, d3]
  · have t1 : ((t : Int) != (me : Int)) = true := by
      have : ¬ (t : Int) = (me : Int) := by omega
      simpa using this
    have Q1 : Aside (∀ w', Below w.heap.size w w' → _) := fun w' hb => GE.out 2 w' (by rw [EE.out, if_pos (.inl h1)]) (by omega) hb
    clear GE GO EE TG UP DN TQ AT h1
    go_enter Try.func20, Try.ntmps20
    go_wp2
    refine ⟨rfl, _, ?_, Q1.out _ (B0.out _ _ _)⟩
    simp [results, Try.results20, go_sem]

end Go.Proofs.Ytimeggbjmcnnoaa
