/- What Send gives, and that the letter's body lies in memory of its own. -/
import Derived.Test.YtimeggbjmcnnoaaLnK
namespace Go.Proofs.Ytimeggbjmcnnoaa
open Go.RowKit

def SendPost2 (key : List UInt8) (nx tp cm f t : Nat) (body : List UInt8) (w : World) (e : Ending) (w' : World) : Prop :=
  ∃ a' n' cap', e = .returned (.tuple #[.agg #[str key, .int .u32 (Tm.sN key nx f t body : Nat), .int .u32 (tp : Int), .int .u64 (cm : Int)], .agg #[.int .u8 (Tm.sF key nx f t body : Nat), .int .u8 (Tm.sT key nx f t body : Nat), .int .u32 (Tm.sS key nx f t body : Nat), .slice a' n' cap', str (Tm.sG key nx f t body)], .int .i64 (Tm.sendE key nx f t body : Nat)]) ∧
    Byt w' a' n' cap' (Tm.sB key nx f t body) ∧ (∀ ad, a' = some ad → w.heap.size ≤ ad.block) ∧ Below w.heap.size w w'
theorem sendPost2_err {key body : List UInt8} {nx tp cm f t c : Nat} {w w' : World} (h : Tm.sendE key nx f t body = c) (hc : c ≠ 0) (hb : Below w.heap.size w w') :
    SendPost2 key nx tp cm f t body w (.returned (.tuple #[.agg #[str key, .int .u32 (nx : Int), .int .u32 (tp : Int), .int .u64 (cm : Int)], .agg #[.int .u8 0, .int .u8 0, .int .u32 0, .slice none 0 0, .string ⟨#[]⟩], .int .i64 (c : Nat)])) w' := by
  refine ⟨none, 0, 0, ?_, ?_, (fun _ e => by cases e), hb⟩
  · unfold Tm.sN Tm.sF Tm.sT Tm.sS Tm.sG
    rw [h, if_neg hc, if_neg hc, if_neg hc, if_neg hc, if_neg hc]
    rfl
  · unfold Tm.sB
    rw [h, if_neg hc]
    exact ⟨rfl, Nat.le_refl _, .inl rfl, fun _ => rfl⟩
theorem sendPost2_ok {key body : List UInt8} {nx tp cm f t n cap : Nat} {a : Option Addr} {w w' : World} (h : Tm.sendE key nx f t body = 0) (hB : Byt w' a n cap body) (hf : ∀ ad, a = some ad → w.heap.size ≤ ad.block) (hb : Below w.heap.size w w') :
    SendPost2 key nx tp cm f t body w (.returned (.tuple #[.agg #[str key, .int .u32 ((nx + 1 : Nat) : Int), .int .u32 (tp : Int), .int .u64 (cm : Int)], .agg #[.int .u8 (f : Int), .int .u8 (t : Int), .int .u32 ((nx + 1 : Nat) : Int), .slice a n cap, str (Tm.tag key f t (nx + 1) body)], .int .i64 0])) w' := by
  refine ⟨a, n, cap, ?_, ?_, hf, hb⟩
  · unfold Tm.sN Tm.sF Tm.sT Tm.sS Tm.sG
    rw [h, if_pos rfl, if_pos rfl, if_pos rfl, if_pos rfl, if_pos rfl]
    rfl
  · unfold Tm.sB
    rw [h, if_pos rfl]
    exact hB

set_option maxRecDepth 100000 in
set_option maxHeartbeats 8000000 in
theorem send_fresh (key : List UInt8) (nx tp cm f t : Nat) (a : Option Addr) (n cap : Nat) (body : List UInt8) (w : World)
    (hnx : nx < 4294967296) (hf : f < 256) (ht : t < 256) (hB : Byt w a n cap body) :
    Calls Try.prog 17 #[.agg #[str key, .int .u32 (nx : Int), .int .u32 (tp : Int), .int .u64 (cm : Int)], .int .u8 (f : Int), .int .u8 (t : Int), .slice a n cap] w (SendPost2 key nx tp cm f t body w) := by
  have GE : Aside (∀ c w', Tm.sendE key nx f t body = c → c ≠ 0 → Below w.heap.size w w' → SendPost2 key nx tp cm f t body w (.returned (.tuple #[.agg #[str key, .int .u32 (nx : Int), .int .u32 (tp : Int), .int .u64 (cm : Int)], .agg #[.int .u8 0, .int .u8 0, .int .u32 0, .slice none 0 0, .string ⟨#[]⟩], .int .i64 (c : Nat)])) w') := fun c w' h1 h2 h3 => sendPost2_err h1 h2 h3
  have GO : Aside (∀ w' a' n' cap', Tm.sendE key nx f t body = 0 → Byt w' a' n' cap' body → (∀ ad, a' = some ad → w.heap.size ≤ ad.block) → Below w.heap.size w w' → SendPost2 key nx tp cm f t body w (.returned (.tuple #[.agg #[str key, .int .u32 ((nx + 1 : Nat) : Int), .int .u32 (tp : Int), .int .u64 (cm : Int)], .agg #[.int .u8 (f : Int), .int .u8 (t : Int), .int .u32 ((nx + 1 : Nat) : Int), .slice a' n' cap', str (Tm.tag key f t (nx + 1) body)], .int .i64 0])) w') := fun w' a' n' cap' h1 h2 h4 h3 => sendPost2_ok h1 h2 h4 h3
  have B0 : Aside (∀ o o' o'', Below w.heap.size w (((w.alloc o).alloc o').alloc o'')) := fun o o' o'' => (((Below.refl _ w).alloc (Nat.le_refl _) o).alloc (by simp) o').alloc (by simp; omega) o''
  have B4 : Aside (∀ o o' o'' o3, Below w.heap.size w ((((w.alloc o).alloc o').alloc o'').alloc o3)) := fun o o' o'' o3 => (B0.out o o' o'').alloc (by simp; omega) o3
  have AT : Aside (∀ W, Calls Try.prog 25 #[.int .u8 (f : Int), .int .u8 (t : Int)] W _) := fun W => areTwo_any f t W
  have TG : Aside (nx ≠ 4294967295 → ∀ o o' o'' o3, Calls Try.prog 15 #[str key, .agg #[.int .u8 (f : Int), .int .u8 (t : Int), .int .u32 ((nx + 1 : Nat) : Int), .slice a n cap, .string ⟨#[]⟩]] ((((w.alloc o).alloc o').alloc o'').alloc o3) (TagPost key f t (nx + 1) body ((((w.alloc o).alloc o').alloc o'').alloc o3))) := fun h o o' o'' o3 => tag_any key f t (nx + 1) a n cap ⟨#[]⟩ body _ hf ht (by omega) (hB.later (B4.out o o' o'' o3))
  have EE : Aside (Tm.sendE key nx f t body = if Tm.two f t = false then 2 else if nx = 4294967295 then 7 else Tm.tagE key f t (nx + 1) body) := rfl
  have TZ : Aside (Tm.tagE key f t (nx + 1) body = 0 → n ≤ 1000) := fun h => by rw [← hB.1]; exact (Tm.tagE_zero h).1
  have HB : Aside (Byt w a n cap body) := hB
  generalize SendPost2 key nx tp cm f t body w = Q at *
  generalize Tm.sendE key nx f t body = ae at *
  unfold TagPost at TG
  generalize Tm.tagE key f t (nx + 1) body = te at *
  generalize Tm.two f t = tw at *
  unfold str at *
  generalize (⟨(Tm.tag key f t (nx + 1) body).toArray⟩ : ByteArray) = tg at *
  generalize (⟨key.toArray⟩ : ByteArray) = k at *
  have HX : Aside (nx < 4294967296) := hnx
  clear hB hf ht hnx
  cases tw
  · have Q1 : Aside (∀ w', Below w.heap.size w w' → _) := fun w' hb => GE.out 2 w' (by rw [EE.out, if_pos rfl]) (by omega) hb
    clear GE GO EE TG TZ HB HX B4
    go_enter Try.func17, Try.ntmps17
    go_wp2_with fail
    refine (AT.out _).mono ?_
    rintro e w1 ⟨rfl, hw⟩
    replace hw := hw.symm; subst hw
    clear AT
    go_wp2
    refine ⟨rfl, _, ?_, Q1.out _ (B0.out _ _ _)⟩
    simp [results, Try.results17, go_sem]
  · by_cases h1 : nx = 4294967295
    · have Q1 : Aside (∀ w', Below w.heap.size w w' → _) := fun w' hb => GE.out 7 w' (by rw [EE.out, if_neg (by simp), if_pos h1]) (by omega) hb
      have t1 : ((nx : Int) == 4294967295) = true := by
        have : (nx : Int) = 4294967295 := by omega
        simpa using this
      clear GE GO EE TG TZ HB HX B4 h1
      generalize (nx : Int) = NX at *
      go_enter Try.func17, Try.ntmps17
      go_wp2_with fail
      refine (AT.out _).mono ?_
      rintro e w1 ⟨rfl, hw⟩
      replace hw := hw.symm; subst hw
      clear AT
      go_wp2
      refine ⟨rfl, _, ?_, Q1.out _ (B0.out _ _ _)⟩
      simp [results, Try.results17, go_sem]
    · have t1 : ((nx : Int) == 4294967295) = false := by
        have : ¬ (nx : Int) = 4294967295 := by omega
        simpa using this
      have TG1 : Aside (∀ o o' o'' o3, _) := TG.out h1
      have EE1 : Aside (ae = te) := by show _ = _; rw [EE.out, if_neg (by simp), if_neg h1]
      have t2 : (nx : Int) + 1 < 4294967296 := by have := HX.out; omega
      have t3 : IntKind.u32.wrap ((nx : Int) + 1) = ((nx + 1 : Nat) : Int) := by
        rw [show IntKind.u32.wrap ((nx : Int) + 1) = ((nx : Int) + 1) % 4294967296 by simp [IntKind.wrap, IntKind.bits, IntKind.signed]]
        omega
      have t4 : (nx : Int) + 1 = ((nx + 1 : Nat) : Int) := by omega
      have t5 : (0 : Int) ≤ (nx : Int) := by omega
      have t6 : (0 : Int) ≤ ((nx + 1 : Nat) : Int) := by omega
      have t7 : ((nx + 1 : Nat) : Int) < 4294967296 := by have := HX.out; omega
      obtain ⟨m, hm⟩ : ∃ m : Nat, m = nx + 1 := ⟨_, rfl⟩
      rw [← hm] at TG1 GO t3 t4 t6 t7
      clear EE TG h1 hm
      generalize (m : Int) = M at *
      generalize (nx : Int) = NX at *
      go_enter Try.func17, Try.ntmps17
      go_wp2_with fail
      refine (AT.out _).mono ?_
      rintro e w1 ⟨rfl, hw⟩
      replace hw := hw.symm; subst hw
      clear AT
      go_wp2_with fail
      refine (TG1.out _ _ _ _).mono ?_
      rintro e w1 ⟨rfl, hb1⟩
      have B1 : Aside (Below w.heap.size w w1) := below_step (B4.out _ _ _ _) hb1
      have E1 := ((((E4.new w 41 (.string k) (.int .u32 NX) (.int .u32 (tp : Int)) (.int .u64 (cm : Int))).alloc (.cells #[.string ⟨#[]⟩, .int .u32 0, .int .u32 0, .int .u64 0] 41)).alloc (.cells #[.int .u8 0, .int .u8 0, .int .u32 0, .slice none 0 0, .string ⟨#[]⟩] 35)).alloc (.cells #[.int .u8 (f : Int), .int .u8 (t : Int), .int .u32 M, .slice a n cap, .string ⟨#[]⟩] 35)).later hb1
      have R1 := (((E4.new (w.alloc (.cells #[.string k, .int .u32 NX, .int .u32 (tp : Int), .int .u64 (cm : Int)] 41)) 41 (.string ⟨#[]⟩) (.int .u32 0) (.int .u32 0) (.int .u64 0)).alloc (.cells #[.int .u8 0, .int .u8 0, .int .u32 0, .slice none 0 0, .string ⟨#[]⟩] 35)).alloc (.cells #[.int .u8 (f : Int), .int .u8 (t : Int), .int .u32 M, .slice a n cap, .string ⟨#[]⟩] 35)).later hb1
      have L1 := ((L5.new ((w.alloc (.cells #[.string k, .int .u32 NX, .int .u32 (tp : Int), .int .u64 (cm : Int)] 41)).alloc (.cells #[.string ⟨#[]⟩, .int .u32 0, .int .u32 0, .int .u64 0] 41)) 35 (.int .u8 0) (.int .u8 0) (.int .u32 0) (.slice none 0 0) (.string ⟨#[]⟩)).alloc (.cells #[.int .u8 (f : Int), .int .u8 (t : Int), .int .u32 M, .slice a n cap, .string ⟨#[]⟩] 35)).later hb1
      have X1 := (L5.new (((w.alloc (.cells #[.string k, .int .u32 NX, .int .u32 (tp : Int), .int .u64 (cm : Int)] 41)).alloc (.cells #[.string ⟨#[]⟩, .int .u32 0, .int .u32 0, .int .u64 0] 41)).alloc (.cells #[.int .u8 0, .int .u8 0, .int .u32 0, .slice none 0 0, .string ⟨#[]⟩] 35)) 35 (.int .u8 (f : Int)) (.int .u8 (t : Int)) (.int .u32 M) (.slice a n cap) (.string ⟨#[]⟩)).later hb1
      simp only [World.size_alloc, Nat.add_assoc, Nat.reduceAdd] at X1 R1 L1
      clear TG1 hb1 B0 B4
      by_cases h3 : te = 0
      · subst h3
        have hn := TZ.out rfl
        have Q1 : Aside (∀ w' a' n' cap', Byt w' a' n' cap' body → (∀ ad, a' = some ad → w.heap.size ≤ ad.block) → Below w.heap.size w w' → _) := fun w' a' n' cap' hy hf hb => GO.out w' a' n' cap' EE1.out hy hf hb
        have BW : Aside (Byt w1 a n cap body) := HB.out.later B1.out
        clear GE GO TZ EE1 HB HX t1 t2
        go_wp2_with fail
        refine (clone_any a n cap body w1 hn BW.out).mono ?_
        rintro e w2 ⟨a2, cap2, rfl, hy2, hfr, hb2⟩
        have hs1 : w.heap.size + 4 ≤ w1.heap.size := (Array.getElem?_eq_some_iff.1 X1).1
        have FR : Aside (∀ ad, a2 = some ad → w.heap.size + 4 ≤ ad.block) := fun ad e => Nat.le_trans hs1 (hfr ad e)
        replace E1 := E1.later hb2
        replace R1 := R1.later hb2
        replace L1 := L1.later hb2
        replace X1 := X1.later hb2
        have B2 : Below w.heap.size w w2 := below_step B1.out hb2
        have z0 := E1.frozen
        have z3 := X1.frozen
        obtain ⟨e0, e1, e2, e3⟩ := E1.cells
        obtain ⟨x0, x1, x2, x3, x4⟩ := X1.cells
        have VF : Aside (Sat 41 35 w k tg M tp cm f t a2 n cap2 body _) := sat_prog E1 R1 L1 X1 hy2 FR.out B2
        clear E1 R1 L1 X1
        go_wp2_with fail
        refine (?REST : ∀ V : World, Sat 41 35 w k tg M tp cm f t a2 n cap2 body V → Code.wp _ _ _ _ V) _ VF.out
        case REST =>
          rintro V ⟨v1, v2, v3, v4, v5, v6⟩
          clear VF e0 e1 e2 e3 x0 x1 x2 x3 x4 z0 z3
          obtain ⟨e0, e1, e2, e3⟩ := v1.cells
          obtain ⟨r0, r1, r2, r3⟩ := v2.cells
          obtain ⟨y0, y1, y2, y3, y4⟩ := v3.cells
          obtain ⟨x0, x1, x2, x3, x4⟩ := v4.cells
          have zr := v2.frozen
          have zy := v3.frozen
          have V5 : Aside (Byt V a2 n cap2 body ∧ Below w.heap.size w V) := ⟨v5, v6⟩
          have V2 : Aside (E4 V _ _ _ _ _ _) := v2
          have V3 : Aside (L5 V _ _ _ _ _ _ _) := v3
          clear v1 v2 v3 v4 v5 v6
          have W1 := V2.out.set (.string k) (.int .u32 M) (.int .u32 (tp : Int)) (.int .u64 (cm : Int))
          have D4 : Aside (E4 _ _ _ _ _ _ _) := W1.far5 (c := w.heap.size + 2) (by omega) (.int .u8 (f : Int)) (.int .u8 (t : Int)) (.int .u32 M) (.slice a2 n cap2) (.string tg)
          have W2 := V3.out.far4 (c := w.heap.size + 1) (by omega) (.string k) (.int .u32 M) (.int .u32 (tp : Int)) (.int .u64 (cm : Int))
          have D3 : Aside (L5 _ _ _ _ _ _ _ _) := W2.set (.int .u8 (f : Int)) (.int .u8 (t : Int)) (.int .u32 M) (.slice a2 n cap2) (.string tg)
          have C2 : Aside (Below _ _ _) := below_set5 (below_set4 V5.out.2 (b := w.heap.size + 1) (by omega) (.string k) (.int .u32 M) (.int .u32 (tp : Int)) (.int .u64 (cm : Int))) (b := w.heap.size + 2) (by omega) (.int .u8 (f : Int)) (.int .u8 (t : Int)) (.int .u32 M) (.slice a2 n cap2) (.string tg)
          have F1 : ∀ ad, a2 = some ad → ad.block ≠ w.heap.size + 1 := fun ad e => by have := FR.out ad e; omega
          have F2 : ∀ ad, a2 = some ad → ad.block ≠ w.heap.size + 2 := fun ad e => by have := FR.out ad e; omega
          have LB : Aside (Byt _ a2 n cap2 body) := byt_far (byt_far (byt_far (byt_far (byt_far (byt_far (byt_far (byt_far (byt_far V5.out.1 F1 0 (.string k)) F1 1 (.int .u32 M)) F1 2 (.int .u32 (tp : Int))) F1 3 (.int .u64 (cm : Int))) F2 0 (.int .u8 (f : Int))) F2 1 (.int .u8 (t : Int))) F2 2 (.int .u32 M)) F2 3 (.slice a2 n cap2)) F2 4 (.string tg)
          have SFT : Aside (∀ ad, a2 = some ad → w.heap.size ≤ ad.block) := fun ad e => by have := FR.out ad e; omega
          clear F1 F2 hfr FR
          clear W1 W2 V2 V3
          go_region
          all_goals
            go_wp2
            obtain ⟨d0, d1, d2, d3⟩ := D4.out.cells
            obtain ⟨c0, c1, c2, c3, c4⟩ := D3.out.cells
            refine ⟨rfl, _, ?_, Q1.out _ _ _ _ (byt_drew LB.out) SFT.out (below_drew1 C2.out)⟩
            simp [results, Try.results17, go_sem, d0, d1, d2, d3, c0, c1, c2, c3, c4]
      · have t8 : ((te : Int) != 0) = true := by
          have : ¬ (te : Int) = 0 := by omega
          simpa using this
        have Q1 : Aside (∀ w', Below w.heap.size w w' → _) := fun w' hb => GE.out te w' EE1.out h3 hb
        have D2 : Aside (E4 _ _ _ _ _ _ _) := R1.set (.string k) (.int .u32 NX) (.int .u32 (tp : Int)) (.int .u64 (cm : Int))
        have LS := L1.far4 (c := w.heap.size + 1) (by omega) (.string k) (.int .u32 NX) (.int .u32 (tp : Int)) (.int .u64 (cm : Int))
        have D3 : Aside (L5 _ _ _ _ _ _ _ _) := LS.set (.int .u8 0) (.int .u8 0) (.int .u32 0) (.slice none 0 0) (.string ⟨#[]⟩)
        have D4 : Aside (E4 _ _ _ _ _ _ _) := D2.out.far5 (c := w.heap.size + 2) (by omega) (.int .u8 0) (.int .u8 0) (.int .u32 0) (.slice none 0 0) (.string ⟨#[]⟩)
        have C2 : Aside (Below _ _ _) := below_set5 (below_set4 B1.out (b := w.heap.size + 1) (by omega) (.string k) (.int .u32 NX) (.int .u32 (tp : Int)) (.int .u64 (cm : Int))) (b := w.heap.size + 2) (by omega) (.int .u8 0) (.int .u8 0) (.int .u32 0) (.slice none 0 0) (.string ⟨#[]⟩)
        obtain ⟨e0, e1, e2, e3⟩ := E1.cells
        obtain ⟨r0, r1, r2, r3⟩ := R1.cells
        obtain ⟨y0, y1, y2, y3, y4⟩ := L1.cells
        have zr := R1.frozen
        have zy := L1.frozen
        clear GE GO TZ EE1 HB HX t1 t2 h3 E1 R1 L1 X1 LS B1 D2
        go_wp2
        obtain ⟨d0, d1, d2, d3⟩ := D4.out.cells
        obtain ⟨c0, c1, c2, c3, c4⟩ := D3.out.cells
        refine ⟨rfl, _, ?_, Q1.out _ C2.out⟩
        simp [results, Try.results17, go_sem, d0, d1, d2, d3, c0, c1, c2, c3, c4]


end Go.Proofs.Ytimeggbjmcnnoaa
