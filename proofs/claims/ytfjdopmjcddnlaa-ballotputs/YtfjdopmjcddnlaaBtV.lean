/- The walk of BallotPuts. -/
import Derived.Test.YtfjdopmjcddnlaaBtW
import Derived.Test.YtfjdopmjcddnlaaBtU
set_option linter.unusedVariables false
namespace Go.Proofs.Ytfjdopmjcddnlaa
open Go.RowKit Cn Rl Bt

/-- The arguments' boxes. -/
def PU (w W : World) (v : Int) (s : Nat) (sl : Value) (z : Ct) : Prop :=
  X3 W w.heap.size 28 (.int .i64 v) (.int .u16 (s : Int)) sl ∧ X3 W (w.heap.size + 1) 32 (.int .u8 (z.1 : Int)) (.bool z.2.1) (.int .u8 (z.2.2 : Int)) ∧ Below w.heap.size w W
theorem PU.later {w W W' : World} {v : Int} {s : Nat} {sl : Value} {z : Ct} (h : PU w W v s sl z) (hb : Below W.heap.size W W') : PU w W' v s sl z := ⟨h.1.later hb, h.2.1.later hb, below_step h.2.2 hb⟩

set_option maxHeartbeats 16000000 in
set_option maxRecDepth 100000 in
theorem puts_walk (v : Int) (s : Nat) (a : Option Addr) (c : Nat) (l : List Ct) (z : Ct) (w : World) (hl : AtC w a l) (hs : s < 65536) (h8 : ∀ z ∈ l, z.1 < 256 ∧ z.2.2 < 256) (hz8 : z.1 < 256 ∧ z.2.2 < 256) :
    Calls Try.prog 3 #[.agg #[.int .i64 v, .int .u16 (s : Int), .slice a l.length c], .agg #[.int .u8 (z.1 : Int), .bool z.2.1, .int .u8 (z.2.2 : Int)]] w fun e w' => e = .returned (.bool true) ∧ Below w.heap.size w w' := by
  have C8 : Aside (∀ W, _) := alive_any
  obtain ⟨n, en⟩ : ∃ n, n = l.length := ⟨_, rfl⟩
  rw [← en]
  have HL : Aside (AtC w a l ∧ n = l.length ∧ s < 65536 ∧ (∀ z ∈ l, z.1 < 256 ∧ z.2.2 < 256) ∧ z.1 < 256 ∧ z.2.2 < 256) := ⟨hl, en, hs, h8, hz8⟩
  clear hl en hs h8 hz8
  obtain ⟨V, hV⟩ : ∃ V, V = (w.alloc (.cells #[.int .i64 v, .int .u16 (s : Int), .slice a n c] 28)).alloc (.cells #[.int .u8 (z.1 : Int), .bool z.2.1, .int .u8 (z.2.2 : Int)] 32) := ⟨_, rfl⟩
  have X : Aside (PU w V v s (.slice a n c) z) := by
    rw [hV]; exact ⟨(X3.new w _ _ _ _).alloc _, X3.new1 w _ _ _ _ _, (below_one w _).alloc (by simp) _⟩
  go_enter Try.func3, Try.ntmps3
  go_wp2_with fail
  rw [← hV]
  clear hV
  by_cases hbig : (60 : Int) < (n : Int)
  · go_wp2_with (go_at_call 8; refine (C8.out _).mono ?_; rintro e U ⟨rfl, hb⟩; have Y : Aside (PU w U v s (.slice a n c) z) := X.out.later hb; clear hb X C8; obtain ⟨x0, x1, x2⟩ := Y.out.1.cells; obtain ⟨y0, y1, y2⟩ := Y.out.2.1.cells)
    have FB : Aside (Below w.heap.size w U) := Y.out.2.2
    clear Y
    go_wp2_with fail
    go_ret
    exact ⟨rfl, FB.out⟩
  have N60 : Aside (n ≤ 60) := by show _ ≤ _; omega
  obtain ⟨n1, hn1⟩ : ∃ n1, n1 = (putL v s l z).length := ⟨_, rfl⟩
  obtain ⟨pe, hpe⟩ : ∃ pe, pe = putE v s l z := ⟨_, rfl⟩
  have P9 : Aside (∀ (W : World) (a' : Option Addr) (c' : Nat), AtC W a' l → Calls Try.prog 9 #[.agg #[.int .i64 v, .int .u16 (s : Int), .slice a' n c'], .agg #[.int .u8 (z.1 : Int), .bool z.2.1, .int .u8 (z.2.2 : Int)]] W fun y w' => ∃ a2 c2, y = .returned (.tuple #[.agg #[.int .i64 v, .int .u16 (s : Int), .slice a2 n1 c2], .int .i64 (pe : Nat)]) ∧ AtC w' a2 (putL v s l z) ∧ Below W.heap.size W w' ∧ n1 ≤ c2 ∧ Fr W.heap.size a2) := fun W a' c' h => by rw [hn1, hpe, HL.out.2.1]; exact put_any v s a' c' l z W h HL.out.2.2.1 (by have := HL.out.2.1; have := N60.out; omega)
  have P12 : Aside (∀ W, AtC W a l → Calls Try.prog 12 #[.agg #[.int .i64 v, .int .u16 (s : Int), .slice a n c], .agg #[.int .u8 (z.1 : Int), .bool z.2.1, .int .u8 (z.2.2 : Int)]] W fun y w' => ∃ a' c', y = .returned (.tuple #[.agg #[.int .i64 v, .int .u16 (s : Int), .slice a' n1 c'], .int .i64 (pe : Nat)]) ∧ AtC w' a' (putL v s l z) ∧ Below W.heap.size W w') := fun W h => by
    rw [hn1, hpe, HL.out.2.1]
    exact (rput_any v s a c l z W h HL.out.2.2.1 (by have := HL.out.2.1; have := N60.out; omega) HL.out.2.2.2.1 HL.out.2.2.2.2).mono fun y w' ⟨p, q, r1, r2, r3, _⟩ => ⟨p, q, r1, r2, r3⟩
  have T10 : Aside (∀ W, AtC W a l → Calls Try.prog 10 #[.agg #[.int .i64 v, .int .u16 (s : Int), .slice a n c]] W fun y w' => ∃ a' c', y = .returned (.agg #[.int .i64 v, .int .u16 (s : Int), .slice a' n c']) ∧ AtC w' a' l ∧ Below W.heap.size W w') := fun W h => by
    rw [HL.out.2.1]; exact theirsB_any v s a c l W h (by have := HL.out.2.1; have := N60.out; omega)
  have C13 : Aside (∀ W a' c', AtC W a' l → Calls Try.prog 13 #[.agg #[.int .i64 v, .int .u16 (s : Int), .slice a' n c']] W fun e w' => e = .returned (.tuple #[.agg #[.bool (chA (chosen v s l)), .int .u8 (chI (chosen v s l) : Int)], .bool (chB (chosen v s l))]) ∧ Below W.heap.size W w') := fun W a' c' h => by rw [HL.out.2.1]; exact chosen_any v s a' c' l W h HL.out.2.2.1 (by have := HL.out.2.1; have := N60.out; omega)
  have C14 : Aside (∀ W, AtC W a l → Calls Try.prog 14 #[.agg #[.int .i64 v, .int .u16 (s : Int), .slice a n c]] W fun e w' => e = .returned (.tuple #[.agg #[.bool (chA (chosen v s l)), .int .u8 (chI (chosen v s l) : Int)], .bool (chB (chosen v s l))]) ∧ Below W.heap.size W w') := fun W h => by rw [HL.out.2.1]; exact rchosen_any v s a c l W h HL.out.2.2.1 (by have := HL.out.2.1; have := N60.out; omega) HL.out.2.2.2.1
  have C17 : Aside (∀ W a' c', AtC W a' l → Calls Try.prog 17 #[.agg #[.int .i64 v, .int .u16 (s : Int), .slice a' n c'], .agg #[.bool z.2.1, .int .u8 (z.2.2 : Int)]] W fun e w' => e = .returned (.int .u16 (forS v s l (z.2.1, z.2.2) : Nat)) ∧ Below W.heap.size W w') := fun W a' c' h => by rw [HL.out.2.1]; exact for_any v s a' c' l z.2.1 z.2.2 W h HL.out.2.2.1 (by have := HL.out.2.1; have := N60.out; omega)
  have C18 : Aside (∀ W, AtC W a l → Calls Try.prog 18 #[.agg #[.int .i64 v, .int .u16 (s : Int), .slice a n c], .agg #[.bool z.2.1, .int .u8 (z.2.2 : Int)]] W fun e w' => e = .returned (.int .u16 (forS v s l (z.2.1, z.2.2) : Nat)) ∧ Below W.heap.size W w') := fun W h => by rw [HL.out.2.1]; exact rfor_any v s a c l z.2.1 z.2.2 W h HL.out.2.2.1 (by have := HL.out.2.1; have := N60.out; omega) HL.out.2.2.2.1
  have PL : Aside ((putL v s l z).length ≤ 61) := by
    show _ ≤ _
    have h1 := HL.out.2.1
    have h2 := N60.out
    unfold putL
    split
    · rw [ins_len]; omega
    · omega
  obtain ⟨l1, hl1⟩ : ∃ l1, l1 = putL v s l z := ⟨_, rfl⟩
  rw [← hl1] at P9 P12 hn1 PL
  have N1 : Aside (n1 = l1.length ∧ l1.length ≤ 61) := ⟨hn1, PL.out⟩
  have ATW : Aside (∀ W, Below w.heap.size w W → AtC W a l) := fun W hb => HL.out.1.later hb
  generalize chA (chosen v s l) = ca at C13 C14
  generalize chI (chosen v s l) = ci at C13 C14
  generalize chB (chosen v s l) = cb at C13 C14
  generalize forS v s l (z.2.1, z.2.2) = fs at C17 C18
  have C11 : Aside (∀ W, _) := fun W => theirs_box z W
  clear hn1 hpe hl1 PL
  go_upto_region 5 with (go_at_call 8; refine (C8.out _).mono ?_; rintro e U ⟨rfl, hb⟩; have Y : Aside (PU w U v s (.slice a n c) z) := X.out.later hb; clear hb X C8; obtain ⟨x0, x1, x2⟩ := Y.out.1.cells; obtain ⟨y0, y1, y2⟩ := Y.out.2.1.cells)
  have NEVER : True := trivial
  go_cut [5, 6] (fun sb se wx => ∃ (nb : Nat) (a2 : Option Addr) (c2 : Nat), sb = .pointer (some ⟨nb, 0, none⟩) ∧ se = .int .i64 (pe : Int) ∧ Aside (Below U.heap.size U wx ∧ X3 wx nb 37 (.int .i64 v) (.int .u16 (s : Int)) (.slice a2 n1 c2) ∧ AtC wx a2 l1))
  case first =>
    have BD : Aside (Below U.heap.size U U.drew) := (Below.refl _ U).drew
    have BA : Aside (Below U.heap.size U (U.alloc (.cells #[.int .i64 0, .int .u16 0, .slice none 0 0] 37)).drew) := ((Below.refl _ U).alloc (Nat.le_refl _) _).drew
    have AD : Aside (AtC U.drew a l) := ATW.out _ (below_step Y.out.2.2 BD.out)
    have AA : Aside (AtC (U.alloc (.cells #[.int .i64 0, .int .u16 0, .slice none 0 0] 37)).drew a l) := ATW.out _ (below_step Y.out.2.2 BA.out)
    have NE : Aside (∀ W, Below U.heap.size U W → w.heap.size ≠ W.heap.size ∧ w.heap.size + 1 ≠ W.heap.size ∧ W.heap.size ≠ w.heap.size ∧ W.heap.size ≠ w.heap.size + 1) := fun W hb => by have h1 := (Y.out.1.later hb).lt; have h2 := (Y.out.2.1.later hb).lt; omega
    obtain ⟨k1, k2, k3, k4⟩ := NE.out U (Below.refl _ U)
    go_region_held3 (fun w' => w'.cell? ⟨w.heap.size, 0, none⟩ = some (.int .i64 v) ∧ w'.cell? ⟨w.heap.size, 1, none⟩ = some (.int .u16 (s : Int)) ∧ w'.cell? ⟨w.heap.size, 2, none⟩ = some (.slice a n c) ∧ w'.cell? ⟨w.heap.size + 1, 0, none⟩ = some (.int .u8 (z.1 : Int)) ∧ w'.cell? ⟨w.heap.size + 1, 1, none⟩ = some (.bool z.2.1) ∧ w'.cell? ⟨w.heap.size + 1, 2, none⟩ = some (.int .u8 (z.2.2 : Int)))
      (first | go_keep)
      (first
        | (go_at_call 10; (with_reducible refine (T10.out U.drew AD.out).mono ?_); rintro e' w1 ⟨a9, c9, rfl, hat, hb⟩; have YA : Aside (Below U.heap.size U w1) := below_step BD.out hb; have RA : Aside (AtC w1 a9 l) := hat; clear hat hb; clear x0 x1 x2 y0 y1 y2; obtain ⟨x0, x1, x2⟩ := (Y.out.1.later YA.out).cells; obtain ⟨y0, y1, y2⟩ := (Y.out.2.1.later YA.out).cells; obtain ⟨m1, m2, m3, m4⟩ := NE.out w1 YA.out)
        | (go_at_call 10; (with_reducible refine (T10.out (U.alloc (.cells #[.int .i64 0, .int .u16 0, .slice none 0 0] 37)).drew AA.out).mono ?_); rintro e' w1 ⟨a9, c9, rfl, hat, hb⟩; have YB : Aside (Below U.heap.size U w1) := below_step BA.out hb; have RB : Aside (AtC w1 a9 l) := hat; have NB : Aside (X3 w1 U.heap.size 37 (.int .i64 0) (.int .u16 0) (.slice none 0 0)) := ((X3.new U 37 (.int .i64 0) (.int .u16 0) (.slice none 0 0)).later (Below.refl _ _).drew).later hb; clear hat hb; clear x0 x1 x2 y0 y1 y2; obtain ⟨x0, x1, x2⟩ := (Y.out.1.later YB.out).cells; obtain ⟨y0, y1, y2⟩ := (Y.out.2.1.later YB.out).cells; obtain ⟨z0, z1, z2⟩ := NB.out.cells; have f0 := NB.out.frozen 0; have f1 := NB.out.frozen 1; have f2 := NB.out.frozen 2)
        | (go_at_call 11; (with_reducible refine (C11.out w1).mono ?_); rintro e' w2 ⟨rfl, hb⟩; have YA2 : Aside (Below U.heap.size U w2) := below_step YA.out hb; have RA2 : Aside (AtC w2 a9 l) := RA.out.later hb; clear hb; clear x0 x1 x2 y0 y1 y2; obtain ⟨x0, x1, x2⟩ := (Y.out.1.later YA2.out).cells; obtain ⟨y0, y1, y2⟩ := (Y.out.2.1.later YA2.out).cells; obtain ⟨o1, o2, o3, o4⟩ := NE.out w2 YA2.out)
        | (go_at_call 11; (with_reducible refine (C11.out w1).mono ?_); rintro e' w2 ⟨rfl, hb⟩; have YB2 : Aside (Below U.heap.size U w2) := below_step YB.out hb; have RB2 : Aside (AtC w2 a9 l) := RB.out.later hb; have NB2 : Aside (X3 w2 U.heap.size 37 (.int .i64 0) (.int .u16 0) (.slice none 0 0)) := NB.out.later hb; clear hb; clear z0 z1 z2 f0 f1 f2; clear x0 x1 x2 y0 y1 y2; obtain ⟨x0, x1, x2⟩ := (Y.out.1.later YB2.out).cells; obtain ⟨y0, y1, y2⟩ := (Y.out.2.1.later YB2.out).cells; obtain ⟨z0, z1, z2⟩ := NB2.out.cells; have f0 := NB2.out.frozen 0; have f1 := NB2.out.frozen 1; have f2 := NB2.out.frozen 2)
        | (go_at_call 11; (with_reducible refine (C11.out (w1.alloc (.cells #[.int .i64 0, .int .u16 0, .slice none 0 0] 37))).mono ?_); rintro e' w2 ⟨rfl, hb⟩; have YC2 : Aside (Below U.heap.size U w2) := below_step (YA.out.alloc YA.out.size _) hb; have RC2 : Aside (AtC w2 a9 l) := (RA.out.later (below_one _ _)).later hb; have NC2 : Aside (X3 w2 w1.heap.size 37 (.int .i64 0) (.int .u16 0) (.slice none 0 0)) := (X3.new w1 37 (.int .i64 0) (.int .u16 0) (.slice none 0 0)).later hb; clear hb; clear x0 x1 x2 y0 y1 y2; obtain ⟨x0, x1, x2⟩ := (Y.out.1.later YC2.out).cells; obtain ⟨y0, y1, y2⟩ := (Y.out.2.1.later YC2.out).cells; obtain ⟨z0, z1, z2⟩ := NC2.out.cells; have f0 := NC2.out.frozen 0; have f1 := NC2.out.frozen 1; have f2 := NC2.out.frozen 2)
        | (go_at_call 9; (with_reducible refine (P9.out w2 a9 c9 RA2.out).mono ?_); rintro e' w3 ⟨a2, c2, rfl, hat, hb, hc, hf⟩; have ZA : Aside (Below U.heap.size U w3) := below_step YA2.out hb; have TA : Aside (AtC w3 a2 l1) := hat; clear hat hb hc hf; clear x0 x1 x2 y0 y1 y2; obtain ⟨x0, x1, x2⟩ := (Y.out.1.later ZA.out).cells; obtain ⟨y0, y1, y2⟩ := (Y.out.2.1.later ZA.out).cells)
        | (go_at_call 9; (with_reducible refine (P9.out w2 a9 c9 RB2.out).mono ?_); rintro e' w3 ⟨a2, c2, rfl, hat, hb, hc, hf⟩; have ZB : Aside (Below U.heap.size U w3) := below_step YB2.out hb; have TB : Aside (AtC w3 a2 l1 ∧ Fr (U.heap.size + 1) a2) := ⟨hat, hf.mono (Nat.succ_le_of_lt NB2.out.lt)⟩; have NB3 : Aside (X3 w3 U.heap.size 37 (.int .i64 0) (.int .u16 0) (.slice none 0 0)) := NB2.out.later hb; clear hat hb hc hf; clear z0 z1 z2 f0 f1 f2; clear x0 x1 x2 y0 y1 y2; obtain ⟨x0, x1, x2⟩ := (Y.out.1.later ZB.out).cells; obtain ⟨y0, y1, y2⟩ := (Y.out.2.1.later ZB.out).cells; obtain ⟨z0, z1, z2⟩ := NB3.out.cells; have f0 := NB3.out.frozen 0; have f1 := NB3.out.frozen 1; have f2 := NB3.out.frozen 2)
        | (go_at_call 9; (with_reducible refine (P9.out w2 a9 c9 RC2.out).mono ?_); rintro e' w3 ⟨a2, c2, rfl, hat, hb, hc, hf⟩; have ZC : Aside (Below U.heap.size U w3) := below_step YC2.out hb; have TC : Aside (AtC w3 a2 l1 ∧ Fr (w1.heap.size + 1) a2) := ⟨hat, hf.mono (Nat.succ_le_of_lt NC2.out.lt)⟩; have NC3 : Aside (X3 w3 w1.heap.size 37 (.int .i64 0) (.int .u16 0) (.slice none 0 0)) := NC2.out.later hb; clear hat hb hc hf; clear z0 z1 z2 f0 f1 f2; clear x0 x1 x2 y0 y1 y2; obtain ⟨x0, x1, x2⟩ := (Y.out.1.later ZC.out).cells; obtain ⟨y0, y1, y2⟩ := (Y.out.2.1.later ZC.out).cells; obtain ⟨z0, z1, z2⟩ := NC3.out.cells; have f0 := NC3.out.frozen 0; have f1 := NC3.out.frozen 1; have f2 := NC3.out.frozen 2)
        | (go_at_call 9; (with_reducible refine (P9.out (w2.alloc (.cells #[.int .i64 0, .int .u16 0, .slice none 0 0] 37)) a9 c9 (RA2.out.later (below_one _ _))).mono ?_); rintro e' w3 ⟨a2, c2, rfl, hat, hb, hc, hf⟩; have ZD : Aside (Below U.heap.size U w3) := below_step (YA2.out.alloc YA2.out.size _) hb; have TD : Aside (AtC w3 a2 l1 ∧ Fr (w2.heap.size + 1) a2) := ⟨hat, by rw [World.size_alloc] at hf; exact hf⟩; have ND3 : Aside (X3 w3 w2.heap.size 37 (.int .i64 0) (.int .u16 0) (.slice none 0 0)) := (X3.new w2 37 (.int .i64 0) (.int .u16 0) (.slice none 0 0)).later hb; clear hat hb hc hf; clear x0 x1 x2 y0 y1 y2; obtain ⟨x0, x1, x2⟩ := (Y.out.1.later ZD.out).cells; obtain ⟨y0, y1, y2⟩ := (Y.out.2.1.later ZD.out).cells; obtain ⟨z0, z1, z2⟩ := ND3.out.cells; have f0 := ND3.out.frozen 0; have f1 := ND3.out.frozen 1; have f2 := ND3.out.frozen 2)
        | fail)
    all_goals
      go_wp2_with fail
      go_meet
    all_goals first
      | exact ⟨w3.heap.size, a2, c2, rfl, rfl, ZA.out.alloc ZA.out.size _, X3.new _ _ _ _ _, TA.out.later (below_one _ _)⟩
      | exact ⟨U.heap.size, a2, c2, rfl, rfl, below_set3 ZB.out (Nat.le_refl _) _ _ _, NB3.out.set _ _ _, TB.out.1.set3 TB.out.2 (Nat.lt_succ_self _) _ _ _⟩
      | exact ⟨w1.heap.size, a2, c2, rfl, rfl, below_set3 ZC.out YA.out.size _ _ _, NC3.out.set _ _ _, TC.out.1.set3 TC.out.2 (Nat.lt_succ_self _) _ _ _⟩
      | exact ⟨w2.heap.size, a2, c2, rfl, rfl, below_set3 ZD.out YA2.out.size _ _ _, ND3.out.set _ _ _, TD.out.1.set3 TD.out.2 (Nat.lt_succ_self _) _ _ _⟩
  case rest =>
  obtain ⟨nb, a2, c2, rfl, rfl, HC⟩ := hcut
  have H0 : Aside (PU w wc v s (.slice a n c) z ∧ X3 wc nb 37 (.int .i64 v) (.int .u16 (s : Int)) (.slice a2 n1 c2) ∧ AtC wc a2 l1) := ⟨Y.out.later HC.out.1, HC.out.2⟩
  clear x0 x1 x2 y0 y1 y2 HC P9
  obtain ⟨x0, x1, x2⟩ := H0.out.1.1.cells
  obtain ⟨y0, y1, y2⟩ := H0.out.1.2.1.cells
  have D12 : Aside (∀ W, Below w.heap.size w W → _) := fun W h => P12.out W (ATW.out W h)
  have D10 : Aside (∀ W, Below w.heap.size w W → _) := fun W h => T10.out W (ATW.out W h)
  have D14 : Aside (∀ W, Below w.heap.size w W → _) := fun W h => C14.out W (ATW.out W h)
  have D18 : Aside (∀ W, Below w.heap.size w W → _) := fun W h => C18.out W (ATW.out W h)
  go_wp2_with (first
    | (go_at_call 12; refine (D12.out _ H0.out.1.2.2).mono ?_; rintro e' w4 ⟨a4, c4, rfl, hat, hb⟩; have H1 : Aside (PU w (w4.alloc (.cells #[.int .i64 v, .int .u16 (s : Int), .slice a4 n1 c4] 28)) v s (.slice a n c) z ∧ (X3 (w4.alloc (.cells #[.int .i64 v, .int .u16 (s : Int), .slice a4 n1 c4] 28)) nb 37 (.int .i64 v) (.int .u16 (s : Int)) (.slice a2 n1 c2) ∧ AtC (w4.alloc (.cells #[.int .i64 v, .int .u16 (s : Int), .slice a4 n1 c4] 28)) a2 l1) ∧ X3 (w4.alloc (.cells #[.int .i64 v, .int .u16 (s : Int), .slice a4 n1 c4] 28)) w4.heap.size 28 (.int .i64 v) (.int .u16 (s : Int)) (.slice a4 n1 c4) ∧ AtC (w4.alloc (.cells #[.int .i64 v, .int .u16 (s : Int), .slice a4 n1 c4] 28)) a4 l1) := ⟨(H0.out.1.later hb).later (below_one _ _), ⟨(H0.out.2.1.later hb).alloc _, (H0.out.2.2.later hb).later (below_one _ _)⟩, X3.new _ _ _ _ _, hat.later (below_one _ _)⟩; clear hat hb; clear x0 x1 x2 y0 y1 y2; obtain ⟨x0, x1, x2⟩ := H1.out.1.1.cells; obtain ⟨y0, y1, y2⟩ := H1.out.1.2.1.cells)
    | (go_at_call 10; refine (D10.out _ H1.out.1.2.2).mono ?_; rintro e' w5 ⟨a5, c5, rfl, hat, hb⟩; have H2 : Aside (PU w w5 v s (.slice a n c) z ∧ (X3 w5 nb 37 (.int .i64 v) (.int .u16 (s : Int)) (.slice a2 n1 c2) ∧ AtC w5 a2 l1) ∧ X3 w5 w4.heap.size 28 (.int .i64 v) (.int .u16 (s : Int)) (.slice a4 n1 c4) ∧ AtC w5 a4 l1) := ⟨H1.out.1.later hb, ⟨H1.out.2.1.1.later hb, H1.out.2.1.2.later hb⟩, H1.out.2.2.1.later hb, H1.out.2.2.2.later hb⟩; have A5 : Aside (AtC w5 a5 l) := hat; clear hat hb; clear x0 x1 x2 y0 y1 y2; obtain ⟨x0, x1, x2⟩ := H2.out.1.1.cells; obtain ⟨y0, y1, y2⟩ := H2.out.1.2.1.cells)
    | (go_at_call 13; refine (C13.out _ a5 c5 A5.out).mono ?_; rintro e' w6 ⟨rfl, hb⟩; have H3 : Aside (PU w (w6.alloc (.cells #[.bool ca, .int .u8 (ci : Int)] 42)) v s (.slice a n c) z ∧ (X3 (w6.alloc (.cells #[.bool ca, .int .u8 (ci : Int)] 42)) nb 37 (.int .i64 v) (.int .u16 (s : Int)) (.slice a2 n1 c2) ∧ AtC (w6.alloc (.cells #[.bool ca, .int .u8 (ci : Int)] 42)) a2 l1) ∧ (X3 (w6.alloc (.cells #[.bool ca, .int .u8 (ci : Int)] 42)) w4.heap.size 28 (.int .i64 v) (.int .u16 (s : Int)) (.slice a4 n1 c4) ∧ AtC (w6.alloc (.cells #[.bool ca, .int .u8 (ci : Int)] 42)) a4 l1) ∧ P2 (w6.alloc (.cells #[.bool ca, .int .u8 (ci : Int)] 42)) w6.heap.size 42 (.bool ca) (.int .u8 (ci : Int))) := ⟨(H2.out.1.later hb).later (below_one _ _), ⟨(H2.out.2.1.1.later hb).alloc _, (H2.out.2.1.2.later hb).later (below_one _ _)⟩, ⟨(H2.out.2.2.1.later hb).alloc _, (H2.out.2.2.2.later hb).later (below_one _ _)⟩, P2.new _ _ _ _⟩; clear hb; clear x0 x1 x2 y0 y1 y2; obtain ⟨x0, x1, x2⟩ := H3.out.1.1.cells; obtain ⟨y0, y1, y2⟩ := H3.out.1.2.1.cells)
    | (go_at_call 14; refine (D14.out _ H3.out.1.2.2).mono ?_; rintro e' w7 ⟨rfl, hb⟩; have H4 : Aside (PU w (w7.alloc (.cells #[.bool ca, .int .u8 (ci : Int)] 30)) v s (.slice a n c) z ∧ (X3 (w7.alloc (.cells #[.bool ca, .int .u8 (ci : Int)] 30)) nb 37 (.int .i64 v) (.int .u16 (s : Int)) (.slice a2 n1 c2) ∧ AtC (w7.alloc (.cells #[.bool ca, .int .u8 (ci : Int)] 30)) a2 l1) ∧ (X3 (w7.alloc (.cells #[.bool ca, .int .u8 (ci : Int)] 30)) w4.heap.size 28 (.int .i64 v) (.int .u16 (s : Int)) (.slice a4 n1 c4) ∧ AtC (w7.alloc (.cells #[.bool ca, .int .u8 (ci : Int)] 30)) a4 l1) ∧ P2 (w7.alloc (.cells #[.bool ca, .int .u8 (ci : Int)] 30)) w6.heap.size 42 (.bool ca) (.int .u8 (ci : Int)) ∧ P2 (w7.alloc (.cells #[.bool ca, .int .u8 (ci : Int)] 30)) w7.heap.size 30 (.bool ca) (.int .u8 (ci : Int))) := ⟨(H3.out.1.later hb).later (below_one _ _), ⟨(H3.out.2.1.1.later hb).alloc _, (H3.out.2.1.2.later hb).later (below_one _ _)⟩, ⟨(H3.out.2.2.1.1.later hb).alloc _, (H3.out.2.2.1.2.later hb).later (below_one _ _)⟩, (H3.out.2.2.2.later hb).alloc _, P2.new _ _ _ _⟩; clear hb x0 x1 x2 y0 y1 y2)
    | fail)
  generalize w4.heap.size = mb at H4 ⊢
  generalize w6.heap.size = b9 at H4 ⊢
  generalize hb11 : w7.heap.size = b11 at H4 ⊢
  clear hb11
  generalize w7.alloc (.cells #[.bool ca, .int .u8 (ci : Int)] 30) = W2 at H4 ⊢
  clear H3 H2 H1 H0 A5 P12 D12 C14 D14
  have BQ : Aside (Below W2.heap.size W2 W2.drew) := (Below.refl _ W2).drew
  have S16 : Aside (∀ W, Below W2.heap.size W2 W → Calls Try.prog 16 #[.agg #[.int .i64 v, .int .u16 (s : Int), .slice a2 n1 c2]] W fun y w' => ∃ a c, y = .returned (.agg #[.int .i64 v, .int .u16 (s : Int), .slice a n1 c]) ∧ AtC w' a l1 ∧ Below W.heap.size W w') := fun W hb => by
    have := ours_any v s a2 c2 l1 W (H4.out.2.1.2.later hb) (by have := N1.out.2; omega)
    rw [← N1.out.1] at this
    exact this.mono fun y w' ⟨p, q, r1, r2, r3⟩ => ⟨p, q, by rw [N1.out.1]; exact r1, r2, r3⟩
  have S15 : Aside (∀ W p q, AtC W p l1 → Below W2.heap.size W2 W → Calls Try.prog 15 #[.agg #[.int .i64 v, .int .u16 (s : Int), .slice p n1 q], .agg #[.int .i64 v, .int .u16 (s : Int), .slice a4 n1 c4]] W fun y w' => y = .returned (.bool true) ∧ Below W.heap.size W w') := fun W p q h1 hb => by
    rw [N1.out.1]
    exact same_eq v s p a4 q c4 l1 W h1 (H4.out.2.2.1.2.later hb) (by have := N1.out.2; omega)
  have E10 : Aside (∀ W, Below W2.heap.size W2 W → _) := fun W h => D10.out W (below_step H4.out.1.2.2 h)
  have E18 : Aside (∀ W, Below W2.heap.size W2 W → _) := fun W h => D18.out W (below_step H4.out.1.2.2 h)
  have q1 := fun W => eql30 ca ca ci ci W
  rw [decide_eq_true ⟨rfl, rfl⟩] at q1
  have g1 := fun x y xs ys W => eql30_guard x y xs ys W
  have q3 : (cb == cb) = true := by cases cb <;> rfl
  have q4 : ((pe : Int) == (pe : Int)) = true := by simp
  have q5 : ((fs : Int) == (fs : Int)) = true := by simp
  clear T10 D10 C18 D18
  obtain ⟨x0, x1, x2⟩ := H4.out.1.1.cells
  obtain ⟨-, y1, y2⟩ := H4.out.1.2.1.cells
  obtain ⟨u0, u1, u2⟩ := H4.out.2.1.1.cells
  obtain ⟨t0, t1, t2⟩ := H4.out.2.2.1.1.cells
  obtain ⟨d0, d1⟩ := H4.out.2.2.2.1.cells
  obtain ⟨e0, e1⟩ := H4.out.2.2.2.2.cells
  go_region_held3 (fun w' => w'.cell? ⟨w.heap.size, 0, none⟩ = some (.int .i64 v) ∧ w'.cell? ⟨w.heap.size, 1, none⟩ = some (.int .u16 (s : Int)) ∧ w'.cell? ⟨w.heap.size, 2, none⟩ = some (.slice a n c) ∧ w'.cell? ⟨w.heap.size + 1, 1, none⟩ = some (.bool z.2.1) ∧ w'.cell? ⟨w.heap.size + 1, 2, none⟩ = some (.int .u8 (z.2.2 : Int)) ∧ w'.cell? ⟨nb, 0, none⟩ = some (.int .i64 v) ∧ w'.cell? ⟨nb, 1, none⟩ = some (.int .u16 (s : Int)) ∧ w'.cell? ⟨nb, 2, none⟩ = some (.slice a2 n1 c2) ∧ w'.cell? ⟨mb, 0, none⟩ = some (.int .i64 v) ∧ w'.cell? ⟨mb, 1, none⟩ = some (.int .u16 (s : Int)) ∧ w'.cell? ⟨mb, 2, none⟩ = some (.slice a4 n1 c4) ∧ w'.cell? ⟨b9, 0, none⟩ = some (.bool ca) ∧ w'.cell? ⟨b9, 1, none⟩ = some (.int .u8 (ci : Int)) ∧ w'.cell? ⟨b11, 0, none⟩ = some (.bool ca) ∧ w'.cell? ⟨b11, 1, none⟩ = some (.int .u8 (ci : Int)))
    (first | go_keep)
    (first
      | (go_at_call 16; (with_reducible refine (S16.out W2.drew BQ.out).mono ?_); rintro y w8 ⟨g8, j8, rfl, hat, hb⟩; have K8 : Aside (AtC w8 g8 l1 ∧ Below W2.heap.size W2 w8) := ⟨hat, below_step BQ.out hb⟩; clear hat hb; clear x0 x1 x2 y1 y2 u0 u1 u2 t0 t1 t2 d0 d1 e0 e1; obtain ⟨x0, x1, x2⟩ := (H4.out.1.1.later K8.out.2).cells; obtain ⟨-, y1, y2⟩ := (H4.out.1.2.1.later K8.out.2).cells; obtain ⟨u0, u1, u2⟩ := (H4.out.2.1.1.later K8.out.2).cells; obtain ⟨t0, t1, t2⟩ := (H4.out.2.2.1.1.later K8.out.2).cells; obtain ⟨d0, d1⟩ := (H4.out.2.2.2.1.later K8.out.2).cells; obtain ⟨e0, e1⟩ := (H4.out.2.2.2.2.later K8.out.2).cells)
      | (go_at_call 15; (with_reducible refine (S15.out w8 g8 j8 K8.out.1 K8.out.2).mono ?_); rintro y w9 ⟨rfl, hb⟩; have K9 : Aside (Below W2.heap.size W2 w9) := below_step K8.out.2 hb; clear hb; clear x0 x1 x2 y1 y2 u0 u1 u2 t0 t1 t2 d0 d1 e0 e1; obtain ⟨x0, x1, x2⟩ := (H4.out.1.1.later K9.out).cells; obtain ⟨-, y1, y2⟩ := (H4.out.1.2.1.later K9.out).cells; obtain ⟨u0, u1, u2⟩ := (H4.out.2.1.1.later K9.out).cells; obtain ⟨t0, t1, t2⟩ := (H4.out.2.2.1.1.later K9.out).cells; obtain ⟨d0, d1⟩ := (H4.out.2.2.2.1.later K9.out).cells; obtain ⟨e0, e1⟩ := (H4.out.2.2.2.2.later K9.out).cells)
      | (go_at_call 10; (with_reducible refine (E10.out w9 K9.out).mono ?_); rintro y w10 ⟨g10, j10, rfl, hat, hb⟩; have K10 : Aside (AtC w10 g10 l ∧ Below W2.heap.size W2 w10) := ⟨hat, below_step K9.out hb⟩; clear hat hb; clear x0 x1 x2 y1 y2 u0 u1 u2 t0 t1 t2 d0 d1 e0 e1; obtain ⟨x0, x1, x2⟩ := (H4.out.1.1.later K10.out.2).cells; obtain ⟨-, y1, y2⟩ := (H4.out.1.2.1.later K10.out.2).cells; obtain ⟨u0, u1, u2⟩ := (H4.out.2.1.1.later K10.out.2).cells; obtain ⟨t0, t1, t2⟩ := (H4.out.2.2.1.1.later K10.out.2).cells; obtain ⟨d0, d1⟩ := (H4.out.2.2.2.1.later K10.out.2).cells; obtain ⟨e0, e1⟩ := (H4.out.2.2.2.2.later K10.out.2).cells)
      | (go_at_call 17; (with_reducible refine (C17.out w10 g10 j10 K10.out.1).mono ?_); rintro y w11 ⟨rfl, hb⟩; have K11 : Aside (Below W2.heap.size W2 w11) := below_step K10.out.2 hb; clear hb; clear x0 x1 x2 y1 y2 u0 u1 u2 t0 t1 t2 d0 d1 e0 e1; obtain ⟨x0, x1, x2⟩ := (H4.out.1.1.later K11.out).cells; obtain ⟨-, y1, y2⟩ := (H4.out.1.2.1.later K11.out).cells; obtain ⟨u0, u1, u2⟩ := (H4.out.2.1.1.later K11.out).cells; obtain ⟨t0, t1, t2⟩ := (H4.out.2.2.1.1.later K11.out).cells; obtain ⟨d0, d1⟩ := (H4.out.2.2.2.1.later K11.out).cells; obtain ⟨e0, e1⟩ := (H4.out.2.2.2.2.later K11.out).cells)
      | (go_at_call 18; (with_reducible refine (E18.out w11 K11.out).mono ?_); rintro y w12 ⟨rfl, hb⟩; have K12 : Aside (Below W2.heap.size W2 w12) := below_step K11.out hb; clear hb; clear x0 x1 x2 y1 y2 u0 u1 u2 t0 t1 t2 d0 d1 e0 e1; obtain ⟨x0, x1, x2⟩ := (H4.out.1.1.later K12.out).cells; obtain ⟨-, y1, y2⟩ := (H4.out.1.2.1.later K12.out).cells; obtain ⟨u0, u1, u2⟩ := (H4.out.2.1.1.later K12.out).cells; obtain ⟨t0, t1, t2⟩ := (H4.out.2.2.1.1.later K12.out).cells; obtain ⟨d0, d1⟩ := (H4.out.2.2.2.1.later K12.out).cells; obtain ⟨e0, e1⟩ := (H4.out.2.2.2.2.later K12.out).cells)
      | fail)
  all_goals
    go_wp2_with fail
    go_ret
    exact ⟨rfl, below_step H4.out.1.2.2 K12.out⟩
end Go.Proofs.Ytfjdopmjcddnlaa
