/- TermMakes: the walk. -/
import Derived.Test.YtldojinnipbblaaArg
import Derived.Test.YtldojinnipbblaaFacts
namespace Go.Proofs.Ytldojinnipbblaa
open Go.RowKit Go.ChangeShapes Go.WideShapes

set_option maxHeartbeats 2000000 in
theorem makes_early (n : Int) (s : ByteArray) (a : Option Addr) (m cap : Nat) (w : World) (h : 2100 < s.size ∨ 5 < m) (hm : m ≤ 9223372036854775807) :
    Calls Try.prog 4 #[.int .u16 n, .string s, .slice a m cap] w fun e w' => e = .returned (.bool true) ∧ Below w.heap.size w w' := by
  have key : (2100 : Int) < (s.size : Int) ∨ (¬ (2100 : Int) < (s.size : Int) ∧ (5 : Int) < (m : Int)) := by omega
  clear h hm
  rcases key with t1 | ⟨t1, t2⟩
  all_goals
    go_enter Try.func4, Try.ntmps4
    go_wp2_with fail
    refine (alive_any w).mono ?_
    rintro e w1 ⟨rfl, hb1⟩
    go_wp2
    go_ret
    exact ⟨rfl, hb1⟩

/-- The kinds that are tried. -/
theorem kinds_at (n : Nat) (w : World) (j : Nat) (h : j < 9) : ∃ k : UInt8, (w.alloc (.cells #[.int .u8 110, .int .u8 99, .int .u8 104, .int .u8 100, .int .u8 109, .int .u8 115, .int .u8 112, .int .u8 120, .int .u8 ((n : Int) % 256)] 5)).cell? ⟨w.heap.size, j, none⟩ = some (.int .u8 (k.toNat : Int)) := by
  rw [World.cell?_alloc_at _ _ _ _ rfl]
  match j, h with
  | 0, _ => exact ⟨110, rfl⟩
  | 1, _ => exact ⟨99, rfl⟩
  | 2, _ => exact ⟨104, rfl⟩
  | 3, _ => exact ⟨100, rfl⟩
  | 4, _ => exact ⟨109, rfl⟩
  | 5, _ => exact ⟨115, rfl⟩
  | 6, _ => exact ⟨112, rfl⟩
  | 7, _ => exact ⟨120, rfl⟩
  | 8, _ => exact ⟨UInt8.ofNat n, by simp⟩

set_option maxHeartbeats 8000000 in
theorem makes_late (n : Nat) (s : ByteArray) (a : Option Addr) (m cap : Nat) (l : List (List UInt8)) (w : World) (hn : n < 65536) (h1 : s.size ≤ 2100) (h2 : m ≤ 5) (hl : l.length = m) (hat : AtS w a l) :
    Calls Try.prog 4 #[.int .u16 (n : Int), .string s, .slice a m cap] w fun e w' => e = .returned (.bool true) ∧ Below w.heap.size w w' := by
  have t1 : ¬ (2100 : Int) < (s.size : Int) := by omega
  have t2 : ¬ (5 : Int) < (m : Int) := by omega
  have H1 : Aside (∀ W, _) := fun W => const_any s W
  have H2 : Aside (∀ W, _) := fun W => rconst_any s W
  have H3 : Aside (∀ W, _) := fun W => nonce_any n W hn
  have H4 : Aside (∀ W, _) := fun W => rnonce_any n W hn
  have H5 : Aside (∀ W k, AtS W a l → _) := fun W k h => make_any k a m cap l W hl (by omega) h
  have H6 : Aside (∀ W k, AtS W a l → _) := fun W k h => rmake_any k a m cap l W hl (by omega) h
  unfold MakePost at H5 H6
  unfold str at H1 H2 H3 H4 H5 H6
  generalize (⟨(Tm.const s.data.toList).toArray⟩ : ByteArray) = xc at *
  generalize Tm.constE s.data.toList = ec at *
  generalize (⟨(Tm.nonce n).toArray⟩ : ByteArray) = xn at *
  have A : Aside (AtS w a l) := hat
  have HL : Hid (l.length = m) := hl
  clear hat hl
  go_enter Try.func4, Try.ntmps4
  go_wp2_with fail
  refine (alive_any w).mono ?_
  rintro e w1 ⟨rfl, hb1⟩
  have A1 : Aside (AtS w1 a l) := atS_later hb1 A.out
  have B1 : Aside (Below w.heap.size w w1) := hb1
  clear hb1 A
  go_wp2_with fail
  go_loopw [31] (fun i wr => ∃ j : Nat, j ≤ m ∧ i = .int .i64 j ∧ wr = w1) (fun i _ => m - (intOf i).toNat)
  case atStart => exact ⟨0, Nat.zero_le _, rfl, rfl⟩
  case round =>
    obtain ⟨j, hj, rfl, hw⟩ := hrel
    subst hw
    by_cases hlt : j < m
    · have hjl : j < l.length := by rw [HL.out]; exact hlt
      rcases A1.out with he | ⟨b, off, rfl, hc⟩
      · rw [he] at hjl; simp at hjl
      have c0 := hc j l[j] (List.getElem?_eq_getElem hjl)
      unfold str at c0
      generalize (⟨l[j].toArray⟩ : ByteArray) = y at c0
      have tj : (j : Int) < (m : Int) := by omega
      by_cases hy : 2100 < y.size
      · have ty : (2100 : Int) < (y.size : Int) := by omega
        clear hc H1 H2 H3 H4 H5 H6
        go_wp2
        go_ret
        exact ⟨rfl, B1.out⟩
      · have ty : ¬ (2100 : Int) < (y.size : Int) := by omega
        clear hc H1 H2 H3 H4 H5 H6
        go_wp2
        go_roundw
        case rel => exact ⟨j + 1, by omega, by go_num, by first | rfl | trivial⟩
        case measure => simp [intOf]; omega
    · obtain rfl : j = m := by omega
      go_wp2_with fail
      refine (H1.out wr).mono ?_
      rintro e w2 ⟨rfl, hb2⟩
      have A2 : Aside (AtS w2 a l) := atS_later hb2 A1.out
      have B2 : Aside (Below w.heap.size w w2) := below_step B1.out hb2
      clear hb2 A1 B1 H1
      go_wp2_with fail
      refine (H2.out w2).mono ?_
      rintro e w3 ⟨rfl, hb3⟩
      have A3 : Aside (AtS w3 a l) := atS_later hb3 A2.out
      have B3 : Aside (Below w.heap.size w w3) := below_step B2.out hb3
      clear hb3 A2 B2 H2
      go_wp2_with fail
      refine (H3.out w3).mono ?_
      rintro e w4 ⟨rfl, hb4⟩
      have A4 : Aside (AtS w4 a l) := atS_later hb4 A3.out
      have B4 : Aside (Below w.heap.size w w4) := below_step B3.out hb4
      clear hb4 A3 B3 H3
      go_wp2_with fail
      refine (H4.out w4).mono ?_
      rintro e w5 ⟨rfl, hb5⟩
      have A5 : Aside (AtS w5 a l) := atS_later hb5 A4.out
      have B5 : Aside (Below w.heap.size w w5) := below_step B4.out hb5
      clear hb5 A4 B4 H4
      have K : Aside (∀ j, j < 9 → _) := fun j h => kinds_at n w5 j h
      go_wp2_with fail
      have hW : Aside (Below w5.heap.size w5 (w5.alloc (.cells #[.int .u8 110, .int .u8 99, .int .u8 104, .int .u8 100, .int .u8 109, .int .u8 115, .int .u8 112, .int .u8 120, .int .u8 ((n : Int) % 256)] 5))) := (Below.refl _ w5).alloc (Nat.le_refl _) _
      generalize w5.alloc (.cells #[.int .u8 110, .int .u8 99, .int .u8 104, .int .u8 100, .int .u8 109, .int .u8 115, .int .u8 112, .int .u8 120, .int .u8 ((n : Int) % 256)] 5) = wk at *
      have A6 : Aside (AtS wk a l ∧ Below w.heap.size w wk) := ⟨atS_later hW.out A5.out, below_step B5.out hW.out⟩
      clear A5 B5 hW
      go_loopw [68] (fun i wr => ∃ j : Nat, j ≤ 9 ∧ i = .int .i64 j ∧ Below wk.heap.size wk wr) (fun i _ => 9 - (intOf i).toNat)
      case atStart => exact ⟨0, by omega, rfl, Below.refl _ _⟩
      case round =>
        obtain ⟨q, hq, rfl, hbk⟩ := hrel
        by_cases hq9 : q < 9
        · obtain ⟨k, hk⟩ := K.out q hq9
          have c0 := cell_later hbk hk
          have h5 := H5.out wr k (atS_later hbk A6.out.1)
          have BK : Aside (Below wk.heap.size wk wr) := hbk
          have R6 : Aside (∀ W, Below wr.heap.size wr W → _) := fun W hb => H6.out W k (atS_later (below_step hbk hb) A6.out.1)
          generalize (⟨(Tm.make k l).toArray⟩ : ByteArray) = xm at *
          generalize Tm.makeE k l = em at *
          generalize k.toNat = kk at *
          have tq : (q : Int) < 9 := by omega
          clear K H5 H6 hk hbk
          go_wp2_with fail
          refine h5.mono ?_
          rintro e w6 ⟨rfl, hb6⟩
          have h6 := R6.out w6 hb6
          have B6 : Aside (Below wk.heap.size wk w6) := below_step BK.out hb6
          clear h5 hb6 R6 BK
          go_wp2_with fail
          refine h6.mono ?_
          rintro e w7 ⟨rfl, hb7⟩
          have B7 : Aside (Below wk.heap.size wk w7) := below_step B6.out hb7
          clear h6 hb7 B6
          go_wp2
          go_roundw
          case rel => exact ⟨q + 1, by omega, by go_num, B7.out⟩
          case measure => simp [intOf]; omega
        · obtain rfl : q = 9 := by omega
          have BB : Aside (Below w.heap.size w wr) := below_step A6.out.2 hbk
          clear hbk A6 K H5 H6
          go_wp2
          go_ret
          exact ⟨rfl, BB.out⟩

theorem makes_law (a0 : Int) (s : ByteArray) (a : Option Addr) (len cap : Nat) (z : List (List UInt8)) (w : World) (w0 : (Lit.int .u16 a0).wf = true) (h : IsTerms w a len z) :
    Calls Try.prog 4 #[.int .u16 a0, .string s, .slice a len cap] w fun e w' => e = .returned (.bool true) ∧ Below w.heap.size w w' := by
  obtain ⟨hl, hm, hat⟩ := h
  by_cases hh : 2100 < s.size ∨ 5 < len
  · exact makes_early a0 s a len cap w hh hm
  · have b0 : 0 ≤ a0 ∧ a0 ≤ 65535 := bounds_u16 w0
    obtain ⟨n, rfl⟩ : ∃ n : Nat, a0 = (n : Int) := ⟨a0.toNat, by omega⟩
    exact makes_late n s a len cap z w (by omega) (by omega) (by omega) hl hat

end Go.Proofs.Ytldojinnipbblaa
