/- The law LinkTop: true, whatever the world. -/
import Derived.Test.YtimeggbjmcnnoaaLwC
import Derived.Test.YtimeggbjmcnnoaaArgB
namespace Go.Proofs.Ytimeggbjmcnnoaa
open Go.RowKit

theorem E4.far4 {w : World} {b c : Nat} {t : TypeId} {v0 v1 v2 v3 : Value} (h : E4 w b t v0 v1 v2 v3) (hne : b ≠ c) (u0 u1 u2 u3 : Value) :
    E4 ((((w.setCell ⟨c, 0, none⟩ u0).setCell ⟨c, 1, none⟩ u1).setCell ⟨c, 2, none⟩ u2).setCell ⟨c, 3, none⟩ u3) b t v0 v1 v2 v3 :=
  (row_far hne _).trans ((row_far hne _).trans ((row_far hne _).trans ((row_far hne _).trans h)))

namespace Tm
theorem acc_new {key body g : List UInt8} {me f t s tp cm : Nat} (h : accE key me f t s tp cm body g = 0) : isNew tp cm s = true := by
  unfold accE at h
  by_cases h1 : t ≠ me ∨ two f t = false ∨ s = 0
  · rw [if_pos h1] at h; cases h
  · rw [if_neg h1] at h
    by_cases h2 : tagE key f t s body = 0
    · rw [if_neg (by simpa using h2)] at h
      by_cases h3 : g = tag key f t s body
      · rw [if_neg (by simpa using h3)] at h
        cases h4 : isNew tp cm s
        · rw [h4, if_pos rfl] at h; cases h
        · rfl
      · rw [if_pos h3] at h; cases h
    · rw [if_pos h2] at h; exact absurd h h2
theorem acc_max (tp s : Nat) : accT tp s = max tp s := by unfold accT; split <;> omega
theorem acc_moves (tp cm s : Nat) : ¬ (accT tp s = tp ∧ accC tp cm s = cm) := by
  rintro ⟨h1, h2⟩
  unfold accT at h1
  unfold accC at h2
  by_cases h : tp < s
  · rw [if_pos h] at h1; omega
  · rw [if_neg h] at h2
    have := Nat.two_pow_pos (tp - s)
    omega
end Tm

set_option maxRecDepth 100000 in
set_option maxHeartbeats 16000000 in
theorem top_walk (k : ByteArray) (nx tp cm : Nat) (a : Option Addr) (n cap : Nat) (l : List Ltr) (w : World) (htp : tp < 4294967296) (hcm : cm < 18446744073709551616) (hl : IsLetters w a n l) :
    Calls Try.prog 8 #[.agg #[.string k, .int .u32 (nx : Int), .int .u32 (tp : Int), .int .u64 (cm : Int)], .slice a n cap] w fun e w' => e = .returned (.bool true) ∧ Below w.heap.size w w' := by
  have AL : Aside (∀ W, _) := fun W => alive_any W
  have HL : Aside (IsLetters w a n l) := hl
  have BD : Aside (tp < 4294967296 ∧ cm < 18446744073709551616) := ⟨htp, hcm⟩
  have E0 : Aside (E4 _ w.heap.size 40 _ _ _ _) := E4.new w 40 (.string k) (.int .u32 (nx : Int)) (.int .u32 (tp : Int)) (.int .u64 (cm : Int))
  have B0 : Aside (∀ o, Below w.heap.size w (w.alloc o)) := fun o => below_one w o
  clear hl htp hcm
  go_enter Try.func8, Try.ntmps8
  go_wp2_with fail
  refine (AL.out _).mono ?_
  rintro e w1 ⟨rfl, b1⟩
  have B1 : Aside (Below w.heap.size w w1) := below_step (B0.out _) b1
  have E1 : Aside (E4 w1 _ _ _ _ _ _) := E0.out.later b1
  have sz : w.heap.size < w1.heap.size := (Array.getElem?_eq_some_iff.1 E1.out).1
  obtain ⟨e0, e1, e2, e3⟩ := E1.out.cells
  clear b1 AL E0 B0
  by_cases h1 : 60 < n
  · have t1 : (60 : Int) < (n : Int) := by omega
    clear HL BD E1 h1
    go_wp2
    go_ret
    exact ⟨rfl, B1.out⟩
  have t1 : ¬ (60 : Int) < (n : Int) := by omega
  by_cases h2 : 200 < k.size
  · have t2 : (200 : Int) < (k.size : Int) := by omega
    clear HL BD E1 h1 h2
    go_wp2
    go_ret
    exact ⟨rfl, B1.out⟩
  have t2 : ¬ (200 : Int) < (k.size : Int) := by omega
  obtain ⟨p, hp⟩ : ∃ p, p = w1.heap.size := ⟨_, rfl⟩
  have C1 : Aside (E4 (w1.alloc (.cells #[.string k, .int .u32 (nx : Int), .int .u32 (tp : Int), .int .u64 (cm : Int)] 41)) w.heap.size 40 (.string k) (.int .u32 (nx : Int)) (.int .u32 (tp : Int)) (.int .u64 (cm : Int)) ∧ E4 (w1.alloc (.cells #[.string k, .int .u32 (nx : Int), .int .u32 (tp : Int), .int .u64 (cm : Int)] 41)) p 41 (.string k) (.int .u32 (nx : Int)) (.int .u32 (tp : Int)) (.int .u64 (cm : Int)) ∧ Below w.heap.size w (w1.alloc (.cells #[.string k, .int .u32 (nx : Int), .int .u32 (tp : Int), .int .u64 (cm : Int)] 41))) := ⟨E1.out.alloc _, by rw [hp]; exact E4.new w1 41 _ _ _ _, B1.out.alloc B1.out.size _⟩
  rw [← hp] at sz
  go_wp2_with fail
  rw [← hp]
  clear e0 e1 e2 e3 E1 B1 hp h1 h2
  go_loopw [24] (fun i wr => ∃ (j tq cq : Nat), j ≤ n ∧ i = .int .i64 (j : Int) ∧ tq < 4294967296 ∧ cq < 18446744073709551616 ∧ E4 wr w.heap.size 40 (.string k) (.int .u32 (nx : Int)) (.int .u32 (tp : Int)) (.int .u64 (cm : Int)) ∧ E4 wr p 41 (.string k) (.int .u32 (nx : Int)) (.int .u32 (tq : Int)) (.int .u64 (cq : Int)) ∧ Below w.heap.size w wr) (fun i _ => n - (intOf i).toNat)
  case atStart => exact ⟨0, tp, cm, Nat.zero_le _, rfl, BD.out.1, BD.out.2, C1.out.1, C1.out.2.1, C1.out.2.2⟩
  case round =>
    obtain ⟨j, tq, cq, hj, rfl, htq, hcq, hE, hP, hB⟩ := hrel
    have S : Aside ((tq < 4294967296 ∧ cq < 18446744073709551616) ∧ E4 wr w.heap.size 40 (.string k) (.int .u32 (nx : Int)) (.int .u32 (tp : Int)) (.int .u64 (cm : Int)) ∧ E4 wr p 41 (.string k) (.int .u32 (nx : Int)) (.int .u32 (tq : Int)) (.int .u64 (cq : Int)) ∧ Below w.heap.size w wr) := ⟨⟨htq, hcq⟩, hE, hP, hB⟩
    clear htq hcq hE hP hB C1 BD
    by_cases hlt : j < n
    · obtain ⟨x, hx⟩ : ∃ x, l[j]? = some x := ⟨l[j]'(by rw [HL.out.1]; exact hlt), List.getElem?_eq_getElem _⟩
      rcases HL.out.2 with he | ⟨b, off, ha, hc⟩
      · exfalso; rw [he] at hx; simp at hx
      have XA := ltrAt_later S.out.2.2.2 (hc j x hx)
      obtain ⟨f, t, s, xa, xn, xc, g, body⟩ := x
      obtain ⟨x0, x1, x2, x3, x4, x5, x6, x7, x8⟩ := XA
      dsimp only at x0 x1 x2 x3 x4 x5 x6 x7 x8
      have XB : Aside (f < 256 ∧ t < 256 ∧ s < 4294967296 ∧ Byt wr xa xn xc body) := ⟨x5, x6, x7, x8⟩
      have FW : Aside (∀ W, _) := fun W => few_any f t s xa xn xc g W
      have TG : Aside (∀ W, Below wr.heap.size wr W → Calls Try.prog 16 #[.string k, .agg #[.int .u8 (f : Int), .int .u8 (t : Int), .int .u32 (s : Int), .slice xa xn xc, .string g]] W (TagPost k.data.toList f t s body W)) := fun W hb => by have := rtag_any k.data.toList f t s xa xn xc g body W x5 x6 x7 (x8.later hb); rw [str_of] at this; exact this
      have AC : Aside (∀ W, Below wr.heap.size wr W → Calls Try.prog 19 #[.agg #[.string k, .int .u32 (nx : Int), .int .u32 (tq : Int), .int .u64 (cq : Int)], .int .u8 (t : Int), .agg #[.int .u8 (f : Int), .int .u8 (t : Int), .int .u32 (s : Int), .slice xa xn xc, str (Tm.tag k.data.toList f t s body)]] W (AccPost k.data.toList nx tq cq t f t s body (Tm.tag k.data.toList f t s body) W)) := fun W hb => by have := accept_any k.data.toList nx tq cq t f t s xa xn xc ⟨(Tm.tag k.data.toList f t s body).toArray⟩ body W S.out.1.1 S.out.1.2 x5 x6 x7 (x8.later hb); rw [str_of] at this; exact this
      unfold TagPost at TG
      unfold AccPost at AC
      rw [str_of] at AC
      have WY : Aside ((Tm.accE k.data.toList t f t s tq cq body (Tm.tag k.data.toList f t s body) ≠ 0 ∧ Tm.aT k.data.toList t f t s tq cq body (Tm.tag k.data.toList f t s body) = tq ∧ Tm.aC k.data.toList t f t s tq cq body (Tm.tag k.data.toList f t s body) = cq) ∨ (Tm.accE k.data.toList t f t s tq cq body (Tm.tag k.data.toList f t s body) = 0 ∧ Tm.aT k.data.toList t f t s tq cq body (Tm.tag k.data.toList f t s body) = max tq s ∧ Tm.aC k.data.toList t f t s tq cq body (Tm.tag k.data.toList f t s body) < 18446744073709551616 ∧ ¬ (Tm.aT k.data.toList t f t s tq cq body (Tm.tag k.data.toList f t s body) = tq ∧ Tm.aC k.data.toList t f t s tq cq body (Tm.tag k.data.toList f t s body) = cq))) := by
        show _ ∨ _
        unfold Tm.aT Tm.aC
        by_cases hz : Tm.accE k.data.toList t f t s tq cq body (Tm.tag k.data.toList f t s body) = 0
        · right
          rw [if_pos hz, if_pos hz]
          exact ⟨hz, Tm.acc_max tq s, Tm.accC_lt S.out.1.2 (Tm.acc_new hz), Tm.acc_moves tq cq s⟩
        · left
          rw [if_neg hz, if_neg hz]
          exact ⟨hz, rfl, rfl⟩
      unfold str at TG AC
      generalize Tm.aT k.data.toList t f t s tq cq body (Tm.tag k.data.toList f t s body) = na at *
      generalize Tm.aC k.data.toList t f t s tq cq body (Tm.tag k.data.toList f t s body) = nc at *
      generalize Tm.accE k.data.toList t f t s tq cq body (Tm.tag k.data.toList f t s body) = ae at *
      generalize (⟨(Tm.tag k.data.toList f t s body).toArray⟩ : ByteArray) = tz at *
      generalize Tm.tagE k.data.toList f t s body = te at *
      obtain ⟨J, hJ⟩ : ∃ J : Nat, J = j * 5 := ⟨_, rfl⟩
      clear x5 x6 x7 x8 hc hx
      subst ha
      go_wp2_with fail
      have X1 := L5.new wr 26 (.int .u8 (f : Int)) (.int .u8 (t : Int)) (.int .u32 (s : Int)) (.slice xa xn xc) (.string g)
      have q1 : w.heap.size < wr.heap.size := (Array.getElem?_eq_some_iff.1 S.out.2.1).1
      have q2 : p < wr.heap.size := (Array.getElem?_eq_some_iff.1 S.out.2.2.1).1
      refine (FW.out _).mono ?_
      rintro e w2 ⟨rfl, b2⟩
      have X2 := X1.later b2
      have E2 := (S.out.2.1.alloc (.cells #[.int .u8 (f : Int), .int .u8 (t : Int), .int .u32 (s : Int), .slice xa xn xc, .string g] 26)).later b2
      have P2' := (S.out.2.2.1.alloc (.cells #[.int .u8 (f : Int), .int .u8 (t : Int), .int .u32 (s : Int), .slice xa xn xc, .string g] 26)).later b2
      have D2 : Below wr.heap.size wr w2 := below_step (below_one wr _) b2
      have B2 := below_step S.out.2.2.2 D2
      have T2 : Aside (L5 w2 wr.heap.size 26 _ _ _ _ _ ∧ E4 w2 w.heap.size 40 _ _ _ _ ∧ E4 w2 p 41 _ _ _ _ ∧ Below wr.heap.size wr w2 ∧ Below w.heap.size w w2) := ⟨X2, E2, P2', D2, B2⟩
      clear x0 x1 x2 x3 x4 X1 b2 FW
      obtain ⟨x0, x1, x2, x3, x4⟩ := X2.cells
      obtain ⟨e0, e1, e2, e3⟩ := E2.cells
      clear X2 E2 P2' D2 B2
      obtain ⟨fb, hfb⟩ : ∃ fb, fb = fewB xn g := ⟨_, rfl⟩
      rw [← hfb]
      cases fb
      · clear TG AC WY XB hfb
        go_wp2
        go_roundw
        case rel => exact ⟨j + 1, tq, cq, by omega, by go_num, S.out.1.1, S.out.1.2, T2.out.2.1, T2.out.2.2.1, T2.out.2.2.2.2⟩
        case measure => simp [intOf]; omega
      · clear hfb
        go_wp2_with fail
        refine (TG.out _ T2.out.2.2.2.1).mono ?_
        rintro e w3 ⟨rfl, b3⟩
        have X3 := T2.out.1.later b3
        have E3 := T2.out.2.1.later b3
        have P3 := T2.out.2.2.1.later b3
        have z3 := X3.frozen
        clear x0 x1 x2 x3 x4 e0 e1 e2 e3
        obtain ⟨x0, x1, x2, x3, x4⟩ := X3.cells
        obtain ⟨r0, r1, r2, r3⟩ := P3.cells
        have D3 := (below_step T2.out.2.2.2.1 b3).setCell (p := ⟨wr.heap.size, 4, none⟩) (Nat.le_refl _) (.string tz)
        have B3 := (below_step T2.out.2.2.2.2 b3).setCell (p := ⟨wr.heap.size, 4, none⟩) (Nat.le_of_lt q1) (.string tz)
        have X4 : L5 (w3.setCell ⟨wr.heap.size, 4, none⟩ (.string tz)) wr.heap.size 26 (.int .u8 (f : Int)) (.int .u8 (t : Int)) (.int .u32 (s : Int)) (.slice xa xn xc) (.string tz) := row_set X3 _
        have E4'' : E4 (w3.setCell ⟨wr.heap.size, 4, none⟩ (.string tz)) w.heap.size 40 (.string k) (.int .u32 (nx : Int)) (.int .u32 (tp : Int)) (.int .u64 (cm : Int)) := (row_far (by omega) _).trans E3
        have P4 : E4 (w3.setCell ⟨wr.heap.size, 4, none⟩ (.string tz)) p 41 (.string k) (.int .u32 (nx : Int)) (.int .u32 (tq : Int)) (.int .u64 (cq : Int)) := (row_far (by omega) _).trans P3
        have T4 : Aside (L5 (w3.setCell ⟨wr.heap.size, 4, none⟩ (.string tz)) wr.heap.size 26 (.int .u8 (f : Int)) (.int .u8 (t : Int)) (.int .u32 (s : Int)) (.slice xa xn xc) (.string tz) ∧ E4 (w3.setCell ⟨wr.heap.size, 4, none⟩ (.string tz)) w.heap.size 40 (.string k) (.int .u32 (nx : Int)) (.int .u32 (tp : Int)) (.int .u64 (cm : Int)) ∧ E4 (w3.setCell ⟨wr.heap.size, 4, none⟩ (.string tz)) p 41 (.string k) (.int .u32 (nx : Int)) (.int .u32 (tq : Int)) (.int .u64 (cq : Int)) ∧ Below wr.heap.size wr (w3.setCell ⟨wr.heap.size, 4, none⟩ (.string tz)) ∧ Below w.heap.size w (w3.setCell ⟨wr.heap.size, 4, none⟩ (.string tz))) := ⟨X4, E4'', P4, D3, B3⟩
        have n1 : ¬ p = wr.heap.size := by omega
        clear X3 E3 P3 D3 B3 X4 E4'' P4 b3 T2 TG
        go_wp2_with fail
        refine (AC.out _ T4.out.2.2.2.1).mono ?_
        rintro e w5 ⟨rfl, b5⟩
        have P5 := T4.out.2.2.1.later b5
        have E5 := T4.out.2.1.later b5
        have X5 := T4.out.1.later b5
        have B5 := below_step T4.out.2.2.2.2 b5
        have T5 : Aside (E4 w5 w.heap.size 40 _ _ _ _ ∧ E4 w5 p 41 _ _ _ _ ∧ Below w.heap.size w w5) := ⟨E5, P5, B5⟩
        have r0' := fun o => (P5.alloc o).cells.1
        have r1' := fun o => (P5.alloc o).cells.2.1
        have r2' := fun o => (P5.alloc o).cells.2.2.1
        have r3' := fun o => (P5.alloc o).cells.2.2.2
        have zz := fun o => (P5.alloc o).frozen
        have zy := P5.frozen
        obtain ⟨v0, v1, v2, v3⟩ := P5.cells
        have y2 := fun o => (X5.alloc o).cells.2.2.1
        have n2 : p < w5.heap.size := (Array.getElem?_eq_some_iff.1 P5).1
        clear x0 x1 x2 x3 x4 r0 r1 r2 r3 z3 P5 E5 X5 B5 b5 T4 AC n1
        have g1 := fun s n t c W => neq41 s s n n t t c c W
        have g2 := fun x y xs ys W => neq41_guard x y xs ys W
        have g3 := fun x y xs ys W => eql41_guard x y xs ys W
        rcases WY.out with ⟨h3, rfl, rfl⟩ | ⟨h3, h4, h5, h6⟩
        · have u1 : ((ae : Int) != 0) = true := by
            have : ¬ (ae : Int) = 0 := by omega
            simpa using this
          have u2 : ((ae : Int) == 0) = false := by
            have : ¬ (ae : Int) = 0 := by omega
            simpa using this
          have g4 := fun s n t c => eqE_refl s n t c
          have F6 : Aside (∀ o, E4 (((((w5.setCell ⟨p, 0, none⟩ (.string k)).setCell ⟨p, 1, none⟩ (.int .u32 (nx : Int))).setCell ⟨p, 2, none⟩ (.int .u32 (na : Int))).setCell ⟨p, 3, none⟩ (.int .u64 (nc : Int))).alloc o) w.heap.size 40 _ _ _ _ ∧ E4 (((((w5.setCell ⟨p, 0, none⟩ (.string k)).setCell ⟨p, 1, none⟩ (.int .u32 (nx : Int))).setCell ⟨p, 2, none⟩ (.int .u32 (na : Int))).setCell ⟨p, 3, none⟩ (.int .u64 (nc : Int))).alloc o) p 41 (.string k) (.int .u32 (nx : Int)) (.int .u32 (na : Int)) (.int .u64 (nc : Int)) ∧ Below w.heap.size w (((((w5.setCell ⟨p, 0, none⟩ (.string k)).setCell ⟨p, 1, none⟩ (.int .u32 (nx : Int))).setCell ⟨p, 2, none⟩ (.int .u32 (na : Int))).setCell ⟨p, 3, none⟩ (.int .u64 (nc : Int))).alloc o)) := fun o =>
            ⟨(T5.out.1.far4 (by omega) _ _ _ _).alloc o, (T5.out.2.1.set _ _ _ _).alloc o, (below_set4 T5.out.2.2 (Nat.le_of_lt sz) _ _ _ _).alloc (below_set4 T5.out.2.2 (Nat.le_of_lt sz) _ _ _ _).size o⟩
          have BN : Aside (na < 4294967296 ∧ nc < 18446744073709551616) := S.out.1
          clear WY h3 T5 S XB
          go_wp2
          go_roundw
          case rel => exact ⟨j + 1, na, nc, by omega, by go_num, BN.out.1, BN.out.2, (F6.out _).1, (F6.out _).2.1, (F6.out _).2.2⟩
          case measure => simp [intOf]; omega
        · have u3 : max (tq : Int) (s : Int) = (na : Int) := by omega
          have u4 : eqE k k (nx : Int) (nx : Int) (na : Int) (tq : Int) (nc : Int) (cq : Int) = false := by
            unfold eqE
            by_cases c1 : (na : Int) = (tq : Int)
            · have c2 : ¬ (nc : Int) = (cq : Int) := fun e => h6 ⟨by omega, by omega⟩
              simp [c2]
            · simp [c1]
          have g5 := fun W => eql41 k k (nx : Int) (nx : Int) (na : Int) (tq : Int) (nc : Int) (cq : Int) W
          have BN : Aside (na < 4294967296 ∧ nc < 18446744073709551616) := ⟨by have := S.out.1.1; have := XB.out.2.2.1; omega, h5⟩
          have F6 : Aside (∀ o, E4 (((((w5.setCell ⟨p, 0, none⟩ (.string k)).setCell ⟨p, 1, none⟩ (.int .u32 (nx : Int))).setCell ⟨p, 2, none⟩ (.int .u32 (na : Int))).setCell ⟨p, 3, none⟩ (.int .u64 (nc : Int))).alloc o) w.heap.size 40 _ _ _ _ ∧ E4 (((((w5.setCell ⟨p, 0, none⟩ (.string k)).setCell ⟨p, 1, none⟩ (.int .u32 (nx : Int))).setCell ⟨p, 2, none⟩ (.int .u32 (na : Int))).setCell ⟨p, 3, none⟩ (.int .u64 (nc : Int))).alloc o) p 41 (.string k) (.int .u32 (nx : Int)) (.int .u32 (na : Int)) (.int .u64 (nc : Int)) ∧ Below w.heap.size w (((((w5.setCell ⟨p, 0, none⟩ (.string k)).setCell ⟨p, 1, none⟩ (.int .u32 (nx : Int))).setCell ⟨p, 2, none⟩ (.int .u32 (na : Int))).setCell ⟨p, 3, none⟩ (.int .u64 (nc : Int))).alloc o)) := fun o =>
            ⟨(T5.out.1.far4 (by omega) _ _ _ _).alloc o, (T5.out.2.1.set _ _ _ _).alloc o, (below_set4 T5.out.2.2 (Nat.le_of_lt sz) _ _ _ _).alloc (below_set4 T5.out.2.2 (Nat.le_of_lt sz) _ _ _ _).size o⟩
          subst h3
          clear WY h4 h5 h6 T5 S XB g1
          go_wp2
          go_roundw
          case rel => exact ⟨j + 1, na, nc, by omega, by go_num, BN.out.1, BN.out.2, (F6.out _).1, (F6.out _).2.1, (F6.out _).2.2⟩
          case measure => simp [intOf]; omega
    · obtain rfl : j = n := by omega
      go_wp2
      go_ret
      exact ⟨rfl, S.out.2.2.2⟩

end Go.Proofs.Ytimeggbjmcnnoaa
