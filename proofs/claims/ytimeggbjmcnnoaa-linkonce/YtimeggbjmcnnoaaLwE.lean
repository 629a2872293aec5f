/- The law LinkNumbers: true, whatever the world. -/
import Derived.Test.YtimeggbjmcnnoaaLwC
namespace Go.Proofs.Ytimeggbjmcnnoaa
open Go.RowKit

theorem conv_byt {w : World} {a : Option Addr} {n cap : Nat} {bs : List UInt8} (h : Byt w a n cap bs) : (convert 24 9 (.slice a n cap)).run Try.prog w = .ok (str bs) w := by
  have := conv9 w a bs cap h.2.2.1
  rw [h.1] at this
  exact this

namespace Tm
theorem tagE_small {kl b : List UInt8} {f t s : Nat} (hk : kl.length ≤ 200) (hb : b.length ≤ 500) :
    (chk kl ≠ 0 ∧ tagE kl f t s b = chk kl) ∨ (chk kl = 0 ∧ ∃ tr, tree kl = some tr ∧ tagE kl f t s b = if 60 ≤ depth tr then 3 else 0) := by
  have e0 : tagE kl f t s b = makeE 109 [kl, built (ltext f t s b)] := by unfold tagE; rw [if_neg (by omega)]
  have hl := ltext_len f t s b
  have cb := built_chk (b := ltext f t s b) (by omega)
  have e1 := made_err (k := 109) (a := kl) (b := built (ltext f t s b)) (by decide) cb
  rw [e0, e1]
  by_cases h : chk kl = 0
  · right
    refine ⟨h, ?_⟩
    obtain ⟨h1, tr, h2, h3, h4, h5⟩ := chk_zero h
    refine ⟨tr, h2, ?_⟩
    rw [if_pos h]
    obtain ⟨b1, b2, b3, b4⟩ := built_tree (ltext f t s b)
    have e2 := made_chk3 (k := 109) (by decide) h3 b1
    rw [h4, b2] at e2
    rw [e2, b3, b4, hl, if_neg (by omega)]
    by_cases g : 60 ≤ depth tr
    · rw [if_pos g, if_pos (by omega)]
    · rw [if_neg g, if_neg (by omega)]
  · left
    exact ⟨h, by rw [if_neg h]⟩
theorem sendE_34 {kl b : List UInt8} {nx : Nat} (h : nx ≠ 4294967295) : sendE kl nx 3 4 b = tagE kl 3 4 (nx + 1) b := by
  unfold sendE
  rw [if_neg (by decide), if_neg h]
theorem num_ways {kl b c : List UInt8} (hk : kl.length ≤ 200) (hb : b.length ≤ 500) (hc : c.length ≤ 500) :
    (chk kl ≠ 0 ∧ sendE kl 0 3 4 b = chk kl ∧ sendE kl 0 3 4 c = chk kl) ∨ (chk kl = 0 ∧ (∃ tr, tree kl = some tr ∧ 50 < depth tr) ∧ sendE kl 0 3 4 b = 3 ∧ sendE kl 0 3 4 c = 3) ∨
    (sendE kl 0 3 4 b = 0 ∧ sendE kl 1 3 4 c = 0 ∧ tag kl 3 4 1 b ≠ tag kl 3 4 2 c) := by
  rw [sendE_34 (by omega), sendE_34 (by omega), sendE_34 (by omega)]
  rcases tagE_small (f := 3) (t := 4) (s := 0 + 1) hk hb with ⟨h1, h2⟩ | ⟨h1, tr, h2, h3⟩
  · left
    rcases tagE_small (f := 3) (t := 4) (s := 0 + 1) hk hc with ⟨g1, g2⟩ | ⟨g1, _⟩
    · exact ⟨h1, h2, g2⟩
    · exact absurd g1 h1
  · right
    rcases tagE_small (f := 3) (t := 4) (s := 0 + 1) hk hc with ⟨g1, g2⟩ | ⟨g1, tr2, g2, g3⟩
    · exact absurd h1 g1
    rcases tagE_small (f := 3) (t := 4) (s := 1 + 1) hk hc with ⟨i1, i2⟩ | ⟨i1, tr3, i2, i3⟩
    · exact absurd h1 i1
    rw [h2] at g2 i2
    cases g2
    cases i2
    by_cases d : 60 ≤ depth tr
    · rw [if_pos d] at h3 g3
      exact .inl ⟨h1, ⟨tr, h2, by omega⟩, h3, g3⟩
    · rw [if_neg d] at h3 i3
      refine .inr ⟨h3, i3, fun e => ?_⟩
      have := tag_inj (by omega) (by omega) (by omega) (by omega) (by omega) (by omega) h3 i3 e
      omega
end Tm

set_option maxRecDepth 100000 in
set_option maxHeartbeats 16000000 in
theorem numbers_walk (k : ByteArray) (a : Option Addr) (n cap : Nat) (b1 : List UInt8) (a' : Option Addr) (n' cap' : Nat) (b2 : List UInt8) (w : World) (hB : Byt w a n cap b1) (hB' : Byt w a' n' cap' b2) :
    Calls Try.prog 9 #[.string k, .slice a n cap, .slice a' n' cap'] w fun e w' => e = .returned (.bool true) ∧ Below w.heap.size w w' := by
  have AL : Aside (∀ W, _) := fun W => alive_any W
  have CK : Aside (∀ W, _) := fun W => rcheck_any k W
  have DP : Aside (∀ tr, Tm.tree k.data.toList = some tr → k.size ≤ 200 → ∀ W, Calls Try.prog 24 #[.string k] W fun e w' => e = .returned (.int .i64 (Tm.depth tr : Nat)) ∧ Below W.heap.size W w') := fun tr h1 h2 W => depth_any k tr W (by omega) h1
  have S1 : Aside (∀ W, Below w.heap.size w W → Calls Try.prog 17 #[.agg #[.string k, .int .u32 0, .int .u32 0, .int .u64 0], .int .u8 3, .int .u8 4, .slice a n cap] W (SendPost k.data.toList 0 0 0 3 4 b1 W)) := fun W hb => by have := send_any k.data.toList 0 0 0 3 4 a n cap b1 W (by omega) (by omega) (by omega) (hB.later hb); rw [str_of] at this; exact this
  have S2 : Aside (∀ W, Below w.heap.size w W → Calls Try.prog 17 #[.agg #[.string k, .int .u32 0, .int .u32 0, .int .u64 0], .int .u8 3, .int .u8 4, .slice a' n' cap'] W (SendPost k.data.toList 0 0 0 3 4 b2 W)) := fun W hb => by have := send_any k.data.toList 0 0 0 3 4 a' n' cap' b2 W (by omega) (by omega) (by omega) (hB'.later hb); rw [str_of] at this; exact this
  have S3 : Aside (∀ W, Below w.heap.size w W → Calls Try.prog 17 #[.agg #[.string k, .int .u32 1, .int .u32 0, .int .u64 0], .int .u8 3, .int .u8 4, .slice a' n' cap'] W (SendPost k.data.toList 1 0 0 3 4 b2 W)) := fun W hb => by have := send_any k.data.toList 1 0 0 3 4 a' n' cap' b2 W (by omega) (by omega) (by omega) (hB'.later hb); rw [str_of] at this; exact this
  have kl : k.data.toList.length = k.size := by simp
  have WY : Aside (k.size ≤ 200 → n ≤ 500 → n' ≤ 500 → _) := fun h1 h2 h3 => Tm.num_ways (kl := k.data.toList) (b := b1) (c := b2) (by omega) (by rw [hB.1]; exact h2) (by rw [hB'.1]; exact h3)
  have HB : Aside (Byt w a n cap b1 ∧ Byt w a' n' cap' b2) := ⟨hB, hB'⟩
  clear hB hB' kl
  go_enter Try.func9, Try.ntmps9
  go_wp2_with fail
  refine (AL.out _).mono ?_
  rintro e w1 ⟨rfl, b1'⟩
  have B1 : Aside (Below w.heap.size w w1) := b1'
  clear b1' AL
  by_cases h1 : 200 < k.size
  · have t1 : (200 : Int) < (k.size : Int) := by omega
    clear S1 S2 S3 CK DP WY h1
    go_wp2
    go_ret
    exact ⟨rfl, B1.out⟩
  have t1 : ¬ (200 : Int) < (k.size : Int) := by omega
  by_cases h2 : 500 < n
  · have t2 : (500 : Int) < (n : Int) := by omega
    clear S1 S2 S3 CK DP WY h1 h2
    go_wp2
    go_ret
    exact ⟨rfl, B1.out⟩
  have t2 : ¬ (500 : Int) < (n : Int) := by omega
  by_cases h3 : 500 < n'
  · have t3 : (500 : Int) < (n' : Int) := by omega
    clear S1 S2 S3 CK DP WY h1 h2 h3
    go_wp2
    go_ret
    exact ⟨rfl, B1.out⟩
  have t3 : ¬ (500 : Int) < (n' : Int) := by omega
  unfold SendPost Tm.sN Tm.sF Tm.sT Tm.sS Tm.sG Tm.sB at S1 S2 S3
  rcases WY.out (by omega) (by omega) (by omega) with ⟨g1, g2, g3⟩ | ⟨g1, ⟨tr, g4, g5⟩, g2, g3⟩ | ⟨g2, g3, g4⟩
  · rw [g2] at S1
    rw [g3] at S2
    simp only [g1, if_false] at S1 S2
    have t4 : ((Tm.chk k.data.toList : Int) != 0) = true := by
      have : ¬ (Tm.chk k.data.toList : Int) = 0 := by omega
      simpa using this
    have C1 : Aside (∀ W, _) := CK.out
    generalize Tm.chk k.data.toList = ec at *
    unfold str at S1 S2
    clear WY S3 HB g1 g2 g3 h1 h2 h3 DP C1
    go_wp2_with fail
    refine (S1.out _ B1.out).mono ?_
    rintro e w2 ⟨a2, n2, c2, rfl, y2, b2'⟩
    have C2 := below_step B1.out b2'
    have B2 : Aside (∀ o o', Below w.heap.size w ((w2.alloc o).alloc o')) := fun o o' => (C2.alloc C2.size o).alloc (by have := C2.size; simp; omega) o'
    clear S1 B1 y2 b2' C2
    go_wp2_with fail
    refine (S2.out _ (B2.out _ _)).mono ?_
    rintro e w3 ⟨a3, n3, c3, rfl, y3, b3⟩
    have C3 := below_step (B2.out _ _) b3
    have B3 : Aside (∀ o o', Below w.heap.size w ((w3.alloc o).alloc o')) := fun o o' => (C3.alloc C3.size o).alloc (by have := C3.size; simp; omega) o'
    clear S2 B2 y3 b3 C3
    go_wp2_with fail
    refine (CK.out _).mono ?_
    rintro e w4 ⟨rfl, b4⟩
    have B4 : Aside (Below w.heap.size w w4) := below_step (B3.out _ _) b4
    clear b4 CK B3
    go_wp2
    go_ret
    exact ⟨rfl, B4.out⟩
  · rw [g2] at S1
    rw [g3] at S2
    simp only [show ¬ (3 : Nat) = 0 by omega, if_false] at S1 S2
    have D1 : Aside (∀ W, _) := DP.out tr g4 (by omega)
    rw [g1] at CK
    have t5 : (50 : Int) < (Tm.depth tr : Int) := by omega
    generalize Tm.depth tr = dp at *
    unfold str at S1 S2
    clear WY S3 HB g1 g2 g3 h1 h2 h3 DP g4 g5
    go_wp2_with fail
    refine (S1.out _ B1.out).mono ?_
    rintro e w2 ⟨a2, n2, c2, rfl, y2, b2'⟩
    have C2 := below_step B1.out b2'
    have B2 : Aside (∀ o o', Below w.heap.size w ((w2.alloc o).alloc o')) := fun o o' => (C2.alloc C2.size o).alloc (by have := C2.size; simp; omega) o'
    clear S1 B1 y2 b2' C2
    go_wp2_with fail
    refine (S2.out _ (B2.out _ _)).mono ?_
    rintro e w3 ⟨a3, n3, c3, rfl, y3, b3⟩
    have C3 := below_step (B2.out _ _) b3
    have B3 : Aside (∀ o o', Below w.heap.size w ((w3.alloc o).alloc o')) := fun o o' => (C3.alloc C3.size o).alloc (by have := C3.size; simp; omega) o'
    clear S2 B2 y3 b3 C3
    go_wp2_with fail
    refine (CK.out _).mono ?_
    rintro e w4 ⟨rfl, b4⟩
    have B4 : Aside (Below w.heap.size w w4) := below_step (B3.out _ _) b4
    clear b4 CK B3
    go_wp2_with fail
    refine (D1.out _).mono ?_
    rintro e w5 ⟨rfl, b5⟩
    have B5 : Aside (Below w.heap.size w w5) := below_step B4.out b5
    clear b5 D1 B4
    go_wp2
    go_ret
    exact ⟨rfl, B5.out⟩
  · rw [g2] at S1
    rw [g3] at S3
    simp only [if_true] at S1 S3
    have t4 : ((⟨(Tm.tag k.data.toList 3 4 (0 + 1) b1).toArray⟩ : ByteArray).toList != (⟨(Tm.tag k.data.toList 3 4 (1 + 1) b2).toArray⟩ : ByteArray).toList) = true := by
      unfold bne
      rw [eq_lists]
      simpa using g4
    have t6 : ((⟨(Tm.tag k.data.toList 3 4 (0 + 1) b1).toArray⟩ : ByteArray).toList == (⟨(Tm.tag k.data.toList 3 4 (1 + 1) b2).toArray⟩ : ByteArray).toList) = false := by
      rw [eq_lists]
      simpa using g4
    unfold str at S1 S3
    generalize (⟨(Tm.tag k.data.toList 3 4 (0 + 1) b1).toArray⟩ : ByteArray) = g1 at *
    generalize (⟨(Tm.tag k.data.toList 3 4 (1 + 1) b2).toArray⟩ : ByteArray) = g2' at *
    clear WY S2 g2 g3 g4 h1 h2 h3 DP CK
    go_wp2_with fail
    refine (S1.out _ B1.out).mono ?_
    rintro e w2 ⟨a2, n2, c2, rfl, y2, b2'⟩
    have C2 := below_step B1.out b2'
    have B2 : Aside (∀ o o', Below w.heap.size w ((w2.alloc o).alloc o')) := fun o o' => (C2.alloc C2.size o).alloc (by have := C2.size; simp; omega) o'
    have Y2 : Aside (Byt w2 a2 n2 c2 b1) := y2
    clear S1 B1 y2 b2' C2
    go_wp2_with fail
    have D3 : Aside (L5 _ (w2.heap.size + 1) 35 _ _ _ _ _) := L5.new1 w2 (.cells #[.string k, .int .u32 1, .int .u32 0, .int .u64 0] 41) 35 (.int .u8 3) (.int .u8 4) (.int .u32 1) (.slice a2 n2 c2) (.string g1)
    refine (S3.out _ (B2.out _ _)).mono ?_
    rintro e w3 ⟨a3, n3, c3, rfl, y3, b3⟩
    have C3 := below_step (B2.out _ _) b3
    have B3 : Aside (∀ o o', Below w.heap.size w ((w3.alloc o).alloc o')) := fun o o' => (C3.alloc C3.size o).alloc (by have := C3.size; simp; omega) o'
    have DD3 : Aside (L5 w3 _ _ _ _ _ _ _) := D3.out.later b3
    have Y3 : Aside (∀ o o', Byt ((w3.alloc o).alloc o') a2 n2 c2 b1 ∧ Byt ((w3.alloc o).alloc o') a3 n3 c3 b2 ∧ Byt ((w3.alloc o).alloc o') a n cap b1 ∧ Byt ((w3.alloc o).alloc o') a' n' cap' b2) := fun o o' =>
      have z := (below_one w3 o).alloc (by simp) o'
      ⟨((Y2.out.later ((below_one w2 _).alloc (by simp) _)).later b3).later z, y3.later z, HB.out.1.later (B3.out o o'), HB.out.2.later (B3.out o o')⟩
    have v1 := fun o o' => conv_byt (Y3.out o o').1
    have v2 := fun o o' => conv_byt (Y3.out o o').2.1
    have v3 := fun o o' => conv_byt (Y3.out o o').2.2.1
    have v4 := fun o o' => conv_byt (Y3.out o o').2.2.2
    have DD3_0 := fun o0 o1 => ((DD3.out.alloc o0).alloc o1).cells.1
    have DD3_1 := fun o0 o1 => ((DD3.out.alloc o0).alloc o1).cells.2.1
    have DD3_2 := fun o0 o1 => ((DD3.out.alloc o0).alloc o1).cells.2.2.1
    have DD3_3 := fun o0 o1 => ((DD3.out.alloc o0).alloc o1).cells.2.2.2.1
    have DD3_4 := fun o0 o1 => ((DD3.out.alloc o0).alloc o1).cells.2.2.2.2
    unfold str at v1 v2 v3 v4
    generalize (⟨b1.toArray⟩ : ByteArray) = p1 at v1 v2 v3 v4
    generalize (⟨b2.toArray⟩ : ByteArray) = p2 at v1 v2 v3 v4
    clear S3 B2 y3 b3 C3 D3 DD3 Y2 Y3 HB
    go_wp2
    go_ret
    exact ⟨rfl, B3.out _ _⟩

end Go.Proofs.Ytimeggbjmcnnoaa
