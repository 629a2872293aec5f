/- The laws LinkTags and LinkSecret: true, whatever the world. -/
import Derived.Test.YtimeggbjmcnnoaaLnM
namespace Go.Proofs.Ytimeggbjmcnnoaa
open Go.RowKit

/-- Four numbers in a block. -/
theorem below_one (w : World) (o : Obj) : Below w.heap.size w (w.alloc o) := (Below.refl _ w).alloc (Nat.le_refl _) o

set_option maxRecDepth 100000 in
set_option maxHeartbeats 8000000 in
theorem tags_walk (sec key : ByteArray) (f t s : Nat) (a : Option Addr) (n cap : Nat) (g : ByteArray) (body : List UInt8) (w : World) (hf : f < 256) (ht : t < 256) (hs : s < 4294967296) (hB : Byt w a n cap body) :
    Calls Try.prog 3 #[.string sec, .agg #[.int .u8 (f : Int), .int .u8 (t : Int), .int .u32 (s : Int), .slice a n cap, .string g], .string key] w fun e w' => e = .returned (.bool true) ∧ Below w.heap.size w w' := by
  have AL : Aside (∀ W, _) := fun W => alive_any W
  have FW : Aside (∀ W, _) := fun W => few_any f t s a n cap g W
  have K1 : Aside (∀ W, Calls Try.prog 13 #[.string sec, .int .u8 (f : Int), .int .u8 (t : Int)] W _) := fun W => by have := key_any sec.data.toList f t W; rw [str_of] at this; exact this
  have K2 : Aside (∀ W, Calls Try.prog 14 #[.string sec, .int .u8 (f : Int), .int .u8 (t : Int)] W _) := fun W => by have := rkey_any sec.data.toList f t W; rw [str_of] at this; exact this
  have T1 : Aside (∀ W, Below w.heap.size w W → Calls Try.prog 15 #[.string key, .agg #[.int .u8 (f : Int), .int .u8 (t : Int), .int .u32 (s : Int), .slice a n cap, .string g]] W (TagPost key.data.toList f t s body W)) := fun W hb => by have := tag_any key.data.toList f t s a n cap g body W hf ht hs (hB.later hb); rw [str_of] at this; exact this
  have T2 : Aside (∀ W, Below w.heap.size w W → Calls Try.prog 16 #[.string key, .agg #[.int .u8 (f : Int), .int .u8 (t : Int), .int .u32 (s : Int), .slice a n cap, .string g]] W (TagPost key.data.toList f t s body W)) := fun W hb => by have := rtag_any key.data.toList f t s a n cap g body W hf ht hs (hB.later hb); rw [str_of] at this; exact this
  unfold KeyPost at K1 K2
  unfold TagPost at T1 T2
  unfold str at *
  generalize (⟨(Tm.keyOf sec.data.toList f t).toArray⟩ : ByteArray) = kz at *
  generalize Tm.keyE sec.data.toList f t = ke at *
  generalize (⟨(Tm.tag key.data.toList f t s body).toArray⟩ : ByteArray) = tz at *
  generalize Tm.tagE key.data.toList f t s body = te at *
  have X0 : Aside (L5 _ w.heap.size 26 _ _ _ _ _) := L5.new w 26 (.int .u8 (f : Int)) (.int .u8 (t : Int)) (.int .u32 (s : Int)) (.slice a n cap) (.string g)
  have B0 : Aside (∀ o, Below w.heap.size w (w.alloc o)) := fun o => below_one w o
  clear hf ht hs hB
  go_enter Try.func3, Try.ntmps3
  go_wp2_with fail
  refine (AL.out _).mono ?_
  rintro e w1 ⟨rfl, b1⟩
  have B1 : Aside (Below w.heap.size w w1) := below_step (B0.out _) b1
  have X1 : Aside (L5 w1 _ _ _ _ _ _ _) := X0.out.later b1
  obtain ⟨x0, x1, x2, x3, x4⟩ := X1.out.cells
  clear b1 AL X0 B0
  go_wp2_with fail
  refine (FW.out _).mono ?_
  rintro e w2 ⟨rfl, b2⟩
  have B2 : Aside (Below w.heap.size w w2) := below_step B1.out b2
  have X2 : Aside (L5 w2 _ _ _ _ _ _ _) := X1.out.later b2
  clear x0 x1 x2 x3 x4
  obtain ⟨x0, x1, x2, x3, x4⟩ := X2.out.cells
  clear b2 FW X1 B1
  cases hfb : fewB n g
  · clear K1 K2 T1 T2 X2 hfb
    go_wp2
    go_ret
    exact ⟨rfl, B2.out⟩
  by_cases h1 : sec.size ≤ 3000
  · have t1 : ¬ (3000 : Int) < (sec.size : Int) := by omega
    by_cases h2 : key.size ≤ 3000
    · have t2 : ¬ (3000 : Int) < (key.size : Int) := by omega
      clear hfb h1 h2
      go_wp2_with fail
      refine (K1.out _).mono ?_
      rintro e w3 ⟨rfl, b3⟩
      have B3 : Aside (Below w.heap.size w w3) := below_step B2.out b3
      have X3 : Aside (L5 w3 _ _ _ _ _ _ _) := X2.out.later b3
      clear x0 x1 x2 x3 x4
      obtain ⟨x0, x1, x2, x3, x4⟩ := X3.out.cells
      clear b3 K1 X2 B2
      go_wp2_with fail
      refine (K2.out _).mono ?_
      rintro e w4 ⟨rfl, b4⟩
      have B4 : Aside (Below w.heap.size w w4) := below_step B3.out b4
      have X4 : Aside (L5 w4 _ _ _ _ _ _ _) := X3.out.later b4
      clear x0 x1 x2 x3 x4
      obtain ⟨x0, x1, x2, x3, x4⟩ := X4.out.cells
      clear b4 K2 X3 B3
      go_wp2_with fail
      refine (T1.out _ B4.out).mono ?_
      rintro e w5 ⟨rfl, b5⟩
      have B5 : Aside (Below w.heap.size w w5) := below_step B4.out b5
      have X5 : Aside (L5 w5 _ _ _ _ _ _ _) := X4.out.later b5
      clear x0 x1 x2 x3 x4
      obtain ⟨x0, x1, x2, x3, x4⟩ := X5.out.cells
      clear b5 T1 X4 B4
      go_wp2_with fail
      refine (T2.out _ B5.out).mono ?_
      rintro e w6 ⟨rfl, b6⟩
      have B6 : Aside (Below w.heap.size w w6) := below_step B5.out b6
      clear x0 x1 x2 x3 x4 b6 T2 X5 B5
      go_wp2
      go_ret
      exact ⟨rfl, B6.out⟩
    · have t2 : (3000 : Int) < (key.size : Int) := by omega
      clear K1 K2 T1 T2 X2 hfb h1 h2
      go_wp2
      go_ret
      exact ⟨rfl, B2.out⟩
  · have t1 : (3000 : Int) < (sec.size : Int) := by omega
    clear K1 K2 T1 T2 X2 hfb h1
    go_wp2
    go_ret
    exact ⟨rfl, B2.out⟩

namespace Tm
/-- The links of one secret: each pair of members has a key of its own. -/
theorem link_inj {a b c d : Nat} (h1 : two a b = true) (h2 : two c d = true) (h : linkC a b = linkC c d) : a = c ∧ b = d ∨ a = d ∧ b = c := by
  obtain ⟨a1, a2, a3⟩ := two_facts h1
  obtain ⟨c1, c2, c3⟩ := two_facts h2
  unfold linkC at h
  have := (const_front (r := []) (q := []) (c := [UInt8.ofNat (min a b), UInt8.ofNat (max a b)]) (d := [UInt8.ofNat (min c d), UInt8.ofNat (max c d)]) (by simp) (by simp) (by simpa using h)).1
  simp only [List.cons.injEq, and_true] at this
  have e1 := byte_inj (x := min a b) (y := min c d) (by omega) (by omega) this.1
  have e2 := byte_inj (x := max a b) (y := max c d) (by omega) (by omega) this.2
  omega
theorem link_sym (a b : Nat) : linkC a b = linkC b a := by unfold linkC; rw [Nat.min_comm, Nat.max_comm]
theorem two_sym (a b : Nat) : two a b = two b a := by
  unfold two
  rw [decide_eq_decide]
  constructor
  · rintro ⟨h1, h2, h3⟩; exact ⟨h2, h1, fun e => h3 e.symm⟩
  · rintro ⟨h1, h2, h3⟩; exact ⟨h2, h1, fun e => h3 e.symm⟩
theorem key_sym (s : List UInt8) (a b : Nat) : keyE s a b = keyE s b a ∧ keyOf s a b = keyOf s b a := by
  have e : keyE s a b = keyE s b a := by
    cases h : two a b
    · rw [keyE_no h, keyE_no (by rw [two_sym]; exact h)]
    · rw [keyE_yes h, keyE_yes (by rw [two_sym]; exact h), link_sym]
  refine ⟨e, ?_⟩
  cases h : two a b
  · rw [keyOf_no h, keyOf_no (by rw [two_sym]; exact h)]
  · rw [keyOf_yes h, keyOf_yes (by rw [two_sym]; exact h), link_sym]
theorem key_one {s : List UInt8} {a b c d : Nat} (h1 : keyE s a b = 0) (h2 : keyE s c d = 0) : (keyOf s a b = keyOf s c d) ↔ (a = c ∧ b = d ∨ a = d ∧ b = c) := by
  have t1 : two a b = true := by
    cases h : two a b
    · rw [keyE_no h] at h1; cases h1
    · rfl
  have t2 : two c d = true := by
    cases h : two c d
    · rw [keyE_no h] at h2; cases h2
    · rfl
  rw [keyE_yes t1] at h1
  rw [keyE_yes t2] at h2
  rw [keyOf_yes t1, keyOf_yes t2]
  constructor
  · intro h
    exact link_inj t1 t2 (made_inj (by decide) h1 h2 h).2
  · rintro (⟨rfl, rfl⟩ | ⟨rfl, rfl⟩)
    · rfl
    · rw [link_sym]
end Tm

end Go.Proofs.Ytimeggbjmcnnoaa
