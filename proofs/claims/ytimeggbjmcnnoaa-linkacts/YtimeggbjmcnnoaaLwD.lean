/- The law LinkActs: true, whatever the world. -/
import Derived.Test.YtimeggbjmcnnoaaLwC
import Derived.Test.YtimeggbjmcnnoaaLnJ
namespace Go.Proofs.Ytimeggbjmcnnoaa
open Go.RowKit

set_option maxRecDepth 100000 in
set_option maxHeartbeats 16000000 in
theorem acts_walk (k : ByteArray) (nx tp cm me f t s : Nat) (a : Option Addr) (n cap : Nat) (g : ByteArray) (body : List UInt8) (w : World) (hnx : nx < 4294967296) (htp : tp < 4294967296) (hcm : cm < 18446744073709551616) (hf : f < 256) (ht : t < 256) (hs : s < 4294967296) (hB : Byt w a n cap body) :
    Calls Try.prog 4 #[.agg #[.string k, .int .u32 (nx : Int), .int .u32 (tp : Int), .int .u64 (cm : Int)], .int .u8 (me : Int), .agg #[.int .u8 (f : Int), .int .u8 (t : Int), .int .u32 (s : Int), .slice a n cap, .string g]] w fun e w' => e = .returned (.bool true) ∧ Below w.heap.size w w' := by
  have AL : Aside (∀ W, _) := fun W => alive_any W
  have FW : Aside (∀ W, _) := fun W => few_any f t s a n cap g W
  have S1 : Aside (∀ W, Below w.heap.size w W → Calls Try.prog 17 #[.agg #[.string k, .int .u32 (nx : Int), .int .u32 (tp : Int), .int .u64 (cm : Int)], .int .u8 (f : Int), .int .u8 (t : Int), .slice a n cap] W (SendPost k.data.toList nx tp cm f t body W)) := fun W hb => by have := send_any k.data.toList nx tp cm f t a n cap body W hnx hf ht (hB.later hb); rw [str_of] at this; exact this
  have S2 : Aside (∀ W, Below w.heap.size w W → Calls Try.prog 18 #[.agg #[.string k, .int .u32 (nx : Int), .int .u32 (tp : Int), .int .u64 (cm : Int)], .int .u8 (f : Int), .int .u8 (t : Int), .slice a n cap] W (SendPost k.data.toList nx tp cm f t body W)) := fun W hb => by have := rsend_any k.data.toList nx tp cm f t a n cap body W hnx hf ht (hB.later hb); rw [str_of] at this; exact this
  have A1 : Aside (∀ W, Below w.heap.size w W → Calls Try.prog 19 #[.agg #[.string k, .int .u32 (nx : Int), .int .u32 (tp : Int), .int .u64 (cm : Int)], .int .u8 (me : Int), .agg #[.int .u8 (f : Int), .int .u8 (t : Int), .int .u32 (s : Int), .slice a n cap, .string g]] W (AccPost k.data.toList nx tp cm me f t s body g.data.toList W)) := fun W hb => by have := accept_any k.data.toList nx tp cm me f t s a n cap g body W htp hcm hf ht hs (hB.later hb); rw [str_of] at this; exact this
  have A2 : Aside (∀ W, Below w.heap.size w W → Calls Try.prog 20 #[.agg #[.string k, .int .u32 (nx : Int), .int .u32 (tp : Int), .int .u64 (cm : Int)], .int .u8 (me : Int), .agg #[.int .u8 (f : Int), .int .u8 (t : Int), .int .u32 (s : Int), .slice a n cap, .string g]] W (AccPost k.data.toList nx tp cm me f t s body g.data.toList W)) := fun W hb => by have := raccept_any k.data.toList nx tp cm me f t s a n cap g body W htp hcm hf ht hs (hB.later hb); rw [str_of] at this; exact this
  unfold SendPost at S1 S2
  unfold AccPost at A1 A2
  rw [str_of] at S1 S2 A1 A2
  generalize Tm.aT k.data.toList me f t s tp cm body g.data.toList = at' at *
  generalize Tm.aC k.data.toList me f t s tp cm body g.data.toList = ac' at *
  generalize Tm.accE k.data.toList me f t s tp cm body g.data.toList = ae at *
  generalize Tm.sN k.data.toList nx f t body = sN at *
  generalize Tm.sF k.data.toList nx f t body = sF at *
  generalize Tm.sT k.data.toList nx f t body = sT at *
  generalize Tm.sS k.data.toList nx f t body = sS at *
  generalize Tm.sB k.data.toList nx f t body = sB at *
  generalize Tm.sendE k.data.toList nx f t body = se at *
  unfold str at S1 S2
  generalize (⟨(Tm.sG k.data.toList nx f t body).toArray⟩ : ByteArray) = sG at *
  have E0 : Aside (E4 _ w.heap.size 40 _ _ _ _) := (E4.new w 40 (.string k) (.int .u32 (nx : Int)) (.int .u32 (tp : Int)) (.int .u64 (cm : Int))).alloc (.cells #[.int .u8 (f : Int), .int .u8 (t : Int), .int .u32 (s : Int), .slice a n cap, .string g] 26)
  have X0 : Aside (L5 _ (w.heap.size + 1) 26 _ _ _ _ _) := L5.new1 w (.cells #[.string k, .int .u32 (nx : Int), .int .u32 (tp : Int), .int .u64 (cm : Int)] 40) 26 (.int .u8 (f : Int)) (.int .u8 (t : Int)) (.int .u32 (s : Int)) (.slice a n cap) (.string g)
  have B0 : Aside (∀ o o', Below w.heap.size w ((w.alloc o).alloc o')) := fun o o' => (below_one w o).alloc (by simp) o'
  have q1 := fun s n t c W => eql40 s s n n t t c c W
  have q2 := fun x y xs ys W => eql40_guard x y xs ys W
  have q3 := fun s n t c => eqE_refl s n t c
  clear hf ht hs hB htp hcm hnx
  go_enter Try.func4, Try.ntmps4
  go_wp2_with fail
  refine (AL.out _).mono ?_
  rintro e w1 ⟨rfl, b1⟩
  have B1 : Aside (Below w.heap.size w w1) := below_step (B0.out _ _) b1
  have X1 : Aside (L5 w1 _ _ _ _ _ _ _) := X0.out.later b1
  have E1 : Aside (E4 w1 _ _ _ _ _ _) := E0.out.later b1
  obtain ⟨x0, x1, x2, x3, x4⟩ := X1.out.cells
  clear b1 AL X0 B0 E0
  go_wp2_with fail
  refine (FW.out _).mono ?_
  rintro e w2 ⟨rfl, b2⟩
  have B2 : Aside (Below w.heap.size w w2) := below_step B1.out b2
  have X2 : Aside (L5 w2 _ _ _ _ _ _ _) := X1.out.later b2
  have E2 : Aside (E4 w2 _ _ _ _ _ _) := E1.out.later b2
  clear x0 x1 x2 x3 x4
  obtain ⟨x0, x1, x2, x3, x4⟩ := X2.out.cells
  obtain ⟨e0, e1, e2, e3⟩ := E2.out.cells
  clear b2 FW X1 B1 E1
  cases hfb : fewB n g
  · clear S1 S2 A1 A2 X2 E2 hfb
    go_wp2
    go_ret
    exact ⟨rfl, B2.out⟩
  by_cases h1 : 3000 < k.size
  · have t1 : (3000 : Int) < (k.size : Int) := by omega
    clear S1 S2 A1 A2 X2 E2 hfb h1
    go_wp2
    go_ret
    exact ⟨rfl, B2.out⟩
  have t1 : ¬ (3000 : Int) < (k.size : Int) := by omega
  clear hfb h1
  go_wp2_with fail
  refine (S1.out _ B2.out).mono ?_
  rintro e w3 ⟨a3, n3, c3, rfl, y3, b3⟩
  clear x0 x1 x2 x3 x4 e0 e1 e2 e3 S1
  have E3 : Aside (E4 w3 _ _ _ _ _ _) := E2.out.later b3
  have X3 : Aside (L5 w3 _ _ _ _ _ _ _) := X2.out.later b3
  have C3 := below_step B2.out b3
  have E3_0 := fun o0 o1 => ((E3.out.alloc o0).alloc o1).cells.1
  have E3_1 := fun o0 o1 => ((E3.out.alloc o0).alloc o1).cells.2.1
  have E3_2 := fun o0 o1 => ((E3.out.alloc o0).alloc o1).cells.2.2.1
  have E3_3 := fun o0 o1 => ((E3.out.alloc o0).alloc o1).cells.2.2.2
  have X3_0 := fun o0 o1 => ((X3.out.alloc o0).alloc o1).cells.1
  have X3_1 := fun o0 o1 => ((X3.out.alloc o0).alloc o1).cells.2.1
  have X3_2 := fun o0 o1 => ((X3.out.alloc o0).alloc o1).cells.2.2.1
  have X3_3 := fun o0 o1 => ((X3.out.alloc o0).alloc o1).cells.2.2.2.1
  have X3_4 := fun o0 o1 => ((X3.out.alloc o0).alloc o1).cells.2.2.2.2
  have B3 : Aside (∀ o o', Below w.heap.size w ((w3.alloc o).alloc o')) := fun o o' => (C3.alloc C3.size o).alloc (by have := C3.size; simp; omega) o'
  have Y3 : Aside (Byt w3 a3 n3 c3 sB) := y3
  clear b3 C3 y3 E2 X2 B2
  go_wp2_with fail
  have A4 : Aside (E4 _ w3.heap.size 41 _ _ _ _) := (E4.new w3 41 (.string k) (.int .u32 (sN : Int)) (.int .u32 (tp : Int)) (.int .u64 (cm : Int))).alloc (.cells #[.int .u8 (sF : Int), .int .u8 (sT : Int), .int .u32 (sS : Int), .slice a3 n3 c3, .string sG] 35)
  have D4 : Aside (L5 _ (w3.heap.size + 1) 35 _ _ _ _ _) := L5.new1 w3 (.cells #[.string k, .int .u32 (sN : Int), .int .u32 (tp : Int), .int .u64 (cm : Int)] 41) 35 (.int .u8 (sF : Int)) (.int .u8 (sT : Int)) (.int .u32 (sS : Int)) (.slice a3 n3 c3) (.string sG)
  refine (S2.out _ (B3.out _ _)).mono ?_
  rintro e w4 ⟨a4, n4, c4, rfl, y4, b4⟩
  clear E3_0 E3_1 E3_2 E3_3 X3_0 X3_1 X3_2 X3_3 X3_4
  have E4' : Aside (E4 w4 _ _ _ _ _ _) := ((E3.out.alloc _).alloc _).later b4
  have X4 : Aside (L5 w4 _ _ _ _ _ _ _) := ((X3.out.alloc _).alloc _).later b4
  have AA4 : Aside (E4 w4 _ _ _ _ _ _) := A4.out.later b4
  have DD4 : Aside (L5 w4 _ _ _ _ _ _ _) := D4.out.later b4
  have Y4 : Aside (Byt w4 a3 n3 c3 sB ∧ Byt w4 a4 n4 c4 sB) := ⟨(Y3.out.later ((below_one w3 _).alloc (by simp) _)).later b4, y4⟩
  have C4 := below_step (B3.out _ _) b4
  have E4'_0 := fun o0 o1 => ((E4'.out.alloc o0).alloc o1).cells.1
  have E4'_1 := fun o0 o1 => ((E4'.out.alloc o0).alloc o1).cells.2.1
  have E4'_2 := fun o0 o1 => ((E4'.out.alloc o0).alloc o1).cells.2.2.1
  have E4'_3 := fun o0 o1 => ((E4'.out.alloc o0).alloc o1).cells.2.2.2
  have X4_0 := fun o0 o1 => ((X4.out.alloc o0).alloc o1).cells.1
  have X4_1 := fun o0 o1 => ((X4.out.alloc o0).alloc o1).cells.2.1
  have X4_2 := fun o0 o1 => ((X4.out.alloc o0).alloc o1).cells.2.2.1
  have X4_3 := fun o0 o1 => ((X4.out.alloc o0).alloc o1).cells.2.2.2.1
  have X4_4 := fun o0 o1 => ((X4.out.alloc o0).alloc o1).cells.2.2.2.2
  have B4 : Aside (∀ o o', Below w.heap.size w ((w4.alloc o).alloc o')) := fun o o' => (C4.alloc C4.size o).alloc (by have := C4.size; simp; omega) o'
  clear b4 C4 y4 E3 X3 B3 A4 D4 Y3 S2
  go_wp2_with fail
  have P5 : Aside (E4 _ w4.heap.size 40 _ _ _ _) := (E4.new w4 40 (.string k) (.int .u32 (sN : Int)) (.int .u32 (tp : Int)) (.int .u64 (cm : Int))).alloc (.cells #[.int .u8 (sF : Int), .int .u8 (sT : Int), .int .u32 (sS : Int), .slice a4 n4 c4, .string sG] 26)
  have Z5 : Aside (L5 _ (w4.heap.size + 1) 26 _ _ _ _ _) := L5.new1 w4 (.cells #[.string k, .int .u32 (sN : Int), .int .u32 (tp : Int), .int .u64 (cm : Int)] 40) 26 (.int .u8 (sF : Int)) (.int .u8 (sT : Int)) (.int .u32 (sS : Int)) (.slice a4 n4 c4) (.string sG)
  refine (A1.out _ (B4.out _ _)).mono ?_
  rintro e w5 ⟨rfl, b5⟩
  clear E4'_0 E4'_1 E4'_2 E4'_3 X4_0 X4_1 X4_2 X4_3 X4_4
  have E5 : Aside (E4 w5 _ _ _ _ _ _) := ((E4'.out.alloc _).alloc _).later b5
  have X5 : Aside (L5 w5 _ _ _ _ _ _ _) := ((X4.out.alloc _).alloc _).later b5
  have AA5 : Aside (E4 w5 _ _ _ _ _ _) := ((AA4.out.alloc _).alloc _).later b5
  have DD5 : Aside (L5 w5 _ _ _ _ _ _ _) := ((DD4.out.alloc _).alloc _).later b5
  have PP5 : Aside (E4 w5 _ _ _ _ _ _) := P5.out.later b5
  have ZZ5 : Aside (L5 w5 _ _ _ _ _ _ _) := Z5.out.later b5
  have Y5 : Aside (Byt w5 a3 n3 c3 sB ∧ Byt w5 a4 n4 c4 sB) := ⟨(Y4.out.1.later ((below_one w4 _).alloc (by simp) _)).later b5, (Y4.out.2.later ((below_one w4 _).alloc (by simp) _)).later b5⟩
  have C5 := below_step (B4.out _ _) b5
  have E5_0 := fun o0 => (E5.out.alloc o0).cells.1
  have E5_1 := fun o0 => (E5.out.alloc o0).cells.2.1
  have E5_2 := fun o0 => (E5.out.alloc o0).cells.2.2.1
  have E5_3 := fun o0 => (E5.out.alloc o0).cells.2.2.2
  have X5_0 := fun o0 => (X5.out.alloc o0).cells.1
  have X5_1 := fun o0 => (X5.out.alloc o0).cells.2.1
  have X5_2 := fun o0 => (X5.out.alloc o0).cells.2.2.1
  have X5_3 := fun o0 => (X5.out.alloc o0).cells.2.2.2.1
  have X5_4 := fun o0 => (X5.out.alloc o0).cells.2.2.2.2
  have B5 : Aside (∀ o, Below w.heap.size w (w5.alloc o)) := fun o => C5.alloc C5.size o
  clear b5 C5 E4' X4 B4 AA4 DD4 Y4 P5 Z5 A1
  go_wp2_with fail
  have Q6 : Aside (E4 _ w5.heap.size 41 _ _ _ _) := E4.new w5 41 (.string k) (.int .u32 (nx : Int)) (.int .u32 (at' : Int)) (.int .u64 (ac' : Int))
  refine (A2.out _ (B5.out _)).mono ?_
  rintro e w6 ⟨rfl, b6⟩
  clear E5_0 E5_1 E5_2 E5_3 X5_0 X5_1 X5_2 X5_3 X5_4
  have AA6 : Aside (E4 w6 _ _ _ _ _ _) := (AA5.out.alloc _).later b6
  have DD6 : Aside (L5 w6 _ _ _ _ _ _ _) := (DD5.out.alloc _).later b6
  have PP6 : Aside (E4 w6 _ _ _ _ _ _) := (PP5.out.alloc _).later b6
  have ZZ6 : Aside (L5 w6 _ _ _ _ _ _ _) := (ZZ5.out.alloc _).later b6
  have QQ6 : Aside (E4 w6 _ _ _ _ _ _) := Q6.out.later b6
  have Y6 : Aside (∀ o, Byt (w6.alloc o) a3 n3 c3 sB ∧ Byt (w6.alloc o) a4 n4 c4 sB) := fun o => ⟨((Y5.out.1.later (below_one w5 _)).later b6).later (below_one w6 o), ((Y5.out.2.later (below_one w5 _)).later b6).later (below_one w6 o)⟩
  have C6 := below_step (B5.out _) b6
  have AA6_0 := fun o0 => (AA6.out.alloc o0).cells.1
  have AA6_1 := fun o0 => (AA6.out.alloc o0).cells.2.1
  have AA6_2 := fun o0 => (AA6.out.alloc o0).cells.2.2.1
  have AA6_3 := fun o0 => (AA6.out.alloc o0).cells.2.2.2
  have DD6_0 := fun o0 => (DD6.out.alloc o0).cells.1
  have DD6_1 := fun o0 => (DD6.out.alloc o0).cells.2.1
  have DD6_2 := fun o0 => (DD6.out.alloc o0).cells.2.2.1
  have DD6_3 := fun o0 => (DD6.out.alloc o0).cells.2.2.2.1
  have DD6_4 := fun o0 => (DD6.out.alloc o0).cells.2.2.2.2
  have PP6_0 := fun o0 => (PP6.out.alloc o0).cells.1
  have PP6_1 := fun o0 => (PP6.out.alloc o0).cells.2.1
  have PP6_2 := fun o0 => (PP6.out.alloc o0).cells.2.2.1
  have PP6_3 := fun o0 => (PP6.out.alloc o0).cells.2.2.2
  have ZZ6_0 := fun o0 => (ZZ6.out.alloc o0).cells.1
  have ZZ6_1 := fun o0 => (ZZ6.out.alloc o0).cells.2.1
  have ZZ6_2 := fun o0 => (ZZ6.out.alloc o0).cells.2.2.1
  have ZZ6_3 := fun o0 => (ZZ6.out.alloc o0).cells.2.2.2.1
  have ZZ6_4 := fun o0 => (ZZ6.out.alloc o0).cells.2.2.2.2
  have B6 : Aside (∀ o, Below w.heap.size w (w6.alloc o)) := fun o => C6.alloc C6.size o
  clear b6 C6 E5 X5 B5 AA5 DD5 PP5 ZZ5 Q6 Y5 A2
  go_wp2_with fail
  have R7 : Aside (E4 _ w6.heap.size 40 _ _ _ _) := E4.new w6 40 (.string k) (.int .u32 (nx : Int)) (.int .u32 (at' : Int)) (.int .u64 (ac' : Int))
  refine (same_eq sF sT sS a3 a4 n3 c3 n4 c4 sG sB _ (Y6.out _).1 (Y6.out _).2).mono ?_
  rintro e w7 ⟨rfl, b7⟩
  clear AA6_0 AA6_1 AA6_2 AA6_3 DD6_0 DD6_1 DD6_2 DD6_3 DD6_4 PP6_0 PP6_1 PP6_2 PP6_3 ZZ6_0 ZZ6_1 ZZ6_2 ZZ6_3 ZZ6_4
  have QQ7 : Aside (E4 w7 _ _ _ _ _ _) := (QQ6.out.alloc _).later b7
  have RR7 : Aside (E4 w7 _ _ _ _ _ _) := R7.out.later b7
  have B7 : Aside (Below w.heap.size w w7) := below_step (B6.out _) b7
  have QQ7_0 := QQ7.out.cells.1
  have QQ7_1 := QQ7.out.cells.2.1
  have QQ7_2 := QQ7.out.cells.2.2.1
  have QQ7_3 := QQ7.out.cells.2.2.2
  have RR7_0 := RR7.out.cells.1
  have RR7_1 := RR7.out.cells.2.1
  have RR7_2 := RR7.out.cells.2.2.1
  have RR7_3 := RR7.out.cells.2.2.2
  clear b7 AA6 DD6 PP6 ZZ6 QQ6 R7 B6 Y6
  go_wp2
  go_ret
  exact ⟨rfl, B7.out⟩

end Go.Proofs.Ytimeggbjmcnnoaa
