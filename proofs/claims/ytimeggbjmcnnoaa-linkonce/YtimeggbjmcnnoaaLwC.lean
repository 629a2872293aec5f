/- The law LinkMine: true, whatever the world. -/
import Derived.Test.YtimeggbjmcnnoaaLwA
namespace Go.Proofs.Ytimeggbjmcnnoaa
open Go.RowKit

theorem L5.new1 (w : World) (o : Obj) (t : TypeId) (v0 v1 v2 v3 v4 : Value) : L5 ((w.alloc o).alloc (.cells #[v0, v1, v2, v3, v4] t)) (w.heap.size + 1) t v0 v1 v2 v3 v4 := by
  have := L5.new (w.alloc o) t v0 v1 v2 v3 v4
  rw [World.size_alloc] at this
  exact this
theorem E4.new1 (w : World) (o : Obj) (t : TypeId) (v0 v1 v2 v3 : Value) : E4 ((w.alloc o).alloc (.cells #[v0, v1, v2, v3] t)) (w.heap.size + 1) t v0 v1 v2 v3 := by
  have := E4.new (w.alloc o) t v0 v1 v2 v3
  rw [World.size_alloc] at this
  exact this

namespace Tm
theorem acc_ways (key : List UInt8) (me f t s tp cm : Nat) (body g : List UInt8) :
    (me = t ∧ me ≠ f ∧ accE key me f t s tp cm body g = 0 ∧ 0 < s) ∨ (me = t ∧ me ≠ f ∧ accE key me f t s tp cm body g ≠ 0) ∨ (me = t ∧ me = f ∧ accE key me f t s tp cm body g = 2) ∨ (me ≠ t ∧ accE key me f t s tp cm body g = 2) := by
  by_cases h1 : me = t
  · by_cases h2 : me = f
    · refine .inr (.inr (.inl ⟨h1, h2, ?_⟩))
      unfold accE
      have h3 : two f t = false := by
        unfold two
        exact decide_eq_false (fun h => h.2.2 (by rw [← h1, h2]))
      rw [if_pos (.inr (.inl h3))]
    · by_cases h3 : accE key me f t s tp cm body g = 0
      · refine .inl ⟨h1, h2, h3, ?_⟩
        by_cases h4 : s = 0
        · unfold accE at h3
          rw [if_pos (.inr (.inr h4))] at h3
          cases h3
        · omega
      · exact .inr (.inl ⟨h1, h2, h3⟩)
  · refine .inr (.inr (.inr ⟨h1, ?_⟩))
    unfold accE
    rw [if_pos (.inl (fun e => h1 e.symm))]
end Tm

set_option maxRecDepth 100000 in
set_option maxHeartbeats 16000000 in
theorem mine_walk (k : ByteArray) (nx tp cm f t s : Nat) (a : Option Addr) (n cap : Nat) (g : ByteArray) (body : List UInt8) (me : Nat) (w : World) (htp : tp < 4294967296) (hcm : cm < 18446744073709551616) (hf : f < 256) (ht : t < 256) (hs : s < 4294967296) (hB : Byt w a n cap body) :
    Calls Try.prog 10 #[.agg #[.string k, .int .u32 (nx : Int), .int .u32 (tp : Int), .int .u64 (cm : Int)], .agg #[.int .u8 (f : Int), .int .u8 (t : Int), .int .u32 (s : Int), .slice a n cap, .string g], .int .u8 (me : Int)] w fun e w' => e = .returned (.bool true) ∧ Below w.heap.size w w' := by
  have AL : Aside (∀ W, _) := fun W => alive_any W
  have FW : Aside (∀ W, _) := fun W => few_any f t s a n cap g W
  have TG : Aside (∀ W, Below w.heap.size w W → Calls Try.prog 16 #[.string k, .agg #[.int .u8 (f : Int), .int .u8 (t : Int), .int .u32 (s : Int), .slice a n cap, .string g]] W (TagPost k.data.toList f t s body W)) := fun W hb => by have := rtag_any k.data.toList f t s a n cap g body W hf ht hs (hB.later hb); rw [str_of] at this; exact this
  have AC : Aside (∀ W, Below w.heap.size w W → Calls Try.prog 19 #[.agg #[.string k, .int .u32 (nx : Int), .int .u32 (tp : Int), .int .u64 (cm : Int)], .int .u8 (me : Int), .agg #[.int .u8 (f : Int), .int .u8 (t : Int), .int .u32 (s : Int), .slice a n cap, str (Tm.tag k.data.toList f t s body)]] W (AccPost k.data.toList nx tp cm me f t s body (Tm.tag k.data.toList f t s body) W)) := fun W hb => by have := accept_any k.data.toList nx tp cm me f t s a n cap ⟨(Tm.tag k.data.toList f t s body).toArray⟩ body W htp hcm hf ht hs (hB.later hb); rw [str_of] at this; exact this
  have WY : Aside (_ ∨ _ ∨ _ ∨ _) := Tm.acc_ways k.data.toList me f t s tp cm body (Tm.tag k.data.toList f t s body)
  unfold TagPost at TG
  unfold AccPost at AC
  rw [str_of] at AC
  unfold str at *
  generalize Tm.aT k.data.toList me f t s tp cm body (Tm.tag k.data.toList f t s body) = at' at *
  generalize Tm.aC k.data.toList me f t s tp cm body (Tm.tag k.data.toList f t s body) = ac' at *
  generalize Tm.accE k.data.toList me f t s tp cm body (Tm.tag k.data.toList f t s body) = ae at *
  generalize (⟨(Tm.tag k.data.toList f t s body).toArray⟩ : ByteArray) = tz at *
  generalize Tm.tagE k.data.toList f t s body = te at *
  have E0 : Aside (E4 _ w.heap.size 40 _ _ _ _) := (E4.new w 40 (.string k) (.int .u32 (nx : Int)) (.int .u32 (tp : Int)) (.int .u64 (cm : Int))).alloc (.cells #[.int .u8 (f : Int), .int .u8 (t : Int), .int .u32 (s : Int), .slice a n cap, .string g] 26)
  have X0 : Aside (L5 _ (w.heap.size + 1) 26 _ _ _ _ _) := L5.new1 w (.cells #[.string k, .int .u32 (nx : Int), .int .u32 (tp : Int), .int .u64 (cm : Int)] 40) 26 (.int .u8 (f : Int)) (.int .u8 (t : Int)) (.int .u32 (s : Int)) (.slice a n cap) (.string g)
  have B0 : Aside (∀ o o', Below w.heap.size w ((w.alloc o).alloc o')) := fun o o' => (below_one w o).alloc (by simp) o'
  clear hf ht hs hB htp hcm
  go_enter Try.func10, Try.ntmps10
  go_wp2_with fail
  refine (AL.out _).mono ?_
  rintro e w1 ⟨rfl, b1⟩
  have B1 : Aside (Below w.heap.size w w1) := below_step (B0.out _ _) b1
  have X1 : Aside (L5 w1 _ _ _ _ _ _ _) := X0.out.later b1
  have E1 : Aside (E4 w1 _ _ _ _ _ _) := E0.out.later b1
  obtain ⟨x0, x1, x2, x3, x4⟩ := X1.out.cells
  clear b1 AL X0 B0 E0
  go_wp2_with fail
  refine (FW.out _).mono ?_
  rintro e w2 ⟨rfl, b2⟩
  have B2 : Aside (Below w.heap.size w w2) := below_step B1.out b2
  have X2 : Aside (L5 w2 _ _ _ _ _ _ _) := X1.out.later b2
  have E2 : Aside (E4 w2 _ _ _ _ _ _) := E1.out.later b2
  clear x0 x1 x2 x3 x4
  obtain ⟨x0, x1, x2, x3, x4⟩ := X2.out.cells
  obtain ⟨e0, e1, e2, e3⟩ := E2.out.cells
  clear b2 FW X1 B1 E1
  cases hfb : fewB n g
  · clear TG AC WY X2 E2 hfb
    go_wp2
    go_ret
    exact ⟨rfl, B2.out⟩
  by_cases h1 : k.size ≤ 200
  · have t1 : ¬ (200 : Int) < (k.size : Int) := by omega
    clear hfb h1
    go_wp2_with fail
    refine (TG.out _ B2.out).mono ?_
    rintro e w3 ⟨rfl, b3⟩
    have X3 := X2.out.later b3
    have E3 := E2.out.later b3
    have z3 := X3.frozen
    clear x0 x1 x2 x3 x4 e0 e1 e2 e3
    obtain ⟨x0, x1, x2, x3, x4⟩ := X3.cells
    obtain ⟨e0, e1, e2, e3⟩ := E3.cells
    have X4 : Aside (L5 (w3.setCell ⟨w.heap.size + 1, 4, none⟩ (.string tz)) (w.heap.size + 1) 26 (.int .u8 (f : Int)) (.int .u8 (t : Int)) (.int .u32 (s : Int)) (.slice a n cap) (.string tz)) := row_set X3 _
    have B4 : Aside (Below w.heap.size w (w3.setCell ⟨w.heap.size + 1, 4, none⟩ (.string tz))) := (below_step B2.out b3).setCell (p := ⟨w.heap.size + 1, 4, none⟩) (by simp) _
    clear b3 TG X2 B2 E2 X3 E3
    go_wp2_with fail
    refine (AC.out _ B4.out).mono ?_
    rintro e w5 ⟨rfl, b5⟩
    have X5 := X4.out.later b5
    have y0 := fun o => (X5.alloc o).cells.1
    have y1 := fun o => (X5.alloc o).cells.2.1
    have y2 := fun o => (X5.alloc o).cells.2.2.1
    have B5 : Aside (∀ o, Below w.heap.size w (w5.alloc o)) := fun o => (below_step B4.out b5).alloc (below_step B4.out b5).size o
    clear b5 AC X4 B4 X5 x0 x1 x2 x3 x4 e0 e1 e2 e3 z3
    rcases WY.out with ⟨h1, h2, h3, h4⟩ | ⟨h1, h2, h3⟩ | ⟨h1, h2, h3⟩ | ⟨h1, h3⟩
    · have p : ((me : Int) == (t : Int)) = true := by simp [h1]
      have q : ((me : Int) != (f : Int)) = true := by
        have : ¬ (me : Int) = (f : Int) := by omega
        simpa using this
      have u : (0 : Int) < (s : Int) := by omega
      subst h3
      clear WY h1 h2 h4
      generalize (me : Int) = M at *
      generalize (s : Int) = S at *
      go_wp2
      go_ret
      exact ⟨rfl, B5.out _⟩
    · have p : ((me : Int) == (t : Int)) = true := by simp [h1]
      have q : ((me : Int) != (f : Int)) = true := by
        have : ¬ (me : Int) = (f : Int) := by omega
        simpa using this
      have u : ((ae : Int) != 0) = true := by
        have : ¬ (ae : Int) = 0 := by omega
        simpa using this
      clear WY h1 h2 h3
      generalize (me : Int) = M at *
      go_wp2
      go_ret
      exact ⟨rfl, B5.out _⟩
    · have p : ((me : Int) == (t : Int)) = true := by simp [h1]
      have q : ((me : Int) != (f : Int)) = false := by simp [h2]
      subst h3
      clear WY h1 h2
      generalize (me : Int) = M at *
      go_wp2
      go_ret
      exact ⟨rfl, B5.out _⟩
    · have p : ((me : Int) == (t : Int)) = false := by
        have : ¬ (me : Int) = (t : Int) := by omega
        simpa using this
      subst h3
      clear WY h1
      generalize (me : Int) = M at *
      go_wp2
      go_ret
      exact ⟨rfl, B5.out _⟩
  · have t1 : (200 : Int) < (k.size : Int) := by omega
    clear TG AC WY X2 E2 hfb h1
    go_wp2
    go_ret
    exact ⟨rfl, B2.out⟩

end Go.Proofs.Ytimeggbjmcnnoaa
