/- alive: answers that the document fixes. -/
import Derived.Test.YtlekbbpancaenaaVtK
namespace Go.Proofs.Ytlekbbpancaenaa
open Go.RowKit Go.Shelf

/-- Take with its answer under letters. -/
theorem take_let {c : Vt.Cs} {a1 a2 : Option Addr} {c1 c2 ms frm : Nat} {kind : Int} {id : Nat} {x : ByteArray} {w : World} {t : Vt.Told} (ht : Vt.take c ms frm kind id x = t) (h : CsAt w c a1 a2) (hms : ms < 65536) :
    Calls Try.prog 15 #[.agg #[.bool c.echoed, .bool c.readied, .bool c.done, .slice a1 c.echoes.length c1, .slice a2 c.readies.length c2], .int .u16 (ms : Nat), .int .u8 (frm : Nat), .int .i64 kind, .int .u8 (id : Nat), .string x] w fun z w' =>
      ∃ b1 k1 b2 k2 ao co, z = .returned (.tuple #[.agg #[.bool t.c.echoed, .bool t.c.readied, .bool t.c.done, .slice b1 t.c.echoes.length k1, .slice b2 t.c.readies.length k2], .slice ao t.outs.length co, .string t.body, .bool t.is, .int .i64 (t.e : Int)]) ∧
        Aside (Vt.At w' b1 t.c.echoes ∧ Vt.At w' b2 t.c.readies ∧ AtO w' ao t.outs ∧ Below w.heap.size w w' ∧ Fr w.heap.size b1 ∧ Fr w.heap.size b2 ∧ Fr w.heap.size ao) := by
  have := take_any c a1 a2 c1 c2 ms frm kind id x w h hms
  rw [ht] at this
  exact this.mono fun _ _ ⟨b1, k1, b2, k2, ao, co, h0, h1⟩ => ⟨b1, k1, b2, k2, ao, co, h0, h1⟩

set_option maxHeartbeats 8000000 in
set_option maxRecDepth 100000 in
theorem alive_any (w : World) : Calls Try.prog 12 #[] w fun e w' => e = .returned (.bool true) ∧ Below w.heap.size w w' := by
  have TK : Aside (∀ k W a1 a2 c1 c2, k < 3 → Vt.At W a1 (Al.cs k).echoes → Vt.At W a2 (Al.cs k).readies → _) := fun (k : Nat) (W : World) (a1 a2 : Option Addr) (c1 c2 : Nat) (hk : k < 3) (h1 : Vt.At W a1 (Al.cs k).echoes) (h2 : Vt.At W a2 (Al.cs k).readies) =>
    take_let (c1 := c1) (c2 := c2) (Al.step hk).1 (w := W) (a1 := a1) (a2 := a2) ⟨h1, h2, (Al.small k).1, (Al.small k).2.1, (Al.small k).2.2⟩ (by decide)
  go_enter Try.func12, Try.ntmps12
  go_wp2_with fail
  go_loopw [2, 19] (fun rd i wr => ∃ k a1 a2 c1 c2, k ≤ 3 ∧ i = .int .u8 (k : Nat) ∧ rd = .int .i64 (Al.rd k : Nat) ∧ Aside (CaseIn wr w.heap.size (Al.cs k) a1 a2 c1 c2 ∧ Below w.heap.size w wr)) (fun _ i _ => 3 - (intOf i).toNat)
  case atStart => exact ⟨0, none, none, 0, 0, by omega, rfl, rfl, CaseIn.zero w, (Below.refl _ w).alloc (Nat.le_refl _) _⟩
  case round =>
    obtain ⟨k, a1, a2, c1, c2, hk, rfl, rfl, hC⟩ := hrel
    obtain ⟨y0, y1, y2, y3, y4⟩ := hC.out.1.1.cells
    by_cases hlt : k < 3
    · have t1 : (k : Int) < 3 := by omega
      have hs : Aside (Al.rd k + (Al.outs k).length = Al.rd (k + 1)) := (Al.step hlt).2
      have hr : Al.rd k ≤ 1 := by unfold Al.rd; split <;> omega
      have T1 := TK.out k wr a1 a2 c1 c2 hlt hC.out.1.2.1 hC.out.1.2.2
      have ho : (Al.outs k).length ≤ 1 := by unfold Al.outs; split <;> simp
      unfold Al.ta at T1
      go_wp2_with fail
      refine T1.mono ?_
      rintro z w4 ⟨b1, k1, b2, k2, ao, co, rfl, hA⟩
      have hP : Aside (C5 w4 w.heap.size _ _ _ _ _) := hC.out.1.1.later hA.out.2.2.2.1
      have hlt4 := hP.out.lt
      obtain ⟨p0, p1, p2, p3, p4⟩ := hP.out.cells
      have pf := hP.out.frozen
      have NB : Aside (∀ o, CaseIn _ w.heap.size (Al.cs (k + 1)) b1 b2 k1 k2 ∧ _) := fun o => next_box (w := wr) (c1 := k1) (c2 := k2) o hP.out hA.out.1 hA.out.2.1 hA.out.2.2.1 hA.out.2.2.2.2.1 hA.out.2.2.2.2.2.1 hA.out.2.2.2.2.2.2 (hC.out.1.1.lt)
      have BB : Aside (∀ u0 u1 u2 u3 u4 o, Below w.heap.size w _) := fun u0 u1 u2 u3 u4 o => next_below (below_step hC.out.2 hA.out.2.2.2.1) (Nat.le_refl _) hlt4 u0 u1 u2 u3 u4 o
      dsimp only at *
      clear TK T1 hC hA hP y0 y1 y2 y3 y4
      generalize (Al.cs k).echoed = x0 at *
      generalize (Al.cs (k + 1)).echoed = n0 at *
      generalize (Al.outs k).length = ol at *
      go_wp2
      go_roundw
      case rel =>
        refine ⟨k + 1, b1, b2, k1, k2, by omega, by go_num, ?_, (NB.out _).1, BB.out _ _ _ _ _ _⟩
        have := hs.out
        congr 1; omega
      case measure => simp [intOf]; omega
    · obtain rfl : k = 3 := by omega
      have T4 : Aside (∀ W a1 a2 c1 c2, Vt.At W a1 (Al.cs 3).echoes → Vt.At W a2 (Al.cs 3).readies → _) := fun (W : World) (a1 a2 : Option Addr) (c1 c2 : Nat) (h1 : Vt.At W a1 (Al.cs 3).echoes) (h2 : Vt.At W a2 (Al.cs 3).readies) =>
        take_let (c1 := c1) (c2 := c2) Al.t4 (w := W) (a1 := a1) (a2 := a2) ⟨h1, h2, (Al.small 3).1, (Al.small 3).2.1, (Al.small 3).2.2⟩ (by decide)
      have T3 : Aside (∀ W a2 c2, Vt.At W a2 Al.d0.readies → _) := fun (W : World) (a2 : Option Addr) (c2 : Nat) (h2 : Vt.At W a2 Al.d0.readies) =>
        take_let (c1 := 0) (c2 := c2) Al.t3 (w := W) (a1 := none) (a2 := a2) ⟨.inl rfl, h2, ⟨fun b hb => by (cases hb), fun b hb => by (simp [Al.d0] at hb; subst hb; decide)⟩, by decide, by decide⟩ (by decide)
      have FO : Aside (∀ W a1 c1, Vt.At W a1 (Al.cs 3).echoes → _) := fun (W : World) (a1 : Option Addr) (c1 : Nat) (h1 : Vt.At W a1 (Al.cs 3).echoes) => for_any a1 c1 (Al.cs 3).echoes Al.ta W h1 (by decide)
      rw [Al.t5] at FO
      have L0 : Aside (Vt.At (wr.alloc (.cells #[.string ⟨#[97]⟩, .int .u16 3] 77)) (some ⟨wr.heap.size, 0, none⟩) Al.d0.readies) := by
        refine .inr ⟨wr.heap.size, 0, rfl, fun j u hu => ?_⟩
        rw [Nat.zero_add, World.cell?_alloc_at _ _ _ _ rfl, ← hu, ← Array.getElem?_toList]
        rfl
      clear TK
      unfold Al.ta at T3 T4 FO
      go_wp2_with fail
      refine (T3.out _ _ _ L0.out).mono ?_
      rintro z w4 ⟨b1, k1, b2, k2, ao, co, rfl, hA⟩
      have X1 : Aside (CaseIn w4 w.heap.size (Al.cs 3) a1 a2 c1 c2 ∧ Below w.heap.size w w4) := ⟨(hC.out.1.later ((Below.refl _ wr).alloc (Nat.le_refl _) _)).later hA.out.2.2.2.1, below_step (hC.out.2.alloc hC.out.2.size _) hA.out.2.2.2.1⟩
      clear T3 hA L0 hC y0 y1 y2 y3 y4
      obtain ⟨y0, y1, y2, y3, y4⟩ := X1.out.1.1.cells
      have yl := X1.out.1.1.lt
      go_wp2_with fail
      refine (T4.out _ a1 a2 c1 c2 (X1.out.1.2.1.later ((Below.refl _ w4).alloc (Nat.le_refl _) _)) (X1.out.1.2.2.later ((Below.refl _ w4).alloc (Nat.le_refl _) _))).mono ?_
      rintro z w5 ⟨b1', k1', b2', k2', ao', co', rfl, hA⟩
      have X2 : Aside (CaseIn w5 w.heap.size (Al.cs 3) a1 a2 c1 c2 ∧ Below w.heap.size w w5) := ⟨(X1.out.1.later ((Below.refl _ w4).alloc (Nat.le_refl _) _)).later hA.out.2.2.2.1, below_step (X1.out.2.alloc X1.out.2.size _) hA.out.2.2.2.1⟩
      clear T4 hA X1 y0 y1 y2 y3 y4 yl
      obtain ⟨y0, y1, y2, y3, y4⟩ := X2.out.1.1.cells
      have yl := X2.out.1.1.lt
      have FF : Aside (∀ o, _) := fun o => FO.out (w5.alloc o) a1 c1 (X2.out.1.2.1.later ((Below.refl _ w5).alloc (Nat.le_refl _) o))
      have BB : Aside (∀ o, Below w.heap.size w (w5.alloc o)) := fun o => X2.out.2.alloc X2.out.2.size o
      clear FO X2
      go_wp2_with fail
      refine (FF.out _).mono ?_
      rintro z w6 ⟨rfl, hb6⟩
      have B6 : Aside (Below w.heap.size w w6) := below_step (BB.out _) hb6
      clear FF BB hb6
      go_wp2
      go_ret
      exact ⟨rfl, B6.out⟩
end Go.Proofs.Ytlekbbpancaenaa
