/- A case that is kept in a box through a loop. -/
import Derived.Test.YtmhjmeedoajkjaaVtM
namespace Go.Proofs.Ytmhjmeedoajkjaa
open Go.RowKit Go.Shelf

theorem take_let {c : Vt.Cs} {a1 a2 : Option Addr} {c1 c2 ms frm : Nat} {kind : Int} {id : Nat} {x : ByteArray} {w : World} {t : Vt.Told} (ht : Vt.take c ms frm kind id x = t) (h : CsAt w c a1 a2) (hms : ms < 65536) :
    Calls Try.prog 16 #[.agg #[.bool c.echoed, .bool c.readied, .bool c.done, .slice a1 c.echoes.length c1, .slice a2 c.readies.length c2], .int .u16 (ms : Nat), .int .u8 (frm : Nat), .int .i64 kind, .int .u8 (id : Nat), .string x] w fun z w' =>
      ∃ b1 k1 b2 k2 ao co, z = .returned (.tuple #[.agg #[.bool t.c.echoed, .bool t.c.readied, .bool t.c.done, .slice b1 t.c.echoes.length k1, .slice b2 t.c.readies.length k2], .slice ao t.outs.length co, .string t.body, .bool t.is, .int .i64 (t.e : Int)]) ∧
        Aside (Vt.At w' b1 t.c.echoes ∧ Vt.At w' b2 t.c.readies ∧ AtO w' ao t.outs ∧ Below w.heap.size w w' ∧ Fr w.heap.size b1 ∧ Fr w.heap.size b2 ∧ Fr w.heap.size ao) := by
  have := take_any c a1 a2 c1 c2 ms frm kind id x w h hms
  rw [ht] at this
  exact this.mono fun _ _ ⟨b1, k1, b2, k2, ao, co, h0, h1⟩ => ⟨b1, k1, b2, k2, ao, co, h0, h1⟩

def b2n (b : Bool) : Nat := if b then 1 else 0
theorem b2n_eq (b : Bool) : ((b2n b : Int) == 1) = b := by cases b <;> rfl
theorem b2n_le (b : Bool) : b2n b ≤ 1 := by cases b <;> decide
theorem b2n_one {b : Bool} (h : 1 = b2n b) : b = true := by cases b with | true => rfl | false => cases h
theorem b2n_mono {b c : Bool} (h : b = true → c = true) : b2n b ≤ b2n c := by
  cases b with
  | false => exact Nat.zero_le _
  | true => rw [h rfl]; exact Nat.le_refl _

theorem none_small : Vt.Cs.none.Small := ⟨fun b hb => (by cases hb), fun b hb => (by cases hb)⟩

/-- A case that is kept in a box through a loop: behind k votes. -/
structure Kept (w0 w : World) (k : Nat) (c : Vt.Cs) (a1 a2 : Option Addr) (c1 c2 : Nat) : Prop where
  at_ : CaseIn w w0.heap.size c a1 a2 c1 c2
  below : Below w0.heap.size w0 w
  small : c.Small
  n1 : c.echoes.length ≤ k
  n2 : c.readies.length ≤ k
theorem Kept.later {w0 w w' : World} {k : Nat} {c : Vt.Cs} {a1 a2 : Option Addr} {c1 c2 : Nat} (h : Kept w0 w k c a1 a2 c1 c2) (hb : Below w.heap.size w w') : Kept w0 w' k c a1 a2 c1 c2 :=
  ⟨h.at_.later hb, below_step h.below hb, h.small, h.n1, h.n2⟩
theorem Kept.more {w0 w : World} {k m : Nat} {c : Vt.Cs} {a1 a2 : Option Addr} {c1 c2 : Nat} (h : Kept w0 w k c a1 a2 c1 c2) (hm : k ≤ m) : Kept w0 w m c a1 a2 c1 c2 :=
  ⟨h.at_, h.below, h.small, Nat.le_trans h.n1 hm, Nat.le_trans h.n2 hm⟩
theorem Kept.alloc {w0 w : World} {k : Nat} {c : Vt.Cs} {a1 a2 : Option Addr} {c1 c2 : Nat} (h : Kept w0 w k c a1 a2 c1 c2) (o : Obj) : Kept w0 (w.alloc o) k c a1 a2 c1 c2 := h.later ((Below.refl _ w).alloc (Nat.le_refl _) o)
theorem Kept.start (w0 : World) : Kept w0 (w0.alloc (.cells #[.bool false, .bool false, .bool false, .slice none 0 0, .slice none 0 0] 48)) 0 Vt.Cs.none none none 0 0 :=
  ⟨CaseIn.zero w0, (Below.refl _ w0).alloc (Nat.le_refl _) _, none_small, Nat.le_refl _, Nat.le_refl _⟩

/-- What a round's Take gives: the case behind it, stored over the old one. -/
theorem take_kept {w0 w : World} {k : Nat} {c : Vt.Cs} {a1 a2 : Option Addr} {c1 c2 ms frm : Nat} {kind : Int} {id : Nat} {x : ByteArray} (h : Kept w0 w k c a1 a2 c1 c2) (hk : k ≤ 900) (hms : ms < 65536) (o : Obj) :
    Calls Try.prog 16 #[.agg #[.bool c.echoed, .bool c.readied, .bool c.done, .slice a1 c.echoes.length c1, .slice a2 c.readies.length c2], .int .u16 (ms : Nat), .int .u8 (frm : Nat), .int .i64 kind, .int .u8 (id : Nat), .string x] (w.alloc o) fun z w' =>
      ∃ t b1 k1 b2 k2 ao co, Aside (Vt.take c ms frm kind id x = t) ∧ z = .returned (.tuple #[.agg #[.bool t.c.echoed, .bool t.c.readied, .bool t.c.done, .slice b1 t.c.echoes.length k1, .slice b2 t.c.readies.length k2], .slice ao t.outs.length co, .string t.body, .bool t.is, .int .i64 (t.e : Int)]) ∧
        Aside (C5 w' w0.heap.size (.bool c.echoed) (.bool c.readied) (.bool c.done) (.slice a1 c.echoes.length c1) (.slice a2 c.readies.length c2) ∧
          ∀ o', Kept w0 ((((((w'.setCell ⟨w0.heap.size, 0, none⟩ (.bool t.c.echoed)).setCell ⟨w0.heap.size, 1, none⟩ (.bool t.c.readied)).setCell ⟨w0.heap.size, 2, none⟩ (.bool t.c.done)).setCell ⟨w0.heap.size, 3, none⟩ (.slice b1 t.c.echoes.length k1)).setCell ⟨w0.heap.size, 4, none⟩ (.slice b2 t.c.readies.length k2)).alloc o') (k + 1) t.c b1 b2 k1 k2 ∧
            AtO ((((((w'.setCell ⟨w0.heap.size, 0, none⟩ (.bool t.c.echoed)).setCell ⟨w0.heap.size, 1, none⟩ (.bool t.c.readied)).setCell ⟨w0.heap.size, 2, none⟩ (.bool t.c.done)).setCell ⟨w0.heap.size, 3, none⟩ (.slice b1 t.c.echoes.length k1)).setCell ⟨w0.heap.size, 4, none⟩ (.slice b2 t.c.readies.length k2)).alloc o') ao t.outs) := by
  have hb : Below w.heap.size w (w.alloc o) := (Below.refl _ w).alloc (Nat.le_refl _) o
  have h' := h.at_.later hb
  have hn1 := h.n1
  have hn2 := h.n2
  obtain ⟨t, ht⟩ : ∃ t, Vt.take c ms frm kind id x = t := ⟨_, rfl⟩
  refine (take_let ht ⟨h'.2.1, h'.2.2, h.small, by omega, by omega⟩ hms).mono ?_
  rintro z w4 ⟨b1, k1, b2, k2, ao, co, rfl, hA⟩
  have hC := h'.1.later hA.out.2.2.2.1
  refine ⟨t, b1, k1, b2, k2, ao, co, ht, rfl, hC, fun o' => ?_⟩
  obtain ⟨n1, n2⟩ := next_box (w := w.alloc o) (c1 := k1) (c2 := k2) o' hC hA.out.1 hA.out.2.1 hA.out.2.2.1 hA.out.2.2.2.2.1 hA.out.2.2.2.2.2.1 hA.out.2.2.2.2.2.2 h'.1.lt
  have hl := Vt.take_len c ms frm kind id x
  have hsm := Vt.take_small h.small ms frm kind id x
  rw [ht] at hl hsm
  exact ⟨⟨n1, next_below (below_step (below_step h.below hb) hA.out.2.2.2.1) (Nat.le_refl _) hC.lt _ _ _ _ _ o', hsm, by omega, by omega⟩, n2⟩

end Go.Proofs.Ytmhjmeedoajkjaa
