/- LinkOnce, walked: letters that were sent are taken in whatever order, each once. -/
import Derived.Test.YtimeggbjmcnnoaaLwH
import Derived.Deep.RegionHeld3
import Derived.Deep.AppendLies
set_option linter.unusedVariables false
namespace Go.Proofs.Ytimeggbjmcnnoaa
open Go.RowKit

def Leaf2 (wr : World) (k : ByteArray) (at' ac' : Nat) (V : World) (pb : Nat) : Prop := E4 V pb 41 (.string k) (.int .u32 0) (.int .u32 (at' : Int)) (.int .u64 (ac' : Int)) ∧ Below wr.heap.size wr V ∧ wr.heap.size ≤ pb
theorem byte_wrap {nb : Nat} (h : nb < 256) : wrap64 (nb : Int) = (nb : Int) := by unfold wrap64; omega
theorem byte_wrap64 {nb : Nat} (h : nb < 256) : IntKind.i64.wrap (nb : Int) = (nb : Int) := by rw [IntKind.wrap_i64]; omega
open Go.ChangeShapes Go.WideShapes Go.RowKit Go.Deep in
theorem open_byt2 {H : Type} {enc : TypeId × Value → H} {w : World} {spare : Nat → Bool} {held : Bool} {fuel : Nat} {a : Option Addr} {len cap : Nat} {x : DataW H × List MemPlace}
    (h : DataW.trod enc Try.prog w 0 spare held fuel 24 [.slice a len cap] = some x) : ∃ bs, Byt w a len cap bs ∧ len ≤ 9223372036854775807 := by
  obtain ⟨bs, hb⟩ := open_byt1 h
  refine ⟨bs, hb, ?_⟩
  rcases open_slice Try.underlying24 h with ⟨hcs, _⟩ | ⟨ad, l, c, m, n, D, Pl, hcs, _, hl, hm, hmm, _, hx⟩
  · simp at hcs
    obtain ⟨rfl, rfl, rfl⟩ := hcs
    omega
  · simp at hcs
    obtain ⟨rfl, rfl, rfl⟩ := hcs
    have hlm : len ≤ m := by rw [hmm]; split <;> omega
    unfold maxLen at hm
    omega
theorem byte_rem {nb m t : Nat} (ht : t = nb % m) : Int.tmod (nb : Int) (m : Int) = (t : Int) := by
  rw [Int.tmod_eq_emod_of_nonneg (Int.natCast_nonneg _), ht]; rfl
set_option maxRecDepth 100000 in
set_option maxHeartbeats 16000000 in
theorem once_walk (a0 : Option Addr) (len0 cap0 : Nat) (z0 : List Bod) (a1 : Option Addr) (len1 cap1 : Nat) (z1 : List UInt8) (w : World) (h0 : IsBodies w a0 len0 z0) (h1 : Byt w a1 len1 cap1 z1) (hL : len1 ≤ 9223372036854775807) :
    Calls Try.prog 5 #[.slice a0 len0 cap0, .slice a1 len1 cap1] w fun e w' => e = .returned (.bool true) ∧ Below w.heap.size w w' := by
  have AL : Aside (∀ W, _) := fun W => alive_any W
  have NN : Aside (∀ W, _) := fun W => nonce_any 7 W (by omega)
  rw [o_nonce] at NN
  have KK : Aside (∀ W, _) := fun W => key_any [110, 0, 7] 0 1 W
  unfold KeyPost at KK
  rw [o_key.1, o_key.2] at KK
  have H0 : Aside (IsBodies w a0 len0 z0 ∧ Byt w a1 len1 cap1 z1) := ⟨h0, h1⟩
  clear h0 h1
  obtain ⟨i0, hi, hz0, hz1, hz2⟩ := info_parts info35
  have I : Aside (Try.prog.info? 35 = some i0 ∧ i0.zero = some (.agg #[.int .u8 0, .int .u8 0, .int .u32 0, .slice none 0 0, .string ⟨#[]⟩]) ∧ i0.size = 5 ∧ i0.bytes = 48) := ⟨hi, hz0, hz1, hz2⟩
  clear hi hz0 hz1 hz2
  unfold str at *
  have K1 : Aside ((⟨oK.toArray⟩ : ByteArray).data.toList = oK) := rfl
  generalize (⟨oK.toArray⟩ : ByteArray) = k at *
  generalize (⟨[110, 0, 7].toArray⟩ : ByteArray) = nb at *
  go_enter Try.func5, Try.ntmps5
  go_wp2_with fail
  refine (AL.out _).mono ?_
  rintro e w1 ⟨rfl, b1⟩
  have B1 : Aside (Below w.heap.size w w1) := b1
  clear b1 AL
  go_wp2_with fail
  refine (NN.out _).mono ?_
  rintro e w2 ⟨rfl, b2⟩
  have B2 : Aside (Below w.heap.size w w2) := below_step B1.out b2
  clear b2 NN B1
  go_wp2_with fail
  refine (KK.out _).mono ?_
  rintro e w3 ⟨rfl, b3⟩
  have B3 : Aside (Below w.heap.size w w3) := below_step B2.out b3
  clear b3 KK B2
  obtain ⟨P, hP⟩ : ∃ P, P = w3.heap.size := ⟨_, rfl⟩
  have PQ : Aside (w.heap.size ≤ P) := by rw [hP]; exact B3.out.size
  have S0 : Aside (Sent w k P (.slice none 0 0) 0 ((w3.alloc (.cells #[.string k, .int .u32 0, .int .u32 0, .int .u64 0] 41)).alloc (.cells #[.string k, .int .u32 0, .int .u32 0, .int .u64 0] 41))) := by
    rw [hP]
    exact ⟨[], rfl, World.ownsRow_nil _ _ _ _, (E4.new w3 41 _ _ _ _).alloc _, E4.new1 w3 _ 41 _ _ _ _, (fun x hx => by cases hx), (B3.out.alloc B3.out.size _).alloc (by have := B3.out.size; simp; omega) _⟩
  go_wp2_with fail
  rw [← hP]
  clear hP B3
  go_loopw [9, 10] (fun v i wr => ∃ (j m : Nat), j ≤ len0 ∧ j ≤ 60 ∧ m ≤ j ∧ i = .int .i64 (j : Int) ∧ Sent w k P v m wr) (fun _ i _ => len0 - (intOf i).toNat)
  case atStart => exact ⟨0, 0, Nat.zero_le _, by omega, Nat.le_refl _, rfl, S0.out⟩
  case round =>
    obtain ⟨j, m, hj1, hj2, hm, rfl, hS⟩ := hrel
    have SS : Aside (Sent w k P u9 m wr) := hS
    clear hS S0
    by_cases hlt : j < len0 ∧ j < 60
    · have t1 : (j : Int) < (len0 : Int) := by omega
      have t2 : (j : Int) < 60 := by omega
      obtain ⟨x, hx⟩ : ∃ x, z0[j]? = some x := ⟨z0[j]'(by rw [H0.out.1.1]; exact hlt.1), List.getElem?_eq_getElem _⟩
      rcases H0.out.1.2.2 with he | ⟨b, off, ha, hc⟩
      · exfalso; rw [he] at hx; simp at hx
      obtain ⟨L, l1, l2, l3, l4, l5, l6⟩ := SS.out
      obtain ⟨x1, x2⟩ := hc j x hx
      have c0 : wr.cell? ⟨b, off + j, none⟩ = some (.slice x.a x.n x.cap) := cell_later l6 x1
      obtain ⟨xa, xn, xc, body⟩ := x
      dsimp only at c0 x1 x2
      by_cases h1 : 100 < xn
      · have t3 : (100 : Int) < (xn : Int) := by omega
        clear l1 l2 l3 l4 l5 l6 x1 x2 hc hx h1 hlt
        subst ha
        go_wp2
        go_roundw
        case rel => exact ⟨j + 1, m, by omega, by omega, by omega, by go_num, SS.out⟩
        case measure => simp [intOf]; omega
      · have t3 : ¬ (100 : Int) < (xn : Int) := by omega
        have SF : Aside (∀ W, Below wr.heap.size wr W → _) := fun W hb => o_send K1.out m xa xn xc body W (by omega) (by rw [x2.1]; omega) ((x2.later l6).later hb)
        obtain ⟨e0, e1, e2, e3⟩ := l3.cells
        have d0 : Aside (Below wr.heap.size wr wr.drew ∧ (∀ o, Below wr.heap.size wr (wr.drew.alloc o)) ∧ ∀ o o', Below wr.heap.size wr ((wr.drew.alloc o).alloc o')) := ⟨below_drew1 (Below.refl _ _), fun o => (below_drew1 (Below.refl _ _)).alloc (Nat.le_refl _) o, fun o o' => ((below_drew1 (Below.refl _ _)).alloc (Nat.le_refl _) o).alloc (by rw [World.size_alloc]; exact Nat.le_succ _) o'⟩
        obtain ⟨M1, hM1⟩ : ∃ M1 : Nat, M1 = m + 1 := ⟨_, rfl⟩
        have HM1 : Aside (M1 = m + 1) := hM1
        rw [← hM1] at SF
        clear hM1
        unfold str at SF
        have HBD : Aside (body.length ≤ 100) := (by have h := x2.1; omega : body.length ≤ 100)
        generalize hz : (⟨(Tm.tag oK 0 1 M1 body).toArray⟩ : ByteArray) = tz at *
        have HT : Aside (Value.string tz = str (Tm.tag oK 0 1 M1 body)) := by rw [← hz]; rfl
        clear hz
        have pl : P < wr.heap.size := (Array.getElem?_eq_some_iff.1 l3).1
        have bl : b < wr.heap.size := World.block_lt_of_cell? wr _ c0
        have z1 : ¬ wr.heap.size = P := by omega
        have z2 : ¬ wr.heap.size = b := by omega
        have z3 : ¬ wr.heap.size + 1 = P := by omega
        have z4 : ¬ wr.heap.size + 1 = b := by omega
        clear l1 l2 l3 l4 l5 l6 x1 x2 hc hx h1 hlt
        subst ha
        go_wp2_with fail
        go_region_held3 (fun w' => w'.cell? ⟨P, 0, none⟩ = some (.string k) ∧ w'.cell? ⟨P, 1, none⟩ = some (.int .u32 (m : Int)) ∧ w'.cell? ⟨P, 2, none⟩ = some (.int .u32 0) ∧ w'.cell? ⟨P, 3, none⟩ = some (.int .u64 0) ∧ w'.cell? ⟨b, off + j, none⟩ = some (.slice xa xn xc))
          (first
            | go_keep)
          (first
            | (go_at_call 17; refine (SF.out wr.drew d0.out.1).mono ?_; rintro e w4 ⟨a4, n4, c4, rfl, y4, f4, b4⟩; have D4 := below_step d0.out.1 b4; have p0 := (D4.cell (p := ⟨P, 0, none⟩) pl).trans e0; have p1 := (D4.cell (p := ⟨P, 1, none⟩) pl).trans e1; have p2 := (D4.cell (p := ⟨P, 2, none⟩) pl).trans e2; have p3 := (D4.cell (p := ⟨P, 3, none⟩) pl).trans e3; have p4 := (D4.cell (p := ⟨b, off + j, none⟩) bl).trans c0; have pl4 := Nat.lt_of_lt_of_le pl D4.size; have bl4 := Nat.lt_of_lt_of_le bl D4.size; have np := Nat.ne_of_gt pl4; have nb' := Nat.ne_of_gt bl4; have Y4 : Aside (Byt w4 a4 n4 c4 body ∧ (∀ ad, a4 = some ad → wr.heap.size ≤ ad.block) ∧ Below wr.heap.size wr w4) := ⟨y4, fun ad e => Nat.le_trans (Below.size d0.out.1) (f4 ad e), D4⟩; clear y4 f4 b4 D4)
            | (go_at_call 17; refine (SF.out (wr.drew.alloc (.cells #[.string ⟨#[]⟩, .int .u32 0, .int .u32 0, .int .u64 0] 41)) (d0.out.2.1 _)).mono ?_; rintro e w4 ⟨a4, n4, c4, rfl, y4, f4, b4⟩; have D4 := below_step (d0.out.2.1 _) b4; have p0 := (D4.cell (p := ⟨P, 0, none⟩) pl).trans e0; have p1 := (D4.cell (p := ⟨P, 1, none⟩) pl).trans e1; have p2 := (D4.cell (p := ⟨P, 2, none⟩) pl).trans e2; have p3 := (D4.cell (p := ⟨P, 3, none⟩) pl).trans e3; have p4 := (D4.cell (p := ⟨b, off + j, none⟩) bl).trans c0; have pl4 := Nat.lt_of_lt_of_le pl D4.size; have bl4 := Nat.lt_of_lt_of_le bl D4.size; have np := Nat.ne_of_gt pl4; have nb' := Nat.ne_of_gt bl4; have qa : E4 w4 (wr.heap.size) 41 (.string ⟨#[]⟩) (.int .u32 0) (.int .u32 0) (.int .u64 0) := (E4.new wr.drew 41 (.string ⟨#[]⟩) (.int .u32 0) (.int .u32 0) (.int .u64 0)).later b4; obtain ⟨qa0, qa1, qa2, qa3⟩ := qa.cells; have qaz := qa.frozen; have qal := (Array.getElem?_eq_some_iff.1 qa).1; have qaA : Aside (E4 w4 (wr.heap.size) 41 (.string ⟨#[]⟩) (.int .u32 0) (.int .u32 0) (.int .u64 0)) := qa; clear qa; have Y4 : Aside (Byt w4 a4 n4 c4 body ∧ (∀ ad, a4 = some ad → wr.heap.size + 1 ≤ ad.block) ∧ Below wr.heap.size wr w4) := ⟨y4, fun ad e => (by have h := f4 ad e; rw [World.size_alloc] at h; exact h), D4⟩; clear y4 f4 b4 D4)
            | (go_at_call 17; refine (SF.out (wr.drew.alloc (.cells #[.int .u8 0, .int .u8 0, .int .u32 0, .slice none 0 0, .string ⟨#[]⟩] 35)) (d0.out.2.1 _)).mono ?_; rintro e w4 ⟨a4, n4, c4, rfl, y4, f4, b4⟩; have D4 := below_step (d0.out.2.1 _) b4; have p0 := (D4.cell (p := ⟨P, 0, none⟩) pl).trans e0; have p1 := (D4.cell (p := ⟨P, 1, none⟩) pl).trans e1; have p2 := (D4.cell (p := ⟨P, 2, none⟩) pl).trans e2; have p3 := (D4.cell (p := ⟨P, 3, none⟩) pl).trans e3; have p4 := (D4.cell (p := ⟨b, off + j, none⟩) bl).trans c0; have pl4 := Nat.lt_of_lt_of_le pl D4.size; have bl4 := Nat.lt_of_lt_of_le bl D4.size; have np := Nat.ne_of_gt pl4; have nb' := Nat.ne_of_gt bl4; have qb : L5 w4 (wr.heap.size) 35 (.int .u8 0) (.int .u8 0) (.int .u32 0) (.slice none 0 0) (.string ⟨#[]⟩) := (L5.new wr.drew 35 (.int .u8 0) (.int .u8 0) (.int .u32 0) (.slice none 0 0) (.string ⟨#[]⟩)).later b4; obtain ⟨qb0, qb1, qb2, qb3, qb4⟩ := qb.cells; have qbz := qb.frozen; have qbl := (Array.getElem?_eq_some_iff.1 qb).1; have qbA : Aside (L5 w4 (wr.heap.size) 35 (.int .u8 0) (.int .u8 0) (.int .u32 0) (.slice none 0 0) (.string ⟨#[]⟩)) := qb; clear qb; have Y4 : Aside (Byt w4 a4 n4 c4 body ∧ (∀ ad, a4 = some ad → wr.heap.size + 1 ≤ ad.block) ∧ Below wr.heap.size wr w4) := ⟨y4, fun ad e => (by have h := f4 ad e; rw [World.size_alloc] at h; exact h), D4⟩; clear y4 f4 b4 D4)
            | (go_at_call 17; refine (SF.out ((wr.drew.alloc (.cells #[.string ⟨#[]⟩, .int .u32 0, .int .u32 0, .int .u64 0] 41)).alloc (.cells #[.int .u8 0, .int .u8 0, .int .u32 0, .slice none 0 0, .string ⟨#[]⟩] 35)) (d0.out.2.2 _ _)).mono ?_; rintro e w4 ⟨a4, n4, c4, rfl, y4, f4, b4⟩; have D4 := below_step (d0.out.2.2 _ _) b4; have p0 := (D4.cell (p := ⟨P, 0, none⟩) pl).trans e0; have p1 := (D4.cell (p := ⟨P, 1, none⟩) pl).trans e1; have p2 := (D4.cell (p := ⟨P, 2, none⟩) pl).trans e2; have p3 := (D4.cell (p := ⟨P, 3, none⟩) pl).trans e3; have p4 := (D4.cell (p := ⟨b, off + j, none⟩) bl).trans c0; have pl4 := Nat.lt_of_lt_of_le pl D4.size; have bl4 := Nat.lt_of_lt_of_le bl D4.size; have np := Nat.ne_of_gt pl4; have nb' := Nat.ne_of_gt bl4; have qa : E4 w4 (wr.heap.size) 41 (.string ⟨#[]⟩) (.int .u32 0) (.int .u32 0) (.int .u64 0) := ((E4.new wr.drew 41 (.string ⟨#[]⟩) (.int .u32 0) (.int .u32 0) (.int .u64 0)).alloc (.cells #[.int .u8 0, .int .u8 0, .int .u32 0, .slice none 0 0, .string ⟨#[]⟩] 35)).later b4; obtain ⟨qa0, qa1, qa2, qa3⟩ := qa.cells; have qaz := qa.frozen; have qal := (Array.getElem?_eq_some_iff.1 qa).1; have qaA : Aside (E4 w4 (wr.heap.size) 41 (.string ⟨#[]⟩) (.int .u32 0) (.int .u32 0) (.int .u64 0)) := qa; clear qa; have qb : L5 w4 (wr.heap.size + 1) 35 (.int .u8 0) (.int .u8 0) (.int .u32 0) (.slice none 0 0) (.string ⟨#[]⟩) := (L5.new1 wr.drew (.cells #[.string ⟨#[]⟩, .int .u32 0, .int .u32 0, .int .u64 0] 41) 35 (.int .u8 0) (.int .u8 0) (.int .u32 0) (.slice none 0 0) (.string ⟨#[]⟩)).later b4; obtain ⟨qb0, qb1, qb2, qb3, qb4⟩ := qb.cells; have qbz := qb.frozen; have qbl := (Array.getElem?_eq_some_iff.1 qb).1; have qbA : Aside (L5 w4 (wr.heap.size + 1) 35 (.int .u8 0) (.int .u8 0) (.int .u32 0) (.slice none 0 0) (.string ⟨#[]⟩)) := qb; clear qb; have Y4 : Aside (Byt w4 a4 n4 c4 body ∧ (∀ ad, a4 = some ad → wr.heap.size + 2 ≤ ad.block) ∧ Below wr.heap.size wr w4) := ⟨y4, fun ad e => (by have h := f4 ad e; rw [World.size_alloc, World.size_alloc] at h; exact h), D4⟩; clear y4 f4 b4 D4)
            | (go_at_call 17; refine (SF.out ((wr.drew.alloc (.cells #[.int .u8 0, .int .u8 0, .int .u32 0, .slice none 0 0, .string ⟨#[]⟩] 35)).alloc (.cells #[.string ⟨#[]⟩, .int .u32 0, .int .u32 0, .int .u64 0] 41)) (d0.out.2.2 _ _)).mono ?_; rintro e w4 ⟨a4, n4, c4, rfl, y4, f4, b4⟩; have D4 := below_step (d0.out.2.2 _ _) b4; have p0 := (D4.cell (p := ⟨P, 0, none⟩) pl).trans e0; have p1 := (D4.cell (p := ⟨P, 1, none⟩) pl).trans e1; have p2 := (D4.cell (p := ⟨P, 2, none⟩) pl).trans e2; have p3 := (D4.cell (p := ⟨P, 3, none⟩) pl).trans e3; have p4 := (D4.cell (p := ⟨b, off + j, none⟩) bl).trans c0; have pl4 := Nat.lt_of_lt_of_le pl D4.size; have bl4 := Nat.lt_of_lt_of_le bl D4.size; have np := Nat.ne_of_gt pl4; have nb' := Nat.ne_of_gt bl4; have qb : L5 w4 (wr.heap.size) 35 (.int .u8 0) (.int .u8 0) (.int .u32 0) (.slice none 0 0) (.string ⟨#[]⟩) := ((L5.new wr.drew 35 (.int .u8 0) (.int .u8 0) (.int .u32 0) (.slice none 0 0) (.string ⟨#[]⟩)).alloc (.cells #[.string ⟨#[]⟩, .int .u32 0, .int .u32 0, .int .u64 0] 41)).later b4; obtain ⟨qb0, qb1, qb2, qb3, qb4⟩ := qb.cells; have qbz := qb.frozen; have qbl := (Array.getElem?_eq_some_iff.1 qb).1; have qbA : Aside (L5 w4 (wr.heap.size) 35 (.int .u8 0) (.int .u8 0) (.int .u32 0) (.slice none 0 0) (.string ⟨#[]⟩)) := qb; clear qb; have qa : E4 w4 (wr.heap.size + 1) 41 (.string ⟨#[]⟩) (.int .u32 0) (.int .u32 0) (.int .u64 0) := (E4.new1 wr.drew (.cells #[.int .u8 0, .int .u8 0, .int .u32 0, .slice none 0 0, .string ⟨#[]⟩] 35) 41 (.string ⟨#[]⟩) (.int .u32 0) (.int .u32 0) (.int .u64 0)).later b4; obtain ⟨qa0, qa1, qa2, qa3⟩ := qa.cells; have qaz := qa.frozen; have qal := (Array.getElem?_eq_some_iff.1 qa).1; have qaA : Aside (E4 w4 (wr.heap.size + 1) 41 (.string ⟨#[]⟩) (.int .u32 0) (.int .u32 0) (.int .u64 0)) := qa; clear qa; have Y4 : Aside (Byt w4 a4 n4 c4 body ∧ (∀ ad, a4 = some ad → wr.heap.size + 2 ≤ ad.block) ∧ Below wr.heap.size wr w4) := ⟨y4, fun ad e => (by have h := f4 ad e; rw [World.size_alloc, World.size_alloc] at h; exact h), D4⟩; clear y4 f4 b4 D4))
        · refine (?_ : ∀ V, Leaf wr k M1 a4 n4 c4 body tz V (w4.heap.size) (w4.heap.size + 1) → Exit.then _ _ _ _ V) _ (leaf1 Y4.out)
          intro V hV
          generalize w4.heap.size + 1 = pb at hV ⊢
          generalize w4.heap.size = pa at hV ⊢
          have LV : Aside (Leaf wr k M1 a4 n4 c4 body tz V pa pb) := hV
          clear hV
          try clear qa0 qa1 qa2 qa3 qaz qal qaA
          try clear qb0 qb1 qb2 qb3 qb4 qbz qbl qbA
          clear Y4 p0 p1 p2 p3 p4 pl4 bl4 np nb' e0 e1 e2 e3 c0
          obtain ⟨L, l1, l2, l3, l4, l5, l6⟩ := SS.out
          obtain ⟨v1, v2, v3, v4, v5, v6, v7⟩ := LV.out
          have P1 := l3.later v4
          obtain ⟨e0, e1, e2, e3⟩ := P1.cells
          obtain ⟨q0, q1, q2, q3⟩ := v1.cells
          obtain ⟨x0, x1, x2, x3, x4⟩ := v2.cells
          have zr := P1.frozen
          have n1 : ¬ pb = P := by omega
          have n2 : ¬ P = pb := by omega
          have R4 : Aside (∀ o, ((((((V.setCell ⟨P, 0, none⟩ (.string k)).setCell ⟨P, 1, none⟩ (.int .u32 (M1 : Int))).setCell ⟨P, 2, none⟩ (.int .u32 0)).setCell ⟨P, 3, none⟩ (.int .u64 0)).alloc o).ownsRow w.heap.size 35 5 u9 m (flatF 0 L)) ∧ L.length = m) := fun o => by
            have r1 := owns_later v4 l2
            have r2 : ((((V.setCell ⟨P, 0, none⟩ (.string k)).setCell ⟨P, 1, none⟩ (.int .u32 (M1 : Int))).setCell ⟨P, 2, none⟩ (.int .u32 0)).setCell ⟨P, 3, none⟩ (.int .u64 0)).ownsRow w.heap.size 35 5 u9 m (flatF 0 L) := by
              refine ⟨r1.1, ?_⟩
              rcases r1.2 with h | ⟨g, gc, cur, hv, hge, hh, rest⟩
              · exact .inl h
              · have hgp : g ≠ P := fun e => e4_not_row P1 r1 (by decide) (by rw [hv, ← e]; rfl)
                exact .inr ⟨g, gc, cur, hv, hge, by rw [row_far hgp, row_far hgp, row_far hgp, row_far hgp]; exact hh, rest⟩
            exact ⟨r2.alloc o, l1⟩
          have t5 : (m : Int) + 1 = (M1 : Int) := by have := HM1.out; omega
          have t6 : (0 : Int) ≤ (m : Int) := by omega
          have t7 : (0 : Int) ≤ (M1 : Int) := by omega
          have t8 : (M1 : Int) < 4294967296 := by have := HM1.out; omega
          have sz := size_set4 V P (.string k) (.int .u32 (M1 : Int)) (.int .u32 0) (.int .u64 0)
          have RW : Aside (wr.ownsRow w.heap.size 35 5 u9 m (flatF 0 L)) := l2
          have SZ : Aside (w.heap.size ≤ V.heap.size ∧ m ≤ 60) := ⟨by have := l6.size; have := v4.size; omega, by omega⟩
          clear l1 l2 l3 l4 l5 l6 v1 v2 v3 v4 v5 v6 v7 P1 pl bl z1 z2 z3 z4
          generalize hMM : (M1 : Int) = MM at *
          go_wp2_with (at_builtin; refine wpList_append_lies _ rfl _ _ 55 rfl w.heap.size 35 i0 (.agg #[.int .u8 0, .int .u8 0, .int .u32 0, .slice none 0 0, .string ⟨#[]⟩]) 5 48 Try.underlying55 I.out.1 I.out.2.1 I.out.2.2.1 I.out.2.2.2 rfl (by decide) _ _ _ rfl (R4.out _).1 ⟨V.heap.size, 0, none⟩ 1 1 [.int .u8 0, .int .u8 1, .int .u32 MM, .slice a4 n4 c4, .string tz] rfl rfl ?c1 ?c2 ?c3 ?c4 ?c5 ?c6 _ rfl ?_)
          case c1 =>
            rw [← sz]
            exact cell_new5 _ _ _ _ _ _ 35
          case c2 => simp [Value.oneCell']
          case c3 => omega
          case c4 => unfold maxLen; omega
          case c5 => omega
          case c6 => rw [World.size_alloc, sz]; have := SZ.out.1; omega
          intro g cap w6 hown hg hor hl6
          subst hMM
          have SN : Aside (Sent w k P (.slice (some ⟨g, 0, none⟩) (m + 1) cap) (m + 1) w6) := by
            refine sent_next PQ.out SS.out LV.out HM1.out HBD.out HT.out _ rfl (fun L' h1' h2' => ?_) hg (by rw [World.size_alloc, sz]; exact hor)
            obtain ⟨L2, m1, m2, _⟩ := SS.out
            have r0 := (R4.out (.cells #[] 5)).1
            have e1 : flatF 0 L' = flatF 0 L := by
              have q := owns_later LV.out.2.2.2.1 h2'
              rcases r0.2 with ⟨ev, e0⟩ | _
              · have z1 := h2'.1
                have z2 := r0.1
                rw [List.eq_nil_of_length_eq_zero (by omega : (flatF 0 L').length = 0), List.eq_nil_of_length_eq_zero (by omega : (flatF 0 L).length = 0)]
              · exact row_inj h2' RW.out
            rw [e1]
            exact hown
          clear hown hg hor hl6 R4 e0 e1 e2 e3 q0 q1 q2 q3 x0 x1 x2 x3 x4 zr
          go_wp2
          go_roundw
          case rel => exact ⟨j + 1, m + 1, by omega, by omega, by omega, by go_num, SN.out⟩
          case measure => simp [intOf]; omega
        · refine (?_ : ∀ V, Leaf wr k M1 a4 n4 c4 body tz V (w4.heap.size + 1) (w4.heap.size) → Exit.then _ _ _ _ V) _ (leaf2 Y4.out)
          intro V hV
          generalize w4.heap.size + 1 = pa at hV ⊢
          generalize w4.heap.size = pb at hV ⊢
          have LV : Aside (Leaf wr k M1 a4 n4 c4 body tz V pa pb) := hV
          clear hV
          try clear qa0 qa1 qa2 qa3 qaz qal qaA
          try clear qb0 qb1 qb2 qb3 qb4 qbz qbl qbA
          clear Y4 p0 p1 p2 p3 p4 pl4 bl4 np nb' e0 e1 e2 e3 c0
          obtain ⟨L, l1, l2, l3, l4, l5, l6⟩ := SS.out
          obtain ⟨v1, v2, v3, v4, v5, v6, v7⟩ := LV.out
          have P1 := l3.later v4
          obtain ⟨e0, e1, e2, e3⟩ := P1.cells
          obtain ⟨q0, q1, q2, q3⟩ := v1.cells
          obtain ⟨x0, x1, x2, x3, x4⟩ := v2.cells
          have zr := P1.frozen
          have n1 : ¬ pb = P := by omega
          have n2 : ¬ P = pb := by omega
          have R4 : Aside (∀ o, ((((((V.setCell ⟨P, 0, none⟩ (.string k)).setCell ⟨P, 1, none⟩ (.int .u32 (M1 : Int))).setCell ⟨P, 2, none⟩ (.int .u32 0)).setCell ⟨P, 3, none⟩ (.int .u64 0)).alloc o).ownsRow w.heap.size 35 5 u9 m (flatF 0 L)) ∧ L.length = m) := fun o => by
            have r1 := owns_later v4 l2
            have r2 : ((((V.setCell ⟨P, 0, none⟩ (.string k)).setCell ⟨P, 1, none⟩ (.int .u32 (M1 : Int))).setCell ⟨P, 2, none⟩ (.int .u32 0)).setCell ⟨P, 3, none⟩ (.int .u64 0)).ownsRow w.heap.size 35 5 u9 m (flatF 0 L) := by
              refine ⟨r1.1, ?_⟩
              rcases r1.2 with h | ⟨g, gc, cur, hv, hge, hh, rest⟩
              · exact .inl h
              · have hgp : g ≠ P := fun e => e4_not_row P1 r1 (by decide) (by rw [hv, ← e]; rfl)
                exact .inr ⟨g, gc, cur, hv, hge, by rw [row_far hgp, row_far hgp, row_far hgp, row_far hgp]; exact hh, rest⟩
            exact ⟨r2.alloc o, l1⟩
          have t5 : (m : Int) + 1 = (M1 : Int) := by have := HM1.out; omega
          have t6 : (0 : Int) ≤ (m : Int) := by omega
          have t7 : (0 : Int) ≤ (M1 : Int) := by omega
          have t8 : (M1 : Int) < 4294967296 := by have := HM1.out; omega
          have sz := size_set4 V P (.string k) (.int .u32 (M1 : Int)) (.int .u32 0) (.int .u64 0)
          have RW : Aside (wr.ownsRow w.heap.size 35 5 u9 m (flatF 0 L)) := l2
          have SZ : Aside (w.heap.size ≤ V.heap.size ∧ m ≤ 60) := ⟨by have := l6.size; have := v4.size; omega, by omega⟩
          clear l1 l2 l3 l4 l5 l6 v1 v2 v3 v4 v5 v6 v7 P1 pl bl z1 z2 z3 z4
          generalize hMM : (M1 : Int) = MM at *
          go_wp2_with (at_builtin; refine wpList_append_lies _ rfl _ _ 55 rfl w.heap.size 35 i0 (.agg #[.int .u8 0, .int .u8 0, .int .u32 0, .slice none 0 0, .string ⟨#[]⟩]) 5 48 Try.underlying55 I.out.1 I.out.2.1 I.out.2.2.1 I.out.2.2.2 rfl (by decide) _ _ _ rfl (R4.out _).1 ⟨V.heap.size, 0, none⟩ 1 1 [.int .u8 0, .int .u8 1, .int .u32 MM, .slice a4 n4 c4, .string tz] rfl rfl ?c1 ?c2 ?c3 ?c4 ?c5 ?c6 _ rfl ?_)
          case c1 =>
            rw [← sz]
            exact cell_new5 _ _ _ _ _ _ 35
          case c2 => simp [Value.oneCell']
          case c3 => omega
          case c4 => unfold maxLen; omega
          case c5 => omega
          case c6 => rw [World.size_alloc, sz]; have := SZ.out.1; omega
          intro g cap w6 hown hg hor hl6
          subst hMM
          have SN : Aside (Sent w k P (.slice (some ⟨g, 0, none⟩) (m + 1) cap) (m + 1) w6) := by
            refine sent_next PQ.out SS.out LV.out HM1.out HBD.out HT.out _ rfl (fun L' h1' h2' => ?_) hg (by rw [World.size_alloc, sz]; exact hor)
            obtain ⟨L2, m1, m2, _⟩ := SS.out
            have r0 := (R4.out (.cells #[] 5)).1
            have e1 : flatF 0 L' = flatF 0 L := by
              have q := owns_later LV.out.2.2.2.1 h2'
              rcases r0.2 with ⟨ev, e0⟩ | _
              · have z1 := h2'.1
                have z2 := r0.1
                rw [List.eq_nil_of_length_eq_zero (by omega : (flatF 0 L').length = 0), List.eq_nil_of_length_eq_zero (by omega : (flatF 0 L).length = 0)]
              · exact row_inj h2' RW.out
            rw [e1]
            exact hown
          clear hown hg hor hl6 R4 e0 e1 e2 e3 q0 q1 q2 q3 x0 x1 x2 x3 x4 zr
          go_wp2
          go_roundw
          case rel => exact ⟨j + 1, m + 1, by omega, by omega, by omega, by go_num, SN.out⟩
          case measure => simp [intOf]; omega
        · refine (?_ : ∀ V, Leaf wr k M1 a4 n4 c4 body tz V (wr.heap.size) (w4.heap.size) → Exit.then _ _ _ _ V) _ (leaf3 Y4.out qaA.out)
          intro V hV
          generalize w4.heap.size = pb at hV ⊢
          generalize wr.heap.size = pa at hV ⊢
          have LV : Aside (Leaf wr k M1 a4 n4 c4 body tz V pa pb) := hV
          clear hV
          try clear qa0 qa1 qa2 qa3 qaz qal qaA
          try clear qb0 qb1 qb2 qb3 qb4 qbz qbl qbA
          clear Y4 p0 p1 p2 p3 p4 pl4 bl4 np nb' e0 e1 e2 e3 c0
          obtain ⟨L, l1, l2, l3, l4, l5, l6⟩ := SS.out
          obtain ⟨v1, v2, v3, v4, v5, v6, v7⟩ := LV.out
          have P1 := l3.later v4
          obtain ⟨e0, e1, e2, e3⟩ := P1.cells
          obtain ⟨q0, q1, q2, q3⟩ := v1.cells
          obtain ⟨x0, x1, x2, x3, x4⟩ := v2.cells
          have zr := P1.frozen
          have n1 : ¬ pb = P := by omega
          have n2 : ¬ P = pb := by omega
          have R4 : Aside (∀ o, ((((((V.setCell ⟨P, 0, none⟩ (.string k)).setCell ⟨P, 1, none⟩ (.int .u32 (M1 : Int))).setCell ⟨P, 2, none⟩ (.int .u32 0)).setCell ⟨P, 3, none⟩ (.int .u64 0)).alloc o).ownsRow w.heap.size 35 5 u9 m (flatF 0 L)) ∧ L.length = m) := fun o => by
            have r1 := owns_later v4 l2
            have r2 : ((((V.setCell ⟨P, 0, none⟩ (.string k)).setCell ⟨P, 1, none⟩ (.int .u32 (M1 : Int))).setCell ⟨P, 2, none⟩ (.int .u32 0)).setCell ⟨P, 3, none⟩ (.int .u64 0)).ownsRow w.heap.size 35 5 u9 m (flatF 0 L) := by
              refine ⟨r1.1, ?_⟩
              rcases r1.2 with h | ⟨g, gc, cur, hv, hge, hh, rest⟩
              · exact .inl h
              · have hgp : g ≠ P := fun e => e4_not_row P1 r1 (by decide) (by rw [hv, ← e]; rfl)
                exact .inr ⟨g, gc, cur, hv, hge, by rw [row_far hgp, row_far hgp, row_far hgp, row_far hgp]; exact hh, rest⟩
            exact ⟨r2.alloc o, l1⟩
          have t5 : (m : Int) + 1 = (M1 : Int) := by have := HM1.out; omega
          have t6 : (0 : Int) ≤ (m : Int) := by omega
          have t7 : (0 : Int) ≤ (M1 : Int) := by omega
          have t8 : (M1 : Int) < 4294967296 := by have := HM1.out; omega
          have sz := size_set4 V P (.string k) (.int .u32 (M1 : Int)) (.int .u32 0) (.int .u64 0)
          have RW : Aside (wr.ownsRow w.heap.size 35 5 u9 m (flatF 0 L)) := l2
          have SZ : Aside (w.heap.size ≤ V.heap.size ∧ m ≤ 60) := ⟨by have := l6.size; have := v4.size; omega, by omega⟩
          clear l1 l2 l3 l4 l5 l6 v1 v2 v3 v4 v5 v6 v7 P1 pl bl z1 z2 z3 z4
          generalize hMM : (M1 : Int) = MM at *
          go_wp2_with (at_builtin; refine wpList_append_lies _ rfl _ _ 55 rfl w.heap.size 35 i0 (.agg #[.int .u8 0, .int .u8 0, .int .u32 0, .slice none 0 0, .string ⟨#[]⟩]) 5 48 Try.underlying55 I.out.1 I.out.2.1 I.out.2.2.1 I.out.2.2.2 rfl (by decide) _ _ _ rfl (R4.out _).1 ⟨V.heap.size, 0, none⟩ 1 1 [.int .u8 0, .int .u8 1, .int .u32 MM, .slice a4 n4 c4, .string tz] rfl rfl ?c1 ?c2 ?c3 ?c4 ?c5 ?c6 _ rfl ?_)
          case c1 =>
            rw [← sz]
            exact cell_new5 _ _ _ _ _ _ 35
          case c2 => simp [Value.oneCell']
          case c3 => omega
          case c4 => unfold maxLen; omega
          case c5 => omega
          case c6 => rw [World.size_alloc, sz]; have := SZ.out.1; omega
          intro g cap w6 hown hg hor hl6
          subst hMM
          have SN : Aside (Sent w k P (.slice (some ⟨g, 0, none⟩) (m + 1) cap) (m + 1) w6) := by
            refine sent_next PQ.out SS.out LV.out HM1.out HBD.out HT.out _ rfl (fun L' h1' h2' => ?_) hg (by rw [World.size_alloc, sz]; exact hor)
            obtain ⟨L2, m1, m2, _⟩ := SS.out
            have r0 := (R4.out (.cells #[] 5)).1
            have e1 : flatF 0 L' = flatF 0 L := by
              have q := owns_later LV.out.2.2.2.1 h2'
              rcases r0.2 with ⟨ev, e0⟩ | _
              · have z1 := h2'.1
                have z2 := r0.1
                rw [List.eq_nil_of_length_eq_zero (by omega : (flatF 0 L').length = 0), List.eq_nil_of_length_eq_zero (by omega : (flatF 0 L).length = 0)]
              · exact row_inj h2' RW.out
            rw [e1]
            exact hown
          clear hown hg hor hl6 R4 e0 e1 e2 e3 q0 q1 q2 q3 x0 x1 x2 x3 x4 zr
          go_wp2
          go_roundw
          case rel => exact ⟨j + 1, m + 1, by omega, by omega, by omega, by go_num, SN.out⟩
          case measure => simp [intOf]; omega
        · refine (?_ : ∀ V, Leaf wr k M1 a4 n4 c4 body tz V (wr.heap.size) (wr.heap.size + 1) → Exit.then _ _ _ _ V) _ (leaf46 Y4.out qaA.out qbA.out (by omega) (by omega) (by omega))
          intro V hV
          generalize wr.heap.size + 1 = pb at hV ⊢
          generalize wr.heap.size = pa at hV ⊢
          have LV : Aside (Leaf wr k M1 a4 n4 c4 body tz V pa pb) := hV
          clear hV
          try clear qa0 qa1 qa2 qa3 qaz qal qaA
          try clear qb0 qb1 qb2 qb3 qb4 qbz qbl qbA
          clear Y4 p0 p1 p2 p3 p4 pl4 bl4 np nb' e0 e1 e2 e3 c0
          obtain ⟨L, l1, l2, l3, l4, l5, l6⟩ := SS.out
          obtain ⟨v1, v2, v3, v4, v5, v6, v7⟩ := LV.out
          have P1 := l3.later v4
          obtain ⟨e0, e1, e2, e3⟩ := P1.cells
          obtain ⟨q0, q1, q2, q3⟩ := v1.cells
          obtain ⟨x0, x1, x2, x3, x4⟩ := v2.cells
          have zr := P1.frozen
          have n1 : ¬ pb = P := by omega
          have n2 : ¬ P = pb := by omega
          have R4 : Aside (∀ o, ((((((V.setCell ⟨P, 0, none⟩ (.string k)).setCell ⟨P, 1, none⟩ (.int .u32 (M1 : Int))).setCell ⟨P, 2, none⟩ (.int .u32 0)).setCell ⟨P, 3, none⟩ (.int .u64 0)).alloc o).ownsRow w.heap.size 35 5 u9 m (flatF 0 L)) ∧ L.length = m) := fun o => by
            have r1 := owns_later v4 l2
            have r2 : ((((V.setCell ⟨P, 0, none⟩ (.string k)).setCell ⟨P, 1, none⟩ (.int .u32 (M1 : Int))).setCell ⟨P, 2, none⟩ (.int .u32 0)).setCell ⟨P, 3, none⟩ (.int .u64 0)).ownsRow w.heap.size 35 5 u9 m (flatF 0 L) := by
              refine ⟨r1.1, ?_⟩
              rcases r1.2 with h | ⟨g, gc, cur, hv, hge, hh, rest⟩
              · exact .inl h
              · have hgp : g ≠ P := fun e => e4_not_row P1 r1 (by decide) (by rw [hv, ← e]; rfl)
                exact .inr ⟨g, gc, cur, hv, hge, by rw [row_far hgp, row_far hgp, row_far hgp, row_far hgp]; exact hh, rest⟩
            exact ⟨r2.alloc o, l1⟩
          have t5 : (m : Int) + 1 = (M1 : Int) := by have := HM1.out; omega
          have t6 : (0 : Int) ≤ (m : Int) := by omega
          have t7 : (0 : Int) ≤ (M1 : Int) := by omega
          have t8 : (M1 : Int) < 4294967296 := by have := HM1.out; omega
          have sz := size_set4 V P (.string k) (.int .u32 (M1 : Int)) (.int .u32 0) (.int .u64 0)
          have RW : Aside (wr.ownsRow w.heap.size 35 5 u9 m (flatF 0 L)) := l2
          have SZ : Aside (w.heap.size ≤ V.heap.size ∧ m ≤ 60) := ⟨by have := l6.size; have := v4.size; omega, by omega⟩
          clear l1 l2 l3 l4 l5 l6 v1 v2 v3 v4 v5 v6 v7 P1 pl bl z1 z2 z3 z4
          generalize hMM : (M1 : Int) = MM at *
          go_wp2_with (at_builtin; refine wpList_append_lies _ rfl _ _ 55 rfl w.heap.size 35 i0 (.agg #[.int .u8 0, .int .u8 0, .int .u32 0, .slice none 0 0, .string ⟨#[]⟩]) 5 48 Try.underlying55 I.out.1 I.out.2.1 I.out.2.2.1 I.out.2.2.2 rfl (by decide) _ _ _ rfl (R4.out _).1 ⟨V.heap.size, 0, none⟩ 1 1 [.int .u8 0, .int .u8 1, .int .u32 MM, .slice a4 n4 c4, .string tz] rfl rfl ?c1 ?c2 ?c3 ?c4 ?c5 ?c6 _ rfl ?_)
          case c1 =>
            rw [← sz]
            exact cell_new5 _ _ _ _ _ _ 35
          case c2 => simp [Value.oneCell']
          case c3 => omega
          case c4 => unfold maxLen; omega
          case c5 => omega
          case c6 => rw [World.size_alloc, sz]; have := SZ.out.1; omega
          intro g cap w6 hown hg hor hl6
          subst hMM
          have SN : Aside (Sent w k P (.slice (some ⟨g, 0, none⟩) (m + 1) cap) (m + 1) w6) := by
            refine sent_next PQ.out SS.out LV.out HM1.out HBD.out HT.out _ rfl (fun L' h1' h2' => ?_) hg (by rw [World.size_alloc, sz]; exact hor)
            obtain ⟨L2, m1, m2, _⟩ := SS.out
            have r0 := (R4.out (.cells #[] 5)).1
            have e1 : flatF 0 L' = flatF 0 L := by
              have q := owns_later LV.out.2.2.2.1 h2'
              rcases r0.2 with ⟨ev, e0⟩ | _
              · have z1 := h2'.1
                have z2 := r0.1
                rw [List.eq_nil_of_length_eq_zero (by omega : (flatF 0 L').length = 0), List.eq_nil_of_length_eq_zero (by omega : (flatF 0 L).length = 0)]
              · exact row_inj h2' RW.out
            rw [e1]
            exact hown
          clear hown hg hor hl6 R4 e0 e1 e2 e3 q0 q1 q2 q3 x0 x1 x2 x3 x4 zr
          go_wp2
          go_roundw
          case rel => exact ⟨j + 1, m + 1, by omega, by omega, by omega, by go_num, SN.out⟩
          case measure => simp [intOf]; omega
        · refine (?_ : ∀ V, Leaf wr k M1 a4 n4 c4 body tz V (w4.heap.size) (wr.heap.size) → Exit.then _ _ _ _ V) _ (leaf5 Y4.out qbA.out)
          intro V hV
          generalize w4.heap.size = pa at hV ⊢
          generalize wr.heap.size = pb at hV ⊢
          have LV : Aside (Leaf wr k M1 a4 n4 c4 body tz V pa pb) := hV
          clear hV
          try clear qa0 qa1 qa2 qa3 qaz qal qaA
          try clear qb0 qb1 qb2 qb3 qb4 qbz qbl qbA
          clear Y4 p0 p1 p2 p3 p4 pl4 bl4 np nb' e0 e1 e2 e3 c0
          obtain ⟨L, l1, l2, l3, l4, l5, l6⟩ := SS.out
          obtain ⟨v1, v2, v3, v4, v5, v6, v7⟩ := LV.out
          have P1 := l3.later v4
          obtain ⟨e0, e1, e2, e3⟩ := P1.cells
          obtain ⟨q0, q1, q2, q3⟩ := v1.cells
          obtain ⟨x0, x1, x2, x3, x4⟩ := v2.cells
          have zr := P1.frozen
          have n1 : ¬ pb = P := by omega
          have n2 : ¬ P = pb := by omega
          have R4 : Aside (∀ o, ((((((V.setCell ⟨P, 0, none⟩ (.string k)).setCell ⟨P, 1, none⟩ (.int .u32 (M1 : Int))).setCell ⟨P, 2, none⟩ (.int .u32 0)).setCell ⟨P, 3, none⟩ (.int .u64 0)).alloc o).ownsRow w.heap.size 35 5 u9 m (flatF 0 L)) ∧ L.length = m) := fun o => by
            have r1 := owns_later v4 l2
            have r2 : ((((V.setCell ⟨P, 0, none⟩ (.string k)).setCell ⟨P, 1, none⟩ (.int .u32 (M1 : Int))).setCell ⟨P, 2, none⟩ (.int .u32 0)).setCell ⟨P, 3, none⟩ (.int .u64 0)).ownsRow w.heap.size 35 5 u9 m (flatF 0 L) := by
              refine ⟨r1.1, ?_⟩
              rcases r1.2 with h | ⟨g, gc, cur, hv, hge, hh, rest⟩
              · exact .inl h
              · have hgp : g ≠ P := fun e => e4_not_row P1 r1 (by decide) (by rw [hv, ← e]; rfl)
                exact .inr ⟨g, gc, cur, hv, hge, by rw [row_far hgp, row_far hgp, row_far hgp, row_far hgp]; exact hh, rest⟩
            exact ⟨r2.alloc o, l1⟩
          have t5 : (m : Int) + 1 = (M1 : Int) := by have := HM1.out; omega
          have t6 : (0 : Int) ≤ (m : Int) := by omega
          have t7 : (0 : Int) ≤ (M1 : Int) := by omega
          have t8 : (M1 : Int) < 4294967296 := by have := HM1.out; omega
          have sz := size_set4 V P (.string k) (.int .u32 (M1 : Int)) (.int .u32 0) (.int .u64 0)
          have RW : Aside (wr.ownsRow w.heap.size 35 5 u9 m (flatF 0 L)) := l2
          have SZ : Aside (w.heap.size ≤ V.heap.size ∧ m ≤ 60) := ⟨by have := l6.size; have := v4.size; omega, by omega⟩
          clear l1 l2 l3 l4 l5 l6 v1 v2 v3 v4 v5 v6 v7 P1 pl bl z1 z2 z3 z4
          generalize hMM : (M1 : Int) = MM at *
          go_wp2_with (at_builtin; refine wpList_append_lies _ rfl _ _ 55 rfl w.heap.size 35 i0 (.agg #[.int .u8 0, .int .u8 0, .int .u32 0, .slice none 0 0, .string ⟨#[]⟩]) 5 48 Try.underlying55 I.out.1 I.out.2.1 I.out.2.2.1 I.out.2.2.2 rfl (by decide) _ _ _ rfl (R4.out _).1 ⟨V.heap.size, 0, none⟩ 1 1 [.int .u8 0, .int .u8 1, .int .u32 MM, .slice a4 n4 c4, .string tz] rfl rfl ?c1 ?c2 ?c3 ?c4 ?c5 ?c6 _ rfl ?_)
          case c1 =>
            rw [← sz]
            exact cell_new5 _ _ _ _ _ _ 35
          case c2 => simp [Value.oneCell']
          case c3 => omega
          case c4 => unfold maxLen; omega
          case c5 => omega
          case c6 => rw [World.size_alloc, sz]; have := SZ.out.1; omega
          intro g cap w6 hown hg hor hl6
          subst hMM
          have SN : Aside (Sent w k P (.slice (some ⟨g, 0, none⟩) (m + 1) cap) (m + 1) w6) := by
            refine sent_next PQ.out SS.out LV.out HM1.out HBD.out HT.out _ rfl (fun L' h1' h2' => ?_) hg (by rw [World.size_alloc, sz]; exact hor)
            obtain ⟨L2, m1, m2, _⟩ := SS.out
            have r0 := (R4.out (.cells #[] 5)).1
            have e1 : flatF 0 L' = flatF 0 L := by
              have q := owns_later LV.out.2.2.2.1 h2'
              rcases r0.2 with ⟨ev, e0⟩ | _
              · have z1 := h2'.1
                have z2 := r0.1
                rw [List.eq_nil_of_length_eq_zero (by omega : (flatF 0 L').length = 0), List.eq_nil_of_length_eq_zero (by omega : (flatF 0 L).length = 0)]
              · exact row_inj h2' RW.out
            rw [e1]
            exact hown
          clear hown hg hor hl6 R4 e0 e1 e2 e3 q0 q1 q2 q3 x0 x1 x2 x3 x4 zr
          go_wp2
          go_roundw
          case rel => exact ⟨j + 1, m + 1, by omega, by omega, by omega, by go_num, SN.out⟩
          case measure => simp [intOf]; omega
        · refine (?_ : ∀ V, Leaf wr k M1 a4 n4 c4 body tz V (wr.heap.size + 1) (wr.heap.size) → Exit.then _ _ _ _ V) _ (leaf46 Y4.out qaA.out qbA.out (by omega) (by omega) (by omega))
          intro V hV
          generalize wr.heap.size + 1 = pa at hV ⊢
          generalize wr.heap.size = pb at hV ⊢
          have LV : Aside (Leaf wr k M1 a4 n4 c4 body tz V pa pb) := hV
          clear hV
          try clear qa0 qa1 qa2 qa3 qaz qal qaA
          try clear qb0 qb1 qb2 qb3 qb4 qbz qbl qbA
          clear Y4 p0 p1 p2 p3 p4 pl4 bl4 np nb' e0 e1 e2 e3 c0
          obtain ⟨L, l1, l2, l3, l4, l5, l6⟩ := SS.out
          obtain ⟨v1, v2, v3, v4, v5, v6, v7⟩ := LV.out
          have P1 := l3.later v4
          obtain ⟨e0, e1, e2, e3⟩ := P1.cells
          obtain ⟨q0, q1, q2, q3⟩ := v1.cells
          obtain ⟨x0, x1, x2, x3, x4⟩ := v2.cells
          have zr := P1.frozen
          have n1 : ¬ pb = P := by omega
          have n2 : ¬ P = pb := by omega
          have R4 : Aside (∀ o, ((((((V.setCell ⟨P, 0, none⟩ (.string k)).setCell ⟨P, 1, none⟩ (.int .u32 (M1 : Int))).setCell ⟨P, 2, none⟩ (.int .u32 0)).setCell ⟨P, 3, none⟩ (.int .u64 0)).alloc o).ownsRow w.heap.size 35 5 u9 m (flatF 0 L)) ∧ L.length = m) := fun o => by
            have r1 := owns_later v4 l2
            have r2 : ((((V.setCell ⟨P, 0, none⟩ (.string k)).setCell ⟨P, 1, none⟩ (.int .u32 (M1 : Int))).setCell ⟨P, 2, none⟩ (.int .u32 0)).setCell ⟨P, 3, none⟩ (.int .u64 0)).ownsRow w.heap.size 35 5 u9 m (flatF 0 L) := by
              refine ⟨r1.1, ?_⟩
              rcases r1.2 with h | ⟨g, gc, cur, hv, hge, hh, rest⟩
              · exact .inl h
              · have hgp : g ≠ P := fun e => e4_not_row P1 r1 (by decide) (by rw [hv, ← e]; rfl)
                exact .inr ⟨g, gc, cur, hv, hge, by rw [row_far hgp, row_far hgp, row_far hgp, row_far hgp]; exact hh, rest⟩
            exact ⟨r2.alloc o, l1⟩
          have t5 : (m : Int) + 1 = (M1 : Int) := by have := HM1.out; omega
          have t6 : (0 : Int) ≤ (m : Int) := by omega
          have t7 : (0 : Int) ≤ (M1 : Int) := by omega
          have t8 : (M1 : Int) < 4294967296 := by have := HM1.out; omega
          have sz := size_set4 V P (.string k) (.int .u32 (M1 : Int)) (.int .u32 0) (.int .u64 0)
          have RW : Aside (wr.ownsRow w.heap.size 35 5 u9 m (flatF 0 L)) := l2
          have SZ : Aside (w.heap.size ≤ V.heap.size ∧ m ≤ 60) := ⟨by have := l6.size; have := v4.size; omega, by omega⟩
          clear l1 l2 l3 l4 l5 l6 v1 v2 v3 v4 v5 v6 v7 P1 pl bl z1 z2 z3 z4
          generalize hMM : (M1 : Int) = MM at *
          go_wp2_with (at_builtin; refine wpList_append_lies _ rfl _ _ 55 rfl w.heap.size 35 i0 (.agg #[.int .u8 0, .int .u8 0, .int .u32 0, .slice none 0 0, .string ⟨#[]⟩]) 5 48 Try.underlying55 I.out.1 I.out.2.1 I.out.2.2.1 I.out.2.2.2 rfl (by decide) _ _ _ rfl (R4.out _).1 ⟨V.heap.size, 0, none⟩ 1 1 [.int .u8 0, .int .u8 1, .int .u32 MM, .slice a4 n4 c4, .string tz] rfl rfl ?c1 ?c2 ?c3 ?c4 ?c5 ?c6 _ rfl ?_)
          case c1 =>
            rw [← sz]
            exact cell_new5 _ _ _ _ _ _ 35
          case c2 => simp [Value.oneCell']
          case c3 => omega
          case c4 => unfold maxLen; omega
          case c5 => omega
          case c6 => rw [World.size_alloc, sz]; have := SZ.out.1; omega
          intro g cap w6 hown hg hor hl6
          subst hMM
          have SN : Aside (Sent w k P (.slice (some ⟨g, 0, none⟩) (m + 1) cap) (m + 1) w6) := by
            refine sent_next PQ.out SS.out LV.out HM1.out HBD.out HT.out _ rfl (fun L' h1' h2' => ?_) hg (by rw [World.size_alloc, sz]; exact hor)
            obtain ⟨L2, m1, m2, _⟩ := SS.out
            have r0 := (R4.out (.cells #[] 5)).1
            have e1 : flatF 0 L' = flatF 0 L := by
              have q := owns_later LV.out.2.2.2.1 h2'
              rcases r0.2 with ⟨ev, e0⟩ | _
              · have z1 := h2'.1
                have z2 := r0.1
                rw [List.eq_nil_of_length_eq_zero (by omega : (flatF 0 L').length = 0), List.eq_nil_of_length_eq_zero (by omega : (flatF 0 L).length = 0)]
              · exact row_inj h2' RW.out
            rw [e1]
            exact hown
          clear hown hg hor hl6 R4 e0 e1 e2 e3 q0 q1 q2 q3 x0 x1 x2 x3 x4 zr
          go_wp2
          go_roundw
          case rel => exact ⟨j + 1, m + 1, by omega, by omega, by omega, by go_num, SN.out⟩
          case measure => simp [intOf]; omega
    · have EX : (¬ (j : Int) < (len0 : Int)) ∨ ((j : Int) < (len0 : Int) ∧ ¬ (j : Int) < 60) := by omega
      obtain ⟨L, l1, l2, l3, l4, l5, l6⟩ := SS.out
      have W6 : Aside (Below w.heap.size w wr) := l6
      rcases l2.2 with ⟨rfl, h0⟩ | ⟨g, cap, cur, rfl, hge, hh, _⟩
      · clear l1 l2 l3 l4 l5 l6 SS hlt
        rcases EX with t1 | ⟨t1, t2⟩
        all_goals
          go_wp2
          go_ret
          exact ⟨rfl, W6.out⟩
      · by_cases hm0 : m = 0
        · subst hm0
          clear l1 l2 l3 l4 l5 l6 SS hlt hge hh
          rcases EX with t1 | ⟨t1, t2⟩
          all_goals
            go_wp2
            go_ret
            exact ⟨rfl, W6.out⟩
        · have t3 : ((m : Int) == 0) = false := by
            have : ¬ (m : Int) = 0 := by omega
            simpa using this
          have t4 : (m : Int) ≤ 60 := by omega
          have t5 : (0 : Int) ≤ (m : Int) := by omega
          clear hlt hge hh
          obtain ⟨C0, hmk, hC0⟩ := make_bools m (by omega) wr
          have gl : g < wr.heap.size := (l2.lt g rfl).2
          have gq : g ≠ P + 1 := fun e => e4_not_row l4 l2 (by decide) (by rw [← e]; rfl)
          have pq : P + 1 < wr.heap.size := (Array.getElem?_eq_some_iff.1 l4).1
          have LT : Aside (∀ t, t < m → ∃ x : Bod, x.body.length ≤ 100 ∧ (∀ wx S tq cq, Took w wr k P wr.heap.size m S tq cq wx → Byt wx x.a x.n x.cap x.body ∧ (wx.cell? ⟨g, t * 5, none⟩ = some (.int .u8 0) ∧ wx.cell? ⟨g, t * 5 + 1, none⟩ = some (.int .u8 1) ∧ wx.cell? ⟨g, t * 5 + 2, none⟩ = some (.int .u32 ((t + 1 : Nat) : Int)) ∧ wx.cell? ⟨g, t * 5 + 3, none⟩ = some (.slice x.a x.n x.cap) ∧ wx.cell? ⟨g, t * 5 + 4, none⟩ = some (str (Tm.tag oK 0 1 (t + 1) x.body))))) := by
            intro t ht
            have hx : L[t]? = some (L[t]'(by omega)) := List.getElem?_eq_getElem _
            generalize (L[t]'(by omega)) = x at hx
            obtain ⟨y1, y2, y3⟩ := l5 x (List.mem_of_getElem? hx)
            refine ⟨x, y2, fun wx S tq cq hT => ⟨byt_kept0 y1 (fun hne ad e => hT.1 ad.block (byt_lt y1 hne e) (y3 hne ad e).2.2), ?_⟩⟩
            have cg : ∀ c, c < 5 → wx.cell? ⟨g, t * 5 + c, none⟩ = (cellsL t x)[c]? := fun c hc => by
              rw [World.cell?_of_block (w := wr) (a := ⟨g, t * 5 + c, none⟩) (hT.1 g gl gq), l2.cellAt (t * 5 + c) (by omega), flatF_at 0 L t c x hx hc, Nat.zero_add]
            exact ⟨cg 0 (by omega), cg 1 (by omega), cg 2 (by omega), cg 3 (by omega), cg 4 (by omega)⟩
          have T0 : Aside (Took w wr k P wr.heap.size m [] 0 0 (wr.alloc (.cells C0 4))) := by
            refine ⟨fun b hb _ => Below.heap_alloc _ _ _ hb, l4.alloc _, ⟨C0, heap_alloc_new wr _, fun t ht => by simpa using hC0 t ht⟩, Tm.win_nil, (fun s hs => by cases hs), by omega, l6.alloc l6.size _⟩
          clear l1 l2 l3 l4 l5 l6 SS hC0
          obtain ⟨R, hR⟩ : ∃ R, R = wr.heap.size := ⟨_, rfl⟩
          have HR : Aside (R = wr.heap.size) := hR
          rw [← hR] at hmk T0 LT gl pq
          rcases EX with t1 | ⟨t1, t2⟩
          all_goals
            go_wp2_with fail
            go_loopw [82] (fun i wx => ∃ (q : Nat) (S : List Nat) (tq cq : Nat), q ≤ len1 ∧ i = .int .i64 (q : Int) ∧ Took w wr k P R m S tq cq wx) (fun i _ => len1 - (intOf i).toNat)
            case atStart => exact ⟨0, [], 0, 0, Nat.zero_le _, rfl, T0.out⟩
            case round =>
              obtain ⟨q, S, tq, cq, hq, rfl, hT⟩ := hrel
              have TT : Aside (Took _ _ _ _ _ _ _ _ _ wr) := hT
              by_cases hlt : q < len1
              · have hz : q < z1.length := by rw [H0.out.2.1]; exact hlt
                have by1 := H0.out.2.later hT.2.2.2.2.2.2
                rcases by1.2.2.1 with he | ⟨b1, o1, ha, hc⟩
                · exfalso; rw [he] at hz; simp at hz
                have c0 := hc q hz
                obtain ⟨nb, hnb⟩ : ∃ nb : Nat, nb = z1[q].toNat := ⟨_, rfl⟩
                rw [← hnb] at c0
                obtain ⟨t, ht⟩ : ∃ t : Nat, t = nb % m := ⟨_, rfl⟩
                have htm : t < m := by rw [ht]; exact Nat.mod_lt _ (by omega)
                have nb8 : nb < 256 := by rw [hnb]; exact z1[q].toNat_lt
                have WN : Aside (wrap64 (nb : Int) = (nb : Int) ∧ IntKind.i64.wrap (nb : Int) = (nb : Int) ∧ Int.tmod (nb : Int) (m : Int) = (t : Int)) := ⟨byte_wrap nb8, byte_wrap64 nb8, byte_rem (m := m) ht⟩
                clear ht nb8
                have htop := took_top hT
                obtain ⟨x, hx1, hx2⟩ := LT.out t htm
                obtain ⟨bx, x0, x1, x2, x3, x4⟩ := hx2 wr S tq cq hT
                obtain ⟨at', ac', ae, hw, hacc⟩ := o_acc K1.out (t := t) (x := x) hT.2.2.2.1 (by omega) hT.2.2.2.2.2.1 (by omega) hx1
                have AC : Aside (∀ W, Below wr.heap.size wr W → _) := fun W hb => hacc W (bx.later hb)
                obtain ⟨e0, e1, e2, e3⟩ := hT.2.1.cells
                have ql : P + 1 < wr.heap.size := (Array.getElem?_eq_some_iff.1 hT.2.1).1
                have gl2 : g < wr.heap.size := World.block_lt_of_cell? wr _ x0
                obtain ⟨C, hC1, hC2⟩ := hT.2.2.1
                have rl : R < wr.heap.size := (Array.getElem?_eq_some_iff.1 hC1).1
                have CT : Aside (wr.heap[R]? = some (.cells C 4 (0, 0)) ∧ C[t]? = some (.bool (decide (t + 1 ∈ S)))) := ⟨hC1, hC2 t htm⟩
                have HW : Aside ((t + 1 ∉ S ∧ at' = Tm.accT tq (t + 1) ∧ ac' = Tm.accC tq cq (t + 1) ∧ ae = 0) ∨ (t + 1 ∈ S ∧ at' = tq ∧ ac' = cq ∧ ae = 6)) := hw
                obtain ⟨xa, xn, xc, body⟩ := x
                dsimp only at x3 x4 AC
                unfold str at x4 AC
                generalize (⟨(Tm.tag oK 0 1 (t + 1) body).toArray⟩ : ByteArray) = tz at *
                obtain ⟨T1, hT1⟩ : ∃ T1 : Int, T1 = ((t + 1 : Nat) : Int) := ⟨_, rfl⟩
                rw [← hT1] at x2 AC
                have HT1 : Aside (T1 = ((t + 1 : Nat) : Int)) := hT1
                clear hT1
                have z1' : ¬ wr.heap.size = P + 1 := by omega
                have z2 : ¬ wr.heap.size = g := by omega
                have d0 : Aside (Below wr.heap.size wr wr.drew ∧ ∀ o, Below wr.heap.size wr (wr.drew.alloc o)) := ⟨below_drew1 (Below.refl _ _), fun o => (below_drew1 (Below.refl _ _)).alloc (Nat.le_refl _) o⟩
                have t6 : (0 : Int) ≤ (nb : Int) := by omega
                have t7 : ¬ (m : Int) = 0 := by omega
                have t8 : (t : Int) < (m : Int) := by omega
                have t9 : (0 : Int) ≤ (t : Int) := by omega
                have HTM : Aside (t < m) := htm
                clear hT hc hz hnb hx1 hx2 hacc hw bx hC1 hC2 htop by1
                subst ha
                obtain ⟨wn, wi, tm⟩ := WN.out
                go_wp2_with fail
                go_region_held3 (fun w' => w'.cell? ⟨P + 1, 0, none⟩ = some (.string k) ∧ w'.cell? ⟨P + 1, 1, none⟩ = some (.int .u32 0) ∧ w'.cell? ⟨P + 1, 2, none⟩ = some (.int .u32 (tq : Int)) ∧ w'.cell? ⟨P + 1, 3, none⟩ = some (.int .u64 (cq : Int)) ∧ w'.cell? ⟨g, t * 5, none⟩ = some (.int .u8 0) ∧ w'.cell? ⟨g, t * 5 + 1, none⟩ = some (.int .u8 1) ∧ w'.cell? ⟨g, t * 5 + 2, none⟩ = some (.int .u32 T1) ∧ w'.cell? ⟨g, t * 5 + 3, none⟩ = some (.slice xa xn xc) ∧ w'.cell? ⟨g, t * 5 + 4, none⟩ = some (.string tz))
                  (first
                    | go_keep)
                  (first
                    | (go_at_call 19; refine (AC.out wr.drew d0.out.1).mono ?_; rintro e w4 ⟨rfl, b4⟩; have D4 := below_step d0.out.1 b4; have p0 := (D4.cell (p := ⟨P + 1, 0, none⟩) ql).trans e0; have p1 := (D4.cell (p := ⟨P + 1, 1, none⟩) ql).trans e1; have p2 := (D4.cell (p := ⟨P + 1, 2, none⟩) ql).trans e2; have p3 := (D4.cell (p := ⟨P + 1, 3, none⟩) ql).trans e3; have r0 := (D4.cell (p := ⟨g, t * 5, none⟩) gl2).trans x0; have r1 := (D4.cell (p := ⟨g, t * 5 + 1, none⟩) gl2).trans x1; have r2 := (D4.cell (p := ⟨g, t * 5 + 2, none⟩) gl2).trans x2; have r3 := (D4.cell (p := ⟨g, t * 5 + 3, none⟩) gl2).trans x3; have r4 := (D4.cell (p := ⟨g, t * 5 + 4, none⟩) gl2).trans x4; have pl4 := Nat.lt_of_lt_of_le ql D4.size; have gl4 := Nat.lt_of_lt_of_le gl2 D4.size; have np := Nat.ne_of_gt pl4; have ng := Nat.ne_of_gt gl4; have Y4 : Aside (Below wr.heap.size wr w4) := D4; clear b4 D4)
                    | (go_at_call 19; refine (AC.out (wr.drew.alloc (.cells #[.string ⟨#[]⟩, .int .u32 0, .int .u32 0, .int .u64 0] 41)) (d0.out.2 _)).mono ?_; rintro e w4 ⟨rfl, b4⟩; have D4 := below_step (d0.out.2 _) b4; have p0 := (D4.cell (p := ⟨P + 1, 0, none⟩) ql).trans e0; have p1 := (D4.cell (p := ⟨P + 1, 1, none⟩) ql).trans e1; have p2 := (D4.cell (p := ⟨P + 1, 2, none⟩) ql).trans e2; have p3 := (D4.cell (p := ⟨P + 1, 3, none⟩) ql).trans e3; have r0 := (D4.cell (p := ⟨g, t * 5, none⟩) gl2).trans x0; have r1 := (D4.cell (p := ⟨g, t * 5 + 1, none⟩) gl2).trans x1; have r2 := (D4.cell (p := ⟨g, t * 5 + 2, none⟩) gl2).trans x2; have r3 := (D4.cell (p := ⟨g, t * 5 + 3, none⟩) gl2).trans x3; have r4 := (D4.cell (p := ⟨g, t * 5 + 4, none⟩) gl2).trans x4; have pl4 := Nat.lt_of_lt_of_le ql D4.size; have gl4 := Nat.lt_of_lt_of_le gl2 D4.size; have np := Nat.ne_of_gt pl4; have ng := Nat.ne_of_gt gl4; have qa : E4 w4 wr.heap.size 41 (.string ⟨#[]⟩) (.int .u32 0) (.int .u32 0) (.int .u64 0) := (E4.new wr.drew 41 (.string ⟨#[]⟩) (.int .u32 0) (.int .u32 0) (.int .u64 0)).later b4; obtain ⟨qa0, qa1, qa2, qa3⟩ := qa.cells; have qaz := qa.frozen; have qal := (Array.getElem?_eq_some_iff.1 qa).1; have qaA : Aside (E4 w4 wr.heap.size 41 (.string ⟨#[]⟩) (.int .u32 0) (.int .u32 0) (.int .u64 0)) := qa; clear qa; have Y4 : Aside (Below wr.heap.size wr w4) := D4; clear b4 D4))
                · rename_i hHH
                  clear hHH
                  refine (?_ : ∀ V, Leaf2 wr k at' ac' V (w4.heap.size) → Exit.then _ _ _ _ V) _ ⟨E4.new w4 41 _ _ _ _, Y4.out.alloc Y4.out.size _, Y4.out.size⟩
                  intro V hV
                  clear pl4 gl4 np ng Y4
                  generalize w4.heap.size = pb at hV ⊢
                  have LV : Aside (Leaf2 wr k at' ac' V pb) := hV
                  clear hV
                  rw [← hR]
                  clear hR
                  clear p0 p1 p2 p3 r0 r1 r2 r3 r4 e0 e1 e2 e3 x0 x1 x2 x3 x4 c0 AC wn wi tm WN
                  have hx := LV.out
                  obtain ⟨b0, b1', b2, b3⟩ := hx.1.cells
                  have hRl : R < wr.heap.size := rl
                  have hy := (hx.2.1.block R hRl).trans CT.out.1
                  have y0 : V.cell? ⟨R, t, none⟩ = some (.bool (decide (t + 1 ∈ S))) := by rw [cell_of_row V R t _ 4 _ hy]; exact CT.out.2
                  have zr := frozen_of_row V R t _ 4 hy
                  have hE := TT.out.2.1.later hx.2.1
                  have zp := hE.frozen
                  obtain ⟨q0, q1, q2, q3⟩ := hE.cells
                  have n1 : ¬ pb = R := fun e => by have := hx.2.2; omega
                  have n2 : ¬ R = pb := fun e => by have := hx.2.2; omega
                  have n3 : ¬ P + 1 = R := fun e => by omega
                  have n4 : ¬ R = P + 1 := fun e => by omega
                  have n5 : ¬ pb = P + 1 := fun e => by have := hx.2.2; omega
                  have n6 : ¬ P + 1 = pb := fun e => by have := hx.2.2; omega
                  have TN : Aside (∃ S', Took _ _ k P R m S' at' ac' (((((V.setCell ⟨R, t, none⟩ (.bool true)).setCell ⟨P + 1, 0, none⟩ (.string k)).setCell ⟨P + 1, 1, none⟩ (.int .u32 0)).setCell ⟨P + 1, 2, none⟩ (.int .u32 (at' : Int))).setCell ⟨P + 1, 3, none⟩ (.int .u64 (ac' : Int)))) :=
                    took_next TT.out PQ.out pq HTM.out (by omega) hx.2.1 (by rcases HW.out with ⟨h1, h2, h3, _⟩ | ⟨h1, h2, h3, _⟩; exact .inl ⟨h1, h2, h3⟩; exact .inr ⟨h1, h2, h3⟩)
                  have HS : Aside ((ae = 0 ∧ decide (t + 1 ∈ S) = false) ∨ (ae = 6 ∧ decide (t + 1 ∈ S) = true)) := by
                    rcases HW.out with ⟨h1, _, _, h⟩ | ⟨h1, _, _, h⟩
                    · exact .inl ⟨h, decide_eq_false h1⟩
                    · exact .inr ⟨h, decide_eq_true h1⟩
                  clear hx hy hE HW CT LV
                  generalize decide (t + 1 ∈ S) = bb at y0 HS
                  rcases HS.out with ⟨rfl, rfl⟩ | ⟨rfl, rfl⟩
                  all_goals
                    clear HS
                    have qL : q < 9223372036854775807 := by omega
                    go_wp2_with fail
                    rw [HR.out]
                    go_roundw
                    case rel =>
                      rw [← HR.out]
                      obtain ⟨S', hS'⟩ := TN.out
                      exact ⟨q + 1, S', at', ac', by omega, by go_num, hS'⟩
                    case measure => simp [intOf]; omega
                · rename_i hHH
                  clear hHH
                  refine (?_ : ∀ V, Leaf2 wr k at' ac' V (wr.heap.size) → Exit.then _ _ _ _ V) _ ⟨qaA.out.set _ _ _ _, (((Y4.out.setCell (p := ⟨wr.heap.size, 0, none⟩) (Nat.le_refl _) _).setCell (p := ⟨wr.heap.size, 1, none⟩) (Nat.le_refl _) _).setCell (p := ⟨wr.heap.size, 2, none⟩) (Nat.le_refl _) _).setCell (p := ⟨wr.heap.size, 3, none⟩) (Nat.le_refl _) _, Nat.le_refl _⟩
                  intro V hV
                  clear pl4 gl4 np ng Y4 qa0 qa1 qa2 qa3 qaz qal qaA
                  obtain ⟨pb, hpb⟩ : ∃ pb, pb = wr.heap.size := ⟨_, rfl⟩
                  rw [← hpb] at hV ⊢
                  clear hpb
                  have LV : Aside (Leaf2 wr k at' ac' V pb) := hV
                  clear hV
                  rw [← hR]
                  clear hR
                  clear p0 p1 p2 p3 r0 r1 r2 r3 r4 e0 e1 e2 e3 x0 x1 x2 x3 x4 c0 AC wn wi tm WN
                  have hx := LV.out
                  obtain ⟨b0, b1', b2, b3⟩ := hx.1.cells
                  have hRl : R < wr.heap.size := rl
                  have hy := (hx.2.1.block R hRl).trans CT.out.1
                  have y0 : V.cell? ⟨R, t, none⟩ = some (.bool (decide (t + 1 ∈ S))) := by rw [cell_of_row V R t _ 4 _ hy]; exact CT.out.2
                  have zr := frozen_of_row V R t _ 4 hy
                  have hE := TT.out.2.1.later hx.2.1
                  have zp := hE.frozen
                  obtain ⟨q0, q1, q2, q3⟩ := hE.cells
                  have n1 : ¬ pb = R := fun e => by have := hx.2.2; omega
                  have n2 : ¬ R = pb := fun e => by have := hx.2.2; omega
                  have n3 : ¬ P + 1 = R := fun e => by omega
                  have n4 : ¬ R = P + 1 := fun e => by omega
                  have n5 : ¬ pb = P + 1 := fun e => by have := hx.2.2; omega
                  have n6 : ¬ P + 1 = pb := fun e => by have := hx.2.2; omega
                  have TN : Aside (∃ S', Took _ _ k P R m S' at' ac' (((((V.setCell ⟨R, t, none⟩ (.bool true)).setCell ⟨P + 1, 0, none⟩ (.string k)).setCell ⟨P + 1, 1, none⟩ (.int .u32 0)).setCell ⟨P + 1, 2, none⟩ (.int .u32 (at' : Int))).setCell ⟨P + 1, 3, none⟩ (.int .u64 (ac' : Int)))) :=
                    took_next TT.out PQ.out pq HTM.out (by omega) hx.2.1 (by rcases HW.out with ⟨h1, h2, h3, _⟩ | ⟨h1, h2, h3, _⟩; exact .inl ⟨h1, h2, h3⟩; exact .inr ⟨h1, h2, h3⟩)
                  have HS : Aside ((ae = 0 ∧ decide (t + 1 ∈ S) = false) ∨ (ae = 6 ∧ decide (t + 1 ∈ S) = true)) := by
                    rcases HW.out with ⟨h1, _, _, h⟩ | ⟨h1, _, _, h⟩
                    · exact .inl ⟨h, decide_eq_false h1⟩
                    · exact .inr ⟨h, decide_eq_true h1⟩
                  clear hx hy hE HW CT LV
                  generalize decide (t + 1 ∈ S) = bb at y0 HS
                  rcases HS.out with ⟨rfl, rfl⟩ | ⟨rfl, rfl⟩
                  all_goals
                    clear HS
                    have qL : q < 9223372036854775807 := by omega
                    go_wp2_with fail
                    rw [HR.out]
                    go_roundw
                    case rel =>
                      rw [← HR.out]
                      obtain ⟨S', hS'⟩ := TN.out
                      exact ⟨q + 1, S', at', ac', by omega, by go_num, hS'⟩
                    case measure => simp [intOf]; omega
              · obtain rfl : q = len1 := by omega
                have BB : Aside (Below w.heap.size w wr) := hT.2.2.2.2.2.2
                clear hT TT LT
                go_wp2
                go_ret
                exact ⟨rfl, BB.out⟩

end Go.Proofs.Ytimeggbjmcnnoaa
