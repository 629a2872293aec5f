/- The walk of WholeQuorums: two members who got ready by echoes alone got ready for the same, if no more vote for two things than may be corrupt. -/
import Derived.Test.YtlekbbpancaenaaVtT
import Derived.Deep.RegionHeld3
namespace Go.Proofs.Ytlekbbpancaenaa
open Go.RowKit Go.Shelf

namespace Vt
theorem wrap_all {m : Nat} (h : m ≤ 16) : ∃ p : Nat, IntKind.u32.wrap ((2 : Int) ^ m) = (p : Int) ∧ IntKind.u16.wrap ((p : Int) - 1) = ((2 ^ m - 1 : Nat) : Int) ∧ 1 ≤ p ∧ p ≤ 65536 := by
  have key : ∀ k : Fin 17, IntKind.u32.wrap ((2 : Int) ^ k.val) = ((2 ^ k.val : Nat) : Int) ∧ IntKind.u16.wrap (((2 ^ k.val : Nat) : Int) - 1) = ((2 ^ k.val - 1 : Nat) : Int) ∧ 1 ≤ 2 ^ k.val ∧ 2 ^ k.val ≤ 65536 := by decide +kernel
  exact ⟨_, key ⟨m, by omega⟩⟩
theorem test_minus {a t j : Nat} (ht : t < 65536) (hj : j < 16) : (a &&& (65535 - t)).testBit j = (a.testBit j && !t.testBit j) := by
  have e : 65535 - t = 2 ^ 16 - (t + 1) := by omega
  rw [Nat.testBit_and, e, Nat.testBit_two_pow_sub_succ (by omega), decide_eq_true hj, Bool.true_and]
/-- The sets of WholeQuorums. -/
structure Sets (m A c f t g s : Nat) : Prop where
  A6 : A < 65536
  c6 : c < 65536
  f6 : f < 65536
  t6 : t < 65536
  g6 : g < 65536
  s6 : s < 65536
  fm : ∀ j ∈ Cn.listS f, j < m
  sm : ∀ j ∈ Cn.listS s, j < m
  q : Cn.sizeS c ≤ Cn.faulty m → (!decide (Cn.echoes m ≤ Cn.sizeS f) || !decide (Cn.echoes m ≤ Cn.sizeS s)) = true
theorem sets_any {m sa sb sc : Nat} (hm1 : 1 ≤ m) (hm : m ≤ 16) : Sets m (2 ^ m - 1) (sc &&& (2 ^ m - 1)) (sa &&& (2 ^ m - 1)) ((sa &&& (2 ^ m - 1)) &&& (65535 - (sc &&& (2 ^ m - 1)))) (sb &&& (2 ^ m - 1)) ((sb &&& (2 ^ m - 1)) &&& (65535 - ((sa &&& (2 ^ m - 1)) &&& (65535 - (sc &&& (2 ^ m - 1)))))) := by
  have hA : 2 ^ m - 1 < 2 ^ 16 := by
    have : 2 ^ m ≤ 2 ^ 16 := Nat.pow_le_pow_right (by omega) hm
    omega
  have lt1 : ∀ x, x &&& (2 ^ m - 1) < 65536 := fun x => Nat.and_lt_two_pow (n := 16) _ hA
  have lt2 : ∀ x y, x < 65536 → x &&& y < 65536 := fun x y h => by rw [Nat.and_comm]; exact Nat.and_lt_two_pow (n := 16) _ h
  have bm : ∀ x j, (x &&& (2 ^ m - 1)).testBit j = true → j < m := fun x j h => by
    rw [Nat.testBit_and, Nat.testBit_two_pow_sub_one, Bool.and_eq_true] at h; exact of_decide_eq_true h.2
  have c6 := lt1 sc
  have t6 := lt2 (sa &&& (2 ^ m - 1)) (65535 - (sc &&& (2 ^ m - 1))) (lt1 sa)
  have sj : ∀ j, j < 16 → ((sb &&& (2 ^ m - 1)) &&& (65535 - ((sa &&& (2 ^ m - 1)) &&& (65535 - (sc &&& (2 ^ m - 1)))))).testBit j = true → j < m := fun j hj h => by
    rw [test_minus t6 hj, Bool.and_eq_true] at h; exact bm sb j h.1
  refine ⟨hA, c6, lt1 sa, t6, lt1 sb, lt2 _ _ (lt1 sb), fun j hj => bm sa j (Cn.mem_list.1 hj).2, fun j hj => sj j (Cn.mem_list.1 hj).1 (Cn.mem_list.1 hj).2, fun hc => ?_⟩
  refine quorums hm1 hm (fun j _ h => bm sa j h) sj (fun j hj h => ?_) hc
  rw [Nat.testBit_and, Bool.and_eq_true, test_minus t6 hj, Bool.and_eq_true, test_minus c6 hj] at h
  obtain ⟨h1, _, h3⟩ := h
  rw [h1] at h3
  simpa using h3
end Vt

theorem index82 (a b : Value) (k : Nat) (hk : k = 0 ∨ k = 1) (W : World) : (Instr.index 82 (.agg #[a, b]) (.int .i64 (k : Int))).run Try.prog W = .ok (if k = 0 then a else b) W := by
  have u := Try.underlying82
  have z := Try.sizeOf26
  have g := Try.isAgg26
  rcases hk with rfl | rfl
  · simp [Instr.index, run_underlying u, asIntOf, z, g, go_sem]
  · simp [Instr.index, run_underlying u, asIntOf, z, g, go_sem]
/-- A block of two cells. -/
def R2 (w : World) (b : Nat) (t : TypeId) (v0 v1 : Value) : Prop := w.heap[b]? = some (.cells #[v0, v1] t (0, 0))
theorem R2.lt {w : World} {b : Nat} {t : TypeId} {v0 v1 : Value} (h : R2 w b t v0 v1) : b < w.heap.size := (Array.getElem?_eq_some_iff.1 h).1
theorem R2.later {w w' : World} {b : Nat} {t : TypeId} {v0 v1 : Value} (h : R2 w b t v0 v1) (hb : Below w.heap.size w w') : R2 w' b t v0 v1 := (hb.block b h.lt).trans h
theorem R2.new (w : World) (t : TypeId) (v0 v1 : Value) : R2 (w.alloc (.cells #[v0, v1] t)) w.heap.size t v0 v1 := heap_alloc_new w _
theorem R2.cells {w : World} {b : Nat} {t : TypeId} {v0 v1 : Value} (h : R2 w b t v0 v1) : w.cell? ⟨b, 0, none⟩ = some v0 ∧ w.cell? ⟨b, 1, none⟩ = some v1 := ⟨cell_of_row w b 0 _ t _ h, cell_of_row w b 1 _ t _ h⟩
theorem R2.frozen {w : World} {b : Nat} {t : TypeId} {v0 v1 : Value} (h : R2 w b t v0 v1) (i : Nat) : w.frozen? ⟨b, i, none⟩ = false := frozen_of_row w b i _ t h
/-- A number does not lie in a case's box. -/
theorem c5_ne {w : World} {P b o : Nat} {e r d : Bool} {a1 a2 : Option Addr} {n1 n2 c1 c2 : Nat} {k : IntKind} {v : Int} (h : C5 w P (.bool e) (.bool r) (.bool d) (.slice a1 n1 c1) (.slice a2 n2 c2)) (hc : w.cell? ⟨b, o, none⟩ = some (.int k v)) : b ≠ P := by
  rintro rfl
  rw [cell_of_row w b o _ 35 _ h] at hc
  match o, hc with
  | 0, hc => simp at hc
  | 1, hc => simp at hc
  | 2, hc => simp at hc
  | 3, hc => simp at hc
  | 4, hc => simp at hc
  | o + 5, hc => simp at hc
theorem atN_set5 {w : World} {P : Nat} {a : Option Addr} {l : List Nat} (h : AtN w a l) (hne : ∀ ad, a = some ad → l ≠ [] → ad.block ≠ P) (u0 u1 u2 u3 u4 : Value) :
    AtN (((((w.setCell ⟨P, 0, none⟩ u0).setCell ⟨P, 1, none⟩ u1).setCell ⟨P, 2, none⟩ u2).setCell ⟨P, 3, none⟩ u3).setCell ⟨P, 4, none⟩ u4) a l := by
  rcases h with rfl | ⟨b, off, rfl, hc⟩
  · exact .inl rfl
  · by_cases hl : l = []
    · exact .inl hl
    · refine .inr ⟨b, off, rfl, fun j x hx => ?_⟩
      have e : ∀ (W : World) (i : Nat) (u : Value), (W.setCell ⟨P, i, none⟩ u).cell? ⟨b, off + j, none⟩ = W.cell? ⟨b, off + j, none⟩ := fun W i u => World.cell?_of_block (Below.heap_setCell _ _ _ _ (show b ≠ P from hne ⟨b, off, none⟩ rfl hl))
      rw [e, e, e, e, e]; exact hc j x hx
theorem undrew {W w4 : World} {o : Obj} (h : Below (W.drew.alloc o).heap.size (W.drew.alloc o) w4) : Below (W.alloc o).heap.size (W.alloc o) w4 := ⟨h.os, h.tape, h.output, h.size, h.block⟩
/-- The state of the inner loop. -/
structure QSt (w0 w : World) (j : Nat) (c : Vt.Cs) (a1 a2 : Option Addr) (c1 c2 : Nat) (a : Option Addr) (L : List Nat) (b : ByteArray) (m : Nat) : Prop where
  k : Kept w0 w j c a1 a2 c1 c2
  l : AtN w a L
  ne : ∀ ad, a = some ad → L ≠ [] → ad.block ≠ w0.heap.size
  q : Vt.QInv b L m j c
theorem qst_next_a {w0 w4 W : World} {j : Nat} {c : Vt.Cs} {a1 a2 b1 b2 : Option Addr} {c1 c2 k1 k2 : Nat} {a : Option Addr} {L : List Nat} {b : ByteArray} {m : Nat} {t : Vt.Told} (o : Obj) (h : QSt w0 W j c a1 a2 c1 c2 a L b m)
    (t1 : Vt.At w4 b1 t.c.echoes) (t2 : Vt.At w4 b2 t.c.readies) (hb : Below W.heap.size W w4) (f1 : Fr W.heap.size b1) (f2 : Fr W.heap.size b2) (hs : t.c.Small) (n1 : t.c.echoes.length ≤ j + 1) (n2 : t.c.readies.length ≤ j + 1) (hq : Vt.QInv b L m (j + 1) t.c) :
    QSt w0 ((((((w4.setCell ⟨w0.heap.size, 0, none⟩ (.bool t.c.echoed)).setCell ⟨w0.heap.size, 1, none⟩ (.bool t.c.readied)).setCell ⟨w0.heap.size, 2, none⟩ (.bool t.c.done)).setCell ⟨w0.heap.size, 3, none⟩ (.slice b1 t.c.echoes.length k1)).setCell ⟨w0.heap.size, 4, none⟩ (.slice b2 t.c.readies.length k2)).alloc o) (j + 1) t.c b1 b2 k1 k2 a L b m := by
  have hC := h.k.at_.1.later hb
  obtain ⟨x1, _⟩ := next_box (w := W) (outs := []) (ao := none) (c1 := k1) (c2 := k2) o hC t1 t2 (.inl rfl) f1 f2 (Fr.none _) h.k.at_.1.lt
  exact ⟨⟨x1, next_below (below_step h.k.below hb) (Nat.le_refl _) hC.lt _ _ _ _ _ o, hs, n1, n2⟩, atN_later ((Below.refl _ _).alloc (Nat.le_refl _) o) (atN_set5 (atN_later hb h.l) h.ne _ _ _ _ _), h.ne, hq⟩
theorem qst_next_b {w0 w4 W : World} {j : Nat} {c : Vt.Cs} {a1 a2 b1 b2 : Option Addr} {c1 c2 k1 k2 : Nat} {a : Option Addr} {L : List Nat} {b : ByteArray} {m : Nat} {t : Vt.Told} (o : Obj) (h : QSt w0 W j c a1 a2 c1 c2 a L b m)
    (t1 : Vt.At w4 b1 t.c.echoes) (t2 : Vt.At w4 b2 t.c.readies) (hb : Below (W.alloc o).heap.size (W.alloc o) w4) (f1 : Fr (W.alloc o).heap.size b1) (f2 : Fr (W.alloc o).heap.size b2) (hs : t.c.Small) (n1 : t.c.echoes.length ≤ j + 1) (n2 : t.c.readies.length ≤ j + 1) (hq : Vt.QInv b L m (j + 1) t.c) (u0 u1 u2 u3 u4 : Value) :
    QSt w0 (((((((((((w4.setCell ⟨W.heap.size, 0, none⟩ u0).setCell ⟨W.heap.size, 1, none⟩ u1).setCell ⟨W.heap.size, 2, none⟩ u2).setCell ⟨W.heap.size, 3, none⟩ u3).setCell ⟨W.heap.size, 4, none⟩ u4).setCell ⟨w0.heap.size, 0, none⟩ (.bool t.c.echoed)).setCell ⟨w0.heap.size, 1, none⟩ (.bool t.c.readied)).setCell ⟨w0.heap.size, 2, none⟩ (.bool t.c.done)).setCell ⟨w0.heap.size, 3, none⟩ (.slice b1 t.c.echoes.length k1)).setCell ⟨w0.heap.size, 4, none⟩ (.slice b2 t.c.readies.length k2))) (j + 1) t.c b1 b2 k1 k2 a L b m := by
  have ha : Below W.heap.size W (W.alloc o) := (Below.refl _ W).alloc (Nat.le_refl _) o
  have hC := h.k.at_.1.later (below_step ha hb)
  have hlt := h.k.at_.1.lt
  have hC2 : C5 (((((w4.setCell ⟨W.heap.size, 0, none⟩ u0).setCell ⟨W.heap.size, 1, none⟩ u1).setCell ⟨W.heap.size, 2, none⟩ u2).setCell ⟨W.heap.size, 3, none⟩ u3).setCell ⟨W.heap.size, 4, none⟩ u4) w0.heap.size _ _ _ _ _ := ((((hC.far (by omega) u0).far (by omega) u1).far (by omega) u2).far (by omega) u3).far (by omega) u4
  have q1 := at_set5 t1 (b := W.heap.size) (fun ad e => .inl (by have := f1 ad e; rw [World.size_alloc] at this; omega)) u0 u1 u2 u3 u4
  have q2 := at_set5 t2 (b := W.heap.size) (fun ad e => .inl (by have := f2 ad e; rw [World.size_alloc] at this; omega)) u0 u1 u2 u3 u4
  have q3 := at_set5 q1 (b := w0.heap.size) (fun ad e => .inl (by have := f1 ad e; rw [World.size_alloc] at this; omega)) (.bool t.c.echoed) (.bool t.c.readied) (.bool t.c.done) (.slice b1 t.c.echoes.length k1) (.slice b2 t.c.readies.length k2)
  have q4 := at_set5 q2 (b := w0.heap.size) (fun ad e => .inl (by have := f2 ad e; rw [World.size_alloc] at this; omega)) (.bool t.c.echoed) (.bool t.c.readied) (.bool t.c.done) (.slice b1 t.c.echoes.length k1) (.slice b2 t.c.readies.length k2)
  have hl : AtN w4 a L := atN_later hb (atN_later ha h.l)
  have hlb : ∀ ad, a = some ad → L ≠ [] → ad.block ≠ W.heap.size := fun ad e hne => by
    rcases h.l with h0 | ⟨bb, off, e2, hc⟩
    · exact absurd h0 hne
    · rw [e2] at e
      obtain rfl := Option.some.inj e
      have hp : 0 < L.length := List.length_pos_iff.2 hne
      have := World.block_lt_of_cell? _ _ (hc 0 L[0] (List.getElem?_eq_getElem hp))
      dsimp only at this ⊢
      omega
  have hbl := below_set5 (below_set5 (below_step (below_step h.k.below ha) hb) (b := W.heap.size) (by have := h.k.below.size; omega) u0 u1 u2 u3 u4) (b := w0.heap.size) (Nat.le_refl _) (.bool t.c.echoed) (.bool t.c.readied) (.bool t.c.done) (.slice b1 t.c.echoes.length k1) (.slice b2 t.c.readies.length k2)
  exact ⟨⟨⟨hC2.set _ _ _ _ _, q3, q4⟩, hbl, hs, n1, n2⟩, atN_set5 (atN_set5 hl hlb u0 u1 u2 u3 u4) h.ne _ _ _ _ _, h.ne, hq⟩

set_option maxHeartbeats 16000000 in
set_option maxRecDepth 100000 in
theorem quorums_walk (n sa sb sc : Nat) (xa xb : ByteArray) (w : World) (ha : sa < 65536) (hb : sb < 65536) (hc : sc < 65536) :
    Calls Try.prog 11 #[.int .u8 (n : Int), .agg #[.int .u16 (sa : Int), .int .u16 (sb : Int), .int .u16 (sc : Int)], .agg #[.string xa, .string xb]] w fun z w' => z = .returned (.bool true) ∧ Below w.heap.size w w' := by
  have WK : Aside (∀ W, _) := fun W => works_any W
  obtain ⟨m, hm⟩ : ∃ m : Nat, m = n % 16 + 1 := ⟨_, rfl⟩
  have hmm : (n : Int) % 16 + 1 = (m : Int) := by omega
  have hm0 : (n : Int) % 16 = (m : Int) - 1 := by omega
  have m1 : 1 ≤ m := by omega
  have m16 : m ≤ 16 := by omega
  obtain ⟨p, hp1, hp2, hp3, hp4⟩ := Vt.wrap_all m16
  have i1 : (1 : Int) ≤ (m : Int) := by omega
  have i2 : (m : Int) ≤ 16 := by omega
  have i3 : (0 : Int) ≤ (m : Int) := by omega
  clear hm
  have i4 : (1 : Int) ≤ (p : Int) := by omega
  have i5 : (p : Int) ≤ 65536 := by omega
  clear hp3 hp4
  have ST0 := Vt.sets_any (sa := sa) (sb := sb) (sc := sc) m1 m16
  have g1 := u16_and_nat sc (2 ^ m - 1) hc ST0.A6
  have g2 := u16_and_nat sa (2 ^ m - 1) ha ST0.A6
  have g3 := u16_and_nat sb (2 ^ m - 1) hb ST0.A6
  have g4 := u16_andNot_nat (sa &&& (2 ^ m - 1)) (sc &&& (2 ^ m - 1)) ST0.f6 ST0.c6
  have g5 := u16_andNot_nat (sb &&& (2 ^ m - 1)) ((sa &&& (2 ^ m - 1)) &&& (65535 - (sc &&& (2 ^ m - 1)))) ST0.g6 ST0.t6
  obtain ⟨ss, hss⟩ : ∃ ss, ss = (sb &&& (2 ^ m - 1)) &&& (65535 - ((sa &&& (2 ^ m - 1)) &&& (65535 - (sc &&& (2 ^ m - 1))))) := ⟨_, rfl⟩
  rw [← hss] at ST0 g5
  clear hss
  obtain ⟨ts, hts⟩ : ∃ ts, ts = (sa &&& (2 ^ m - 1)) &&& (65535 - (sc &&& (2 ^ m - 1))) := ⟨_, rfl⟩
  rw [← hts] at ST0 g4 g5
  clear hts
  generalize sa &&& (2 ^ m - 1) = fs at *
  generalize sb &&& (2 ^ m - 1) = gs at *
  generalize sc &&& (2 ^ m - 1) = cs at *
  have ST : Aside (Vt.Sets m (2 ^ m - 1) cs fs ts gs ss) := ST0
  clear ST0 ha hb hc
  have SZ : Aside (∀ W, Calls Try.prog 32 #[.int .u16 (cs : Nat)] W fun e w' => e = .returned (.int .i64 (Cn.sizeS cs : Nat)) ∧ Drew W w') := fun W => size_any cs W ST.out.c6
  have FA : Aside (∀ W, Calls Try.prog 33 #[.int .i64 (m : Int)] W fun e w' => e = .returned (.int .i64 (Cn.faulty (m : Int) : Nat)) ∧ w' = W) := fun W => faulty_any m W
  have LI0 : Aside (∀ W, Calls Try.prog 34 #[.int .u16 (fs : Nat)] W fun e w' => ∃ a cap, e = .returned (.slice a (Cn.sizeS fs) cap) ∧ AtN w' a (Cn.listS fs) ∧ Below W.heap.size W w') := fun W => list_any fs W ST.out.f6
  have LI1 : Aside (∀ W, Calls Try.prog 34 #[.int .u16 (ss : Nat)] W fun e w' => ∃ a cap, e = .returned (.slice a (Cn.sizeS ss) cap) ∧ AtN w' a (Cn.listS ss) ∧ Below W.heap.size W w') := fun W => list_any ss W ST.out.s6
  have bz0 := Cn.size_le fs
  have bz1 := Cn.size_le ss
  obtain ⟨n0, hn0⟩ : ∃ n0, n0 = Cn.sizeS fs := ⟨_, rfl⟩
  obtain ⟨n1, hn1⟩ : ∃ n1, n1 = Cn.sizeS ss := ⟨_, rfl⟩
  have HN0 : Aside (Cn.sizeS fs = n0) := hn0.symm
  have HN1 : Aside (Cn.sizeS ss = n1) := hn1.symm
  rw [← hn0] at LI0 bz0
  rw [← hn1] at LI1 bz1
  clear hn0 hn1
  go_enter Try.func11, Try.ntmps11
  go_wp2_with fail
  refine (WK.out _).mono ?_
  rintro z V ⟨rfl, hbV⟩
  clear WK
  have b0 : V.cell? ⟨w.heap.size, 0, none⟩ = some (.int .u16 (sa : Int)) := cell_later hbV (by simp)
  have b1 : V.cell? ⟨w.heap.size, 1, none⟩ = some (.int .u16 (sb : Int)) := cell_later hbV (by simp)
  have b2 : V.cell? ⟨w.heap.size, 2, none⟩ = some (.int .u16 (sc : Int)) := cell_later hbV (by simp)
  have d0 : V.cell? ⟨w.heap.size + 1, 0, none⟩ = some (.string xa) := cell_later hbV (by simp)
  have d1 : V.cell? ⟨w.heap.size + 1, 1, none⟩ = some (.string xb) := cell_later hbV (by simp)
  have B0 : Aside (Below w.heap.size w V) := below_step (((Below.refl _ w).alloc (Nat.le_refl _) _).alloc (by simp) _) hbV
  have ee := eq_arr xa xb
  clear hbV
  by_cases h1 : (100 : Int) < (xa.size : Int)
  · go_wp2
    go_ret
    exact ⟨rfl, B0.out⟩
  by_cases h2 : (100 : Int) < (xb.size : Int)
  · go_wp2
    go_ret
    exact ⟨rfl, B0.out⟩
  by_cases h3 : xa = xb
  · rw [decide_eq_true h3] at ee
    clear h3
    go_wp2
    go_ret
    exact ⟨rfl, B0.out⟩
  rw [decide_eq_false h3] at ee
  clear h3
  have X0 : Aside (xa.size ≤ 100) := (by omega : xa.size ≤ 100)
  have X1 : Aside (xb.size ≤ 100) := (by omega : xb.size ≤ 100)
  go_wp2_with fail
  refine (SZ.out _).mono ?_
  rintro z V1 ⟨rfl, hd⟩
  have B1 : Aside (Below w.heap.size w V1) := below_step B0.out (drew_below hd)
  replace b0 := drew_cell hd b0
  replace b1 := drew_cell hd b1
  replace b2 := drew_cell hd b2
  replace d0 := drew_cell hd d0
  replace d1 := drew_cell hd d1
  clear SZ hd B0
  go_wp2_with fail
  refine (FA.out _).mono ?_
  rintro z V2 ⟨rfl, hw⟩
  replace hw := hw.symm; subst hw
  clear FA
  by_cases h4 : Cn.faulty (m : Int) < Cn.sizeS cs
  · have h4' : ((Cn.faulty (m : Int) : Nat) : Int) < (Cn.sizeS cs : Int) := by omega
    go_wp2
    go_ret
    exact ⟨rfl, B1.out⟩
  have QQ := ST.out.q (by omega)
  rw [HN0.out, HN1.out] at QQ
  have h4' : ¬ ((Cn.faulty (m : Int) : Nat) : Int) < (Cn.sizeS cs : Int) := by omega
  have DL := World.block_lt_of_cell? _ _ d0
  dsimp only at DL
  obtain ⟨rd0, hrd0⟩ : ∃ rd0, rd0 = decide (Cn.echoes m ≤ n0) := ⟨_, rfl⟩
  obtain ⟨rd1, hrd1⟩ : ∃ rd1, rd1 = decide (Cn.echoes m ≤ n1) := ⟨_, rfl⟩
  rw [← hrd0, ← hrd1] at QQ
  have RR : Aside (rd0 = decide (Cn.echoes m ≤ n0) ∧ rd1 = decide (Cn.echoes m ≤ n1) ∧ (!rd0 || !rd1) = true) := ⟨hrd0, hrd1, QQ⟩
  clear hrd0 hrd1 QQ
  have S0 : Aside (∀ o, Below w.heap.size w (V1.alloc o) ∧ (V1.alloc o).cell? ⟨w.heap.size + 1, 0, none⟩ = some (.string xa) ∧ (V1.alloc o).cell? ⟨w.heap.size + 1, 1, none⟩ = some (.string xb)) := fun o =>
    ⟨B1.out.alloc B1.out.size o, cell_later ((Below.refl _ V1).alloc (Nat.le_refl _) o) d0, cell_later ((Below.refl _ V1).alloc (Nat.le_refl _) o) d1⟩
  have S1 : Aside (R2 (V1.alloc (.cells #[.bool false, .bool false] 81)) V1.heap.size 81 (.bool false) (.bool false)) := R2.new V1 81 _ _
  go_wp2_with fail
  clear h4
  generalize hR : V1.heap.size = R at DL ⊢
  have SR : Aside (R2 (V1.alloc (.cells #[.bool false, .bool false] 81)) R 81 (.bool false) (.bool false) ∧ w.heap.size + 1 < R) := ⟨by rw [← hR]; exact S1.out, by omega⟩
  clear hR S1 DL h1 h2 h4' ee g1 g2 g3 g4 g5 hp1 hp2 hmm hm0 i1 i2 i3 i4 i5
  go_loopw [75] (fun i wr => ∃ k, k ≤ 2 ∧ i = .int .i64 (k : Nat) ∧ Aside (Below w.heap.size w wr ∧ R2 wr R 81 (.bool (decide (1 ≤ k) && rd0)) (.bool (decide (2 ≤ k) && rd1)) ∧ w.heap.size + 1 < R ∧ wr.cell? ⟨w.heap.size + 1, 0, none⟩ = some (.string xa) ∧ wr.cell? ⟨w.heap.size + 1, 1, none⟩ = some (.string xb))) (fun i _ => 2 - (intOf i).toNat)
  case atStart => exact ⟨0, by omega, rfl, (S0.out _).1, SR.out.1, SR.out.2, (S0.out _).2.1, (S0.out _).2.2⟩
  case round =>
    obtain ⟨k, hk, rfl, hU0⟩ := hrel
    clear S0 SR B1 b0 b1 b2 d0 d1
    have hk3 : k = 0 ∨ k = 1 ∨ k = 2 := by omega
    rcases hk3 with rfl | rfl | rfl
    · refine (?_ : ∀ U, (Below w.heap.size w U ∧ R2 U R 81 (.bool false) (.bool false) ∧ w.heap.size + 1 < U.heap.size ∧ U.cell? ⟨w.heap.size + 1, 0, none⟩ = some (.string xa) ∧ U.cell? ⟨w.heap.size + 1, 1, none⟩ = some (.string xb) ∧ w.heap.size + 1 < R) → Code.wp _ _ _ _ U) _ ⟨hU0.out.1, hU0.out.2.1, (by have := hU0.out.2.1.lt; have := hU0.out.2.2.1; omega), hU0.out.2.2.2.1, hU0.out.2.2.2.2, hU0.out.2.2.1⟩
      clear hU0
      intro U hU'
      have hU : Aside (Below w.heap.size w U ∧ R2 U R 81 (.bool false) (.bool false) ∧ w.heap.size + 1 < U.heap.size ∧ U.cell? ⟨w.heap.size + 1, 0, none⟩ = some (.string xa) ∧ U.cell? ⟨w.heap.size + 1, 1, none⟩ = some (.string xb) ∧ w.heap.size + 1 < R) := hU'
      clear hU'
      have ix : ∀ W, (Instr.index 82 (.agg #[.int .u16 (fs : Int), .int .u16 (ss : Int)]) (.int .i64 0)).run Try.prog W = .ok (.int .u16 (fs : Int)) W := fun W => by simpa using index82 (.int .u16 (fs : Int)) (.int .u16 (ss : Int)) 0 (by omega) W
      obtain ⟨y0, y1⟩ := hU.out.2.1.cells
      have dl := World.block_lt_of_cell? _ _ hU.out.2.2.2.1
      dsimp only at dl
      have rl := hU.out.2.1.lt
      go_wp2_with fail
      refine (LI0.out _).mono ?_
      rintro z w5 ⟨la, lc, rfl, hat, hb5⟩
      have Q0 : Aside (QSt U w5 0 Vt.Cs.none none none 0 0 la (Cn.listS fs) xa m) := by
        have hk := (Kept.start U).later hb5
        refine ⟨hk, hat, fun ad e hne => ?_, Vt.qinv_none _ _ _⟩
        rcases hat with h0 | ⟨bb, of, e2, hc⟩
        · exact absurd h0 hne
        · rw [e2] at e
          obtain rfl := Option.some.inj e
          have hp : 0 < (Cn.listS fs).length := List.length_pos_iff.2 hne
          exact c5_ne hk.at_.1 (hc 0 (Cn.listS fs)[0] (List.getElem?_eq_getElem hp))
      have HU : Aside (_ ∧ _ ∧ _) := hU.out
      clear hat hb5 y0 y1 dl rl hU
      go_wp2_with fail
      refine (?_ : ∀ V3, QSt U V3 0 Vt.Cs.none none none 0 0 la (Cn.listS fs) xa m → Code.wp _ _ _ _ V3) _ Q0.out
      clear Q0
      intro V3 hV3
      have Q0 : Aside (QSt U V3 0 Vt.Cs.none none none 0 0 la (Cn.listS fs) xa m) := hV3
      clear hV3
      go_loopw [82] (fun i wr => ∃ j c a1 a2 c1 c2, j ≤ n0 ∧ i = .int .i64 (j : Nat) ∧ Aside (QSt U wr j c a1 a2 c1 c2 la (Cn.listS fs) xa m)) (fun i _ => n0 - (intOf i).toNat)
      case atStart => exact ⟨0, Vt.Cs.none, none, none, 0, 0, Nat.zero_le _, rfl, Q0.out⟩
      case round =>
        obtain ⟨j, c, a1, a2, c1, c2, hj, rfl, hQ⟩ := hrel
        clear Q0
        have UB : Aside (Below U.heap.size U wr) := hQ.out.k.below
        have dd := cell_later UB.out HU.out.2.2.2.1
        have dl := World.block_lt_of_cell? _ _ dd
        dsimp only at dl
        have pl := hQ.out.k.at_.1.lt
        have ul : w.heap.size + 1 < U.heap.size := HU.out.2.2.1
        by_cases hlt : j < n0
        · have s1 : (j : Int) < (n0 : Int) := by omega
          have s2 : (0 : Int) ≤ (j : Int) := by omega
          obtain ⟨idn, hid⟩ : ∃ idn, (Cn.listS fs)[j]? = some idn := ⟨_, List.getElem?_eq_getElem (by rw [Cn.size_list, HN0.out]; exact hlt)⟩
          have ne : Cn.listS fs ≠ [] := fun e => by rw [e] at hid; simp at hid
          obtain ⟨bl, ol, rfl, hlc⟩ := hQ.out.l.resolve_left ne
          have lc0 := hlc j idn hid
          have ll := World.block_lt_of_cell? _ _ lc0
          dsimp only at ll
          obtain ⟨te, tq⟩ := Vt.qinv_step (id := idn) m1 m16 X0.out (Cn.list_nodup fs) hid (ST.out.fm idn (List.mem_of_getElem? hid)) hQ.out.q
          obtain ⟨t, ht⟩ : ∃ t, Vt.take c (2 ^ m - 1) 0 2 idn xa = t := ⟨_, rfl⟩
          have hl9 := Vt.take_len c (2 ^ m - 1) 0 2 idn xa
          have hs9 := Vt.take_small hQ.out.k.small (2 ^ m - 1) 0 2 idn xa
          rw [ht] at te tq hl9 hs9
          have TF : Aside (Vt.QInv xa (Cn.listS fs) m (j + 1) t.c ∧ t.c.Small ∧ t.c.echoes.length ≤ j + 1 ∧ t.c.readies.length ≤ j + 1) := ⟨tq, hs9, by have := hQ.out.k.n1; omega, by have := hQ.out.k.n2; omega⟩
          have TK : Aside (∀ W, Below wr.heap.size wr W → Calls Try.prog 15 #[.agg #[.bool c.echoed, .bool c.readied, .bool c.done, .slice a1 c.echoes.length c1, .slice a2 c.readies.length c2], .int .u16 ((2 ^ m - 1 : Nat) : Int), .int .u8 0, .int .i64 2, .int .u8 (idn : Nat), .string xa] W _) := fun W hb =>
            take_let (t := t) ht ⟨hQ.out.k.at_.2.1.later hb, hQ.out.k.at_.2.2.later hb, hQ.out.k.small, by have := hQ.out.k.n1; omega, by have := hQ.out.k.n2; omega⟩ ST.out.A6
          rw [te] at TK
          obtain ⟨q0, q1, q2, q3, q4⟩ := hQ.out.k.at_.1.cells
          have BV : Aside (Below wr.heap.size wr wr.drew ∧ ∀ o, Below wr.heap.size wr (wr.drew.alloc o)) := ⟨(Below.refl _ wr).drew, fun o => (Below.refl _ wr).drew.alloc (Nat.le_refl _) o⟩
          clear hid ne hlc te tq hl9 hs9 ht
          go_wp2_with fail
          clear lc0
          go_region_held3 (fun w' => w'.cell? ⟨U.heap.size, 0, none⟩ = some (.bool c.echoed) ∧ w'.cell? ⟨U.heap.size, 1, none⟩ = some (.bool c.readied) ∧ w'.cell? ⟨U.heap.size, 2, none⟩ = some (.bool c.done) ∧ w'.cell? ⟨U.heap.size, 3, none⟩ = some (.slice a1 c.echoes.length c1) ∧ w'.cell? ⟨U.heap.size, 4, none⟩ = some (.slice a2 c.readies.length c2) ∧ w'.cell? ⟨w.heap.size + 1, 0, none⟩ = some (.string xa))
            (first | go_keep)
            (first
              | (go_at_call 15; refine (TK.out wr.drew BV.out.1).mono ?_; rintro z w4 ⟨b1, k1, b2, k2, ao, co, rfl, hA⟩; have bb := below_step BV.out.1 hA.out.2.2.2.1; have C4 : Aside (C5 w4 U.heap.size _ _ _ _ _ ∧ Below wr.heap.size wr w4) := ⟨hQ.out.k.at_.1.later bb, bb⟩; have dd := cell_later bb dd; clear q0 q1 q2 q3 q4 bb; obtain ⟨q0, q1, q2, q3, q4⟩ := C4.out.1.cells)
              | (go_at_call 15; refine (TK.out (wr.drew.alloc (.cells #[.bool false, .bool false, .bool false, .slice none 0 0, .slice none 0 0] 35)) (BV.out.2 _)).mono ?_; rintro z w4 ⟨b1, k1, b2, k2, ao, co, rfl, hA⟩; have bb := below_step (BV.out.2 _) hA.out.2.2.2.1; have C4 : Aside (C5 w4 U.heap.size _ _ _ _ _ ∧ Below wr.heap.size wr w4 ∧ C5 w4 wr.heap.size (.bool false) (.bool false) (.bool false) (.slice none 0 0) (.slice none 0 0)) := ⟨hQ.out.k.at_.1.later bb, bb, (C5.new wr.drew _ _ _ _ _).later hA.out.2.2.2.1⟩; have dd := cell_later bb dd; clear q0 q1 q2 q3 q4 bb; obtain ⟨q0, q1, q2, q3, q4⟩ := C4.out.1.cells; obtain ⟨z0, z1, z2, z3, z4⟩ := C4.out.2.2.cells; have zf := C4.out.2.2.frozen; have zl := C4.out.2.2.lt; have n0 := Nat.ne_of_lt pl; have n1 := n0.symm; have n2 := Nat.ne_of_lt dl; have n3 := n2.symm)
              | fail)
          · have NX : Aside (∀ o, QSt U _ (j + 1) t.c b1 b2 k1 k2 (some ⟨bl, ol, none⟩) (Cn.listS fs) xa m) := fun o => qst_next_a (k1 := k1) (k2 := k2) o hQ.out hA.out.1 hA.out.2.1 C4.out.2 hA.out.2.2.2.2.1 hA.out.2.2.2.2.2.1 TF.out.2.1 TF.out.2.2.1 TF.out.2.2.2 TF.out.1
            have pf := C4.out.1.frozen
            have pl4 := C4.out.1.lt
            clear hQ hA C4 TK BV TF UB
            go_wp2
            go_roundw
            case rel => exact ⟨j + 1, t.c, b1, b2, k1, k2, by omega, by go_num, NX.out _⟩
            case measure => simp [intOf]; omega
          · have NX : Aside (∀ u0 u1 u2 u3 u4, QSt U _ (j + 1) t.c b1 b2 k1 k2 (some ⟨bl, ol, none⟩) (Cn.listS fs) xa m) := fun u0 u1 u2 u3 u4 => qst_next_b (k1 := k1) (k2 := k2) (.cells #[.bool false, .bool false, .bool false, .slice none 0 0, .slice none 0 0] 35) hQ.out hA.out.1 hA.out.2.1 (undrew hA.out.2.2.2.1) hA.out.2.2.2.2.1 hA.out.2.2.2.2.2.1 TF.out.2.1 TF.out.2.2.1 TF.out.2.2.2 TF.out.1 u0 u1 u2 u3 u4
            have pf := C4.out.1.frozen
            have pl4 := C4.out.1.lt
            clear hQ hA C4 TK BV TF UB
            go_wp2
            go_roundw
            case rel => exact ⟨j + 1, t.c, b1, b2, k1, k2, by omega, by go_num, NX.out _ _ _ _ _⟩
            case measure => simp [intOf]; omega
        · obtain rfl : j = n0 := by omega
          have RC := HU.out.2.1.later UB.out
          obtain ⟨y0, y1⟩ := RC.cells
          have yf := RC.frozen
          have yl := RC.lt
          obtain ⟨q0, q1, q2, q3, q4⟩ := hQ.out.k.at_.1.cells
          have hr : c.readied = rd0 := hQ.out.q.2.2.2.1.trans RR.out.1.symm
          rw [hr] at q1
          have NX : Aside (Below w.heap.size w (wr.setCell ⟨R, 0, none⟩ (.bool rd0)) ∧ R2 (wr.setCell ⟨R, 0, none⟩ (.bool rd0)) R 81 (.bool (decide (1 ≤ 0 + 1) && rd0)) (.bool (decide (2 ≤ 0 + 1) && rd1)) ∧ w.heap.size + 1 < R ∧ (wr.setCell ⟨R, 0, none⟩ (.bool rd0)).cell? ⟨w.heap.size + 1, 0, none⟩ = some (.string xa) ∧ (wr.setCell ⟨R, 0, none⟩ (.bool rd0)).cell? ⟨w.heap.size + 1, 1, none⟩ = some (.string xb)) := by
            have hlt2 := HU.out.2.2.2.2.2
            have e : ∀ i, (wr.setCell ⟨R, 0, none⟩ (.bool rd0)).cell? ⟨w.heap.size + 1, i, none⟩ = wr.cell? ⟨w.heap.size + 1, i, none⟩ := fun i => World.cell?_of_block (Below.heap_setCell _ _ _ _ (show w.heap.size + 1 ≠ R by omega))
            refine ⟨(below_step HU.out.1 UB.out).setCell (p := ⟨R, 0, none⟩) (show w.heap.size ≤ R by omega) _, ?_, hlt2, (e 0).trans (cell_later UB.out HU.out.2.2.2.1), (e 1).trans (cell_later UB.out HU.out.2.2.2.2.1)⟩
            exact row_set RC _
          clear hQ UB HU RC hr
          go_wp2
          go_roundw
          case rel => exact ⟨0 + 1, by omega, by go_num, NX.out⟩
          case measure => simp [intOf]
    · refine (?_ : ∀ U, (Below w.heap.size w U ∧ R2 U R 81 (.bool rd0) (.bool false) ∧ w.heap.size + 1 < U.heap.size ∧ U.cell? ⟨w.heap.size + 1, 0, none⟩ = some (.string xa) ∧ U.cell? ⟨w.heap.size + 1, 1, none⟩ = some (.string xb) ∧ w.heap.size + 1 < R) → Code.wp _ _ _ _ U) _ ⟨hU0.out.1, hU0.out.2.1, (by have := hU0.out.2.1.lt; have := hU0.out.2.2.1; omega), hU0.out.2.2.2.1, hU0.out.2.2.2.2, hU0.out.2.2.1⟩
      clear hU0
      intro U hU'
      have hU : Aside (Below w.heap.size w U ∧ R2 U R 81 (.bool rd0) (.bool false) ∧ w.heap.size + 1 < U.heap.size ∧ U.cell? ⟨w.heap.size + 1, 0, none⟩ = some (.string xa) ∧ U.cell? ⟨w.heap.size + 1, 1, none⟩ = some (.string xb) ∧ w.heap.size + 1 < R) := hU'
      clear hU'
      have ix : ∀ W, (Instr.index 82 (.agg #[.int .u16 (fs : Int), .int .u16 (ss : Int)]) (.int .i64 1)).run Try.prog W = .ok (.int .u16 (ss : Int)) W := fun W => by simpa using index82 (.int .u16 (fs : Int)) (.int .u16 (ss : Int)) 1 (by omega) W
      obtain ⟨y0, y1⟩ := hU.out.2.1.cells
      have dl := World.block_lt_of_cell? _ _ hU.out.2.2.2.1
      dsimp only at dl
      have rl := hU.out.2.1.lt
      go_wp2_with fail
      refine (LI1.out _).mono ?_
      rintro z w5 ⟨la, lc, rfl, hat, hb5⟩
      have Q0 : Aside (QSt U w5 0 Vt.Cs.none none none 0 0 la (Cn.listS ss) xb m) := by
        have hk := (Kept.start U).later hb5
        refine ⟨hk, hat, fun ad e hne => ?_, Vt.qinv_none _ _ _⟩
        rcases hat with h0 | ⟨bb, of, e2, hc⟩
        · exact absurd h0 hne
        · rw [e2] at e
          obtain rfl := Option.some.inj e
          have hp : 0 < (Cn.listS ss).length := List.length_pos_iff.2 hne
          exact c5_ne hk.at_.1 (hc 0 (Cn.listS ss)[0] (List.getElem?_eq_getElem hp))
      have HU : Aside (_ ∧ _ ∧ _) := hU.out
      clear hat hb5 y0 y1 dl rl hU
      go_wp2_with fail
      refine (?_ : ∀ V3, QSt U V3 0 Vt.Cs.none none none 0 0 la (Cn.listS ss) xb m → Code.wp _ _ _ _ V3) _ Q0.out
      clear Q0
      intro V3 hV3
      have Q0 : Aside (QSt U V3 0 Vt.Cs.none none none 0 0 la (Cn.listS ss) xb m) := hV3
      clear hV3
      go_loopw [82] (fun i wr => ∃ j c a1 a2 c1 c2, j ≤ n1 ∧ i = .int .i64 (j : Nat) ∧ Aside (QSt U wr j c a1 a2 c1 c2 la (Cn.listS ss) xb m)) (fun i _ => n1 - (intOf i).toNat)
      case atStart => exact ⟨0, Vt.Cs.none, none, none, 0, 0, Nat.zero_le _, rfl, Q0.out⟩
      case round =>
        obtain ⟨j, c, a1, a2, c1, c2, hj, rfl, hQ⟩ := hrel
        clear Q0
        have UB : Aside (Below U.heap.size U wr) := hQ.out.k.below
        have dd := cell_later UB.out HU.out.2.2.2.2.1
        have dl := World.block_lt_of_cell? _ _ dd
        dsimp only at dl
        have pl := hQ.out.k.at_.1.lt
        have ul : w.heap.size + 1 < U.heap.size := HU.out.2.2.1
        by_cases hlt : j < n1
        · have s1 : (j : Int) < (n1 : Int) := by omega
          have s2 : (0 : Int) ≤ (j : Int) := by omega
          obtain ⟨idn, hid⟩ : ∃ idn, (Cn.listS ss)[j]? = some idn := ⟨_, List.getElem?_eq_getElem (by rw [Cn.size_list, HN1.out]; exact hlt)⟩
          have ne : Cn.listS ss ≠ [] := fun e => by rw [e] at hid; simp at hid
          obtain ⟨bl, ol, rfl, hlc⟩ := hQ.out.l.resolve_left ne
          have lc0 := hlc j idn hid
          have ll := World.block_lt_of_cell? _ _ lc0
          dsimp only at ll
          obtain ⟨te, tq⟩ := Vt.qinv_step (id := idn) m1 m16 X1.out (Cn.list_nodup ss) hid (ST.out.sm idn (List.mem_of_getElem? hid)) hQ.out.q
          obtain ⟨t, ht⟩ : ∃ t, Vt.take c (2 ^ m - 1) 0 2 idn xb = t := ⟨_, rfl⟩
          have hl9 := Vt.take_len c (2 ^ m - 1) 0 2 idn xb
          have hs9 := Vt.take_small hQ.out.k.small (2 ^ m - 1) 0 2 idn xb
          rw [ht] at te tq hl9 hs9
          have TF : Aside (Vt.QInv xb (Cn.listS ss) m (j + 1) t.c ∧ t.c.Small ∧ t.c.echoes.length ≤ j + 1 ∧ t.c.readies.length ≤ j + 1) := ⟨tq, hs9, by have := hQ.out.k.n1; omega, by have := hQ.out.k.n2; omega⟩
          have TK : Aside (∀ W, Below wr.heap.size wr W → Calls Try.prog 15 #[.agg #[.bool c.echoed, .bool c.readied, .bool c.done, .slice a1 c.echoes.length c1, .slice a2 c.readies.length c2], .int .u16 ((2 ^ m - 1 : Nat) : Int), .int .u8 0, .int .i64 2, .int .u8 (idn : Nat), .string xb] W _) := fun W hb =>
            take_let (t := t) ht ⟨hQ.out.k.at_.2.1.later hb, hQ.out.k.at_.2.2.later hb, hQ.out.k.small, by have := hQ.out.k.n1; omega, by have := hQ.out.k.n2; omega⟩ ST.out.A6
          rw [te] at TK
          obtain ⟨q0, q1, q2, q3, q4⟩ := hQ.out.k.at_.1.cells
          have BV : Aside (Below wr.heap.size wr wr.drew ∧ ∀ o, Below wr.heap.size wr (wr.drew.alloc o)) := ⟨(Below.refl _ wr).drew, fun o => (Below.refl _ wr).drew.alloc (Nat.le_refl _) o⟩
          clear hid ne hlc te tq hl9 hs9 ht
          go_wp2_with fail
          clear lc0
          go_region_held3 (fun w' => w'.cell? ⟨U.heap.size, 0, none⟩ = some (.bool c.echoed) ∧ w'.cell? ⟨U.heap.size, 1, none⟩ = some (.bool c.readied) ∧ w'.cell? ⟨U.heap.size, 2, none⟩ = some (.bool c.done) ∧ w'.cell? ⟨U.heap.size, 3, none⟩ = some (.slice a1 c.echoes.length c1) ∧ w'.cell? ⟨U.heap.size, 4, none⟩ = some (.slice a2 c.readies.length c2) ∧ w'.cell? ⟨w.heap.size + 1, 1, none⟩ = some (.string xb))
            (first | go_keep)
            (first
              | (go_at_call 15; refine (TK.out wr.drew BV.out.1).mono ?_; rintro z w4 ⟨b1, k1, b2, k2, ao, co, rfl, hA⟩; have bb := below_step BV.out.1 hA.out.2.2.2.1; have C4 : Aside (C5 w4 U.heap.size _ _ _ _ _ ∧ Below wr.heap.size wr w4) := ⟨hQ.out.k.at_.1.later bb, bb⟩; have dd := cell_later bb dd; clear q0 q1 q2 q3 q4 bb; obtain ⟨q0, q1, q2, q3, q4⟩ := C4.out.1.cells)
              | (go_at_call 15; refine (TK.out (wr.drew.alloc (.cells #[.bool false, .bool false, .bool false, .slice none 0 0, .slice none 0 0] 35)) (BV.out.2 _)).mono ?_; rintro z w4 ⟨b1, k1, b2, k2, ao, co, rfl, hA⟩; have bb := below_step (BV.out.2 _) hA.out.2.2.2.1; have C4 : Aside (C5 w4 U.heap.size _ _ _ _ _ ∧ Below wr.heap.size wr w4 ∧ C5 w4 wr.heap.size (.bool false) (.bool false) (.bool false) (.slice none 0 0) (.slice none 0 0)) := ⟨hQ.out.k.at_.1.later bb, bb, (C5.new wr.drew _ _ _ _ _).later hA.out.2.2.2.1⟩; have dd := cell_later bb dd; clear q0 q1 q2 q3 q4 bb; obtain ⟨q0, q1, q2, q3, q4⟩ := C4.out.1.cells; obtain ⟨z0, z1, z2, z3, z4⟩ := C4.out.2.2.cells; have zf := C4.out.2.2.frozen; have zl := C4.out.2.2.lt; have n0 := Nat.ne_of_lt pl; have n1 := n0.symm; have n2 := Nat.ne_of_lt dl; have n3 := n2.symm)
              | fail)
          · have NX : Aside (∀ o, QSt U _ (j + 1) t.c b1 b2 k1 k2 (some ⟨bl, ol, none⟩) (Cn.listS ss) xb m) := fun o => qst_next_a (k1 := k1) (k2 := k2) o hQ.out hA.out.1 hA.out.2.1 C4.out.2 hA.out.2.2.2.2.1 hA.out.2.2.2.2.2.1 TF.out.2.1 TF.out.2.2.1 TF.out.2.2.2 TF.out.1
            have pf := C4.out.1.frozen
            have pl4 := C4.out.1.lt
            clear hQ hA C4 TK BV TF UB
            go_wp2
            go_roundw
            case rel => exact ⟨j + 1, t.c, b1, b2, k1, k2, by omega, by go_num, NX.out _⟩
            case measure => simp [intOf]; omega
          · have NX : Aside (∀ u0 u1 u2 u3 u4, QSt U _ (j + 1) t.c b1 b2 k1 k2 (some ⟨bl, ol, none⟩) (Cn.listS ss) xb m) := fun u0 u1 u2 u3 u4 => qst_next_b (k1 := k1) (k2 := k2) (.cells #[.bool false, .bool false, .bool false, .slice none 0 0, .slice none 0 0] 35) hQ.out hA.out.1 hA.out.2.1 (undrew hA.out.2.2.2.1) hA.out.2.2.2.2.1 hA.out.2.2.2.2.2.1 TF.out.2.1 TF.out.2.2.1 TF.out.2.2.2 TF.out.1 u0 u1 u2 u3 u4
            have pf := C4.out.1.frozen
            have pl4 := C4.out.1.lt
            clear hQ hA C4 TK BV TF UB
            go_wp2
            go_roundw
            case rel => exact ⟨j + 1, t.c, b1, b2, k1, k2, by omega, by go_num, NX.out _ _ _ _ _⟩
            case measure => simp [intOf]; omega
        · obtain rfl : j = n1 := by omega
          have RC := HU.out.2.1.later UB.out
          obtain ⟨y0, y1⟩ := RC.cells
          have yf := RC.frozen
          have yl := RC.lt
          obtain ⟨q0, q1, q2, q3, q4⟩ := hQ.out.k.at_.1.cells
          have hr : c.readied = rd1 := hQ.out.q.2.2.2.1.trans RR.out.2.1.symm
          rw [hr] at q1
          have NX : Aside (Below w.heap.size w (wr.setCell ⟨R, 1, none⟩ (.bool rd1)) ∧ R2 (wr.setCell ⟨R, 1, none⟩ (.bool rd1)) R 81 (.bool (decide (1 ≤ 1 + 1) && rd0)) (.bool (decide (2 ≤ 1 + 1) && rd1)) ∧ w.heap.size + 1 < R ∧ (wr.setCell ⟨R, 1, none⟩ (.bool rd1)).cell? ⟨w.heap.size + 1, 0, none⟩ = some (.string xa) ∧ (wr.setCell ⟨R, 1, none⟩ (.bool rd1)).cell? ⟨w.heap.size + 1, 1, none⟩ = some (.string xb)) := by
            have hlt2 := HU.out.2.2.2.2.2
            have e : ∀ i, (wr.setCell ⟨R, 1, none⟩ (.bool rd1)).cell? ⟨w.heap.size + 1, i, none⟩ = wr.cell? ⟨w.heap.size + 1, i, none⟩ := fun i => World.cell?_of_block (Below.heap_setCell _ _ _ _ (show w.heap.size + 1 ≠ R by omega))
            refine ⟨(below_step HU.out.1 UB.out).setCell (p := ⟨R, 1, none⟩) (show w.heap.size ≤ R by omega) _, ?_, hlt2, (e 0).trans (cell_later UB.out HU.out.2.2.2.1), (e 1).trans (cell_later UB.out HU.out.2.2.2.2.1)⟩
            exact row_set RC _
          clear hQ UB HU RC hr
          go_wp2
          go_roundw
          case rel => exact ⟨1 + 1, by omega, by go_num, NX.out⟩
          case measure => simp [intOf]
    · have R9 : R2 wr R 81 (.bool rd0) (.bool rd1) := hU0.out.2.1
      have B9 : Aside (Below w.heap.size w wr) := hU0.out.1
      obtain ⟨y0, y1⟩ := R9.cells
      have hq := RR.out.2.2
      clear hU0 R9 RR
      cases rd0 with
      | false =>
        clear hq
        go_wp2
        go_ret
        exact ⟨rfl, B9.out⟩
      | true =>
        cases rd1 with
        | false =>
          clear hq
          go_wp2
          go_ret
          exact ⟨rfl, B9.out⟩
        | true => cases hq
end Go.Proofs.Ytlekbbpancaenaa
