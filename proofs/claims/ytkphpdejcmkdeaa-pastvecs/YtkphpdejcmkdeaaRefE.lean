/- What the document's own one gives. -/
import Derived.Test.YtkphpdejcmkdeaaRefD
import Derived.Laws.ResultCell
namespace Go.Proofs.Ytkphpdejcmkdeaa
open Go.RowKit

/-- The world when one has read the kind. -/
def W2 (w : World) (k : Int) : World := (w.alloc (.cells #[.int .i64 0, .int .u64 0, .string ⟨#[]⟩, .int .u64 0] 59)).alloc (.cells #[.int .i64 k, .int .u64 0, .string ⟨#[]⟩, .int .u64 0] 59)

theorem w2_below (w : World) (k : Int) : Below w.heap.size w (W2 w k) := ((Below.refl _ w).alloc (Nat.le_refl _) _).alloc (by simp) _

set_option maxRecDepth 20000 in
set_option maxHeartbeats 2000000 in
theorem one_real (b off m cap at_ v x : Nat) (ok : Bool) (w : World) (hat : at_ < m) (h8 : m ≤ 8000) (c0 : w.cell? ⟨b, off + at_, none⟩ = some (.int .u8 3))
    (hV : Calls Try.prog 55 #[.slice (some ⟨b, off, none⟩) m cap, .int .i64 ((at_ : Int) + 1), .int .i64 8] (W2 w 3) fun e w' => e = .returned (.int .u64 (v : Int)) ∧ w' = W2 w 3)
    (hD : Calls Try.prog 54 #[.int .u64 (v : Int)] (W2 w 3) fun e w' => e = .returned (.tuple #[.int .u64 (x : Int), .bool ok]) ∧ w' = W2 w 3) :
    Calls Try.prog 42 #[.slice (some ⟨b, off, none⟩) m cap, .int .i64 (at_ : Nat)] w fun e w' => e = .returned (.tuple #[.agg #[.int .i64 3, .int .u64 0, .string ⟨#[]⟩, .int .u64 (x : Int)], .int .i64 9]) ∧ Below w.heap.size w w' := by
  have hb : Aside (∀ o1 o2, Below w.heap.size w ((w.alloc o1).alloc o2)) := fun o1 o2 => ((Below.refl _ w).alloc (Nat.le_refl _) o1).alloc (by simp) o2
  have c1 : ∀ o, (w.alloc o).cell? ⟨b, off + at_, none⟩ = some (.int .u8 3) := fun o => by rw [World.cell?_alloc_past _ _ _ (World.block_lt_of_cell? w _ c0)]; exact c0
  have t1 : (at_ : Int) < (m : Int) := by omega
  unfold W2 at hV hD
  go_enter Try.func42, Try.ntmps42
  go_wp2_with fail
  refine hV.mono ?_
  rintro e w' ⟨rfl, rfl⟩
  go_wp2_with fail
  refine hD.mono ?_
  rintro e w' ⟨rfl, rfl⟩
  go_wp2
  refine ⟨rfl, .tuple #[.agg #[.int .i64 3, .int .u64 0, .string ⟨#[]⟩, .int .u64 (x : Int)], .int .i64 9], ?_, rfl, hb.out _ _⟩
  simp [results, Try.results42, go_sem]

set_option maxRecDepth 20000 in
set_option maxHeartbeats 2000000 in
theorem one_num (b off m cap at_ size v k : Nat) (w : World) (hat : at_ < m) (h8 : m ≤ 8000) (hk : k ≤ 255) (hs : size ≤ 255) (hk3 : ((k : Int) == 3) = false) (hk2 : ((k : Int) == 2) = false) (c0 : w.cell? ⟨b, off + at_, none⟩ = some (.int .u8 (k : Int)))
    (hV : Calls Try.prog 55 #[.slice (some ⟨b, off, none⟩) m cap, .int .i64 ((at_ : Int) + 1), .int .i64 1] (W2 w k) fun e w' => e = .returned (.int .u64 (size : Int)) ∧ w' = W2 w k)
    (hN : Calls Try.prog 55 #[.slice (some ⟨b, off, none⟩) m cap, .int .i64 ((at_ : Int) + 2), .int .i64 (min (size : Int) 8)] (W2 w k) fun e w' => e = .returned (.int .u64 (v : Int)) ∧ w' = W2 w k) :
    Calls Try.prog 42 #[.slice (some ⟨b, off, none⟩) m cap, .int .i64 (at_ : Nat)] w fun e w' => e = .returned (.tuple #[.agg #[.int .i64 k, .int .u64 (v : Int), .string ⟨#[]⟩, .int .u64 0], .int .i64 ((2 + size : Nat) : Int)]) ∧ Below w.heap.size w w' := by
  have hb : Aside (∀ o1 o2, Below w.heap.size w ((w.alloc o1).alloc o2)) := fun o1 o2 => ((Below.refl _ w).alloc (Nat.le_refl _) o1).alloc (by simp) o2
  have c1 : ∀ o, (w.alloc o).cell? ⟨b, off + at_, none⟩ = some (.int .u8 (k : Int)) := fun o => by rw [World.cell?_alloc_past _ _ _ (World.block_lt_of_cell? w _ c0)]; exact c0
  have t1 : (at_ : Int) < (m : Int) := by omega
  unfold W2 at hV hN
  go_enter Try.func42, Try.ntmps42
  go_wp2_with fail
  refine hV.mono ?_
  rintro e w' ⟨rfl, rfl⟩
  go_wp2_with fail
  refine hN.mono ?_
  rintro e w' ⟨rfl, rfl⟩
  go_wp2
  refine ⟨rfl, .tuple #[.agg #[.int .i64 (k : Int), .int .u64 (v : Int), .string ⟨#[]⟩, .int .u64 0], .int .i64 ((2 + size : Nat) : Int)], ?_, rfl, hb.out _ _⟩
  simp [results, Try.results42, go_sem]

set_option maxRecDepth 20000 in
/-- A piece of bytes: the slice, and its text. -/
theorem piece {w : World} {a : Option Addr} {bs : List UInt8} (m cap st en : Nat) (h : AtB w a bs) (hm : bs.length = m) (hc : m ≤ cap) (h1 : st ≤ en) (h2 : en ≤ m) :
    ∃ V, (∀ W, (Instr.slice 54 (.slice a m cap) (some (.int .i64 (st : Int))) (some (.int .i64 (en : Int))) none).run Try.prog W = .ok V W) ∧ (∀ W, (Instr.sliceAt 54 (.slice a m cap) (some (.int .i64 (st : Int))) (some (.int .i64 (en : Int))) none).run Try.prog W = .ok V W) ∧
      ∀ w', AtB w' a bs → (convert 54 9 V).run Try.prog w' = .ok (.string ⟨((bs.drop st).take (en - st)).toArray⟩) w' := by
  have e1 : ∀ W, (Instr.slice 54 (.slice a m cap) (some (.int .i64 (st : Int))) (some (.int .i64 (en : Int))) none).run Try.prog W = .ok (.slice (if cap = st then a else a.map (·.add st)) (en - st) (cap - st)) W := by
    intro W
    have hs := Try.sizeOf5
    have hl := run_slice_lh (P := Try.prog) (w := W) 54 a m cap Try.underlying54 .i64 .i64 (st : Int) (en : Int) (by omega) (by omega) (by omega)
    rw [hl]
    show ((sizeOf 5).run Try.prog W).andThen _ = _
    rw [hs]
    show Result.ok (Value.slice (if cap = (st : Int).toNat then a else a.map (·.add ((st : Int).toNat * 1))) ((en : Int).toNat - (st : Int).toNat) (cap - (st : Int).toNat)) W = _
    simp only [Int.toNat_natCast, Nat.mul_one]
  refine ⟨_, e1, fun W => ?_, fun w' hw => ?_⟩
  · rw [run_sliceAt_slice (P := Try.prog) (w := W) 54 _ _ _ _ Try.underlying54]
    exact e1 W
  · have hlen : ((bs.drop st).take (en - st)).length = en - st := by rw [List.length_take, List.length_drop]; omega
    have hat : AtB w' (if cap = st then a else a.map (·.add st)) ((bs.drop st).take (en - st)) := by
      by_cases he : en = st
      · left; rw [he, Nat.sub_self]; simp
      · rcases hw with he' | ⟨b, off, rfl, hcs⟩
        · left; rw [he']; simp
        · rw [if_neg (by omega)]
          refine .inr ⟨b, off + st, ?_, fun j hj => ?_⟩
          · show some (Addr.add _ _) = _
            unfold Addr.add
            split <;> simp_all
          · rw [hlen] at hj
            rw [Nat.add_assoc, hcs (st + j) (by omega)]
            simp
    have := conv_bytes w' _ _ (cap - st) hat
    rw [hlen] at this
    exact this

set_option maxRecDepth 20000 in
set_option maxHeartbeats 2000000 in
theorem one_text (b off m cap at_ size v q st en : Nat) (V : Value) (txt : ByteArray) (w : World) (hat : at_ < m) (h8 : m ≤ 8000) (hs : size ≤ 255) (hq : q ≤ 8000) (_hen : en ≤ m) (_hst : st ≤ en)
    (m1 : min (v : Int) 8000 = (q : Int)) (m2 : min ((at_ : Int) + 2 + (size : Int) + (q : Int)) (m : Int) = (en : Int)) (m3 : min ((at_ : Int) + 2 + (size : Int)) (en : Int) = (st : Int))
    (c0 : w.cell? ⟨b, off + at_, none⟩ = some (.int .u8 2))
    (hV : Calls Try.prog 55 #[.slice (some ⟨b, off, none⟩) m cap, .int .i64 ((at_ : Int) + 1), .int .i64 1] (W2 w 2) fun e w' => e = .returned (.int .u64 (size : Int)) ∧ w' = W2 w 2)
    (hN : Calls Try.prog 55 #[.slice (some ⟨b, off, none⟩) m cap, .int .i64 ((at_ : Int) + 2), .int .i64 (min (size : Int) 8)] (W2 w 2) fun e w' => e = .returned (.int .u64 (v : Int)) ∧ w' = W2 w 2)
    (_s1 : ∀ W, (Instr.slice 54 (.slice (some ⟨b, off, none⟩) m cap) (some (.int .i64 (st : Int))) (some (.int .i64 (en : Int))) none).run Try.prog W = .ok V W)
    (s2 : ∀ W, (Instr.sliceAt 54 (.slice (some ⟨b, off, none⟩) m cap) (some (.int .i64 (st : Int))) (some (.int .i64 (en : Int))) none).run Try.prog W = .ok V W)
    (s3 : (convert 54 9 V).run Try.prog (W2 w 2) = .ok (.string txt) (W2 w 2)) :
    Calls Try.prog 42 #[.slice (some ⟨b, off, none⟩) m cap, .int .i64 (at_ : Nat)] w fun e w' => e = .returned (.tuple #[.agg #[.int .i64 2, .int .u64 0, .string txt, .int .u64 0], .int .i64 ((2 + size + q : Nat) : Int)]) ∧ Below w.heap.size w w' := by
  have hb : Aside (∀ o1 o2, Below w.heap.size w ((w.alloc o1).alloc o2)) := fun o1 o2 => ((Below.refl _ w).alloc (Nat.le_refl _) o1).alloc (by simp) o2
  have c1 : ∀ o, (w.alloc o).cell? ⟨b, off + at_, none⟩ = some (.int .u8 2) := fun o => by rw [World.cell?_alloc_past _ _ _ (World.block_lt_of_cell? w _ c0)]; exact c0
  have t1 : (at_ : Int) < (m : Int) := by omega
  unfold W2 at hV hN s3
  go_enter Try.func42, Try.ntmps42
  go_wp2_with fail
  refine hV.mono ?_
  rintro e w' ⟨rfl, rfl⟩
  go_wp2_with fail
  refine hN.mono ?_
  rintro e w' ⟨rfl, rfl⟩
  go_wp2
  refine ⟨rfl, .tuple #[.agg #[.int .i64 2, .int .u64 0, .string txt, .int .u64 0], .int .i64 ((2 + size + q : Nat) : Int)], ?_, rfl, hb.out _ _⟩
  simp [results, Try.results42, go_sem]

theorem val1_le (bs : List UInt8) : Pk.val (bs.take 1) ≤ 255 := by
  have := Pk.val_lt (bs.take 1)
  have h : (bs.take 1).length ≤ 1 := by rw [List.length_take]; omega
  have : 256 ^ (bs.take 1).length ≤ 256 ^ 1 := Nat.pow_le_pow_right (by omega) h
  omega

theorem dec_lt {c : Nat} (h : c < 18446744073709551616) : Fl.dec c < 18446744073709551616 := by
  unfold Fl.dec
  split
  · exact Fl.raw_lt h
  · omega

theorem drop_drop1 (bs : List UInt8) (p : Nat) : (bs.drop (p + 1)).drop 1 = bs.drop (p + 2) := by rw [List.drop_drop]

/-- What one is to give: a field, and how many bytes it would have; the field at that place, where one stands there. -/
def OnePost (bs : List UInt8) (at_ : Nat) (w : World) (e : Ending) (w' : World) : Prop :=
  ∃ (f : Pk.Fld) (cnt : Nat), e = .returned (.tuple #[.agg #[.int .i64 f.kind, .int .u64 (f.num.toNat : Int), .string f.text, .int .u64 (f.real.toNat : Int)], .int .i64 (cnt : Int)]) ∧ 2 ≤ cnt ∧ cnt ≤ 9000 ∧
    (∀ g r, Pk.fldP (bs.drop at_) = some (g, r) → f = g ∧ cnt = (Pk.encB g).length) ∧ Below w.heap.size w w'

theorem rone_any (a : Option Addr) (m cap at_ : Nat) (bs : List UInt8) (w : World) (hm : bs.length = m) (hcap : m ≤ cap) (hb : AtB w a bs) (hat : at_ < m) (h8 : m ≤ 8000) :
    Calls Try.prog 42 #[.slice a m cap, .int .i64 (at_ : Nat)] w (OnePost bs at_ w) := by
  have hl : at_ < bs.length := by omega
  have hat2 := hb
  rcases hb with he | ⟨b, off, rfl, hcs⟩
  · exfalso; rw [he] at hl; simp at hl
  have c0 := hcs at_ hl
  have hd : bs.drop at_ = bs[at_] :: bs.drop (at_ + 1) := List.drop_eq_getElem_cons hl
  have hW : ∀ k, AtB (W2 w k) (some ⟨b, off, none⟩) bs := fun k => atB_later (w2_below w k) hat2
  by_cases h3 : bs[at_] = 3
  · rw [h3] at c0 hd
    have hV := value_any (some ⟨b, off, none⟩) m cap (at_ + 1) 8 bs (W2 w 3) hm (hW 3) h8 (by omega) (by omega)
    have hv8 : Pk.val ((bs.drop (at_ + 1)).take 8) < 18446744073709551616 := Pk.val8_lt _ (by rw [List.length_take]; omega)
    have hD := rdecode_any (Pk.val ((bs.drop (at_ + 1)).take 8)) (W2 w 3) hv8
    refine (one_real b off m cap at_ _ _ _ w hat h8 c0 hV hD).mono ?_
    rintro e w' ⟨rfl, hbb⟩
    refine ⟨⟨3, 0, ⟨#[]⟩, UInt64.ofNat (Fl.dec (Pk.val ((bs.drop (at_ + 1)).take 8)))⟩, 9, ?_, by omega, by omega, ?_, hbb⟩
    · rw [Pk.u64_to (dec_lt hv8)]; rfl
    · intro g r hg
      rw [hd, Pk.fldP_3] at hg
      obtain ⟨⟨x, q⟩, hx, he⟩ := Option.map_eq_some_iff.1 hg
      simp only [Prod.mk.injEq] at he
      obtain ⟨rfl, rfl⟩ := he
      unfold Pk.realP at hx
      split at hx
      · simp only [Option.some.injEq, Prod.mk.injEq] at hx
        obtain ⟨rfl, rfl⟩ := hx
        refine ⟨rfl, ?_⟩
        rw [Pk.encB_3, List.length_cons, Pk.lo_length]
      · cases hx
  · have hk : bs[at_].toNat ≤ 255 := by have := bs[at_].toNat_lt; omega
    have hs := val1_le (bs.drop (at_ + 1))
    have cast1 : ((at_ + 1 : Nat) : Int) = (at_ : Int) + 1 := by omega
    have cast2 : ((at_ + 2 : Nat) : Int) = (at_ : Int) + 2 := by omega
    have cast3 : ((min (Pk.val ((bs.drop (at_ + 1)).take 1)) 8 : Nat) : Int) = min ((Pk.val ((bs.drop (at_ + 1)).take 1) : Nat) : Int) 8 := by omega
    have hV := fun k => value_any (some ⟨b, off, none⟩) m cap (at_ + 1) 1 bs (W2 w k) hm (hW k) h8 (by omega) (by omega)
    have hN := fun k => value_any (some ⟨b, off, none⟩) m cap (at_ + 2) (min (Pk.val ((bs.drop (at_ + 1)).take 1)) 8) bs (W2 w k) hm (hW k) h8 (by omega) (by omega)
    rw [cast1] at hV
    rw [cast2, cast3] at hN
    have hv8 : Pk.val ((bs.drop (at_ + 2)).take (min (Pk.val ((bs.drop (at_ + 1)).take 1)) 8)) < 18446744073709551616 := Pk.val8_lt _ (by rw [List.length_take]; omega)
    -- what numP says of these
    have key : ∀ x rr, Pk.numP (bs.drop (at_ + 1)) = some (x, rr) → Pk.val ((bs.drop (at_ + 1)).take 1) = Pk.nb x ∧ Pk.val ((bs.drop (at_ + 2)).take (min (Pk.val ((bs.drop (at_ + 1)).take 1)) 8)) = x ∧ rr = bs.drop (at_ + 2 + Pk.nb x) ∧ at_ + 2 + Pk.nb x ≤ bs.length := by
      intro x rr hx
      rcases ht : bs.drop (at_ + 1) with _ | ⟨n, t⟩
      · rw [ht] at hx; cases hx
      · have ht2 : bs.drop (at_ + 2) = t := by rw [← drop_drop1, ht]; rfl
        rw [ht] at hx
        simp only [Pk.numP] at hx
        split at hx
        · rename_i hc
          obtain ⟨q1, q2, q3⟩ := hc
          simp only [Option.some.injEq, Prod.mk.injEq] at hx
          obtain ⟨rfl, rfl⟩ := hx
          have e1 : Pk.val ((n :: t).take 1) = n.toNat := by simp [Pk.val]
          rw [e1, q3, ht2, Nat.min_eq_left q1]
          refine ⟨rfl, rfl, ?_, ?_⟩
          · rw [← ht2, List.drop_drop]
          · have : (bs.drop (at_ + 2)).length = t.length := by rw [ht2]
            rw [List.length_drop] at this
            have h2 : (bs.drop (at_ + 1)).length = t.length + 1 := by rw [ht]; rfl
            rw [List.length_drop] at h2
            omega
        · cases hx
    generalize hsz : Pk.val ((bs.drop (at_ + 1)).take 1) = size at hs hV hN hv8 key
    generalize hvv : Pk.val ((bs.drop (at_ + 2)).take (min size 8)) = v at hN hv8 key
    by_cases h2 : bs[at_] = 2
    · rw [h2] at c0 hd
      have en1 : min (at_ + 2 + size) (min (at_ + 2 + size + min v 8000) m) ≤ min (at_ + 2 + size + min v 8000) m := Nat.min_le_right _ _
      obtain ⟨V, s1, s2, s3⟩ := piece m cap (min (at_ + 2 + size) (min (at_ + 2 + size + min v 8000) m)) (min (at_ + 2 + size + min v 8000) m) hat2 hm hcap en1 (Nat.min_le_right _ _)
      refine (one_text b off m cap at_ size v (min v 8000) _ _ V _ w hat h8 hs (Nat.min_le_right _ _) (Nat.min_le_right _ _) en1 (by omega) (by omega) (by omega) c0 (hV 2) (hN 2) s1 s2 (s3 _ (hW 2))).mono ?_
      rintro e w' ⟨rfl, hbb⟩
      refine ⟨⟨2, 0, _, 0⟩, 2 + size + min v 8000, rfl, by omega, by omega, ?_, hbb⟩
      intro g r hg
      rw [hd, Pk.fldP_2] at hg
      obtain ⟨⟨s, q⟩, hx, he⟩ := Option.map_eq_some_iff.1 hg
      simp only [Prod.mk.injEq] at he
      obtain ⟨rfl, rfl⟩ := he
      unfold Pk.textP at hx
      split at hx
      · cases hx
      · rename_i x rr hnum
        obtain ⟨k1, k2, k3, k4⟩ := key x rr hnum
        split at hx
        · rename_i hc
          simp only [Option.some.injEq, Prod.mk.injEq] at hx
          obtain ⟨rfl, rfl⟩ := hx
          subst k2 k1 k3
          have hrl : (bs.drop (at_ + 2 + Pk.nb v)).length = bs.length - (at_ + 2 + Pk.nb v) := List.length_drop
          have q1 : min v 8000 = v := by omega
          rw [q1]
          have q2 : min (at_ + 2 + Pk.nb v + v) m = at_ + 2 + Pk.nb v + v := by omega
          rw [q2]
          have q3 : min (at_ + 2 + Pk.nb v) (at_ + 2 + Pk.nb v + v) = at_ + 2 + Pk.nb v := by omega
          rw [q3, show at_ + 2 + Pk.nb v + v - (at_ + 2 + Pk.nb v) = v by omega]
          refine ⟨rfl, ?_⟩
          rw [Pk.encB_2, List.length_cons, List.length_append]
          have l1 : ((bs.drop (at_ + 2 + Pk.nb v)).take v).length = v := by rw [List.length_take]; omega
          show _ = (Pk.numB ((bs.drop (at_ + 2 + Pk.nb v)).take v).toArray.size).length + ((bs.drop (at_ + 2 + Pk.nb v)).take v).toArray.toList.length + 1
          rw [List.size_toArray, List.toList_toArray, l1, numB_length]
          omega
        · cases hx
    · have n3 : (((bs[at_].toNat : Nat) : Int) == 3) = false := by
        have : ¬ bs[at_].toNat = 3 := fun e => h3 (UInt8.toNat_inj.1 e)
        have : ¬ ((bs[at_].toNat : Nat) : Int) = 3 := by omega
        simpa using this
      have n2 : (((bs[at_].toNat : Nat) : Int) == 2) = false := by
        have : ¬ bs[at_].toNat = 2 := fun e => h2 (UInt8.toNat_inj.1 e)
        have : ¬ ((bs[at_].toNat : Nat) : Int) = 2 := by omega
        simpa using this
      refine (one_num b off m cap at_ size v bs[at_].toNat w hat h8 hk hs n3 n2 c0 (hV _) (hN _)).mono ?_
      rintro e w' ⟨rfl, hbb⟩
      refine ⟨⟨(bs[at_].toNat : Nat), UInt64.ofNat v, ⟨#[]⟩, 0⟩, 2 + size, ?_, by omega, by omega, ?_, hbb⟩
      · rw [Pk.u64_to hv8]; rfl
      · intro g r hg
        rw [hd] at hg
        by_cases h1 : bs[at_] = 1
        · rw [h1] at hg ⊢
          rw [Pk.fldP_1] at hg
          obtain ⟨⟨x, q⟩, hx, he⟩ := Option.map_eq_some_iff.1 hg
          simp only [Prod.mk.injEq] at he
          obtain ⟨rfl, rfl⟩ := he
          obtain ⟨k1, k2, -, -⟩ := key x q hx
          subst k2 k1
          refine ⟨rfl, ?_⟩
          rw [Pk.encB_1, Pk.u64_to hv8, List.length_cons, numB_length]
          omega
        · simp only [Pk.fldP] at hg
          rw [if_neg h1, if_neg h2, if_neg h3] at hg
          cases hg

end Go.Proofs.Ytkphpdejcmkdeaa
