/- What the document's own bytes, all, Encode and Is give. -/
import Derived.Test.YtkphpdejcmkdeaaRefB
namespace Go.Proofs.Ytkphpdejcmkdeaa
open Go.RowKit

set_option maxRecDepth 20000 in
set_option maxHeartbeats 2000000 in
theorem rbytes_num (x r : Nat) (s : ByteArray) (w : World) (hx : x < 18446744073709551616) :
    Calls Try.prog 49 #[.agg #[.int .i64 1, .int .u64 (x : Int), .string s, .int .u64 (r : Int)]] w fun e w' => ∃ v, e = .returned v ∧ w'.ownsRow w.heap.size 5 1 v (1 + (Pk.numB x).length) (bcs (1 :: (Pk.numB x))) ∧ Below w.heap.size w w' := by
  obtain ⟨i0, hi, hz0, hz1, hz2⟩ := info_parts info5
  have I : Aside (Try.prog.info? 5 = some i0 ∧ i0.zero = some (.int .u8 0) ∧ i0.size = 1 ∧ i0.bytes = 1) := ⟨hi, hz0, hz1, hz2⟩
  clear hi hz0 hz1 hz2
  generalize hW0 : (w.alloc (.cells #[.int .i64 1, .int .u64 (x : Int), .string s, .int .u64 (r : Int)] 59)) = w0
  have hsz : w0.heap.size = w.heap.size + 1 := by rw [← hW0]; simp
  have hO := World.ownsRow_lit (base := w.heap.size) (e := 5) (size := 1) w0 #[Value.int .u8 1] 1 (by omega) (by decide) rfl
  rw [hsz] at hO
  have O : Aside ((w0.alloc (.cells #[.int .u8 1] 5)).ownsRow w.heap.size 5 1 (.slice (some ⟨w.heap.size + 1, 0, none⟩) 1 1) 1 (bcs [1])) := hO
  have B : Aside (Below w.heap.size w (w0.alloc (.cells #[.int .u8 1] 5)) ∧ Keep5 w0 (w0.alloc (.cells #[.int .u8 1] 5))) := by
    rw [← hW0]
    exact ⟨((Below.refl _ w).alloc (Nat.le_refl _) _).alloc (by simp) _, Keep5.alloc _ _⟩
  subst hW0
  clear hO hsz
  have hl : (Pk.numB x).length ≤ 9 := by rw [numB_length]; have := nb_le x hx; omega
  have hN : Aside (∀ w1, _) := fun w1 => rnumber_any x w1 hx
  have E : Aside (bcs [1] ++ bcs (Pk.numB x) = bcs (1 :: Pk.numB x)) := by unfold Aside; rw [← bcs_append]; rfl
  generalize (Pk.numB x).length = L at hl hN ⊢
  clear hx
  go_enter Try.func49, Try.ntmps49
  go_wp2_with fail
  refine (hN.out _).mono ?_
  rintro e w1 ⟨v1, rfl, hown1, hb1⟩
  have O1 := owns_later hb1 O.out
  have hbb : Below w.heap.size w w1 := below_step B.out.1 hb1
  have hs1 : w.heap.size ≤ w1.heap.size := hbb.size
  go_wp2_with (at_builtin; refine wpList_append_owns _ rfl _ _ 54 rfl w.heap.size _ 5 i0 (.int .u8 0) 1 1 Try.underlying54 I.out.1 I.out.2.1 I.out.2.2.1 I.out.2.2.2 rfl (by decide) _ _ _ rfl O1 _ _ _ rfl hown1 ?c1 ?c2 ?c3 ?c4 ?_)
  case c1 => exact bcs_one
  case c2 => unfold maxLen; omega
  case c3 => omega
  case c4 => exact hs1
  intro v2 w2 hown2 hg2
  rw [E.out] at hown2
  have hb2 : Below w.heap.size w w2 := grown_below' hs1 O1 hbb hg2
  clear hown1 hb1 O1 hg2 hbb E hN O B
  go_wp2
  go_ret
  exact ⟨_, rfl, hown2, hb2⟩

set_option maxRecDepth 20000 in
set_option maxHeartbeats 2000000 in
theorem rbytes_text (x r : Nat) (s : ByteArray) (w : World) (hs : s.size ≤ 2000) :
    Calls Try.prog 49 #[.agg #[.int .i64 2, .int .u64 (x : Int), .string s, .int .u64 (r : Int)]] w fun e w' => ∃ v, e = .returned v ∧ w'.ownsRow w.heap.size 5 1 v (1 + (Pk.numB s.size ++ s.data.toList).length) (bcs (2 :: (Pk.numB s.size ++ s.data.toList))) ∧ Below w.heap.size w w' := by
  obtain ⟨i0, hi, hz0, hz1, hz2⟩ := info_parts info5
  have I : Aside (Try.prog.info? 5 = some i0 ∧ i0.zero = some (.int .u8 0) ∧ i0.size = 1 ∧ i0.bytes = 1) := ⟨hi, hz0, hz1, hz2⟩
  clear hi hz0 hz1 hz2
  generalize hW0 : (w.alloc (.cells #[.int .i64 2, .int .u64 (x : Int), .string s, .int .u64 (r : Int)] 59)) = w0
  have hsz : w0.heap.size = w.heap.size + 1 := by rw [← hW0]; simp
  have hO := World.ownsRow_lit (base := w.heap.size) (e := 5) (size := 1) w0 #[Value.int .u8 2] 1 (by omega) (by decide) rfl
  rw [hsz] at hO
  have O : Aside ((w0.alloc (.cells #[.int .u8 2] 5)).ownsRow w.heap.size 5 1 (.slice (some ⟨w.heap.size + 1, 0, none⟩) 1 1) 1 (bcs [2])) := hO
  have B : Aside (Below w.heap.size w (w0.alloc (.cells #[.int .u8 2] 5)) ∧ Keep5 w0 (w0.alloc (.cells #[.int .u8 2] 5))) := by
    rw [← hW0]
    exact ⟨((Below.refl _ w).alloc (Nat.le_refl _) _).alloc (by simp) _, Keep5.alloc _ _⟩
  subst hW0
  clear hO hsz
  have hl : (Pk.numB s.size).length ≤ 9 := by rw [numB_length]; have := nb_le s.size (by omega); omega
  have hN : Aside (∀ w1, _) := fun w1 => rnumber_any s.size w1 (by omega)
  have E : Aside (bcs [2] ++ bcs (Pk.numB s.size) = bcs (2 :: Pk.numB s.size)) := by unfold Aside; rw [← bcs_append]; rfl
  have E2 : Aside (bcs (2 :: Pk.numB s.size) ++ bcs s.data.toList = bcs (2 :: (Pk.numB s.size ++ s.data.toList))) := by unfold Aside; rw [← bcs_append]; rfl
  have E3 : Aside (1 + (Pk.numB s.size ++ s.data.toList).length = 1 + (Pk.numB s.size).length + s.size) := by
    unfold Aside
    rw [List.length_append, Array.length_toList, ← Nat.add_assoc]; rfl
  rw [E3.out]
  generalize bcs (2 :: (Pk.numB s.size ++ s.data.toList)) = R2 at E2 ⊢
  generalize (Pk.numB s.size).length = L at hl hN ⊢
  clear E3
  go_enter Try.func49, Try.ntmps49
  go_wp2_with fail
  refine (hN.out _).mono ?_
  rintro e w1 ⟨v1, rfl, hown1, hb1⟩
  have O1 := owns_later hb1 O.out
  have hbb : Below w.heap.size w w1 := below_step B.out.1 hb1
  have hs1 : w.heap.size ≤ w1.heap.size := hbb.size
  have KP : Aside (Keep5 (w.alloc (.cells #[.int .i64 2, .int .u64 (x : Int), .string s, .int .u64 (r : Int)] 59)) w1) := B.out.2.trans (keep_below hb1)
  go_wp2_with (at_builtin; refine wpList_append_owns _ rfl _ _ 54 rfl w.heap.size _ 5 i0 (.int .u8 0) 1 1 Try.underlying54 I.out.1 I.out.2.1 I.out.2.2.1 I.out.2.2.2 rfl (by decide) _ _ _ rfl O1 _ _ _ rfl hown1 ?c1 ?c2 ?c3 ?c4 ?_)
  case c1 => exact bcs_one
  case c2 => unfold maxLen; omega
  case c3 => omega
  case c4 => exact hs1
  intro v2 w2 hown2 hg2
  rw [E.out] at hown2
  have hb2 : Below w.heap.size w w2 := grown_below' hs1 O1 hbb hg2
  have hk2 := KP.out.trans (Keep5.grown O1 hg2)
  have f2 := box48 hk2 2 _ rfl
  have O2 : Aside (w2.ownsRow w.heap.size 5 1 v2 (1 + L) (bcs (2 :: Pk.numB s.size))) := hown2
  obtain ⟨gc, W3, hcv, hb3, hc3⟩ := conv_str w2 s
  have O3 : Aside (W3.ownsRow w.heap.size 5 1 v2 (1 + L) (bcs (2 :: Pk.numB s.size)) ∧ ∀ j u, (bcs s.data.toList)[j]? = some u → W3.cell? ((⟨w2.heap.size, 0, none⟩ : Addr).add j) = some u) := ⟨owns_later hb3 hown2, hc3⟩
  have hb4 : Below w.heap.size w W3 := below_step hb2 hb3
  have hs4 : w.heap.size ≤ W3.heap.size := hb4.size
  clear hown1 hb1 O1 hg2 hbb E hN O B KP hk2 hown2 hb2 O2 hb3 hc3
  go_wp2_with (at_builtin; refine wpList_append_own _ rfl _ _ 54 rfl w.heap.size 5 i0 (.int .u8 0) 1 1 Try.underlying54 I.out.1 I.out.2.1 I.out.2.2.1 I.out.2.2.2 rfl (by decide) _ _ _ rfl O3.out.1 ⟨w2.heap.size, 0, none⟩ s.size gc (bcs s.data.toList) rfl ?d0 ?d1 ?d2 ?d3 ?d4 ?d5 ?_)
  case d0 => rw [bcs_len, Array.length_toList, Nat.mul_one]; rfl
  case d1 => exact O3.out.2
  case d2 => exact bcs_one
  case d3 => unfold maxLen; omega
  case d4 => omega
  case d5 => exact hs4
  intro v5 w5 hown5 hg5 _
  rw [E2.out] at hown5
  have hb5 : Below w.heap.size w w5 := grown_below' hs4 O3.out.1 hb4 hg5
  clear hg5 O3 hb4 E2
  go_wp2
  go_ret
  exact ⟨_, rfl, hown5, hb5⟩

set_option maxRecDepth 20000 in
set_option maxHeartbeats 2000000 in
theorem rbytes_real (x r : Nat) (s : ByteArray) (w : World) (hr : r < 18446744073709551616) :
    Calls Try.prog 49 #[.agg #[.int .i64 3, .int .u64 (x : Int), .string s, .int .u64 (r : Int)]] w fun e w' => ∃ v, e = .returned v ∧ w'.ownsRow w.heap.size 5 1 v (1 + (Pk.lo (Fl.cod r) 8).length) (bcs (3 :: (Pk.lo (Fl.cod r) 8))) ∧ Below w.heap.size w w' := by
  obtain ⟨i0, hi, hz0, hz1, hz2⟩ := info_parts info5
  have I : Aside (Try.prog.info? 5 = some i0 ∧ i0.zero = some (.int .u8 0) ∧ i0.size = 1 ∧ i0.bytes = 1) := ⟨hi, hz0, hz1, hz2⟩
  clear hi hz0 hz1 hz2
  generalize hW0 : (w.alloc (.cells #[.int .i64 3, .int .u64 (x : Int), .string s, .int .u64 (r : Int)] 59)) = w0
  have hsz : w0.heap.size = w.heap.size + 1 := by rw [← hW0]; simp
  have hO := World.ownsRow_lit (base := w.heap.size) (e := 5) (size := 1) w0 #[Value.int .u8 3] 1 (by omega) (by decide) rfl
  rw [hsz] at hO
  have O : Aside ((w0.alloc (.cells #[.int .u8 3] 5)).ownsRow w.heap.size 5 1 (.slice (some ⟨w.heap.size + 1, 0, none⟩) 1 1) 1 (bcs [3])) := hO
  have B : Aside (Below w.heap.size w (w0.alloc (.cells #[.int .u8 3] 5)) ∧ Keep5 w0 (w0.alloc (.cells #[.int .u8 3] 5))) := by
    rw [← hW0]
    exact ⟨((Below.refl _ w).alloc (Nat.le_refl _) _).alloc (by simp) _, Keep5.alloc _ _⟩
  subst hW0
  clear hO hsz
  have hC : Aside (∀ w1, Calls Try.prog 60 #[.int .u64 (r : Int)] w1 fun e w' => e = .returned (.int .u64 (Fl.cod r : Nat)) ∧ w' = w1) := fun w1 => rcode_any r w1 hr
  have hN : Aside (∀ w1, _) := fun w1 => rlow_any (Fl.cod r) 8 w1 (by omega) (Fl.cod_lt hr)
  have E : Aside (bcs [3] ++ bcs (Pk.lo (Fl.cod r) 8) = bcs (3 :: Pk.lo (Fl.cod r) 8)) := by unfold Aside; rw [← bcs_append]; rfl
  rw [Pk.lo_length]
  generalize Pk.lo (Fl.cod r) 8 = lows at hN E ⊢
  generalize Fl.cod r = c at hC hN
  clear hr
  go_enter Try.func49, Try.ntmps49
  go_wp2_with fail
  refine (hC.out _).mono ?_
  rintro e w1 ⟨rfl, hw⟩
  subst hw
  go_wp2_with fail
  refine (hN.out _).mono ?_
  rintro e w1 ⟨v1, rfl, hown1, hb1⟩
  have O1 := owns_later hb1 O.out
  have hbb : Below w.heap.size w w1 := below_step B.out.1 hb1
  have hs1 : w.heap.size ≤ w1.heap.size := hbb.size
  go_wp2_with (at_builtin; refine wpList_append_owns _ rfl _ _ 54 rfl w.heap.size _ 5 i0 (.int .u8 0) 1 1 Try.underlying54 I.out.1 I.out.2.1 I.out.2.2.1 I.out.2.2.2 rfl (by decide) _ _ _ rfl O1 _ _ _ rfl hown1 ?c1 ?c2 ?c3 ?c4 ?_)
  case c1 => exact bcs_one
  case c2 => unfold maxLen; omega
  case c3 => omega
  case c4 => exact hs1
  intro v2 w2 hown2 hg2
  rw [E.out] at hown2
  have hb2 : Below w.heap.size w w2 := grown_below' hs1 O1 hbb hg2
  clear hown1 hb1 O1 hg2 hbb E hN O B
  go_wp2
  go_ret
  exact ⟨_, rfl, hown2, hb2⟩

theorem rbytes_any (f : Pk.Fld) (w : World) (hm : Pk.may f = true) :
    Calls Try.prog 49 #[.agg #[.int .i64 f.kind, .int .u64 (f.num.toNat : Int), .string f.text, .int .u64 (f.real.toNat : Int)]] w fun e w' => ∃ v, e = .returned v ∧ w'.ownsRow w.heap.size 5 1 v (Pk.encB f).length (bcs (Pk.encB f)) ∧ Below w.heap.size w w' := by
  obtain ⟨k, x, s, r⟩ := f
  by_cases h1 : k = 1
  · subst h1
    have h := rbytes_num x.toNat r.toNat s w (u64_lt _)
    rw [Pk.encB_1, List.length_cons, Nat.add_comm (Pk.numB x.toNat).length 1]
    exact h
  · by_cases h2 : k = 2
    · subst h2
      have hs : s.size ≤ 2000 := by
        unfold Pk.may at hm
        simp only at hm
        rw [if_neg (by decide), if_pos trivial] at hm
        simp only [Bool.and_eq_true, decide_eq_true_eq] at hm
        exact hm.2
      have h := rbytes_text x.toNat r.toNat s w hs
      rw [Pk.encB_2, List.length_cons, Nat.add_comm (Pk.numB s.size ++ s.data.toList).length 1]
      exact h
    · have h3 : k = 3 := by
        unfold Pk.may at hm
        simp only at hm
        rw [if_neg h1, if_neg h2] at hm
        by_cases h3 : k = 3
        · exact h3
        · rw [if_neg h3] at hm; cases hm
      subst h3
      have h := rbytes_real x.toNat r.toNat s w (u64_lt _)
      rw [Pk.encB_3, List.length_cons, Nat.add_comm (Pk.lo (Fl.cod r.toNat) 8).length 1]
      exact h

set_option maxRecDepth 20000 in
set_option maxHeartbeats 2000000 in
theorem rall_any (a : Option Addr) (n cap : Nat) (l : List Pk.Fld) (w : World) (hl : n ≤ 200) (hn : Hid (l.length = n)) (hm : Hid (l.all Pk.may = true)) (ha : AtR w a l) :
    Calls Try.prog 37 #[.slice a n cap] w fun e w' => ∃ v, e = .returned v ∧ w'.ownsRow w.heap.size 5 1 v (Pk.allB l).length (bcs (Pk.allB l)) ∧ Below w.heap.size w w' := by
  have C : Aside (AtR w a l) := ha
  obtain ⟨i0, hi, hz0, hz1, hz2⟩ := info_parts info5
  have I : Aside (Try.prog.info? 5 = some i0 ∧ i0.zero = some (.int .u8 0) ∧ i0.size = 1 ∧ i0.bytes = 1) := ⟨hi, hz0, hz1, hz2⟩
  have PA : Hid (Pk.allB l = pre l n) := by show _ = _; rw [← hn.out, pre_all]
  rw [PA.out]
  have E0 : Aside (bcs (pre l 0) = [Value.int .u8 (n : Int)]) := by
    unfold Aside pre
    rw [hn.out]
    show [Value.int .u8 _] = _
    rw [byte_cell]; congr 2; omega
  have EN : Aside (∀ j (h : j < l.length), pre l (j + 1) = pre l j ++ Pk.encB l[j]) := fun j h => pre_next l j h
  have PL : Aside (∀ j, j ≤ n → (pre l j).length ≤ 500000) := fun j hj => pre_le l j (by omega) hm.out
  have HB : Aside (∀ j (h : j < l.length) w1, _) := fun j h w1 => rbytes_any l[j] w1 (may_of_all hm.out j h)
  have HL : Aside (∀ j (h : j < l.length), (Pk.encB l[j]).length ≤ 2012) := fun j h => body_le (may_of_all hm.out j h)
  clear ha hi hz0 hz1 hz2 PA
  go_enter Try.func37, Try.ntmps37
  go_wp2_with fail
  go_loopw [3, 4] (fun v i wr => ∃ j : Nat, j ≤ n ∧ i = .int .i64 j ∧ wr.ownsRow w.heap.size 5 1 v (pre l j).length (bcs (pre l j)) ∧ Below w.heap.size w wr) (fun _ i _ => n - (intOf i).toNat)
  case atStart =>
    refine ⟨0, Nat.zero_le _, rfl, ?_, (Below.refl _ w).alloc (Nat.le_refl _) _⟩
    have := World.ownsRow_lit (base := w.heap.size) (e := 5) (size := 1) w #[Value.int .u8 (n : Int)] 1 (Nat.le_refl _) (by decide) rfl
    rw [E0.out]
    exact this
  case round =>
    obtain ⟨j, hj, rfl, hown, hb⟩ := hrel
    have O : Aside (wr.ownsRow w.heap.size 5 1 u3 (pre l j).length (bcs (pre l j))) := hown
    clear hown
    by_cases hlt : j < n
    · have hk1 : j < l.length := by rw [hn.out]; exact hlt
      rcases C.out with he | ⟨b, off, rfl, hcs⟩
      · exfalso; rw [he] at hk1; simp at hk1
      obtain ⟨c0, c1, c2, c3⟩ := refAt_later hb rfl (hcs j l[j] (List.getElem?_eq_getElem hk1))
      have H1 := HB.out j hk1 wr
      have HL1 := HL.out j hk1
      have PL1 := PL.out j hj
      have EE : Aside (bcs (pre l j) ++ bcs (Pk.encB l[j]) = bcs (pre l (j + 1)) ∧ (pre l j).length + (Pk.encB l[j]).length = (pre l (j + 1)).length) := by
        rw [EN.out j hk1, bcs_append, List.length_append]; exact ⟨rfl, rfl⟩
      generalize l[j].kind = fk at c0 H1
      generalize l[j].num.toNat = fn at c1 H1
      generalize l[j].text = ft at c2 H1
      generalize l[j].real.toNat = fr at c3 H1
      generalize Pk.encB l[j] = eb at H1 HL1 EE
      generalize hpl : (pre l j).length = pl at O PL1 EE
      clear hcs HB HL hpl
      go_wp2_with fail
      refine H1.mono ?_
      rintro e w2 ⟨v2, rfl, hown2, hb2⟩
      have O2 := owns_later hb2 O.out
      have hbb : Below w.heap.size w w2 := below_step hb hb2
      have hs2 : w.heap.size ≤ w2.heap.size := hbb.size
      generalize hel : eb.length = el at hown2 HL1 EE
      clear hel
      go_wp2_with (at_builtin; refine wpList_append_owns _ rfl _ _ 54 rfl w.heap.size wr.heap.size 5 i0 (.int .u8 0) 1 1 Try.underlying54 I.out.1 I.out.2.1 I.out.2.2.1 I.out.2.2.2 rfl (by decide) _ _ _ rfl O2 _ _ _ rfl hown2 ?c1 ?c2 ?c3 ?c4 ?_)
      case c1 => exact bcs_one
      case c2 => unfold maxLen; omega
      case c3 => omega
      case c4 => exact hs2
      intro v3 w3 hown3 hg3
      rw [EE.out.1, EE.out.2] at hown3
      have hb3 : Below w.heap.size w w3 := grown_below' hs2 O2 hbb hg3
      clear hown2 hb2 O2 hbb hg3 hb c0 c1 c2 c3 H1
      go_wp2
      go_roundw
      case rel => exact ⟨j + 1, by omega, by go_num, hown3, hb3⟩
      case measure => simp [intOf]; omega
    · obtain rfl : j = n := by omega
      go_wp2
      go_ret
      exact ⟨_, rfl, O.out, hb⟩

set_option maxRecDepth 20000 in
set_option maxHeartbeats 4000000 in
theorem rencode_any (a : Option Addr) (cap n : Nat) (l : List Pk.Fld) (w : World) (hn : Hid (l.length = n)) (hc : AtR w a l) (hl : n ≤ 9223372036854775807) :
    Calls Try.prog 26 #[.slice a n cap] w (EncPost l w) := by
  have C : Aside (AtR w a l) := hc
  have M : Aside (∀ k (h : k < l.length) w1, _) := fun k h w1 => rmay_any l[k] w1
  have PA : Aside (∀ w', l.all Pk.may = false → Below w.heap.size w w' → _) := fun w' h hb => @encPost_arg l w w' h hb
  have PB : Aside (∀ w', _ → _ → Below w.heap.size w w' → _) := fun w' h h2 hb => @encPost_big l w w' h h2 hb
  have PO : Aside (∀ w' v n, _ → _ → _ → _ → _ → Below w.heap.size w w' → _) := fun w' v n h h1 hn h2 ho hb => @encPost_ok l w w' v n h h1 hn h2 ho hb
  generalize EncPost l w = Q at PA PB PO ⊢
  clear hc
  go_enter Try.func26, Try.ntmps26
  go_wp2_with fail
  go_loopw [2, 3, 4] (fun r2 r3 i wr => ∃ k : Nat, k ≤ n ∧ r2 = .slice none 0 0 ∧ r3 = .int .i64 0 ∧ i = .int .i64 k ∧ (l.take k).all Pk.may = true ∧ Below w.heap.size w wr) (fun _ _ i _ => n - (intOf i).toNat)
  case atStart => exact ⟨0, Nat.zero_le _, rfl, rfl, rfl, by simp, Below.refl _ _⟩
  case round =>
    obtain ⟨k, hk, rfl, rfl, rfl, hall, hb⟩ := hrel
    have H : Aside ((l.take k).all Pk.may = true) := hall
    clear hall
    by_cases hlt : k < n
    · have hk' : k < l.length := by rw [hn.out]; exact hlt
      rcases C.out with he | ⟨b, off, rfl, hcs⟩
      · exfalso; rw [he] at hk'; simp at hk'
      obtain ⟨c0, c1, c2, c3⟩ := refAt_later hb rfl (hcs k l[k] (List.getElem?_eq_getElem hk'))
      have M1 : Aside (∀ w1, _) := fun w1 => M.out k hk' w1
      have H2 : Aside (Pk.may l[k] = true → (l.take (k + 1)).all Pk.may = true) := by
        intro h
        rw [List.take_succ_eq_append_getElem hk', List.all_append, H.out, List.all_cons, h]; rfl
      have H3 : Aside (Pk.may l[k] = false → l.all Pk.may = false) := by
        intro h
        cases hq : l.all Pk.may with
        | false => rfl
        | true => rw [may_of_all hq k hk'] at h; cases h
      generalize l[k].kind = fk at c0 M1
      generalize l[k].num.toNat = fn at c1 M1
      generalize l[k].text = ft at c2 M1
      generalize l[k].real.toNat = fr at c3 M1
      generalize Pk.may l[k] = mb at M1 H2 H3
      clear hcs H
      cases mb with
      | true =>
        go_wp2_with (go_at_call 36; refine (M1.out _).mono ?_; rintro e w2 ⟨rfl, hb2⟩)
        have hbb : Below w.heap.size w w2 := below_step hb hb2
        clear hb2 hb c0 c1 c2 c3
        go_roundw
        case rel => exact ⟨k + 1, by omega, rfl, rfl, by go_num, H2.out trivial, hbb⟩
        case measure => simp [intOf]; omega
      | false =>
        go_wp2_with (go_at_call 36; refine (M1.out _).mono ?_; rintro e w2 ⟨rfl, hb2⟩)
        have hbb : Below w.heap.size w w2 := below_step hb hb2
        have Q1 := PA.out w2 (H3.out trivial) hbb
        exact Q1
    · obtain rfl : k = n := by omega
      have HA : Aside (l.all Pk.may = true) := by have := H.out; rw [← hn.out, List.take_length] at this; exact this
      clear H
      by_cases h200 : 200 < k
      · have Q1 := PB.out wr HA.out (.inl (by rw [hn.out]; exact h200)) hb
        have t1 : (200 : Int) < (k : Int) := by omega
        go_wp2
        exact Q1
      · have t1 : ¬ (200 : Int) < (k : Int) := by omega
        have hA := rall_any a k cap l wr (by omega) hn HA.out (atR_later hb C.out)
        have PE : Hid (Pk.allB l = pre l l.length) := by show _ = _; rw [pre_all]
        clear M PA
        go_wp2_with fail
        refine hA.mono ?_
        rintro e w2 ⟨v2, rfl, hown2, hb2⟩
        have hbb : Below w.heap.size w w2 := below_step hb hb2
        have O : Aside (w2.ownsRow w.heap.size 5 1 v2 (Pk.allB l).length (bcs (Pk.allB l))) := by
          refine ⟨hown2.1, ?_⟩
          rcases hown2.2 with h | ⟨g, gc, cur, hv, hge, rest⟩
          · exact .inl h
          · exact .inr ⟨g, gc, cur, hv, Nat.le_trans hb.size hge, rest⟩
        obtain ⟨va, vcap, rfl, -, -, -⟩ := owns_bytes hown2
        clear hA hown2 hb2
        by_cases h8 : 8000 < (Pk.allB l).length
        · have Q1 := PB.out w2 HA.out (.inr h8) hbb
          have t2 : (8000 : Int) < ((Pk.allB l).length : Int) := by omega
          generalize (Pk.allB l).length = p at *
          clear O
          go_wp2
          exact Q1
        · have t2 : ¬ (8000 : Int) < ((Pk.allB l).length : Int) := by omega
          have Q1 := PO.out w2 (.slice va (Pk.allB l).length vcap) (Pk.allB l).length HA.out (by rw [hn.out]; omega) (by rw [← PE.out]) (by omega) (by rw [← PE.out]; exact O.out) hbb
          generalize (Pk.allB l).length = p at *
          clear O
          go_wp2
          exact Q1

end Go.Proofs.Ytkphpdejcmkdeaa
