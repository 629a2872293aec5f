/- TermSubs: the walk. -/
import Derived.Test.YtldojinnipbblaaAlive
import Derived.Test.YtldojinnipbblaaFacts
namespace Go.Proofs.Ytldojinnipbblaa
open Go.RowKit

/-- A piece of a row of texts: the slice, and what lies there. -/
theorem piece {w : World} {a : Option Addr} {l : List (List UInt8)} (m cap st en : Nat) (hc : m ≤ cap) (h1 : st ≤ en) (h2 : en ≤ m) (h : AtS w a l) :
    ∃ a' c', (∀ W, (Instr.slice 24 (.slice a m cap) (some (.int .i64 (st : Int))) (some (.int .i64 (en : Int))) none).run Try.prog W = .ok (.slice a' (en - st) c') W) ∧ (∀ W, (Instr.sliceAt 24 (.slice a m cap) (some (.int .i64 (st : Int))) (some (.int .i64 (en : Int))) none).run Try.prog W = .ok (.slice a' (en - st) c') W) ∧ AtS w a' ((l.drop st).take (en - st)) := by
  have e1 : ∀ W, (Instr.slice 24 (.slice a m cap) (some (.int .i64 (st : Int))) (some (.int .i64 (en : Int))) none).run Try.prog W = .ok (.slice (if cap = st then a else a.map (·.add st)) (en - st) (cap - st)) W := by
    intro W
    have hs := Try.sizeOf22
    have hl := run_slice_lh (P := Try.prog) (w := W) 24 a m cap Try.underlying24 .i64 .i64 (st : Int) (en : Int) (by omega) (by omega) (by omega)
    rw [hl]
    show ((sizeOf 22).run Try.prog W).andThen _ = _
    rw [hs]
    show Result.ok (Value.slice (if cap = (st : Int).toNat then a else a.map (·.add ((st : Int).toNat * 1))) ((en : Int).toNat - (st : Int).toNat) (cap - (st : Int).toNat)) W = _
    simp only [Int.toNat_natCast, Nat.mul_one]
  refine ⟨_, _, e1, fun W => ?_, ?_⟩
  · rw [run_sliceAt_slice (P := Try.prog) (w := W) 24 _ _ _ _ Try.underlying24]
    exact e1 W
  · by_cases he : en = st
    · left; rw [he, Nat.sub_self]; simp
    · rcases h with he' | ⟨b, off, rfl, hcs⟩
      · left; rw [he']; simp
      · rw [if_neg (by omega)]
        refine .inr ⟨b, off + st, ?_, fun j x hx => ?_⟩
        · show some (Addr.add _ _) = _
          unfold Addr.add
          split <;> simp_all
        · have hj : j < en - st := by
            have := (List.getElem?_eq_some_iff.1 hx).1
            rw [List.length_take] at this; omega
          rw [Nat.add_assoc, hcs (st + j) x]
          rw [List.getElem?_take_of_lt hj, List.getElem?_drop] at hx
          exact hx

namespace Tm
/-- What is in a term: itself, and what is in its parts, one behind the other. -/
theorem subs_parts {bs : List UInt8} (h : chk bs = 0) : ∃ ks : List T, partsOf bs = ks.map text ∧ subsOf bs = bs :: (subsAll ks).map text ∧ ∀ u ∈ ks, chk (text u) = 0 ∧ (text u).length < bs.length ∧ subsOf (text u) = (subs u).map text := by
  obtain ⟨hl, t, ht, hw, hx, hd⟩ := chk_zero h
  refine ⟨kids t, partsOf_of h ht, ?_, ?_⟩
  · rw [subsOf_of h ht, subs_eq, List.map_cons, hx]
  · intro u hu
    obtain ⟨k1, k2, k3⟩ := kid_ok hw hu (by rw [hx]; exact hl) hd
    rw [hx] at k3
    exact ⟨k2, k3, subsOf_of k2 (tree_text k1)⟩
theorem subs_cut {bs : List UInt8} {ks : List T} {j : Nat} (h : j < ks.length) : (((bs :: (subsAll ks).map text).drop (1 + (subsAll (ks.take j)).length)).take (subs ks[j]).length) = (subs ks[j]).map text ∧
    1 + (subsAll (ks.take j)).length + (subs ks[j]).length = 1 + (subsAll (ks.take (j + 1))).length ∧ 1 + (subsAll (ks.take (j + 1))).length ≤ (bs :: (subsAll ks).map text).length := by
  have e : ks = ks.take j ++ (ks[j] :: ks.drop (j + 1)) := by rw [← List.drop_eq_getElem_cons h, List.take_append_drop]
  have e1 : subsAll ks = subsAll (ks.take j) ++ (subs ks[j] ++ subsAll (ks.drop (j + 1))) := by
    conv => lhs; rw [e]
    rw [subsAll_append, subsAll_cons]
  have e2 : subsAll (ks.take (j + 1)) = subsAll (ks.take j) ++ subs ks[j] := by
    rw [List.take_succ_eq_append_getElem h, subsAll_append]; simp [subsAll]
  refine ⟨?_, by rw [e2, List.length_append]; omega, ?_⟩
  · rw [e1, Nat.add_comm 1, List.drop_succ_cons, List.map_append, List.map_append]
    have hl : (subsAll (ks.take j)).length = ((subsAll (ks.take j)).map text).length := by simp
    rw [hl, List.drop_left]
    have hl2 : (subs ks[j]).length = ((subs ks[j]).map text).length := by simp
    rw [hl2, List.take_left]
  · rw [e2, e1]; simp; omega
end Tm

set_option maxHeartbeats 2000000 in
theorem subs_early (s : ByteArray) (w : World) (h : 600 < s.size) : Calls Try.prog 8 #[.string s] w fun e w' => e = .returned (.bool true) ∧ Below w.heap.size w w' := by
  have t1 : (600 : Int) < (s.size : Int) := by omega
  go_enter Try.func8, Try.ntmps8
  go_wp2_with fail
  refine (alive_any w).mono ?_
  rintro e w1 ⟨rfl, hb1⟩
  go_wp2
  go_ret
  exact ⟨rfl, hb1⟩

set_option maxHeartbeats 4000000 in
theorem subs_refused (s : ByteArray) (w : World) (h : s.size ≤ 600) (hc : Tm.chk s.data.toList ≠ 0) : Calls Try.prog 8 #[.string s] w fun e w' => e = .returned (.bool true) ∧ Below w.heap.size w w' := by
  have t1 : ¬ (600 : Int) < (s.size : Int) := by omega
  have H1 : Aside (∀ W, _) := fun W => subs_any s W
  have H2 : Aside (∀ W, _) := fun W => check_any s W
  unfold SubsPost at H1
  rw [Tm.subsOf_err hc] at H1
  have t2 : (((Tm.chk s.data.toList : Nat) : Int) != 0) = true := by
    have : ¬ ((Tm.chk s.data.toList : Nat) : Int) = 0 := by omega
    simpa using this
  generalize Tm.chk s.data.toList = c at *
  clear hc
  go_enter Try.func8, Try.ntmps8
  go_wp2_with fail
  refine (alive_any w).mono ?_
  rintro e w1 ⟨rfl, hb1⟩
  have B1 : Aside (Below w.heap.size w w1) := hb1
  clear hb1
  go_wp2_with fail
  refine (H1.out w1).mono ?_
  rintro e w2 ⟨v2, rfl, ho2, hb2⟩
  obtain ⟨a2, c2, rfl, -, -, -⟩ := owns_strs ho2
  have B2 : Aside (Below w.heap.size w w2) := below_step B1.out hb2
  rw [show ([] : List (List UInt8)).length = 0 from rfl]
  clear hb2 B1 H1 ho2
  go_wp2_with fail
  refine (H2.out w2).mono ?_
  rintro e w3 ⟨rfl, hb3⟩
  have B3 : Aside (Below w.heap.size w w3) := below_step B2.out hb3
  clear hb3 B2 H2
  go_wp2
  go_ret
  exact ⟨rfl, B3.out⟩

set_option maxHeartbeats 8000000 in
theorem subs_good (s : ByteArray) (w : World) (h : s.size ≤ 600) (hc : Tm.chk s.data.toList = 0) : Calls Try.prog 8 #[.string s] w fun e w' => e = .returned (.bool true) ∧ Below w.heap.size w w' := by
  have t1 : ¬ (600 : Int) < (s.size : Int) := by omega
  have H1 : Aside (∀ W, _) := fun W => subs_any s W
  have H2 : Aside (∀ W, _) := fun W => parts_any s W
  unfold SubsPost at H1
  unfold PartsPost at H2
  obtain ⟨ks, k1, k2, k3⟩ := Tm.subs_parts hc
  have hL := Tm.subsOf_len s.data.toList
  have hP := Tm.partsOf_len s.data.toList
  rw [hc] at H1 H2
  rw [k1] at H2 hP
  have CUT : Aside (∀ j (hj : j < ks.length), (((Tm.subsOf s.data.toList).drop (1 + (Tm.subsAll (ks.take j)).length)).take (Tm.subs ks[j]).length) = (Tm.subs ks[j]).map Tm.text ∧ 1 + (Tm.subsAll (ks.take j)).length + (Tm.subs ks[j]).length = 1 + (Tm.subsAll (ks.take (j + 1))).length ∧ 1 + (Tm.subsAll (ks.take (j + 1))).length ≤ (Tm.subsOf s.data.toList).length) := by
    intro j hj
    rw [k2]
    exact Tm.subs_cut hj
  have FIN : Aside (1 + (Tm.subsAll ks).length = (Tm.subsOf s.data.toList).length) := by
    show _ = _
    rw [k2]; simp; omega
  have H0 : Aside ((Tm.subsOf s.data.toList)[0]? = some s.data.toList) := by show _ = _; rw [k2]; rfl
  have hp : 0 < (Tm.subsOf s.data.toList).length := by rw [k2]; simp
  have K3 : Aside (∀ u ∈ ks, Tm.chk (Tm.text u) = 0 ∧ (Tm.text u).length < s.size ∧ Tm.subsOf (Tm.text u) = (Tm.subs u).map Tm.text) := by
    intro u hu
    have := k3 u hu
    rw [len_bytes] at this
    exact this
  have LN : Aside ((ks.map Tm.text).length = ks.length) := by show _ = _; simp
  generalize (Tm.kindOf s.data.toList).toNat = kk at *
  generalize Tm.subsOf s.data.toList = ss at *
  obtain ⟨N, hN⟩ : ∃ N, N = ss.length := ⟨_, rfl⟩
  have HN : Hid (N = ss.length) := hN
  rw [← hN] at H1 hL hp
  rw [LN.out] at H2 hP
  obtain ⟨n, hn⟩ : ∃ n, n = ks.length := ⟨_, rfl⟩
  have HK : Hid (n = ks.length) := hn
  rw [← hn] at H2 hP
  clear hn hN k1 k2 k3 hc LN
  go_enter Try.func8, Try.ntmps8
  go_wp2_with fail
  refine (alive_any w).mono ?_
  rintro e w1 ⟨rfl, hb1⟩
  have B1 : Aside (Below w.heap.size w w1) := hb1
  clear hb1
  go_wp2_with fail
  refine (H1.out w1).mono ?_
  rintro e w2 ⟨v2, rfl, ho2, hb2⟩
  obtain ⟨a2, c2, rfl, -, hcap2, hat2⟩ := owns_strs ho2
  have B2 : Aside (Below w.heap.size w w2 ∧ AtS w2 a2 ss) := ⟨below_step B1.out hb2, hat2⟩
  clear hb2 B1 H1 ho2
  rcases hat2 with he | ⟨b2, off2, rfl, hcs2⟩
  · exfalso; have := HN.out; rw [he] at this; simp at this; omega
  have c0 := hcs2 0 _ H0.out
  rw [str_of, Nat.add_zero] at c0
  have tN : (((N : Nat) : Int) == 0) = false := by
    have : ¬ (N : Int) = 0 := by omega
    simpa using this
  clear hcs2
  go_wp2_with fail
  refine (H2.out w2).mono ?_
  rintro e w3 ⟨v3, rfl, ho3, hb3⟩
  obtain ⟨a3, c3, rfl, -, hcap3, hat3⟩ := owns_strs ho3
  have B3 : Aside (Below w.heap.size w w3 ∧ AtS w3 (some ⟨b2, off2, none⟩) ss ∧ AtS w3 a3 (ks.map Tm.text)) := ⟨below_step B2.out.1 hb3, atS_later hb3 B2.out.2, hat3⟩
  clear hb3 B2 H2 ho3 hat3 c0
  go_wp2_with fail
  go_loopw [5, 52] (fun cn i wr => ∃ j : Nat, j ≤ n ∧ i = .int .i64 j ∧ cn = .int .i64 ((1 + (Tm.subsAll (ks.take j)).length : Nat) : Int) ∧ 1 + (Tm.subsAll (ks.take j)).length ≤ N ∧ Below w3.heap.size w3 wr) (fun _ i _ => n - (intOf i).toNat)
  case atStart => exact ⟨0, Nat.zero_le _, rfl, rfl, by simp [Tm.subsAll]; omega, Below.refl _ _⟩
  case round =>
    obtain ⟨j, hj, rfl, rfl, hcn, hb⟩ := hrel
    by_cases hlt : j < n
    · have hjk : j < ks.length := by rw [← HK.out]; exact hlt
      obtain ⟨u1, u2, u3⟩ := K3.out ks[j] (List.getElem_mem hjk)
      obtain ⟨q1, q2, q3⟩ := CUT.out j hjk
      rcases atS_later hb B3.out.2.2 with he | ⟨b3, off3, rfl, hcs3⟩
      · have := congrArg List.length he; simp at this; rw [this] at hjk; simp at hjk
      have c0 := hcs3 j (Tm.text ks[j]) (by simp [hjk])
      unfold str at c0
      have hS := subs_any ⟨(Tm.text ks[j]).toArray⟩ wr
      unfold SubsPost at hS
      rw [str_bytes, u1, u3, List.length_map] at hS
      have hsz : (⟨(Tm.text ks[j]).toArray⟩ : ByteArray).size < s.size := by rw [str_size]; exact u2
      rw [← HN.out] at q3
      obtain ⟨pa, pc, p1, p2, p3⟩ := piece (w := wr) N c2 (1 + (Tm.subsAll (ks.take j)).length) (1 + (Tm.subsAll (ks.take (j + 1))).length) hcap2 (by omega) q3 (atS_later hb B3.out.2.1)
      have e2 : 1 + (Tm.subsAll (ks.take (j + 1))).length - (1 + (Tm.subsAll (ks.take j)).length) = (Tm.subs ks[j]).length := by omega
      rw [e2] at p1 p2 p3
      clear e2
      rw [q1] at p3
      have PP : Aside (AtS wr pa ((Tm.subs ks[j]).map Tm.text)) := p3
      have LM : Aside (((Tm.subs ks[j]).map Tm.text).length = (Tm.subs ks[j]).length) := by show _ = _; simp
      have BB : Aside (Below w3.heap.size w3 wr) := hb
      generalize (⟨(Tm.text ks[j]).toArray⟩ : ByteArray) = y at *
      generalize (Tm.subs ks[j]).map Tm.text = ms at *
      generalize (Tm.subs ks[j]).length = mj at *
      obtain ⟨d2, hd2⟩ : ∃ d2, d2 = 1 + (Tm.subsAll (ks.take (j + 1))).length := ⟨_, rfl⟩
      have ED : Hid (d2 = 1 + (Tm.subsAll (ks.take (j + 1))).length) := hd2
      rw [← hd2] at p1 p2 q2 q3
      clear hd2
      generalize 1 + (Tm.subsAll (ks.take j)).length = d1 at *
      rw [← q2] at p1 p2 q3
      rw [Int.natCast_add] at p1 p2
      have EQ : Hid (d1 + mj = d2) := q2
      have tp1 : ¬ (N : Int) < (d1 : Int) + (mj : Int) := by omega
      have tp2 : ¬ (s.size : Int) ≤ (y.size : Int) := by omega
      have tj : (j : Int) < (n : Int) := by omega
      clear hcs3 q1 u1 u2 u3 p3 hb q2 CUT
      go_wp2_with fail
      refine hS.mono ?_
      rintro e w4 ⟨v4, rfl, ho4, hb4⟩
      obtain ⟨a4, c4, rfl, -, hcap4, hat4⟩ := owns_strs ho4
      have hE := same_any pa a4 mj pc mj c4 ms ms w4 LM.out LM.out (atS_later hb4 PP.out) hat4 (by omega)
      rw [decide_eq_true rfl] at hE
      have B4 : Aside (Below w3.heap.size w3 w4) := below_step BB.out hb4
      clear hS ho4 hb4 hat4 PP BB
      go_wp2_with fail
      refine hE.mono ?_
      rintro e w5 ⟨rfl, hb5⟩
      have B5 : Aside (Below w3.heap.size w3 w5) := below_step B4.out hb5
      clear hE hb5 B4
      go_wp2
      go_roundw
      case rel => exact ⟨j + 1, by omega, by go_num, by rw [← ED.out, ← EQ.out, Int.natCast_add], by rw [← ED.out, ← EQ.out]; exact q3, B5.out⟩
      case measure => simp [intOf]; omega
    · obtain rfl : j = n := by omega
      have e1 : 1 + (Tm.subsAll (ks.take j)).length = N := by
        rw [List.take_of_length_le (by rw [HK.out]; exact Nat.le_refl _), FIN.out, HN.out]
      rw [e1]
      have BB : Aside (Below w.heap.size w wr) := below_step B3.out.1 hb
      clear hb B3 K3 CUT FIN H0 e1 hcn
      go_wp2
      go_ret
      exact ⟨rfl, BB.out⟩

theorem subs_walk (s : ByteArray) (w : World) : Calls Try.prog 8 #[.string s] w fun e w' => e = .returned (.bool true) ∧ Below w.heap.size w w' := by
  by_cases h : 600 < s.size
  · exact subs_early s w h
  · by_cases hc : Tm.chk s.data.toList = 0
    · exact subs_good s w (by omega) hc
    · exact subs_refused s w (by omega) hc

end Go.Proofs.Ytldojinnipbblaa
