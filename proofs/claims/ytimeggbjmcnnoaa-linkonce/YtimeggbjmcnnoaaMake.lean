/- What Make gives, the program's and the document's: the term of a kind, of others, or the error. -/
import Derived.Test.YtimeggbjmcnnoaaConv
namespace Go.Proofs.Ytimeggbjmcnnoaa
open Go.RowKit

namespace Tm
theorem firstErr_append (a b : List (List UInt8)) : firstErr (a ++ b) = if firstErr a = 0 then firstErr b else firstErr a := by
  induction a with
  | nil => simp [firstErr]
  | cons p r ih =>
    simp only [List.cons_append, firstErr, ih]
    by_cases h : chk p = 0
    · simp [h]
    · simp [h]
theorem firstErr_step {l : List (List UInt8)} {j : Nat} {p : List UInt8} (h : l[j]? = some p) (h0 : firstErr (l.take j) = 0) :
    (chk p = 0 → firstErr (l.take (j + 1)) = 0) ∧ (chk p ≠ 0 → firstErr l = chk p) := by
  have hj := (List.getElem?_eq_some_iff.1 h).1
  have hp := (List.getElem?_eq_some_iff.1 h).2
  have e : l.take (j + 1) = l.take j ++ [p] := by rw [List.take_succ_eq_append_getElem hj, hp]
  refine ⟨fun h1 => ?_, fun h1 => ?_⟩
  · rw [e, firstErr_append, if_pos h0]; simp [firstErr, h1]
  · have e2 : l = l.take j ++ (p :: l.drop (j + 1)) := by rw [← hp, ← List.drop_eq_getElem_cons hj, List.take_append_drop]
    rw [e2, firstErr_append, if_pos h0]; simp [firstErr, h1]
theorem flat_step {l : List (List UInt8)} {j : Nat} {p : List UInt8} (h : l[j]? = some p) : (l.take (j + 1)).flatten = (l.take j).flatten ++ p := by
  have hj := (List.getElem?_eq_some_iff.1 h).1
  have hp := (List.getElem?_eq_some_iff.1 h).2
  rw [List.take_succ_eq_append_getElem hj, hp]; simp
theorem chk_zero {bs : List UInt8} (h : chk bs = 0) : bs.length ≤ 2000 ∧ ∃ t, tree bs = some t ∧ wf t ∧ text t = bs ∧ depth t ≤ 60 := by
  unfold chk at h
  by_cases h1 : 2000 < bs.length
  · rw [if_pos h1] at h; cases h
  · rw [if_neg h1] at h
    rcases ht : tree bs with _ | t
    · rw [ht] at h; cases h
    · rw [ht] at h
      simp only at h
      by_cases h2 : 60 < depth t
      · rw [if_pos h2] at h; cases h
      · obtain ⟨hw, hx⟩ := tree_some.1 ht
        exact ⟨by omega, t, rfl, hw, hx, by omega⟩
theorem chk_of {t : T} (hw : wf t) : chk (text t) = if 2000 < (text t).length then 3 else if 60 < depth t then 3 else 0 := by
  unfold chk
  rw [tree_text hw]
theorem trees_of : ∀ l : List (List UInt8), (∀ p ∈ l, chk p = 0) → ∃ ks : List T, wfs ks ∧ ks.map text = l
  | [], _ => ⟨[], wfs_nil, rfl⟩
  | p :: l, h => by
    obtain ⟨_, t, _, hw, hx, _⟩ := chk_zero (h p (by simp))
    obtain ⟨ks, h1, h2⟩ := trees_of l (fun q hq => h q (by simp [hq]))
    exact ⟨t :: ks, wfs_cons.2 ⟨hw, h1⟩, by rw [List.map_cons, hx, h2]⟩
theorem firstErr_zero {l : List (List UInt8)} : firstErr l = 0 ↔ ∀ p ∈ l, chk p = 0 := by
  induction l with
  | nil => simp [firstErr]
  | cons p r ih =>
    simp only [firstErr]
    by_cases h : chk p = 0
    · simp [h, ih]
    · simp [h]
/-- Of good parts a term is made that may be too big, no more. -/
theorem made_chk {k : UInt8} {l : List (List UInt8)} (h1 : ar1 k ≠ 0) (h2 : l.length = ar1 k) (h3 : firstErr l = 0) : ∃ t, wf t ∧ text t = k :: l.flatten ∧ (kids t).map text = l := by
  obtain ⟨ks, hw, hk⟩ := trees_of l (firstErr_zero.1 h3)
  have ho : own (k :: l.flatten) = 1 := own_kind _ h1
  obtain ⟨t, ht, hh, hks⟩ := build (bs := k :: l.flatten) (ks := ks) (by omega) hw (by
    show ks.length = ar1 k
    rw [← h2, ← hk, List.length_map])
  refine ⟨t, ht, ?_, by rw [hks, hk]⟩
  rw [text_eq, hh, ho, hks, texts, List.flatMap_def, hk]
  rfl
theorem made_big {k : UInt8} {l : List (List UInt8)} (h1 : ar1 k ≠ 0) (h2 : l.length = ar1 k) (h3 : firstErr l = 0) (h4 : chk (k :: l.flatten) ≠ 0) : chk (k :: l.flatten) = 3 := by
  obtain ⟨t, hw, hx, _⟩ := made_chk h1 h2 h3
  rw [← hx] at h4 ⊢
  rw [chk_of hw] at h4 ⊢
  split
  · rfl
  · rename_i h
    rw [if_neg h] at h4
    split
    · rfl
    · rename_i h5
      rw [if_neg h5] at h4
      exact absurd rfl h4
end Tm

theorem kind_conv (k : UInt8) (w : World) : ∃ x : ByteArray, x.data.toList = [k] ∧ (convert 24 22 (.slice (some ⟨w.heap.size, 0, none⟩) 1 1)).run Try.prog (w.alloc (.cells #[.int .u8 (k.toNat : Int)] 5)) = .ok (.string x) (w.alloc (.cells #[.int .u8 (k.toNat : Int)] 5)) :=
  ⟨⟨[k].toArray⟩, rfl, conv_bytes _ _ [k] 1 (at_lit w _ _ (by simp))⟩

theorem app_bytes (x y : ByteArray) : (x ++ y).data.toList = x.data.toList ++ y.data.toList := by simp
theorem len_bytes (x : ByteArray) : x.data.toList.length = x.size := by simp
theorem str_eq {x : ByteArray} {b : List UInt8} (h : x.data.toList = b) : Value.string x = str b := by rw [← h, str_of]

/-- What Make is to give. -/
def MakePost (k : UInt8) (l : List (List UInt8)) (w : World) (e : Ending) (w' : World) : Prop :=
  e = .returned (.tuple #[str (Tm.make k l), .int .i64 (Tm.makeE k l : Nat)]) ∧ Below w.heap.size w w'

theorem makePost_err {k : UInt8} {l : List (List UInt8)} {w w' : World} {c : Nat} (h : Tm.makeE k l = c) (hc : c ≠ 0) (hb : Below w.heap.size w w') : MakePost k l w (.returned (.tuple #[.string ⟨#[]⟩, .int .i64 (c : Nat)])) w' := by
  refine ⟨?_, hb⟩
  have : Tm.make k l = [] := by unfold Tm.make; rw [if_neg (by omega)]
  rw [this, h]; rfl
theorem makePost_ok {k : UInt8} {l : List (List UInt8)} {w w' : World} {x : ByteArray} (h : Tm.makeE k l = 0) (hx : x.data.toList = k :: l.flatten) (hb : Below w.heap.size w w') : MakePost k l w (.returned (.tuple #[.string x, .int .i64 0])) w' := by
  refine ⟨?_, hb⟩
  have : Tm.make k l = k :: l.flatten := by unfold Tm.make; rw [if_pos h]
  rw [this, h, str_eq hx]; rfl

set_option maxHeartbeats 4000000 in
theorem make_any (k : UInt8) (a : Option Addr) (n cap : Nat) (l : List (List UInt8)) (w : World) (hn : l.length = n) (hcap : n ≤ 9223372036854775807) (h : AtS w a l) :
    Calls Try.prog 26 #[.int .u8 (k.toNat : Int), .slice a n cap] w (MakePost k l w) := by
  have hP := fun W => partsOf_any k W
  by_cases g1 : Tm.ar1 k = 0 ∨ l.length ≠ Tm.ar1 k
  · have Q1 : Aside (MakePost k l w (.returned (.tuple #[.string ⟨#[]⟩, .int .i64 (2 : Nat)])) w) := makePost_err (by unfold Tm.makeE; rw [if_pos g1]) (by omega) (Below.refl _ _)
    generalize MakePost k l w = Q at Q1 ⊢
    rw [hn] at g1
    generalize Tm.ar1 k = c at *
    generalize k.toNat = kk at *
    have P1 : Aside (∀ W, _) := hP
    by_cases g2 : c = 0
    · subst g2
      clear hP h hn g1
      go_enter Try.func26, Try.ntmps26
      go_wp2_with fail
      refine (P1.out w).mono ?_
      rintro e w1 ⟨rfl, hw⟩
      replace hw := hw.symm; subst hw
      go_wp2
      exact Q1.out
    · have t1 : (((c : Nat) : Int) == 0) = false := by
        have : ¬ (c : Int) = 0 := by omega
        simpa using this
      have t2 : ((n : Int) != (c : Int)) = true := by
        have : ¬ (n : Int) = (c : Int) := by omega
        simpa using this
      clear hP h hn g1 g2
      go_enter Try.func26, Try.ntmps26
      go_wp2_with fail
      refine (P1.out w).mono ?_
      rintro e w1 ⟨rfl, hw⟩
      replace hw := hw.symm; subst hw
      go_wp2
      exact Q1.out
  · have g2 : Tm.ar1 k ≠ 0 := fun e => g1 (.inl e)
    have g3 : l.length = Tm.ar1 k := Classical.byContradiction fun e => g1 (.inr e)
    have ha := Tm.ar1_le k
    have E : Aside (Tm.makeE k l = if Tm.firstErr l = 0 then Tm.chk (k :: l.flatten) else Tm.firstErr l) := by
      show _ = _
      unfold Tm.makeE; rw [if_neg g1]
    have G1 : Aside (∀ w' c, Tm.firstErr l = c → c ≠ 0 → Below w.heap.size w w' → MakePost k l w (.returned (.tuple #[.string ⟨#[]⟩, .int .i64 (c : Nat)])) w') :=
      fun w' c h1 h2 hb => makePost_err (by rw [E.out, if_neg (by omega)]; exact h1) h2 hb
    have G2 : Aside (∀ w' c, Tm.firstErr l = 0 → Tm.chk (k :: l.flatten) = c → c ≠ 0 → Below w.heap.size w w' → MakePost k l w (.returned (.tuple #[.string ⟨#[]⟩, .int .i64 (c : Nat)])) w') :=
      fun w' c h0 h1 h2 hb => makePost_err (by rw [E.out, if_pos h0]; exact h1) h2 hb
    have G3 : Aside (∀ w' x, Tm.firstErr l = 0 → Tm.chk (k :: l.flatten) = 0 → x.data.toList = k :: l.flatten → Below w.heap.size w w' → MakePost k l w (.returned (.tuple #[.string x, .int .i64 0])) w') :=
      fun w' x h0 h1 h2 hb => makePost_ok (by rw [E.out, if_pos h0]; exact h1) h2 hb
    generalize MakePost k l w = Q at G1 G2 G3 ⊢
    obtain ⟨x0, hx0, hcv⟩ := kind_conv k w
    rw [← g3, hn] at hP ha
    have t1 : (((n : Nat) : Int) == 0) = false := by
      have : ¬ (n : Int) = 0 := by omega
      simpa using this
    have HN : Hid (l.length = n) := hn
    have B0 : Aside (Below w.heap.size w (w.alloc (.cells #[.int .u8 (k.toNat : Int)] 5))) := (Below.refl _ w).alloc (Nat.le_refl _) _
    have X0 : Aside (x0.data.toList = [k]) := hx0
    have H : Aside (AtS w a l) := h
    generalize k.toNat = kk at *
    have P1 : Aside (∀ W, _) := hP
    clear hP h hn g1 g2 g3 E hx0 hcap
    go_enter Try.func26, Try.ntmps26
    go_wp2_with fail
    refine (P1.out w).mono ?_
    rintro e w1 ⟨rfl, hw⟩
    replace hw := hw.symm; subst hw
    go_wp2_with fail
    go_loopw [7, 27] (fun tx i wr => ∃ (j : Nat) (x : ByteArray), j ≤ n ∧ i = .int .i64 j ∧ tx = .string x ∧ x.size ≤ 1 + 2000 * j ∧ x.data.toList = k :: (l.take j).flatten ∧ Tm.firstErr (l.take j) = 0 ∧ Below w.heap.size w wr) (fun _ i _ => n - (intOf i).toNat)
    case atStart => exact ⟨0, x0, Nat.zero_le _, rfl, rfl, by rw [← len_bytes, X0.out]; simp, by rw [X0.out]; simp, rfl, B0.out⟩
    case round =>
      obtain ⟨j, x, hj, rfl, rfl, hxs, hx, hf, hb⟩ := hrel
      have S : Aside (x.data.toList = k :: (l.take j).flatten ∧ Tm.firstErr (l.take j) = 0 ∧ Below w.heap.size w wr) := ⟨hx, hf, hb⟩
      clear hx hf hb B0 X0
      by_cases hlt : j < n
      · have hjl : j < l.length := by rw [HN.out]; exact hlt
        have hget : l[j]? = some l[j] := List.getElem?_eq_getElem hjl
        have hat := atS_later S.out.2.2 H.out
        rcases hat with he | ⟨b, off, rfl, hc⟩
        · rw [he] at hjl; simp at hjl
        have c0 := hc j _ hget
        unfold str at c0
        obtain ⟨F1, F2⟩ := Tm.firstErr_step hget S.out.2.1
        have F3 := Tm.flat_step hget
        obtain ⟨y, hy⟩ : ∃ y : ByteArray, y = ⟨l[j].toArray⟩ := ⟨_, rfl⟩
        have hyl : y.data.toList = l[j] := by rw [hy]
        rw [← hy] at c0
        have hC := check_any y wr
        rw [hyl] at hC
        by_cases hz : Tm.chk l[j] = 0
        · rw [hz] at hC
          have hys : y.size ≤ 2000 := by rw [← len_bytes, hyl]; exact (Tm.chk_zero hz).1
          have F : Aside ((x ++ y).data.toList = k :: (l.take (j + 1)).flatten ∧ Tm.firstErr (l.take (j + 1)) = 0) := ⟨by rw [app_bytes, S.out.1, hyl, F3]; rfl, F1 hz⟩
          have hsz : (x ++ y).size ≤ 1 + 2000 * (j + 1) := by rw [ByteArray.size_append']; omega
          clear F1 F2 F3 hz hyl hy hc hget hjl G1 G2 G3
          go_wp2_with fail
          refine hC.mono ?_
          rintro e w1 ⟨rfl, hb1⟩
          have B1 : Aside (Below w.heap.size w w1) := below_step S.out.2.2 hb1
          clear hC hb1
          go_wp2
          go_roundw
          case rel => exact ⟨j + 1, x ++ y, by omega, by go_num, rfl, hsz, F.out.1, F.out.2, B1.out⟩
          case measure => simp [intOf]; omega
        · have Q1 : Aside (∀ w1, Below wr.heap.size wr w1 → Q (.returned (.tuple #[.string ⟨#[]⟩, .int .i64 (Tm.chk l[j] : Nat)])) w1) := fun w1 hb1 => G1.out w1 _ (F2 hz) hz (below_step S.out.2.2 hb1)
          have t2 : (((Tm.chk l[j] : Nat) : Int) != 0) = true := by
            have : ¬ ((Tm.chk l[j] : Nat) : Int) = 0 := by omega
            simpa using this
          generalize Tm.chk l[j] = cc at *
          clear F1 F2 F3 hz hyl hy hc hget hjl G1 G2 G3 S
          go_wp2_with fail
          refine hC.mono ?_
          rintro e w1 ⟨rfl, hb1⟩
          have Q2 := Q1.out w1 hb1
          clear hC hb1 Q1
          go_wp2
          exact Q2
      · obtain rfl : j = n := by omega
        have S1 := S.out
        rw [List.take_of_length_le (by rw [HN.out]; exact Nat.le_refl _)] at S1
        have hC := check_any x wr
        rw [S1.1] at hC
        by_cases hz : Tm.chk (k :: l.flatten) = 0
        · have Q1 : Aside (∀ w1, Below wr.heap.size wr w1 → Q (.returned (.tuple #[.string x, .int .i64 0])) w1) := fun w1 hb1 => G3.out w1 x S1.2.1 hz S1.1 (below_step S1.2.2 hb1)
          rw [hz] at hC
          clear G1 G2 G3 S S1 hz
          go_wp2_with fail
          refine hC.mono ?_
          rintro e w1 ⟨rfl, hb1⟩
          have Q2 := Q1.out w1 hb1
          clear hC hb1 Q1
          go_wp2
          exact Q2
        · have Q1 : Aside (∀ w1, Below wr.heap.size wr w1 → Q (.returned (.tuple #[.string ⟨#[]⟩, .int .i64 (Tm.chk (k :: l.flatten) : Nat)])) w1) := fun w1 hb1 => G2.out w1 _ S1.2.1 rfl hz (below_step S1.2.2 hb1)
          have t2 : (((Tm.chk (k :: l.flatten) : Nat) : Int) != 0) = true := by
            have : ¬ ((Tm.chk (k :: l.flatten) : Nat) : Int) = 0 := by omega
            simpa using this
          generalize Tm.chk (k :: l.flatten) = cc at *
          clear G1 G2 G3 S S1 hz
          go_wp2_with fail
          refine hC.mono ?_
          rintro e w1 ⟨rfl, hb1⟩
          have Q2 := Q1.out w1 hb1
          clear hC hb1 Q1
          go_wp2
          exact Q2

end Go.Proofs.Ytimeggbjmcnnoaa
