/- What the document's own built gives. -/
import Derived.Test.YtimeggbjmcnnoaaLnE
namespace Go.Proofs.Ytimeggbjmcnnoaa
open Go.RowKit

theorem cut_piece {bs : List UInt8} {q m : Nat} (hq : q < (Tm.cut bs).length) (hm : m = min 40 (bs.length - 40 * q)) : Tm.const (pieceOf bs (40 * q, m)) = ((Tm.cut bs).map Tm.const).getD q [] := by
  rw [List.getD_eq_getElem?_getD, List.getElem?_map, Tm.cut_at bs q hq]
  show Tm.const _ = Tm.const _
  unfold pieceOf
  congr 1
  rw [hm]
  by_cases g : 40 ≤ bs.length - 40 * q
  · rw [Nat.min_eq_left g]
  · rw [Nat.min_eq_right (by omega), List.take_of_length_le (by rw [List.length_drop]; omega), List.take_of_length_le (by rw [List.length_drop]; omega)]

set_option maxRecDepth 100000 in
set_option maxHeartbeats 4000000 in
theorem rbuilt_any (b n cap : Nat) (bs : List UInt8) (w : World) (h1 : 0 < n) (h2 : n ≤ 1100) (hB : Byt w (some ⟨b, 0, none⟩) n cap bs) :
    Calls Try.prog 34 #[.slice (some ⟨b, 0, none⟩) n cap] w fun e w' => e = .returned (str (bldM ((Tm.cut bs).map Tm.const))) ∧ Below w.heap.size w w' := by
  obtain ⟨hl, hcap, hat, -⟩ := hB
  have HL : Hid (bs.length = n) := hl
  have CC := cut_count (bs := bs) (by omega)
  have H0 : Aside (AtB w (some ⟨b, 0, none⟩) bs ∧ ((Tm.cut bs).map Tm.const).length = (Tm.cut bs).length) := ⟨hat, by simp⟩
  rw [hl] at CC
  have CP : Aside (∀ q m, q < (Tm.cut bs).length → m = min 40 (n - 40 * q) → Tm.const (pieceOf bs (40 * q, m)) = ((Tm.cut bs).map Tm.const).getD q []) := fun q m a1 a2 => cut_piece a1 (by rw [hl]; exact a2)
  generalize (Tm.cut bs).map Tm.const = L at *
  generalize (Tm.cut bs).length = M at *
  have q1 : ((n : Int) - 1) / 40 = (M : Int) - 1 := by omega
  have hM : M ≤ 100 := by omega
  have CC0 : Aside (n ≤ 40 * M ∧ 40 * M < n + 40) := CC
  clear hl hat CC
  go_enter Try.func34, Try.ntmps34
  go_wp2_with fail
  rw [q1]
  clear q1
  go_loopw [3, 5] (fun tx i wr => ∃ (k : Nat) (x : ByteArray), k ≤ M ∧ i = .int .i64 ((M : Int) - 1 - k) ∧ tx = .string x ∧ x.data.toList = bldM (L.drop (L.length - k)) ∧ Below w.heap.size w wr) (fun _ i _ => (intOf i + 1).toNat)
  case atStart => exact ⟨0, ⟨#[]⟩, Nat.zero_le _, by go_num, rfl, by simp [bldM], Below.refl _ _⟩
  case round =>
    obtain ⟨k, x, hk, rfl, rfl, hx, hb⟩ := hrel
    have S : Aside (x.data.toList = bldM (L.drop (L.length - k)) ∧ Below w.heap.size w wr) := ⟨hx, hb⟩
    clear hx hb
    by_cases hlt : k < M
    · obtain ⟨q, hq⟩ : ∃ q : Nat, q + 1 + k = M := ⟨M - 1 - k, by omega⟩
      have hqi : (M : Int) - 1 - k = (q : Int) := by omega
      rw [hqi]
      obtain ⟨o, ho⟩ : ∃ o : Nat, o = 40 * q := ⟨_, rfl⟩
      obtain ⟨m, hm⟩ : ∃ m : Nat, m = min 40 (n - o) := ⟨_, rfl⟩
      obtain ⟨en, hen⟩ : ∃ en : Nat, en = o + m := ⟨_, rfl⟩
      have c0 := CC0.out
      have hol : o < n := by omega
      have a1 : (q : Int) * 40 = (o : Int) := by omega
      have a2 : ((q : Int) + 1) * 40 = (o : Int) + 40 := by omega
      have a3 : min (n : Int) ((o : Int) + 40) = (en : Int) := by omega
      have a4 : (o : Int) ≤ (en : Int) := by omega
      have a5 : (en : Int) ≤ (cap : Int) := by omega
      have a6 : ¬ cap = o := by omega
      have a7 : en - o = m := by omega
      have a8 : (0 : Int) ≤ (q : Int) := by omega
      have a10 : (q : Int) ≤ 100 := by omega
      have a11 : (o : Int) ≤ 9999 := by omega
      have hom : (o, m).1 + (o, m).2 ≤ bs.length := by rw [HL.out]; show o + m ≤ n; omega
      have PA := piece_at (atB_later S.out.2 H0.out.1) ⟨(o, m), hom⟩
      have hcv := conv9 wr _ _ (cap - o) PA.1
      rw [PA.2] at hcv
      have C := rconst_any ⟨(pieceOf bs (o, m)).toArray⟩ wr
      rw [str_bytes] at C
      have EC := CP.out q m (by omega) (by rw [← ho]; exact hm)
      rw [← ho] at EC
      rw [EC] at C
      have P1 : Aside (Calls _ _ _ _ _) := C
      generalize hcc : L.getD q [] = c at *
      have HC : Aside (L.getD q [] = c) := hcc
      unfold str at hcv P1
      dsimp only at hcv
      generalize (⟨(pieceOf bs (o, m)).toArray⟩ : ByteArray) = y at *
      generalize Tm.constE (pieceOf bs (o, m)) = ec at *
      obtain ⟨cb, hcb⟩ : ∃ cb : ByteArray, cb = ⟨c.toArray⟩ := ⟨_, rfl⟩
      rw [← hcb] at P1
      have HCB : Aside (cb = ⟨c.toArray⟩) := hcb
      have HO : Aside (o = 40 * q ∧ m = min 40 (n - o) ∧ o < n) := ⟨ho, hm, hol⟩
      have LL : Aside (L.length = M) := H0.out.2
      clear hcb hcc EC C PA hom ho hm hen hol c0
      by_cases hk0 : k = 0
      · have t1 : ((q : Int) == (M : Int) - 1) = true := by
          have : (q : Int) = (M : Int) - 1 := by omega
          simpa using this
        have NX : Aside (cb.data.toList = bldM (L.drop (L.length - (k + 1)))) := by
          show _ = _
          have e1 : L.length - 1 = q := by rw [LL.out]; omega
          rw [HCB.out, hk0, Nat.zero_add, bldM_last (by rw [LL.out]; omega), e1, HC.out]
        clear HC HCB CP H0
        go_wp2_with fail
        refine P1.out.mono ?_
        rintro e w1 ⟨rfl, hb1⟩
        have B1 : Aside (Below w.heap.size w w1) := below_step S.out.2 hb1
        clear hb1 P1 hcv
        go_wp2
        go_roundw
        case rel => exact ⟨k + 1, cb, by omega, by first | go_num | (congr 1; omega), rfl, NX.out, B1.out⟩
        case measure => simp [intOf]
      · have t1 : ((q : Int) == (M : Int) - 1) = false := by
          have : ¬ (q : Int) = (M : Int) - 1 := by omega
          simpa using this
        have TW : Aside (∀ w1, Calls Try.prog 48 #[.int .u8 112, .string cb, .string x] w1 fun e w' => e = .returned (str (bldM (L.drop (L.length - (k + 1))))) ∧ Below w1.heap.size w1 w') := by
          intro w1
          have := rtwo_any c (bldM (L.drop (L.length - k))) w1
          rw [← str_eq S.out.1] at this
          rw [HCB.out]
          have e1 : L.length - 1 - k = q := by rw [LL.out]; omega
          rw [bldM_step (by rw [LL.out]; exact hlt) (by omega), e1, HC.out]
          exact this
        unfold str at TW
        obtain ⟨z, hz⟩ : ∃ z : ByteArray, z = ⟨(bldM (L.drop (L.length - (k + 1)))).toArray⟩ := ⟨_, rfl⟩
        rw [← hz] at TW
        have NX : Aside (z.data.toList = bldM (L.drop (L.length - (k + 1)))) := by rw [hz]; exact str_bytes _
        clear hz HC HCB CP H0
        go_wp2_with fail
        refine P1.out.mono ?_
        rintro e w1 ⟨rfl, hb1⟩
        have B1 : Aside (Below w.heap.size w w1) := below_step S.out.2 hb1
        clear hb1 P1 hcv
        go_wp2_with fail
        refine (TW.out w1).mono ?_
        rintro e w2 ⟨rfl, hb2⟩
        have B2 : Aside (Below w.heap.size w w2) := below_step B1.out hb2
        clear hb2 TW B1
        go_wp2
        go_roundw
        case rel => exact ⟨k + 1, z, by omega, by first | go_num | (congr 1; omega), rfl, NX.out, B2.out⟩
        case measure => simp [intOf]
    · obtain rfl : k = M := by omega
      have e : (k : Int) - 1 - k = -1 := by omega
      rw [e]
      have hv : Value.string x = str (bldM L) := str_eq (by rw [S.out.1, H0.out.2, Nat.sub_self, List.drop_zero])
      have HV : Aside (Value.string x = str (bldM L)) := hv
      clear hv
      go_wp2
      go_ret
      exact ⟨congrArg Ending.returned HV.out, S.out.2⟩

end Go.Proofs.Ytimeggbjmcnnoaa
