/- What Has gives. -/
import Derived.Test.YtdpnffnogckfjaaLwA
namespace Go.Proofs.Ytdpnffnogckfjaa
open Go.RowKit

def hasB (l : List (List UInt8)) (t : List UInt8) : Bool := l.any (fun x => decide (t ∈ Tm.subsOf x))
theorem hasB_iff {l : List (List UInt8)} {t : List UInt8} : hasB l t = true ↔ Tm.Uni l t := by
  unfold hasB Tm.Uni
  simp

set_option maxHeartbeats 8000000 in
theorem has_any (a : Option Addr) (n cap : Nat) (l : List (List UInt8)) (t : ByteArray) (w : World) (hn : l.length = n) (hn63 : n ≤ 4000) (hl : AtS w a l) :
    Calls Try.prog 20 #[.slice a n cap, .string t] w fun e w' => e = .returned (.bool (hasB l t.data.toList)) ∧ Below w.heap.size w w' := by
  have R : Aside (∀ b w', b = hasB l t.data.toList → Below w.heap.size w w' → (fun (e : Ending) w' => e = .returned (.bool (hasB l t.data.toList)) ∧ Below w.heap.size w w') (.returned (.bool b)) w') := by
    rintro b w' rfl hb; exact ⟨rfl, hb⟩
  generalize (fun (e : Ending) w' => e = .returned (.bool (hasB l t.data.toList)) ∧ Below w.heap.size w w') = Q at R ⊢
  have HN : Hid (l.length = n) := hn
  have C : Aside (AtS w a l) := hl
  clear hl hn
  go_enter Try.func20, Try.ntmps20
  go_wp2_with fail
  go_loopw [13] (fun i wr => ∃ j : Nat, j ≤ n ∧ i = .int .i64 j ∧ hasB (l.take j) t.data.toList = false ∧ Below w.heap.size w wr) (fun i _ => n - (intOf i).toNat)
  case atStart => exact ⟨0, Nat.zero_le _, rfl, rfl, Below.refl _ _⟩
  case round =>
    obtain ⟨j, hj, rfl, hf, hb⟩ := hrel
    have S : Aside (hasB (l.take j) t.data.toList = false ∧ Below w.heap.size w wr) := ⟨hf, hb⟩
    clear hf hb
    by_cases hlt : j < n
    · have hjl : j < l.length := by rw [HN.out]; exact hlt
      have hx := List.getElem?_eq_getElem hjl
      obtain ⟨b, off, rfl, hcs⟩ : ∃ b off, a = some ⟨b, off, none⟩ ∧ ∀ i y, l[i]? = some y → wr.cell? ⟨b, off + i, none⟩ = some (str y) := by
        rcases atS_later S.out.2 C.out with e | h
        · rw [e] at hjl; simp at hjl
        · exact h
      have c0 := hcs j l[j] hx
      have K : Aside (Calls Try.prog 24 #[str l[j]] wr (SubsPost l[j] wr)) := rsubs_any ⟨l[j].toArray⟩ wr
      have NO : Aside (t.data.toList ∉ Tm.subsOf l[j] → hasB (l.take (j + 1)) t.data.toList = false) := by
        intro h
        rw [List.take_succ_eq_append_getElem hjl]
        have := S.out.1
        unfold hasB at *
        rw [List.any_append, this]
        simp [h]
      have YES : Aside (t.data.toList ∈ Tm.subsOf l[j] → true = hasB l t.data.toList) := by
        intro h
        exact (hasB_iff.2 ⟨l[j], List.getElem_mem hjl, h⟩).symm
      have u1 : (j : Int) < (n : Int) := by omega
      have u0 : (0 : Int) ≤ (j : Int) := by omega
      have SL : Aside ((Tm.subsOf l[j]).length ≤ 2000) := Tm.subsOf_len _
      clear hcs hx
      obtain ⟨wo, rfl⟩ : ∃ x, x = wr := ⟨wr, rfl⟩
      generalize l[j] = y at *
      unfold str at c0 K
      unfold SubsPost at K
      generalize (⟨y.toArray⟩ : ByteArray) = x at *
      go_wp2_with fail
      refine K.out.mono ?_
      rintro e w2 ⟨v, rfl, ho, hb2⟩
      obtain ⟨sa, sc, rfl, hsl, -, hat⟩ := owns_strs ho
      have D : Aside (AtS w2 sa (Tm.subsOf y) ∧ Below w.heap.size w w2) := ⟨hat, below_step S.out.2 hb2⟩
      clear K hb2 ho hat S hsl
      generalize Tm.subsOf y = ss at *
      obtain ⟨m, hm⟩ : ∃ m, m = ss.length := ⟨_, rfl⟩
      have HM : Hid (m = ss.length) := hm
      rw [← hm] at SL ⊢
      have m2 : m ≤ 2000 := SL.out
      generalize Tm.chk y = cc at *
      clear hm SL c0
      go_wp2_with fail
      go_loopw [24] (fun i wr => ∃ q : Nat, q ≤ m ∧ i = .int .i64 q ∧ t.data.toList ∉ ss.take q ∧ wr = w2) (fun i _ => m - (intOf i).toNat)
      case atStart => exact ⟨0, Nat.zero_le _, rfl, by simp, rfl⟩
      case round =>
        obtain ⟨q, hq, rfl, hno, hw⟩ := hrel
        subst hw
        have NN : Aside (t.data.toList ∉ ss.take q) := hno
        clear hno
        by_cases hql : q < m
        · have hqs : q < ss.length := by rw [← HM.out]; exact hql
          obtain ⟨pb, po, rfl, hcs⟩ : ∃ b off, sa = some ⟨b, off, none⟩ ∧ ∀ i y, ss[i]? = some y → wr.cell? ⟨b, off + i, none⟩ = some (str y) := by
            rcases D.out.1 with e | h
            · rw [e] at hqs; simp at hqs
            · exact h
          have d0 := hcs q ss[q] (List.getElem?_eq_getElem hqs)
          have te : ((⟨ss[q].toArray⟩ : ByteArray).toList == t.toList) = decide (ss[q] = t.data.toList) := eq_lists _ _
          have v1 : (q : Int) < (m : Int) := by omega
          have v0 : (0 : Int) ≤ (q : Int) := by omega
          have T1 : Aside (ss[q] ≠ t.data.toList → t.data.toList ∉ ss.take (q + 1)) := by
            intro hne hin
            rw [List.take_succ_eq_append_getElem hqs] at hin
            rcases List.mem_append.1 hin with h | h
            · exact NN.out h
            · simp at h; exact hne h.symm
          have T2 : Aside (ss[q] = t.data.toList → t.data.toList ∈ ss) := fun e => e ▸ List.getElem_mem hqs
          clear hcs
          unfold str at d0
          by_cases he : ss[q] = t.data.toList
          · rw [decide_eq_true he] at te
            have Q1 : Aside (Q (.returned (.bool true)) wr) := R.out true wr (YES.out (T2.out he)) D.out.2
            clear T1 T2 R D YES NO he
            generalize (⟨ss[q].toArray⟩ : ByteArray) = z at *
            go_wp2
            exact Q1.out
          · rw [decide_eq_false he] at te
            have T3 : Aside (t.data.toList ∉ ss.take (q + 1)) := T1.out he
            clear T1 T2 he
            generalize (⟨ss[q].toArray⟩ : ByteArray) = z at *
            go_wp2
            go_roundw
            case rel => exact ⟨q + 1, by omega, by go_num, T3.out, trivial⟩
            case measure => simp [intOf]; omega
        · obtain rfl : q = m := by omega
          have N2 : Aside (hasB (l.take (j + 1)) t.data.toList = false ∧ Below w.heap.size w wr) := by
            refine ⟨NO.out ?_, D.out.2⟩
            have := NN.out
            rw [List.take_of_length_le (by rw [HM.out]; exact Nat.le_refl _)] at this
            exact this
          clear NO YES NN D R
          go_wp2
          go_roundw
          case rel => exact ⟨j + 1, by omega, by go_num, N2.out.1, N2.out.2⟩
          case measure => simp [intOf]; omega
    · obtain rfl : j = n := by omega
      have Q1 := R.out false wr (by
        have := S.out.1
        rw [List.take_of_length_le (by rw [HN.out]; exact Nat.le_refl _)] at this
        exact this.symm) S.out.2
      clear R S
      go_wp2
      exact Q1

end Go.Proofs.Ytdpnffnogckfjaa
