/- KnowParts: the walk. -/
import Derived.Test.YtdpnffnogckfjaaLwD
namespace Go.Proofs.Ytdpnffnogckfjaa
open Go.RowKit

set_option maxRecDepth 20000 in
set_option maxHeartbeats 8000000 in
theorem parts_main (a : Option Addr) (n cap : Nat) (l : List (List UInt8)) (w : World) (h : IsTerms w a n l) (h1 : Tm.knownE l = 0) :
    Calls Try.prog 9 #[.slice a n cap] w fun e w' => e = .returned (.bool true) ∧ Below w.heap.size w w' := by
  have AL : Aside (∀ W, Below w.heap.size w W → _) := fun W hb => c_alive w W hb
  have FW : Aside (∀ W, Below w.heap.size w W → _) := fun W hb => c_few cap h W hb
  have RT : Aside (∀ W, n ≤ 20 → Below w.heap.size w W → _) := fun W hn hb => c_right cap h W hn hb
  have KN : Aside (∀ W, Below w.heap.size w W → _) := fun W hb => c_known cap h W hb
  have HS : Aside (∀ W (t : ByteArray), n ≤ 20 → Below w.heap.size w W → Calls Try.prog 20 #[.slice a n cap, .string t] W fun e w' => e = .returned (.bool (hasB l t.data.toList)) ∧ Below W.heap.size W w') := fun W t hn hb => has_any a n cap l t W h.1 (by omega) (atS_later hb h.2.2.1)
  have hkl : Tm.knownL l = Tm.closeL l (Tm.allL l) := by unfold Tm.knownL; rw [if_pos h1]
  obtain ⟨p1, p2, p3⟩ := Tm.known_parts (knownE_good h1)
  rw [← hkl] at p1 p2 p3
  have KP : Aside (Tm.Sorted (Tm.knownL l) ∧ (∀ t ∈ Tm.knownL l, hasB l t = true) ∧ ∀ t ∈ l, t ∈ Tm.knownL l) := ⟨p1, fun t ht => hasB_iff.2 (p2 t ht).1, p3⟩
  have HN : Hid (l.length = n) := h.1
  have AT : Aside (AtS w a l) := h.2.2.1
  have KL : Aside ((Tm.knownL l).length ≤ 400000) := known_len l
  rw [decide_eq_true h1] at RT
  rw [h1] at KN
  generalize Tm.knownL l = K at *
  obtain ⟨m, hm⟩ : ∃ m, m = K.length := ⟨_, rfl⟩
  have HM : Hid (m = K.length) := hm
  rw [← hm] at KN KL
  clear h h1 hkl p1 p2 p3 hm
  go_enter Try.func9, Try.ntmps9
  go_wp2_with fail
  refine (AL.out w (Below.refl _ _)).mono ?_
  rintro e w1 ⟨rfl, b1⟩
  have B1 : Aside (Below w.heap.size w w1) := b1
  clear b1 AL
  go_wp2_with fail
  refine (FW.out w1 B1.out).mono ?_
  rintro e w2 ⟨b, rfl, h20, b2⟩
  have B2 : Aside (Below w.heap.size w w2) := b2
  clear b2 B1 FW
  cases b with
  | false =>
    go_wp2
    go_ret
    exact ⟨rfl, B2.out⟩
  | true =>
    have n20 := h20 rfl
    clear h20
    go_wp2_with fail
    refine (RT.out w2 n20 B2.out).mono ?_
    rintro e w3 ⟨rfl, b3⟩
    have B3 : Aside (Below w.heap.size w w3) := b3
    clear b3 B2 RT
    go_wp2_with fail
    refine (KN.out w3 B3.out).mono ?_
    rintro e w4 ⟨ka, kc, rfl, hat, b4⟩
    have B4 : Aside (Below w.heap.size w w4 ∧ AtS w4 ka K) := ⟨b4, hat⟩
    clear b4 B3 KN hat
    have m9 := KL.out
    go_wp2_with fail
    go_loopw [31] (fun i wr => ∃ j : Nat, j ≤ m ∧ i = .int .i64 j ∧ Below w4.heap.size w4 wr) (fun i _ => m - (intOf i).toNat)
    case atStart => exact ⟨0, Nat.zero_le _, rfl, Below.refl _ _⟩
    case round =>
      obtain ⟨j, hj, rfl, hb⟩ := hrel
      have S : Aside (Below w4.heap.size w4 wr) := hb
      clear hb
      by_cases hlt : j < m
      · have hjl : j < K.length := by rw [← HM.out]; exact hlt
        obtain ⟨pb, po, rfl, hcs⟩ : ∃ b off, ka = some ⟨b, off, none⟩ ∧ ∀ i y, K[i]? = some y → w4.cell? ⟨b, off + i, none⟩ = some (str y) := by
          rcases B4.out.2 with e | h
          · rw [e] at hjl; simp at hjl
          · exact h
        have CS : Aside (∀ W, Below w4.heap.size w4 W → ∀ i y, K[i]? = some y → W.cell? ⟨pb, po + i, none⟩ = some (str y)) := fun W hb i y hy => cell_later hb (hcs i y hy)
        have c0 := CS.out wr S.out j K[j] (List.getElem?_eq_getElem hjl)
        have HH := HS.out wr ⟨K[j].toArray⟩ n20 (later2 B4.out.1 S.out)
        rw [str_bytes, KP.out.2.1 K[j] (List.getElem_mem hjl)] at HH
        have u1 : (j : Int) < (m : Int) := by omega
        have u0 : (0 : Int) ≤ (j : Int) := by omega
        clear hcs
        unfold str at c0
        by_cases hj0 : j = 0
        · subst hj0
          rw [Nat.add_zero] at c0
          generalize (⟨K[0].toArray⟩ : ByteArray) = x at *
          go_wp2_with fail
          refine HH.mono ?_
          rintro e w5 ⟨rfl, b5⟩
          have B5 : Aside (Below w4.heap.size w4 w5) := later2 S.out b5
          clear HH b5 S CS c0
          go_wp2
          go_roundw
          case rel => exact ⟨1, by omega, by go_num, B5.out⟩
          case measure => simp [intOf]; omega
        · obtain ⟨i, rfl⟩ : ∃ i, j = i + 1 := ⟨j - 1, by omega⟩
          have hil : i < K.length := by omega
          have lt : K[i] < K[i + 1] := (List.pairwise_iff_getElem.1 KP.out.1) i (i + 1) hil hjl (by omega)
          have PC : Aside (∀ W, Below w4.heap.size w4 W → W.cell? ⟨pb, po + i, none⟩ = some (str K[i])) := fun W hb => CS.out W hb i K[i] (List.getElem?_eq_getElem hil)
          clear CS
          have v1 : ((i + 1 : Nat) : Int) - 1 = (i : Int) := by omega
          have v2 : (0 : Int) < ((i + 1 : Nat) : Int) := by omega
          have bl : Op.bytesLess (⟨K[i].toArray⟩ : ByteArray).toList (⟨K[i + 1].toArray⟩ : ByteArray).toList = true := by rw [less_lists, decide_eq_true lt]
          clear lt
          generalize (⟨K[i + 1].toArray⟩ : ByteArray) = x at *
          unfold str at PC
          generalize (⟨K[i].toArray⟩ : ByteArray) = x0 at *
          go_wp2_with fail
          refine HH.mono ?_
          rintro e w5 ⟨rfl, b5⟩
          have B5 : Aside (Below w4.heap.size w4 w5) := later2 S.out b5
          have d0 := PC.out w5 B5.out
          clear HH b5 S c0 PC
          go_wp2
          go_roundw
          case rel => exact ⟨i + 1 + 1, by omega, by go_num, B5.out⟩
          case measure => simp [intOf]; omega
      · obtain rfl : j = m := by omega
        have B6 : Aside (Below w4.heap.size w4 wr) := S.out
        clear S HS
        obtain ⟨w6, rfl⟩ : ∃ x, x = wr := ⟨wr, rfl⟩
        go_wp2_with fail
        go_loopw [56] (fun i wr => ∃ q : Nat, q ≤ n ∧ i = .int .i64 q ∧ wr = w6) (fun i _ => n - (intOf i).toNat)
        case atStart => exact ⟨0, Nat.zero_le _, rfl, rfl⟩
        case round =>
          obtain ⟨q, hq, rfl, hw⟩ := hrel
          subst hw
          by_cases hql : q < n
          · have hqs : q < l.length := by rw [HN.out]; exact hql
            have hatl := atS_later (later2 B4.out.1 B6.out) AT.out
            obtain ⟨lb, lo, rfl, hcl⟩ : ∃ b off, a = some ⟨b, off, none⟩ ∧ ∀ i y, l[i]? = some y → wr.cell? ⟨b, off + i, none⟩ = some (str y) := by
              rcases hatl with e | h
              · rw [e] at hqs; simp at hqs
              · exact h
            have c0 := hcl q l[q] (List.getElem?_eq_getElem hqs)
            have TK : Aside (l[q] ∈ K) := KP.out.2.2 l[q] (List.getElem_mem hqs)
            have u1 : (q : Int) < (n : Int) := by omega
            have u0 : (0 : Int) ≤ (q : Int) := by omega
            clear hcl hatl
            unfold str at c0
            generalize hty : l[q] = t at *
            clear hty
            obtain ⟨w7, rfl⟩ : ∃ x, x = wr := ⟨wr, rfl⟩
            have EQ : Aside (∀ y : List UInt8, ((⟨y.toArray⟩ : ByteArray).toList == (⟨t.toArray⟩ : ByteArray).toList) = decide (y = t)) := fun y => eq_lists _ _
            generalize (⟨t.toArray⟩ : ByteArray) = xt at *
            go_wp2_with fail
            go_loopw [9, 62] (fun f i wr => ∃ r : Nat, r ≤ j ∧ i = .int .i64 r ∧ f = .bool (decide (t ∈ K.take r)) ∧ wr = w7) (fun _ i _ => j - (intOf i).toNat)
            case atStart => exact ⟨0, Nat.zero_le _, rfl, by simp, rfl⟩
            case round =>
              obtain ⟨r, hr, rfl, rfl, hw⟩ := hrel
              subst hw
              by_cases hrl : r < j
              · have hrk : r < K.length := by rw [← HM.out]; exact hrl
                obtain ⟨pb, po, rfl, hcs⟩ : ∃ b off, ka = some ⟨b, off, none⟩ ∧ ∀ i y, K[i]? = some y → wr.cell? ⟨b, off + i, none⟩ = some (str y) := by
                  rcases atS_later B6.out B4.out.2 with e | h
                  · rw [e] at hrk; simp at hrk
                  · exact h
                have d0 := hcs r K[r] (List.getElem?_eq_getElem hrk)
                have eq := EQ.out K[r]
                have ST : Hid (decide (t ∈ K.take (r + 1)) = (decide (t ∈ K.take r) || decide (K[r] = t))) := by
                  show _ = _
                  rw [List.take_succ_eq_append_getElem hrk, Bool.eq_iff_iff]
                  simp only [List.mem_append, List.mem_singleton, decide_eq_true_eq, Bool.or_eq_true]
                  constructor
                  · rintro (h | h)
                    · exact .inl h
                    · exact .inr h.symm
                  · rintro (h | h)
                    · exact .inl h
                    · exact .inr h.symm
                have v1 : (r : Int) < (j : Int) := by omega
                have v0 : (0 : Int) ≤ (r : Int) := by omega
                clear hcs
                unfold str at d0
                generalize (⟨K[r].toArray⟩ : ByteArray) = x at *
                generalize decide (K[r] = t) = eb at *
                generalize decide (t ∈ K.take r) = fb at *
                cases fb with
                | true =>
                  go_wp2
                  go_roundw
                  case rel => exact ⟨r + 1, by omega, by go_num, by rw [ST.out]; rfl, trivial⟩
                  case measure => simp [intOf]; omega
                | false =>
                  go_wp2
                  go_roundw
                  case rel => exact ⟨r + 1, by omega, by go_num, by rw [ST.out]; rfl, trivial⟩
                  case measure => simp [intOf]; omega
              · obtain rfl : r = j := by omega
                have e1 : decide (t ∈ K.take r) = true := by
                  rw [List.take_of_length_le (by rw [HM.out]; exact Nat.le_refl _)]
                  exact decide_eq_true TK.out
                rw [e1]
                go_wp2
                go_roundw
                case rel => exact ⟨q + 1, by omega, by go_num, trivial⟩
                case measure => simp [intOf]; omega
          · obtain rfl : q = n := by omega
            go_wp2
            go_ret
            exact ⟨rfl, later2 B4.out.1 B6.out⟩

set_option maxRecDepth 20000 in
set_option maxHeartbeats 8000000 in
theorem parts_walk (a : Option Addr) (n cap : Nat) (l : List (List UInt8)) (w : World) (h : IsTerms w a n l) :
    Calls Try.prog 9 #[.slice a n cap] w fun e w' => e = .returned (.bool true) ∧ Below w.heap.size w w' := by
  by_cases h1 : Tm.knownE l = 0
  · exact parts_main a n cap l w h h1
  · have AL : Aside (∀ W, Below w.heap.size w W → _) := fun W hb => c_alive w W hb
    have FW : Aside (∀ W, Below w.heap.size w W → _) := fun W hb => c_few cap h W hb
    have RT : Aside (∀ W, n ≤ 20 → Below w.heap.size w W → _) := fun W hn hb => c_right cap h W hn hb
    rw [decide_eq_false h1] at RT
    clear h h1
    go_enter Try.func9, Try.ntmps9
    go_wp2_with fail
    refine (AL.out w (Below.refl _ _)).mono ?_
    rintro e w1 ⟨rfl, b1⟩
    have B1 : Aside (Below w.heap.size w w1) := b1
    clear b1 AL
    go_wp2_with fail
    refine (FW.out w1 B1.out).mono ?_
    rintro e w2 ⟨b, rfl, h20, b2⟩
    have B2 : Aside (Below w.heap.size w w2) := b2
    clear b2 B1 FW
    cases b with
    | false =>
      go_wp2
      go_ret
      exact ⟨rfl, B2.out⟩
    | true =>
      have n20 := h20 rfl
      clear h20
      go_wp2_with fail
      refine (RT.out w2 n20 B2.out).mono ?_
      rintro e w3 ⟨rfl, b3⟩
      have B3 : Aside (Below w.heap.size w w3) := b3
      clear b3 B2 RT
      go_wp2
      go_ret
      exact ⟨rfl, B3.out⟩

end Go.Proofs.Ytdpnffnogckfjaa
