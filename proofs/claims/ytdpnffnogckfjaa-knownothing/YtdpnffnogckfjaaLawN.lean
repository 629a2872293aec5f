/- KnowNothing: the walk. -/
import Derived.Test.YtdpnffnogckfjaaLwC
namespace Go.Proofs.Ytdpnffnogckfjaa
open Go.RowKit

def bareB (ss : List (List UInt8)) : Bool := ss.all (fun s => s.headD 0 != 110)
theorem bare_step {ss : List (List UInt8)} {j : Nat} (h : j < ss.length) : bareB (ss.take (j + 1)) = (bareB (ss.take j) && (ss[j].headD 0 != 110)) := by
  unfold bareB
  rw [List.take_succ_eq_append_getElem h, List.all_append]; simp
theorem derivesE_nil (g : List UInt8) : Tm.derivesE [] g = Tm.chk g := rfl
theorem bare_can {g : List UInt8} (hg : Tm.chk g = 0) : bareB (Tm.subsOf g) = Tm.derives [] g := by
  unfold Tm.derives
  rw [if_pos (by rw [derivesE_nil]; exact hg), Bool.eq_iff_iff, Tm.can_nothing hg]
  unfold bareB
  rw [List.all_eq_true]
  constructor
  · intro h s hs
    have h1 := h s hs
    have h2 := (Tm.sub_ok hs).1
    unfold Tm.kindOf
    rw [if_pos h2]
    simpa using h1
  · intro h s hs
    have h1 := h s hs
    have h2 := (Tm.sub_ok hs).1
    unfold Tm.kindOf at h1
    rw [if_pos h2] at h1
    simpa using h1

set_option maxRecDepth 20000 in
set_option maxHeartbeats 8000000 in
theorem nothing_walk (g : ByteArray) (w : World) : Calls Try.prog 10 #[.string g] w fun e w' => e = .returned (.bool true) ∧ Below w.heap.size w w' := by
  have A := alive_any w
  by_cases hbig : 400 < g.size
  · have t1 : (400 : Int) < (g.size : Int) := by omega
    clear hbig
    go_enter Try.func10, Try.ntmps10
    go_wp2_with fail
    refine A.mono ?_
    rintro e w1 ⟨rfl, b1⟩
    go_wp2
    go_ret
    exact ⟨rfl, b1⟩
  · have t1 : ¬ (400 : Int) < (g.size : Int) := by omega
    have C : Aside (∀ W, Calls Try.prog 19 #[.string g] W fun e w' => e = .returned (.int .i64 (Tm.chk g.data.toList : Nat)) ∧ Below W.heap.size W w') := fun W => rcheck_any g W
    by_cases hc : Tm.chk g.data.toList = 0
    · rw [hc] at C
      have S : Aside (∀ W, Calls Try.prog 24 #[.string g] W (SubsPost g.data.toList W)) := fun W => rsubs_any g W
      have D : Aside (∀ W, Calls Try.prog 15 #[.slice none 0 0, .string g] W fun e w' => e = .returned (.tuple #[.bool (Tm.derives [] g.data.toList), .int .i64 0]) ∧ Below W.heap.size W w') := by
        intro W
        refine (derives_any none 0 0 [] g.data.toList W rfl (.inl rfl)).mono ?_
        rintro e w' ⟨he, hb⟩
        rw [derivesE_nil, hc] at he
        exact ⟨he, hb⟩
      rw [← bare_can hc] at D
      have GS : Aside (∀ s ∈ Tm.subsOf g.data.toList, s ≠ []) := by
        intro s hs e
        have := (Tm.sub_ok hs).1
        rw [e] at this
        exact absurd this (by decide)
      have SL := Tm.subsOf_len g.data.toList
      unfold SubsPost at S
      rw [hc] at S
      generalize Tm.subsOf g.data.toList = ss at *
      obtain ⟨m, hm⟩ : ∃ m, m = ss.length := ⟨_, rfl⟩
      have HM : Hid (m = ss.length) := hm
      rw [← hm] at SL S
      clear hc hm hbig
      go_enter Try.func10, Try.ntmps10
      go_wp2_with fail
      refine A.mono ?_
      rintro e w1 ⟨rfl, b1⟩
      have B1 : Aside (Below w.heap.size w w1) := b1
      clear b1 A
      go_wp2_with fail
      refine (C.out w1).mono ?_
      rintro e w2 ⟨rfl, b2⟩
      have B2 : Aside (Below w.heap.size w w2) := below_step B1.out b2
      clear b2 C B1
      go_wp2_with fail
      refine (S.out w2).mono ?_
      rintro e w3 ⟨v, rfl, ho, b3⟩
      obtain ⟨sa, sc, rfl, -, -, hat⟩ := owns_strs ho
      have B3 : Aside (Below w.heap.size w w3 ∧ AtS w3 sa ss) := ⟨below_step B2.out b3, hat⟩
      clear b3 S B2 ho hat
      go_wp2_with fail
      go_loopw [5, 27] (fun b i wr => ∃ j : Nat, j ≤ m ∧ i = .int .i64 j ∧ b = .bool (bareB (ss.take j)) ∧ wr = w3) (fun _ i _ => m - (intOf i).toNat)
      case atStart => exact ⟨0, Nat.zero_le _, rfl, rfl, rfl⟩
      case round =>
        obtain ⟨j, hj, rfl, rfl, hw⟩ := hrel
        subst hw
        by_cases hlt : j < m
        · have hjl : j < ss.length := by rw [← HM.out]; exact hlt
          obtain ⟨pb, po, rfl, hcs⟩ : ∃ b off, sa = some ⟨b, off, none⟩ ∧ ∀ i y, ss[i]? = some y → wr.cell? ⟨b, off + i, none⟩ = some (str y) := by
            rcases B3.out.2 with e | h
            · rw [e] at hjl; simp at hjl
            · exact h
          have c0 := hcs j ss[j] (List.getElem?_eq_getElem hjl)
          have ST : Hid (bareB (ss.take (j + 1)) = (bareB (ss.take j) && (ss[j].headD 0 != 110))) := bare_step hjl
          have hne := GS.out ss[j] (List.getElem_mem hjl)
          have u1 : (j : Int) < (m : Int) := by omega
          have u0 : (0 : Int) ≤ (j : Int) := by omega
          clear hcs D
          generalize ss[j] = y at *
          generalize bareB (ss.take j) = bj at *
          match y, hne with
          | k :: r, _ =>
            have X : ∀ W, (Instr.index 23 (.string ⟨(k :: r).toArray⟩) (.int .i64 0)).run Try.prog W = .ok (.int .u8 (k.toNat : Int)) W := fun W => idx (i := 0) (r := r) rfl W
            have KE : (((k.toNat : Int)) != 110) = (k != 110) := by
              rw [Bool.eq_iff_iff, bne_iff_ne, bne_iff_ne]
              constructor
              · intro h e; subst e; exact h rfl
              · intro h e; exact h (UInt8.toNat_inj.1 (by simpa using (by omega : k.toNat = 110)))
            have S2 : Hid (bareB (ss.take (j + 1)) = (bj && (k != 110))) := ST.out
            clear ST
            unfold str at c0
            generalize (⟨(k :: r).toArray⟩ : ByteArray) = x at *
            generalize (k != 110) = kb at *
            generalize (k.toNat : Int) = ki at *
            cases bj with
            | true =>
              go_wp2
              go_roundw
              case rel => exact ⟨j + 1, by omega, by go_num, by rw [S2.out]; first | rfl | rw [KE]; rfl, trivial⟩
              case measure => simp [intOf]; omega
            | false =>
              go_wp2
              go_roundw
              case rel => exact ⟨j + 1, by omega, by go_num, by rw [S2.out]; rfl, trivial⟩
              case measure => simp [intOf]; omega
        · obtain rfl : j = m := by omega
          have e1 : ss.take j = ss := List.take_of_length_le (by rw [HM.out]; exact Nat.le_refl _)
          rw [e1]
          have DD := D.out wr
          have BB : Aside (Below w.heap.size w wr) := B3.out.1
          generalize bareB ss = bb at *
          clear D e1 GS B3
          go_wp2_with fail
          refine DD.mono ?_
          rintro e w5 ⟨rfl, b5⟩
          have B5 : Aside (Below w.heap.size w w5) := below_step BB.out b5
          clear DD b5 BB
          go_wp2
          go_ret
          exact ⟨rfl, B5.out⟩
    · have t2 : (((Tm.chk g.data.toList : Nat) : Int) != 0) = true := by
        have : ¬ ((Tm.chk g.data.toList : Nat) : Int) = 0 := by omega
        simpa using this
      generalize Tm.chk g.data.toList = c at *
      clear hc hbig
      go_enter Try.func10, Try.ntmps10
      go_wp2_with fail
      refine A.mono ?_
      rintro e w1 ⟨rfl, b1⟩
      have B1 : Aside (Below w.heap.size w w1) := b1
      clear b1 A
      go_wp2_with fail
      refine (C.out w1).mono ?_
      rintro e w2 ⟨rfl, b2⟩
      have B2 : Aside (Below w.heap.size w w2) := below_step B1.out b2
      clear b2 C B1
      go_wp2
      go_ret
      exact ⟨rfl, B2.out⟩

end Go.Proofs.Ytdpnffnogckfjaa
