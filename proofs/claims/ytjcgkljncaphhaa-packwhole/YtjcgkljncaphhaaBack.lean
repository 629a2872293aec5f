/- PackBack: the walk. -/
import Derived.Test.YtjcgkljncaphhaaSame
import Derived.Test.YtjcgkljncaphhaaOurs
namespace Go.Proofs.Ytjcgkljncaphhaa
open Go.RowKit

theorem drew_below {w w' : World} (h : Drew w w') : Below w.heap.size w w' := by
  obtain ⟨q, rfl⟩ := h
  exact below_drewN (Below.refl _ _) q

set_option maxHeartbeats 4000000 in
theorem back_walk (a c : Option Addr) (n cap m ccap : Nat) (l : List Pk.Fld) (bs : List UInt8) (w : World) (hl : IsRefs w a n l) (hb : IsBytes w c m ccap bs) :
    Calls Try.prog 5 #[.slice a n cap, .slice c m ccap] w fun e w' => e = .returned (.bool true) ∧ Below w.heap.size w w' := by
  have hn : Hid (l.length = n) := hl.1
  have hmx := hl.2.1
  have C : Aside (AtR w a l) := hl.2.2
  obtain ⟨hbl, hbc, hba⟩ := hb
  have AB : Aside (AtB w c bs) := hba
  clear hl hba
  have hbl : Hid (bs.length = m) := hbl
  go_enter Try.func5, Try.ntmps5
  go_wp2_with fail
  refine (alive_any w).mono ?_
  rintro e w1 ⟨rfl, hb1⟩
  have hfew := few_any a n cap l w1 hmx hn (atR_later hb1 C.out)
  go_wp2_with fail
  refine hfew.mono ?_
  rintro e w2 ⟨⟨t, rfl, ht⟩, hb2⟩
  have B2 : Aside (Below w.heap.size w w2) := below_step hb1 hb2
  clear hfew hb1 hb2 hmx
  cases t with
  | false =>
    go_wp2
    go_ret
    exact ⟨rfl, B2.out⟩
  | true =>
    have h210 : n ≤ 210 := ht rfl
    clear ht
    by_cases h9 : 9000 < m
    · have t9 : (9000 : Int) < (m : Int) := by omega
      go_wp2
      go_ret
      exact ⟨rfl, B2.out⟩
    · have t9 : ¬ (9000 : Int) < (m : Int) := by omega
      have hT := theirs_any a n cap l w2 h210 hn (atR_later B2.out C.out)
      go_wp2_with fail
      refine hT.mono ?_
      rintro e w3 ⟨v3, rfl, hown3, hb3⟩
      have B3 : Aside (Below w.heap.size w w3) := below_step B2.out hb3
      obtain ⟨xa, xcap, rfl, -, hxa⟩ := owns_fields hown3
      have hE := encode_any xa xcap n l w3 hn hxa (by omega)
      unfold EncPost at hE
      clear hT hown3 hb3 hxa B2
      go_wp2_with fail
      refine hE.mono ?_
      rintro e w4 ⟨v4, rfl, hown4, hb4⟩
      have B4 : Aside (Below w.heap.size w w4) := below_step B3.out hb4
      obtain ⟨ba, bcap, rfl, hbcap, -, hbat⟩ := owns_bytes hown4
      clear hE hown4 hb4 B3
      by_cases he : Pk.encE l = 0
      · have er : Pk.encR l = Pk.allB l := by unfold Pk.encR; rw [if_pos he]
        rw [er] at hbcap hbat ⊢
        rw [he]
        have hD1 := decode_all ba _ bcap (Pk.allB l) w4 rfl hbcap hbat
        unfold DecPost at hD1
        rw [Pk.decP_enc he] at hD1
        generalize (Pk.allB l).length = N0 at hD1
        clear he er hbcap hbat
        go_wp2_with fail
        refine hD1.mono ?_
        rintro e w5 ⟨⟨v5, rfl, hown5⟩, hb5⟩
        rw [hn.out] at hown5
        have B5 : Aside (Below w.heap.size w w5) := below_step B4.out hb5
        obtain ⟨ma, mcap, rfl, -, hma⟩ := owns_fields hown5
        have hO := ours_any ma n mcap l w5 h210 hn hma
        clear hD1 hb5 hown5 hma B4
        go_wp2_with fail
        refine hO.mono ?_
        rintro e w6 ⟨v6, rfl, hown6, hb6⟩
        have B6 : Aside (Below w.heap.size w w6) := below_step B5.out hb6
        obtain ⟨ra, rcap, rfl, -, hra⟩ := owns_refs hown6
        have hS := same_any ra a n n rcap cap l l w6 (by omega) hn hn hra (atR_later B6.out C.out)
        rw [sameT_iff.2 rfl] at hS
        clear hO hb6 hown6 hra B5
        go_wp2_with fail
        refine hS.mono ?_
        rintro e w7 ⟨rfl, hw7⟩
        have BZ : Aside (Below w.heap.size w w7) := below_step B6.out (drew_below hw7)
        clear hS hw7 B6 C
        have hD := decode_all c m ccap bs w7 hbl.symm hbc (atB_later BZ.out AB.out)
        unfold DecPost at hD
        rcases hd : Pk.decP bs with _ | k
        · rw [hd] at hD
          go_wp2_with fail
          refine hD.mono ?_
          rintro e w9 ⟨rfl, hb9⟩
          have BB := below_step BZ.out hb9
          clear hD hb9 BZ
          go_wp2
          go_ret
          exact ⟨rfl, BB⟩
        · rw [hd] at hD
          have hk := Pk.decP_some hd
          have hk2 := Pk.encE_zero.1 hk.1
          go_wp2_with fail
          refine hD.mono ?_
          rintro e w9 ⟨⟨v9, rfl, hown9⟩, hb9⟩
          have B9 : Aside (Below w.heap.size w w9) := below_step BZ.out hb9
          obtain ⟨ka, kcap, rfl, -, hka⟩ := owns_fields hown9
          have hE9 := encode_any ka kcap k.length k w9 rfl hka (by omega)
          unfold EncPost at hE9
          have er : Pk.encR k = bs := by unfold Pk.encR; rw [if_pos hk.1, hk.2]
          rw [hk.1, er] at hE9
          generalize k.length = kn at hE9
          clear hD hb9 BZ hown9 hka hk hk2 er
          go_wp2_with fail
          refine hE9.mono ?_
          rintro e w10 ⟨v10, rfl, hown10, hb10⟩
          have B10 : Aside (Below w.heap.size w w10) := below_step B9.out hb10
          rw [hbl] at hown10
          obtain ⟨ya, ycap, rfl, -, -, hya⟩ := owns_bytes hown10
          have cv1 := conv_bytes w10 ya bs ycap hya
          have cv2 := conv_bytes w10 c bs ccap (atB_later B10.out AB.out)
          rw [hbl] at cv1 cv2
          clear hE9 hb10 B9 hown10 hya
          generalize (⟨bs.toArray⟩ : ByteArray) = str at cv1 cv2
          go_wp2
          go_ret
          exact ⟨rfl, B10.out⟩
      · have he2 : ((Pk.encE l : Nat) : Int) ≠ 0 := by omega
        have he3 : (((Pk.encE l : Nat) : Int) == 0) = false := by simpa using he2
        generalize ((Pk.encE l : Nat) : Int) = ec at he2 he3
        generalize (Pk.encR l).length = N0
        have BZ : Aside (Below w.heap.size w w4) := B4.out
        clear he he2 hbat hbcap B4 C
        have hD := decode_all c m ccap bs w4 hbl.symm hbc (atB_later BZ.out AB.out)
        unfold DecPost at hD
        rcases hd : Pk.decP bs with _ | k
        · rw [hd] at hD
          go_wp2_with fail
          refine hD.mono ?_
          rintro e w9 ⟨rfl, hb9⟩
          have BB := below_step BZ.out hb9
          clear hD hb9 BZ
          go_wp2
          go_ret
          exact ⟨rfl, BB⟩
        · rw [hd] at hD
          have hk := Pk.decP_some hd
          have hk2 := Pk.encE_zero.1 hk.1
          go_wp2_with fail
          refine hD.mono ?_
          rintro e w9 ⟨⟨v9, rfl, hown9⟩, hb9⟩
          have B9 : Aside (Below w.heap.size w w9) := below_step BZ.out hb9
          obtain ⟨ka, kcap, rfl, -, hka⟩ := owns_fields hown9
          have hE9 := encode_any ka kcap k.length k w9 rfl hka (by omega)
          unfold EncPost at hE9
          have er : Pk.encR k = bs := by unfold Pk.encR; rw [if_pos hk.1, hk.2]
          rw [hk.1, er] at hE9
          generalize k.length = kn at hE9
          clear hD hb9 BZ hown9 hka hk hk2 er
          go_wp2_with fail
          refine hE9.mono ?_
          rintro e w10 ⟨v10, rfl, hown10, hb10⟩
          have B10 : Aside (Below w.heap.size w w10) := below_step B9.out hb10
          rw [hbl] at hown10
          obtain ⟨ya, ycap, rfl, -, -, hya⟩ := owns_bytes hown10
          have cv1 := conv_bytes w10 ya bs ycap hya
          have cv2 := conv_bytes w10 c bs ccap (atB_later B10.out AB.out)
          rw [hbl] at cv1 cv2
          clear hE9 hb10 B9 hown10 hya
          generalize (⟨bs.toArray⟩ : ByteArray) = str at cv1 cv2
          go_wp2
          go_ret
          exact ⟨rfl, B10.out⟩

end Go.Proofs.Ytjcgkljncaphhaa
