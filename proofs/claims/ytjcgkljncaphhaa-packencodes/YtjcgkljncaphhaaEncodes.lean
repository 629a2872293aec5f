/- PackEncodes: the walk. -/
import Derived.Test.YtjcgkljncaphhaaRefC
namespace Go.Proofs.Ytjcgkljncaphhaa
open Go.RowKit

set_option maxHeartbeats 4000000 in
theorem encodes_walk (a c : Option Addr) (n cap m ccap : Nat) (l : List Pk.Fld) (ks : List Int) (w : World) (hl : IsRefs w a n l) (hk : IsInts w c m ks) :
    Calls Try.prog 3 #[.slice a n cap, .slice c m ccap] w fun e w' => e = .returned (.bool true) ∧ Below w.heap.size w w' := by
  have hn : Hid (l.length = n) := hl.1
  have hm : Hid (ks.length = m) := hk.1
  have hmx := hl.2.1
  have C : Aside (AtR w a l ∧ AtI w c ks) := ⟨hl.2.2, hk.2⟩
  clear hl hk
  go_enter Try.func3, Try.ntmps3
  go_wp2_with fail
  refine (alive_any w).mono ?_
  rintro e w1 ⟨rfl, hb1⟩
  have hfew := few_any a n cap l w1 hmx hn (atR_later hb1 C.out.1)
  go_wp2_with fail
  refine hfew.mono ?_
  rintro e w2 ⟨⟨t, rfl, ht⟩, hb2⟩
  have B2 : Aside (Below w.heap.size w w2) := below_step hb1 hb2
  clear hfew hb1 hb2 hmx
  cases t with
  | false =>
    go_wp2
    go_ret
    exact ⟨rfl, B2.out⟩
  | true =>
    have h210 : n ≤ 210 := ht rfl
    clear ht
    by_cases h9 : 210 < m
    · have t9 : (210 : Int) < (m : Int) := by omega
      go_wp2
      go_ret
      exact ⟨rfl, B2.out⟩
    · have t9 : ¬ (210 : Int) < (m : Int) := by omega
      have hT := theirs_any a n cap l w2 h210 hn (atR_later B2.out C.out.1)
      go_wp2_with fail
      refine hT.mono ?_
      rintro e w3 ⟨v3, rfl, hown3, hb3⟩
      have B3 : Aside (Below w.heap.size w w3) := below_step B2.out hb3
      obtain ⟨xa, xcap, rfl, -, hxa⟩ := owns_fields hown3
      have hE := encode_any xa xcap n l w3 hn hxa (by omega)
      unfold EncPost at hE
      clear hT hown3 hb3 hxa B2
      go_wp2_with fail
      refine hE.mono ?_
      rintro e w4 ⟨v4, rfl, hown4, hb4⟩
      have B4 : Aside (Below w.heap.size w w4) := below_step B3.out hb4
      have O4 : Aside (w4.ownsRow w3.heap.size 5 1 v4 (Pk.encR l).length (bcs (Pk.encR l))) := hown4
      have hE2 := rencode_any a cap n l w4 hn (atR_later B4.out C.out.1) (by omega)
      unfold EncPost at hE2
      clear hE hown4 hb4 B3
      go_wp2_with fail
      refine hE2.mono ?_
      rintro e w5 ⟨v5, rfl, hown5, hb5⟩
      have B5 : Aside (Below w.heap.size w w5) := below_step B4.out hb5
      obtain ⟨p4, c4, rfl, -, -, h4⟩ := owns_bytes (owns_later hb5 O4.out)
      obtain ⟨p5, c5, rfl, -, -, h5⟩ := owns_bytes hown5
      have cv1 := conv_bytes w5 p4 (Pk.encR l) c4 h4
      have cv2 := conv_bytes w5 p5 (Pk.encR l) c5 h5
      generalize (⟨(Pk.encR l).toArray⟩ : ByteArray) = str at cv1 cv2
      generalize (Pk.encR l).length = N0 at *
      generalize ((Pk.encE l : Nat) : Int) = ec at *
      clear hE2 hown5 hb5 B4 h4 h5 O4
      have hT2 := theirs_any a n cap l w5 h210 hn (atR_later B5.out C.out.1)
      go_wp2_with fail
      refine hT2.mono ?_
      rintro e w6 ⟨v6, rfl, hown6, hb6⟩
      have B6 : Aside (Below w.heap.size w w6) := below_step B5.out hb6
      obtain ⟨ya, ycap, rfl, -, hya⟩ := owns_fields hown6
      have hI := is_any ya c n m ycap ccap l ks w6 (by omega) hn hm hya (atI_later B6.out C.out.2)
      clear hT2 hown6 hb6 hya B5 cv1 cv2
      generalize hib : isB l ks = ib at hI
      have IB : Hid (isB l ks = ib) := hib
      clear hib
      go_wp2_with fail
      refine hI.mono ?_
      rintro e w7 ⟨rfl, hb7⟩
      have B7 : Aside (Below w.heap.size w w7) := below_step B6.out hb7
      have hI2 := ris_any a c n m cap ccap l ks w7 (by omega) hn hm (atR_later B7.out C.out.1) (atI_later B7.out C.out.2)
      rw [IB.out] at hI2
      clear hI hb7 B6
      go_wp2_with fail
      refine hI2.mono ?_
      rintro e w8 ⟨rfl, hb8⟩
      have B8 := below_step B7.out hb8
      clear hI2 hb8 B7
      go_wp2
      go_ret
      exact ⟨by simp, B8⟩

end Go.Proofs.Ytjcgkljncaphhaa
