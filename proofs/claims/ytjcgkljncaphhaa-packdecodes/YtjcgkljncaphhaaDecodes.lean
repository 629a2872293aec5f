/- PackDecodes: the walk. -/
import Derived.Test.YtjcgkljncaphhaaRefF
import Derived.Test.YtjcgkljncaphhaaSame
namespace Go.Proofs.Ytjcgkljncaphhaa
open Go.RowKit

theorem below_drew {w w' : World} (h : Drew w w') : Below w.heap.size w w' := by
  obtain ⟨q, rfl⟩ := h
  exact below_drewN (Below.refl _ _) q

set_option maxHeartbeats 4000000 in
theorem decodes_walk (a : Option Addr) (m cap : Nat) (bs : List UInt8) (w : World) (hb : IsBytes w a m cap bs) :
    Calls Try.prog 4 #[.slice a m cap] w fun e w' => e = .returned (.bool true) ∧ Below w.heap.size w w' := by
  obtain ⟨hbl, hcap, hba⟩ := hb
  have A : Aside (AtB w a bs) := hba
  have hm : Hid (bs.length = m) := hbl
  clear hba hbl
  go_enter Try.func4, Try.ntmps4
  go_wp2_with fail
  refine (alive_any w).mono ?_
  rintro e w1 ⟨rfl, hb1⟩
  by_cases h9 : 9000 < m
  · have t9 : (9000 : Int) < (m : Int) := by omega
    go_wp2
    go_ret
    exact ⟨rfl, hb1⟩
  · have t9 : ¬ (9000 : Int) < (m : Int) := by omega
    have hD := decode_all a m cap bs w1 hm.out.symm hcap (atB_later hb1 A.out)
    unfold DecPost at hD
    have hR : Aside (∀ w2, Below w.heap.size w w2 → _) := fun w2 h2 => rdecode_all a m cap bs w2 hm hcap (atB_later h2 A.out)
    unfold RDecPost at hR
    rcases hd : Pk.decP bs with _ | l
    · rw [hd] at hD hR
      go_wp2_with fail
      refine hD.mono ?_
      rintro e w2 ⟨rfl, hb2⟩
      have B2 : Aside (Below w.heap.size w w2) := below_step hb1 hb2
      have hR2 := hR.out w2 B2.out
      clear hD hR hb1 hb2
      go_wp2_with fail
      refine hR2.mono ?_
      rintro e w3 ⟨rfl, hb3⟩
      have B3 : Aside (Below w.heap.size w w3) := below_step B2.out hb3
      have hO := ours_any none 0 0 [] w3 (by omega) rfl (.inl rfl)
      clear hR2 hb3 B2
      go_wp2_with fail
      refine hO.mono ?_
      rintro e w4 ⟨v4, rfl, hown4, hb4⟩
      have B4 : Aside (Below w.heap.size w w4) := below_step B3.out hb4
      obtain ⟨ra, rcap, rfl, -, hra⟩ := owns_refs hown4
      have hS := same_any ra none 0 0 rcap 0 [] [] w4 (by omega) rfl rfl hra (.inl rfl)
      rw [sameT_iff.2 rfl] at hS
      clear hO hown4 hb4 B3 hra
      go_wp2_with fail
      refine hS.mono ?_
      rintro e w5 ⟨rfl, hw5⟩
      have B5 := below_step B4.out (below_drew hw5)
      clear hS hw5 B4
      go_wp2
      go_ret
      exact ⟨rfl, B5⟩
    · rw [hd] at hD hR
      have hk2 := (Pk.encE_zero.1 (Pk.decP_some hd).1).2.1
      go_wp2_with fail
      refine hD.mono ?_
      rintro e w2 ⟨⟨v2, rfl, hown2⟩, hb2⟩
      have B2 : Aside (Below w.heap.size w w2) := below_step hb1 hb2
      have O2 : Aside (w2.ownsRow w1.heap.size 52 4 v2 l.length (flatP l)) := hown2
      have hR2 := hR.out w2 B2.out
      clear hD hR hb1 hb2 hown2
      go_wp2_with fail
      refine hR2.mono ?_
      rintro e w3 ⟨⟨v3, rfl, hown3⟩, hb3⟩
      have B3 : Aside (Below w.heap.size w w3) := below_step B2.out hb3
      obtain ⟨xa, xcap, rfl, -, hxa⟩ := owns_fields (owns_later hb3 O2.out)
      obtain ⟨ya, ycap, rfl, -, hya⟩ := owns_refs hown3
      have Y : Aside (AtR w3 ya l) := hya
      have hO := ours_any xa l.length xcap l w3 (by omega) rfl hxa
      clear hR2 hb3 B2 O2 hown3 hxa hya
      go_wp2_with fail
      refine hO.mono ?_
      rintro e w4 ⟨v4, rfl, hown4, hb4⟩
      have B4 : Aside (Below w.heap.size w w4) := below_step B3.out hb4
      obtain ⟨ra, rcap, rfl, -, hra⟩ := owns_refs hown4
      have hS := same_any ra ya l.length l.length rcap ycap l l w4 (by omega) rfl rfl hra (atR_later hb4 Y.out)
      rw [sameT_iff.2 rfl] at hS
      clear hO hown4 hb4 B3 hra Y
      go_wp2_with fail
      refine hS.mono ?_
      rintro e w5 ⟨rfl, hw5⟩
      have B5 := below_step B4.out (below_drew hw5)
      clear hS hw5 B4
      go_wp2
      go_ret
      exact ⟨rfl, B5⟩

end Go.Proofs.Ytjcgkljncaphhaa
