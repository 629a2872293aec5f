/- PackWhole: the walk. -/
import Derived.Test.YtjcgkljncaphhaaBack
namespace Go.Proofs.Ytjcgkljncaphhaa
open Go.RowKit

theorem allB_rest {l k : List Pk.Fld} {r : List UInt8} (hl : l.all Pk.may = true) (hk : k.all Pk.may = true) (h1 : l.length ≤ 200) (h2 : k.length ≤ 200) (h : Pk.allB l = Pk.allB k ++ r) : r = [] := by
  unfold Pk.allB at h
  rw [List.cons_append] at h
  simp only [List.cons.injEq] at h
  obtain ⟨hn, hf⟩ := h
  have en : l.length = k.length := by
    have := congrArg UInt8.toNat hn
    simp at this
    omega
  have e1 := Pk.fldsP_enc l [] hl
  have e2 := Pk.fldsP_enc k r hk
  rw [List.append_nil, hf, en, e2] at e1
  simp only [Option.some.injEq, Prod.mk.injEq] at e1
  exact e1.2

theorem no_begin {l : List Pk.Fld} (h : Pk.encE l = 0) {j : Nat} (hj : j < (Pk.allB l).length) : Pk.decP ((Pk.allB l).take j) = none := by
  rcases hd : Pk.decP ((Pk.allB l).take j) with _ | k
  · rfl
  · exfalso
    obtain ⟨h1, h2⟩ := Pk.decP_some hd
    obtain ⟨p1, p2, _⟩ := Pk.encE_zero.1 h
    obtain ⟨q1, q2, _⟩ := Pk.encE_zero.1 h1
    have e : Pk.allB l = Pk.allB k ++ (Pk.allB l).drop j := by rw [h2, List.take_append_drop]
    have := allB_rest p1 q1 p2 q2 e
    rw [List.drop_eq_nil_iff] at this
    omega

theorem no_more {l : List Pk.Fld} (h : Pk.encE l = 0) (x : UInt8) : Pk.decP (Pk.allB l ++ [x]) = none := by
  rcases hd : Pk.decP (Pk.allB l ++ [x]) with _ | k
  · rfl
  · exfalso
    obtain ⟨h1, h2⟩ := Pk.decP_some hd
    obtain ⟨p1, p2, _⟩ := Pk.encE_zero.1 h
    obtain ⟨q1, q2, _⟩ := Pk.encE_zero.1 h1
    have := allB_rest q1 p1 q2 p2 h2
    cases this

theorem str_same {l k : List Pk.Fld} (h : Pk.encE l = 0) (g : Pk.encE k = 0) : ((⟨(Pk.allB l).toArray⟩ : ByteArray).toList == (⟨(Pk.allB k).toArray⟩ : ByteArray).toList) = sameT l k := by
  apply sameT_of
  rw [ByteArray.toList_eq, ByteArray.toList_eq]
  simp only [beq_iff_eq]
  constructor
  · intro e
    have := congrArg Pk.decP e
    rw [Pk.decP_enc h, Pk.decP_enc g] at this
    exact Option.some.inj this
  · rintro rfl; rfl

theorem atB_drewN {w : World} {a : Option Addr} {bs : List UInt8} (h : AtB w a bs) (q : Nat) : AtB (w.drewN q) a bs := h
theorem atR_drewN {w : World} {a : Option Addr} {l : List Pk.Fld} (h : AtR w a l) (q : Nat) : AtR (w.drewN q) a l := h

set_option maxHeartbeats 4000000 in
theorem whole_walk (a c : Option Addr) (n cap m ccap cut : Nat) (l k : List Pk.Fld) (w : World) (hcut : cut < 65536) (hl : IsRefs w a n l) (hk : IsRefs w c m k) :
    Calls Try.prog 6 #[.slice a n cap, .slice c m ccap, .int .u16 (cut : Int)] w fun e w' => e = .returned (.bool true) ∧ Below w.heap.size w w' := by
  have hn : Hid (l.length = n) := hl.1
  have hm : Hid (k.length = m) := hk.1
  have hmx := hl.2.1
  have hmy := hk.2.1
  have C : Aside (AtR w a l ∧ AtR w c k) := ⟨hl.2.2, hk.2.2⟩
  clear hl hk
  obtain ⟨i0, hi, hz0, hz1, hz2⟩ := info_parts info5
  have I : Aside (Try.prog.info? 5 = some i0 ∧ i0.zero = some (.int .u8 0) ∧ i0.size = 1 ∧ i0.bytes = 1) := ⟨hi, hz0, hz1, hz2⟩
  clear hi hz0 hz1 hz2
  go_enter Try.func6, Try.ntmps6
  go_wp2_with fail
  refine (alive_any w).mono ?_
  rintro e w1 ⟨rfl, hb1⟩
  have hfew := few_any a n cap l w1 hmx hn (atR_later hb1 C.out.1)
  go_wp2_with fail
  refine hfew.mono ?_
  rintro e w2 ⟨⟨t, rfl, ht⟩, hb2⟩
  have B2 : Aside (Below w.heap.size w w2) := below_step hb1 hb2
  clear hfew hb1 hb2 hmx
  cases t with
  | false =>
    go_wp2
    go_ret
    exact ⟨rfl, B2.out⟩
  | true =>
    have h210 : n ≤ 210 := ht rfl
    clear ht
    have hfew := few_any c m ccap k w2 hmy hm (atR_later B2.out C.out.2)
    go_wp2_with fail
    refine hfew.mono ?_
    rintro e w3 ⟨⟨t, rfl, ht⟩, hb3⟩
    have B3 : Aside (Below w.heap.size w w3) := below_step B2.out hb3
    clear hfew hb3 hmy B2
    cases t with
    | false =>
      go_wp2
      go_ret
      exact ⟨rfl, B3.out⟩
    | true =>
      have h210' : m ≤ 210 := ht rfl
      clear ht
      have hT := theirs_any a n cap l w3 h210 hn (atR_later B3.out C.out.1)
      go_wp2_with fail
      refine hT.mono ?_
      rintro e w4 ⟨v4, rfl, hown4, hb4⟩
      have B4 : Aside (Below w.heap.size w w4) := below_step B3.out hb4
      obtain ⟨xa, xcap, rfl, -, hxa⟩ := owns_fields hown4
      have hE := encode_any xa xcap n l w4 hn hxa (by omega)
      unfold EncPost at hE
      clear hT hown4 hb4 hxa B3
      go_wp2_with fail
      refine hE.mono ?_
      rintro e w5 ⟨v5, rfl, hown5, hb5⟩
      have B5 : Aside (Below w.heap.size w w5) := below_step B4.out hb5
      have O5 : Aside (w5.ownsRow w4.heap.size 5 1 v5 (Pk.encR l).length (bcs (Pk.encR l))) := hown5
      clear hE hown5 hb5 B4
      have hT := theirs_any c m ccap k w5 h210' hm (atR_later B5.out C.out.2)
      go_wp2_with fail
      refine hT.mono ?_
      rintro e w6 ⟨v6, rfl, hown6, hb6⟩
      have B6 : Aside (Below w.heap.size w w6) := below_step B5.out hb6
      have O6 : Aside (w6.ownsRow w4.heap.size 5 1 v5 (Pk.encR l).length (bcs (Pk.encR l))) := owns_later hb6 O5.out
      obtain ⟨ya, ycap, rfl, -, hya⟩ := owns_fields hown6
      have hE := encode_any ya ycap m k w6 hm hya (by omega)
      unfold EncPost at hE
      clear hT hown6 hb6 hya B5 O5
      go_wp2_with fail
      refine hE.mono ?_
      rintro e w7 ⟨v7, rfl, hown7, hb7⟩
      have B7 : Aside (Below w.heap.size w w7) := below_step B6.out hb7
      have O7 : Aside (w7.ownsRow w4.heap.size 5 1 v5 (Pk.encR l).length (bcs (Pk.encR l)) ∧ w7.ownsRow w6.heap.size 5 1 v7 (Pk.encR k).length (bcs (Pk.encR k))) := ⟨owns_later hb7 O6.out, hown7⟩
      clear hE hown7 hb7 B6 O6
      obtain ⟨ba, bcap, rfl, hbc, -, hba⟩ := owns_bytes O7.out.1
      obtain ⟨da, dcap, rfl, hdc, -, hda⟩ := owns_bytes O7.out.2
      have A7 : Aside (AtB w7 ba (Pk.encR l) ∧ AtB w7 da (Pk.encR k)) := ⟨hba, hda⟩
      clear hba hda
      by_cases he : Pk.encE l = 0
      · have er : Pk.encR l = Pk.allB l := by unfold Pk.encR; rw [if_pos he]
        have hp : 0 < (Pk.encR l).length := by rw [er]; unfold Pk.allB; rw [List.length_cons]; omega
        have h8 : (Pk.encR l).length ≤ 8000 := by rw [er]; exact (Pk.encE_zero.1 he).2.2
        have hp1 : (((Pk.encR l).length : Int) == 0) = false := by
          have : ¬ ((Pk.encR l).length : Int) = 0 := by omega
          simpa using this
        rw [he]
        by_cases hf : Pk.encE k = 0
        · rw [hf]
          have er2 : Pk.encR k = Pk.allB k := by unfold Pk.encR; rw [if_pos hf]
          have NB : Aside (∀ j, j < (Pk.encR l).length → Pk.decP ((Pk.encR l).take j) = none) := by rw [er]; exact fun j hj => no_begin he hj
          have NM : Aside (∀ x, Pk.decP (Pk.encR l ++ [x]) = none) := by rw [er]; exact fun x => no_more he x
          have SS : Aside (((⟨(Pk.encR l).toArray⟩ : ByteArray).toList == (⟨(Pk.encR k).toArray⟩ : ByteArray).toList) = sameT l k) := by rw [er, er2]; exact str_same he hf
          generalize Pk.encR l = bl at *
          generalize Pk.encR k = bk at *
          generalize hN : bl.length = N at *
          have HN : Hid (bl.length = N) := hN
          generalize hM : bk.length = M at *
          have HM : Hid (bk.length = M) := hM
          clear hN hM he hf er er2
          have hmod : cut % N < N := Nat.mod_lt _ hp
          have m1 : (cut : Int) % (N : Int) < (N : Int) := Int.emod_lt_of_pos _ (by omega)
          have m0 : 0 ≤ (cut : Int) % (N : Int) := Int.emod_nonneg _ (by omega)
          have m2 : (cut : Int) % (N : Int) ≤ (bcap : Int) := by omega
          have hD1 := decode_all ba (cut % N) bcap (bl.take (cut % N)) w7 (by rw [List.length_take, HN.out]; omega) (by omega) (atB_take _ A7.out.1)
          unfold DecPost at hD1
          rw [NB.out _ hmod] at hD1
          go_wp2_with fail
          refine hD1.mono ?_
          rintro e w8 ⟨rfl, hb8⟩
          have B8 : Aside (Below w.heap.size w w8) := below_step B7.out hb8
          have O8 : Aside (w8.ownsRow w4.heap.size 5 1 (.slice ba N bcap) N (bcs bl) ∧ w8.ownsRow w6.heap.size 5 1 (.slice da M dcap) M (bcs bk)) := ⟨owns_later hb8 O7.out.1, owns_later hb8 O7.out.2⟩
          clear hD1 hb8 B7 O7 A7 NB
          rcases O8.out.1.2 with ⟨_, hz⟩ | ⟨g, gc, cur, hsl, _⟩
          · exfalso; omega
          simp only [Value.slice.injEq] at hsl
          obtain ⟨rfl, -, rfl⟩ := hsl
          have KC : Aside (∀ j u, (bcs bl)[j]? = some u → w8.cell? ((⟨g, 0, none⟩ : Addr).add j) = some u) := fun j u hu => O8.out.1.cells (g := g) rfl j u hu
          go_wp2_with (at_builtin; refine wpList_append_own _ rfl _ _ 26 rfl w8.heap.size 5 i0 (.int .u8 0) 1 1 Try.underlying26 I.out.1 I.out.2.1 I.out.2.2.1 I.out.2.2.2 rfl (by decide) _ _ _ rfl (World.ownsRow_nil w8 w8.heap.size 5 1) ⟨g, 0, none⟩ N bcap (bcs bl) rfl ?d0 ?d1 ?d2 ?d3 ?d4 ?d5 ?_)
          case d0 => rw [Nat.mul_one]; unfold bcs; rw [List.length_map]; exact HN.out
          case d1 => intro j u hu; exact KC.out j u hu
          case d2 => intro u hu; unfold bcs at hu; simp at hu; obtain ⟨_, _, rfl⟩ := hu; rfl
          case d3 => unfold maxLen; omega
          case d4 => omega
          case d5 => exact Nat.le_refl _
          intro v9 w9 hown9 hg9 _
          have hb89 : Below w8.heap.size w8 w9 := (Below.refl _ _).grown hg9 (Nat.le_refl _) (fun j hj => by simp [Value.ownBlock] at hj)
          have O9 : Aside (w9.ownsRow w8.heap.size 5 1 v9 N (bcs bl)) := hown9
          have E9 : Aside (bcs bl ++ [Value.int .u8 ((cut : Int) % 256)] = bcs (bl ++ [UInt8.ofNat cut])) := by
            unfold Aside
            rw [bcs_append, ← byte_cell]
            rfl
          clear hown9 hg9 KC
          go_wp2_with (at_builtin; refine wpList_append_own _ rfl _ _ 26 rfl w8.heap.size 5 i0 (.int .u8 0) 1 1 Try.underlying26 I.out.1 I.out.2.1 I.out.2.2.1 I.out.2.2.2 rfl (by decide) _ _ _ rfl (O9.out.alloc _) ⟨w9.heap.size, 0, none⟩ 1 1 [.int .u8 ((cut : Int) % 256)] rfl rfl ?e1 ?e2 ?e3 ?e4 ?e5 ?_)
          case e1 => exact cell_one_new _ _ _
          case e2 => intro u hu; simp at hu; subst hu; rfl
          case e3 => unfold maxLen; omega
          case e4 => omega
          case e5 => have := hb89.size; simp; omega
          intro v10 w10 hown10 hg10 _
          have hb810 : Below w8.heap.size w8 w10 := grown_below hb89.size O9.out hb89 hg10
          rw [E9.out] at hown10
          obtain ⟨va, vcap, rfl, hvc, hvl, hva⟩ := owns_bytes hown10
          have hD2 := decode_all va (N + 1) vcap (bl ++ [UInt8.ofNat cut]) w10 hvl hvc hva
          unfold DecPost at hD2
          rw [NM.out] at hD2
          have B10 : Aside (Below w8.heap.size w8 w10) := hb810
          clear hown10 hg10 hvc hvl hva hb89 hb810 O9 E9 NM
          go_wp2_with fail
          refine hD2.mono ?_
          rintro e w11 ⟨rfl, hb11⟩
          have hb811 : Below w8.heap.size w8 w11 := below_step B10.out hb11
          have B11 : Aside (Below w.heap.size w w11) := below_step B8.out hb811
          obtain ⟨b', c', hs', -, -, hba⟩ := owns_bytes (owns_later hb811 O8.out.1)
          simp only [Value.slice.injEq] at hs'
          obtain ⟨rfl, -, rfl⟩ := hs'
          obtain ⟨d', f', hs2, -, -, hda⟩ := owns_bytes (owns_later hb811 O8.out.2)
          simp only [Value.slice.injEq] at hs2
          obtain ⟨rfl, -, rfl⟩ := hs2
          have cv1 := fun q => conv_bytes (w11.drewN q) _ bl bcap (atB_drewN hba q)
          have cv2 := fun q => conv_bytes (w11.drewN q) _ bk dcap (atB_drewN hda q)
          rw [HN.out] at cv1
          rw [HM.out] at cv2
          have hS : Aside (∀ q, _) := fun q => same_any a c n m cap ccap l k (w11.drewN q) (by omega) hn hm (atR_drewN (atR_later B11.out C.out.1) q) (atR_drewN (atR_later B11.out C.out.2) q)
          have hSS := SS.out
          generalize sameT l k = tS at hS hSS
          generalize (⟨bl.toArray⟩ : ByteArray) = s1 at cv1 hSS
          generalize (⟨bk.toArray⟩ : ByteArray) = s2 at cv2 hSS
          clear hD2 hb11 B10 hb811 O8 B8 hba hda SS C HN HM
          have BB : Aside (∀ q, Below w.heap.size w (w11.drewN q)) := fun q => below_drewN B11.out q
          go_wp2_with fail
          go_quiet ((go_at_call 20; exact Calls.quiet_of (hS.out _)))
          go_wp2
          go_ret
          exact ⟨by simp, BB.out _⟩
        · have hf2 : (((Pk.encE k : Nat) : Int) != 0) = true := by
            have : ¬ ((Pk.encE k : Nat) : Int) = 0 := by omega
            simpa using this
          generalize ((Pk.encE k : Nat) : Int) = ek at hf2
          have hp2 : (0 : Int) < ((Pk.encR l).length : Int) := by omega
          generalize (Pk.encR l).length = N at *
          generalize (Pk.encR k).length = M at *
          clear A7 O7 er
          go_wp2
          go_ret
          exact ⟨rfl, B7.out⟩
      · have he2 : (((Pk.encE l : Nat) : Int) != 0) = true := by
          have : ¬ ((Pk.encE l : Nat) : Int) = 0 := by omega
          simpa using this
        generalize ((Pk.encE l : Nat) : Int) = ek at he2
        generalize ((Pk.encE k : Nat) : Int) = ek2
        generalize (Pk.encR l).length = N at *
        generalize (Pk.encR k).length = M at *
        clear A7 O7
        go_wp2
        go_ret
        exact ⟨rfl, B7.out⟩

end Go.Proofs.Ytjcgkljncaphhaa
