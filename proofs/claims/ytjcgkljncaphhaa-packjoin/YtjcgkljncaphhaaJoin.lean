/- PackJoin: the walk. -/
import Derived.Test.YtjcgkljncaphhaaWhole
import Derived.Laws.AppendOwnNone
import Derived.Laws.Concat
namespace Go.Proofs.Ytjcgkljncaphhaa
open Go.RowKit

theorem flatP_append (l k : List Pk.Fld) : flatP l ++ flatP k = flatP (l ++ k) := by unfold flatP; rw [List.flatMap_append]
theorem fsB_append (l k : List Pk.Fld) : Pk.fsB (l ++ k) = Pk.fsB l ++ Pk.fsB k := by unfold Pk.fsB; rw [List.flatMap_append]

theorem flatP_one {l : List Pk.Fld} : ∀ u ∈ flatP l, u.oneCell' = true := by
  intro u hu
  unfold flatP at hu
  rw [List.mem_flatMap] at hu
  obtain ⟨f, _, hf⟩ := hu
  unfold cellsP at hf
  simp at hf
  rcases hf with rfl | rfl | rfl | rfl <;> rfl

theorem bytes_append (a b : List UInt8) : (⟨(a ++ b).toArray⟩ : ByteArray) = ⟨a.toArray⟩ ++ ⟨b.toArray⟩ := by
  apply ByteArray.ext
  simp

/-- All bytes but the first of a row of one's own: the slice, and its text. -/
theorem behind_first {w : World} {B n cap : Nat} {p : Option Addr} {x : UInt8} {r : List UInt8} (h : w.ownsRow B 5 1 (.slice p n cap) n (bcs (x :: r))) :
    ∃ V, (∀ W, (Instr.slice 26 (.slice p n cap) (some (.int .i64 1)) none none).run Try.prog W = .ok V W) ∧ (∀ W, (Instr.sliceAt 26 (.slice p n cap) (some (.int .i64 1)) none none).run Try.prog W = .ok V W) ∧ ∀ q, (convert 26 9 V).run Try.prog (w.drewN q) = .ok (.string ⟨r.toArray⟩) (w.drewN q) := by
  have hn : n = r.length + 1 := by have := h.1; simp [bcs] at this; omega
  rcases h.2 with ⟨_, h0⟩ | ⟨g, gc, cur, hv, _, _, hc, _⟩
  · omega
  simp only [Value.slice.injEq] at hv
  obtain ⟨rfl, -, rfl⟩ := hv
  have e1 : ∀ W, (Instr.slice 26 (.slice (some ⟨g, 0, none⟩) n cap) (some (.int .i64 1)) none none).run Try.prog W = .ok (.slice (if cap = 1 then some ⟨g, 0, none⟩ else some ⟨g, 1, none⟩) (n - 1) (cap - 1)) W := by
    intro W
    have hs := Try.sizeOf5
    have hl := run_slice_l (P := Try.prog) (w := W) 26 (some ⟨g, 0, none⟩) n cap Try.underlying26 .i64 1 (by omega) (by omega)
    rw [hl]
    show ((sizeOf 5).run Try.prog W).andThen _ = _
    rw [hs]
    rfl
  refine ⟨_, e1, fun W => ?_, fun q => ?_⟩
  · rw [run_sliceAt_slice (P := Try.prog) (w := W) 26 _ _ _ _ Try.underlying26]
    exact e1 W
  · have hat : AtB (w.drewN q) (if cap = 1 then some ⟨g, 0, none⟩ else some ⟨g, 1, none⟩) r := by
      by_cases hc1 : cap = 1
      · left
        exact List.eq_nil_of_length_eq_zero (by omega)
      · rw [if_neg hc1]
        refine .inr ⟨g, 1, rfl, fun j hj => ?_⟩
        show w.cell? ⟨g, 1 + j, none⟩ = _
        rw [h.cellAt (1 + j) (by omega), Nat.add_comm 1 j]
        simp [bcs, hj]
    have := conv_bytes (w.drewN q) _ r (cap - 1) hat
    rw [show r.length = n - 1 by omega] at this
    exact this

set_option maxHeartbeats 4000000 in
theorem join_walk (a c : Option Addr) (n cap m ccap : Nat) (l k : List Pk.Fld) (w : World) (hl : IsRefs w a n l) (hk : IsRefs w c m k) :
    Calls Try.prog 7 #[.slice a n cap, .slice c m ccap] w fun e w' => e = .returned (.bool true) ∧ Below w.heap.size w w' := by
  have hn : Hid (l.length = n) := hl.1
  have hm : Hid (k.length = m) := hk.1
  have hmx := hl.2.1
  have hmy := hk.2.1
  have C : Aside (AtR w a l ∧ AtR w c k) := ⟨hl.2.2, hk.2.2⟩
  clear hl hk
  obtain ⟨i0, hi, hz0, hz1, hz2⟩ := info_parts info52
  have I : Aside (Try.prog.info? 52 = some i0 ∧ i0.zero = some (.agg #[.int .i64 0, .int .u64 0, .string ⟨#[]⟩, .float .f64 0]) ∧ i0.size = 4 ∧ i0.bytes = 40) := ⟨hi, hz0, hz1, hz2⟩
  clear hi hz0 hz1 hz2
  go_enter Try.func7, Try.ntmps7
  go_wp2_with fail
  refine (alive_any w).mono ?_
  rintro e w1 ⟨rfl, hb1⟩
  have hfew := few_any a n cap l w1 hmx hn (atR_later hb1 C.out.1)
  go_wp2_with fail
  refine hfew.mono ?_
  rintro e w2 ⟨⟨t, rfl, ht⟩, hb2⟩
  have B2 : Aside (Below w.heap.size w w2) := below_step hb1 hb2
  clear hfew hb1 hb2 hmx
  cases t with
  | false =>
    go_wp2
    go_ret
    exact ⟨rfl, B2.out⟩
  | true =>
    have h210 : n ≤ 210 := ht rfl
    clear ht
    have hfew := few_any c m ccap k w2 hmy hm (atR_later B2.out C.out.2)
    go_wp2_with fail
    refine hfew.mono ?_
    rintro e w3 ⟨⟨t, rfl, ht⟩, hb3⟩
    have B3 : Aside (Below w.heap.size w w3) := below_step B2.out hb3
    clear hfew hb3 hmy B2
    cases t with
    | false =>
      go_wp2
      go_ret
      exact ⟨rfl, B3.out⟩
    | true =>
      have h210' : m ≤ 210 := ht rfl
      clear ht
      have hT := theirs_any a n cap l w3 h210 hn (atR_later B3.out C.out.1)
      go_wp2_with fail
      refine hT.mono ?_
      rintro e w4 ⟨v4, rfl, hown4, hb4⟩
      have B4 : Aside (Below w.heap.size w w4) := below_step B3.out hb4
      obtain ⟨xa, xcap, rfl, -, hxa⟩ := owns_fields hown4
      have hE := encode_any xa xcap n l w4 hn hxa (by omega)
      unfold EncPost at hE
      clear hT hown4 hb4 hxa B3
      go_wp2_with fail
      refine hE.mono ?_
      rintro e w5 ⟨v5, rfl, hown5, hb5⟩
      have B5 : Aside (Below w.heap.size w w5) := below_step B4.out hb5
      have O5 : Aside (w5.ownsRow w4.heap.size 5 1 v5 (Pk.encR l).length (bcs (Pk.encR l))) := hown5
      clear hE hown5 hb5 B4
      have hT := theirs_any c m ccap k w5 h210' hm (atR_later B5.out C.out.2)
      go_wp2_with fail
      refine hT.mono ?_
      rintro e w6 ⟨v6, rfl, hown6, hb6⟩
      have B6 : Aside (Below w.heap.size w w6) := below_step B5.out hb6
      have O6 : Aside (w6.ownsRow w4.heap.size 5 1 v5 (Pk.encR l).length (bcs (Pk.encR l))) := owns_later hb6 O5.out
      obtain ⟨ya, ycap, rfl, -, hya⟩ := owns_fields hown6
      have hE := encode_any ya ycap m k w6 hm hya (by omega)
      unfold EncPost at hE
      clear hT hown6 hb6 hya B5 O5
      go_wp2_with fail
      refine hE.mono ?_
      rintro e w7 ⟨v7, rfl, hown7, hb7⟩
      have B7 : Aside (Below w.heap.size w w7) := below_step B6.out hb7
      have O7 : Aside (w7.ownsRow w4.heap.size 5 1 v5 (Pk.encR l).length (bcs (Pk.encR l)) ∧ w7.ownsRow w6.heap.size 5 1 v7 (Pk.encR k).length (bcs (Pk.encR k))) := ⟨owns_later hb7 O6.out, hown7⟩
      clear hE hown7 hb7 B6 O6
      have hT1 := theirs_any a n cap l w7 h210 hn (atR_later B7.out C.out.1)
      go_wp2_with fail
      refine hT1.mono ?_
      rintro e w8 ⟨v8, rfl, hown8, hb8⟩
      have B8 : Aside (Below w.heap.size w w8) := below_step B7.out hb8
      have hb78 : Aside (Below w7.heap.size w7 w8) := hb8
      have L8 : Aside (w8.ownsRow w7.heap.size 52 4 v8 n (flatP l)) := hown8
      have B7' : Aside (Below w.heap.size w w7) := B7.out
      clear hT1 hown8 hb8 B7
      have hT2 := theirs_any c m ccap k w8 h210' hm (atR_later B8.out C.out.2)
      go_wp2_with fail
      refine hT2.mono ?_
      rintro e w9 ⟨v9, rfl, hown9, hb9⟩
      have B9 : Aside (Below w.heap.size w w9) := below_step B8.out hb9
      have hb79 : Aside (Below w7.heap.size w7 w9) := below_step hb78.out hb9
      have L9 : Aside (w9.ownsRow w7.heap.size 52 4 v8 n (flatP l)) := owns_later hb9 L8.out
      have K9 : Aside (w9.ownsRow w8.heap.size 52 4 v9 m (flatP k)) := hown9
      clear hT2 hown9 hb9 B8 L8 hb78
      have hs9 : w7.heap.size ≤ w9.heap.size := hb79.out.size
      have HE : Aside (∀ v w10, w10.ownsRow w7.heap.size 52 4 v (n + m) (flatP (l ++ k)) → ∃ p q, v = .slice p (n + m) q ∧ Calls Try.prog 13 #[.slice p (n + m) q] w10 (EncPost (l ++ k) w10)) := by
        intro v w10 h
        obtain ⟨p, q, rfl, hlen, hat⟩ := owns_fields h
        exact ⟨p, q, rfl, encode_any p q (n + m) (l ++ k) w10 hlen hat (by omega)⟩
      rcases K9.out.2 with ⟨rfl, hm0⟩ | ⟨g, gc, cur, rfl, hgB, hgh, _⟩
      · have M0 : Aside (m = 0) := hm0
        clear hm0
        go_wp2_with (at_builtin; refine wpList_append_own_none rfl _ _ 30 rfl w7.heap.size 52 i0 4 Try.underlying30 I.out.1 _ _ _ rfl L9.out rfl ?_)
        obtain ⟨p, q, hv, hE3⟩ := HE.out v8 w9 (by
          have hk0 : k = [] := List.eq_nil_of_length_eq_zero (by rw [hm.out]; exact M0.out)
          rw [hk0, List.append_nil, M0.out]; exact L9.out)
        subst hv
        unfold EncPost at hE3
        have H0 := hb79.out
        have B0 : Aside (Below w.heap.size w w9) := B9.out
        go_wp2_with fail
        refine hE3.mono ?_
        rintro e w11 ⟨v11, rfl, hown11, hb11⟩
        have O11 : Aside (w11.ownsRow w4.heap.size 5 1 v5 (Pk.encR l).length (bcs (Pk.encR l)) ∧ w11.ownsRow w6.heap.size 5 1 v7 (Pk.encR k).length (bcs (Pk.encR k)) ∧ w11.ownsRow w9.heap.size 5 1 v11 (Pk.encR (l ++ k)).length (bcs (Pk.encR (l ++ k)))) := ⟨owns_later hb11 (owns_later H0 O7.out.1), owns_later hb11 (owns_later H0 O7.out.2), hown11⟩
        have B11 : Aside (Below w.heap.size w w11) := below_step B0.out hb11
        clear hE3 hown11 hb11 O7 L9 K9 HE hs9 hb79 B9 B0 H0
        obtain ⟨a5, c5, rfl, -, -, -⟩ := owns_bytes O11.out.1
        obtain ⟨a7, c7, rfl, -, -, -⟩ := owns_bytes O11.out.2.1
        obtain ⟨a11, c11, rfl, -, -, -⟩ := owns_bytes O11.out.2.2
        by_cases he : Pk.encE l = 0
        · by_cases hf : Pk.encE k = 0
          · by_cases hg : Pk.encE (l ++ k) = 0
            · rw [he, hf, hg]
              have hO := O11.out
              have r1 : Pk.encR l = Pk.allB l := by unfold Pk.encR; rw [if_pos he]
              have r2 : Pk.encR k = Pk.allB k := by unfold Pk.encR; rw [if_pos hf]
              have r3 : Pk.encR (l ++ k) = Pk.allB (l ++ k) := by unfold Pk.encR; rw [if_pos hg]
              have h200 : n + m ≤ 200 := by
                have := (Pk.encE_zero.1 hg).2.1
                rw [List.length_append, hn.out, hm.out] at this; exact this
              rw [r1, r2, r3] at hO ⊢
              unfold Pk.allB at hO ⊢
              rw [fsB_append] at hO ⊢
              rw [List.length_append, hn.out, hm.out] at hO ⊢
              have fst : w11.cell? ⟨(a11.getD default).block, 0, none⟩ = some (.int .u8 ((n : Int) + (m : Int))) ∧ a11 = some ⟨(a11.getD default).block, 0, none⟩ := by
                rcases hO.2.2.2 with ⟨_, hz⟩ | ⟨g, gc, cur, hv, _⟩
                · simp at hz
                · simp only [Value.slice.injEq] at hv
                  obtain ⟨rfl, -, rfl⟩ := hv
                  refine ⟨?_, rfl⟩
                  show w11.cell? ⟨g, 0, none⟩ = _
                  rw [hO.2.2.cellAt 0 (by simp)]
                  show some (Value.int .u8 _) = _
                  rw [byte_cell]
                  congr 2
                  omega
              obtain ⟨V1, s1, t1, cv1⟩ := behind_first hO.1
              obtain ⟨V2, s2, t2, cv2⟩ := behind_first hO.2.1
              obtain ⟨V3, s3, t3, cv3⟩ := behind_first hO.2.2
              have p1 : (0 : Int) < (((UInt8.ofNat n :: Pk.fsB l).length : Nat) : Int) := by rw [List.length_cons]; omega
              have p2 : (0 : Int) < (((UInt8.ofNat m :: Pk.fsB k).length : Nat) : Int) := by rw [List.length_cons]; omega
              have p3 : (0 : Int) < (((UInt8.ofNat (n + m) :: (Pk.fsB l ++ Pk.fsB k)).length : Nat) : Int) := by rw [List.length_cons]; omega
              generalize (UInt8.ofNat n :: Pk.fsB l).length = N1 at *
              generalize (UInt8.ofNat m :: Pk.fsB k).length = N2 at *
              generalize (UInt8.ofNat (n + m) :: (Pk.fsB l ++ Pk.fsB k)).length = N3 at *
              rw [bytes_append] at cv3
              have hadd : ∀ W, (Op.stringOp .add (⟨(Pk.fsB l).toArray⟩ : ByteArray) (⟨(Pk.fsB k).toArray⟩ : ByteArray)).run Try.prog W = .ok (.string (⟨(Pk.fsB l).toArray⟩ ++ ⟨(Pk.fsB k).toArray⟩)) W := fun W => run_string_add_sum W _ _ (by
                have b1 := (Pk.encE_zero.1 he).2.2
                have b2 := (Pk.encE_zero.1 hf).2.2
                unfold Pk.allB at b1 b2
                rw [List.length_cons] at b1 b2
                show (Pk.fsB l).toArray.size + (Pk.fsB k).toArray.size ≤ _
                rw [List.size_toArray, List.size_toArray]
                omega)
              generalize (⟨(Pk.fsB l).toArray⟩ : ByteArray) = x1 at cv1 cv3 hadd
              generalize (⟨(Pk.fsB k).toArray⟩ : ByteArray) = x2 at cv2 cv3 hadd
              obtain ⟨f0, f1⟩ := fst
              have q1 : 0 < N1 := by omega
              have q2 : 0 < N2 := by omega
              have q3 : 0 < N3 := by omega
              have z3 : (0 : Int) ≤ 0 := by omega
              generalize (a11.getD default).block = g11 at f0 f1
              subst f1
              have BB : Aside (∀ q, Below w.heap.size w (w11.drewN q)) := fun q => below_drewN B11.out q
              clear hO O11 r1 r2 r3 he hf hg C B11
              go_wp2_with fail
              go_quiet (fail)
              go_wp2
              go_ret
              exact ⟨rfl, BB.out _⟩
            · have hx2 : (((Pk.encE (l ++ k) : Nat) : Int) != 0) = true := by
                have : ¬ ((Pk.encE (l ++ k) : Nat) : Int) = 0 := by omega
                simpa using this
              rw [he, hf]
              generalize ((Pk.encE (l ++ k) : Nat) : Int) = ec at hx2
              generalize (Pk.encR l).length = N1 at *
              generalize (Pk.encR k).length = N2 at *
              generalize (Pk.encR (l ++ k)).length = N3 at *
              clear O11
              go_wp2
              go_ret
              exact ⟨rfl, B11.out⟩
          · have hx2 : (((Pk.encE k : Nat) : Int) != 0) = true := by
              have : ¬ ((Pk.encE k : Nat) : Int) = 0 := by omega
              simpa using this
            rw [he]
            generalize ((Pk.encE k : Nat) : Int) = ec at hx2
            generalize ((Pk.encE (l ++ k) : Nat) : Int) = ec2
            generalize (Pk.encR l).length = N1 at *
            generalize (Pk.encR k).length = N2 at *
            generalize (Pk.encR (l ++ k)).length = N3 at *
            clear O11
            go_wp2
            go_ret
            exact ⟨rfl, B11.out⟩
        · have hx2 : (((Pk.encE l : Nat) : Int) != 0) = true := by
            have : ¬ ((Pk.encE l : Nat) : Int) = 0 := by omega
            simpa using this
          generalize ((Pk.encE l : Nat) : Int) = ec at hx2
          generalize ((Pk.encE k : Nat) : Int) = ec2
          generalize ((Pk.encE (l ++ k) : Nat) : Int) = ec3
          generalize (Pk.encR l).length = N1 at *
          generalize (Pk.encR k).length = N2 at *
          generalize (Pk.encR (l ++ k)).length = N3 at *
          clear O11
          go_wp2
          go_ret
          exact ⟨rfl, B11.out⟩
      · go_wp2_with (at_builtin; refine wpList_append_own _ rfl _ _ 30 rfl w7.heap.size 52 i0 (.agg #[.int .i64 0, .int .u64 0, .string ⟨#[]⟩, .float .f64 0]) 4 40 Try.underlying30 I.out.1 I.out.2.1 I.out.2.2.1 I.out.2.2.2 rfl (by decide) _ _ _ rfl L9.out ⟨g, 0, none⟩ m gc (flatP k) rfl ?d0 ?d1 ?d2 ?d3 ?d4 ?d5 ?_)
        case d0 => rw [flatP_len, hm.out]
        case d1 => intro j u hu; exact K9.out.cells (g := g) rfl j u hu
        case d2 => exact flatP_one
        case d3 => unfold maxLen; omega
        case d4 => omega
        case d5 => exact hs9
        intro v10 w10 hown10 hg10 _
        rw [flatP_append] at hown10
        obtain ⟨p, q, hv, hE3⟩ := HE.out v10 w10 hown10
        subst hv
        unfold EncPost at hE3
        have H0 : Below w7.heap.size w7 w10 := grown_below' hs9 L9.out hb79.out hg10
        have B0 : Aside (Below w.heap.size w w10) := below_step B7'.out H0
        clear hg10 hown10
        go_wp2_with fail
        refine hE3.mono ?_
        rintro e w11 ⟨v11, rfl, hown11, hb11⟩
        have O11 : Aside (w11.ownsRow w4.heap.size 5 1 v5 (Pk.encR l).length (bcs (Pk.encR l)) ∧ w11.ownsRow w6.heap.size 5 1 v7 (Pk.encR k).length (bcs (Pk.encR k)) ∧ w11.ownsRow w10.heap.size 5 1 v11 (Pk.encR (l ++ k)).length (bcs (Pk.encR (l ++ k)))) := ⟨owns_later hb11 (owns_later H0 O7.out.1), owns_later hb11 (owns_later H0 O7.out.2), hown11⟩
        have B11 : Aside (Below w.heap.size w w11) := below_step B0.out hb11
        clear hE3 hown11 hb11 O7 L9 K9 HE hs9 hb79 B9 B0 H0
        obtain ⟨a5, c5, rfl, -, -, -⟩ := owns_bytes O11.out.1
        obtain ⟨a7, c7, rfl, -, -, -⟩ := owns_bytes O11.out.2.1
        obtain ⟨a11, c11, rfl, -, -, -⟩ := owns_bytes O11.out.2.2
        by_cases he : Pk.encE l = 0
        · by_cases hf : Pk.encE k = 0
          · by_cases hg : Pk.encE (l ++ k) = 0
            · rw [he, hf, hg]
              have hO := O11.out
              have r1 : Pk.encR l = Pk.allB l := by unfold Pk.encR; rw [if_pos he]
              have r2 : Pk.encR k = Pk.allB k := by unfold Pk.encR; rw [if_pos hf]
              have r3 : Pk.encR (l ++ k) = Pk.allB (l ++ k) := by unfold Pk.encR; rw [if_pos hg]
              have h200 : n + m ≤ 200 := by
                have := (Pk.encE_zero.1 hg).2.1
                rw [List.length_append, hn.out, hm.out] at this; exact this
              rw [r1, r2, r3] at hO ⊢
              unfold Pk.allB at hO ⊢
              rw [fsB_append] at hO ⊢
              rw [List.length_append, hn.out, hm.out] at hO ⊢
              have fst : w11.cell? ⟨(a11.getD default).block, 0, none⟩ = some (.int .u8 ((n : Int) + (m : Int))) ∧ a11 = some ⟨(a11.getD default).block, 0, none⟩ := by
                rcases hO.2.2.2 with ⟨_, hz⟩ | ⟨g, gc, cur, hv, _⟩
                · simp at hz
                · simp only [Value.slice.injEq] at hv
                  obtain ⟨rfl, -, rfl⟩ := hv
                  refine ⟨?_, rfl⟩
                  show w11.cell? ⟨g, 0, none⟩ = _
                  rw [hO.2.2.cellAt 0 (by simp)]
                  show some (Value.int .u8 _) = _
                  rw [byte_cell]
                  congr 2
                  omega
              obtain ⟨V1, s1, t1, cv1⟩ := behind_first hO.1
              obtain ⟨V2, s2, t2, cv2⟩ := behind_first hO.2.1
              obtain ⟨V3, s3, t3, cv3⟩ := behind_first hO.2.2
              have p1 : (0 : Int) < (((UInt8.ofNat n :: Pk.fsB l).length : Nat) : Int) := by rw [List.length_cons]; omega
              have p2 : (0 : Int) < (((UInt8.ofNat m :: Pk.fsB k).length : Nat) : Int) := by rw [List.length_cons]; omega
              have p3 : (0 : Int) < (((UInt8.ofNat (n + m) :: (Pk.fsB l ++ Pk.fsB k)).length : Nat) : Int) := by rw [List.length_cons]; omega
              generalize (UInt8.ofNat n :: Pk.fsB l).length = N1 at *
              generalize (UInt8.ofNat m :: Pk.fsB k).length = N2 at *
              generalize (UInt8.ofNat (n + m) :: (Pk.fsB l ++ Pk.fsB k)).length = N3 at *
              rw [bytes_append] at cv3
              have hadd : ∀ W, (Op.stringOp .add (⟨(Pk.fsB l).toArray⟩ : ByteArray) (⟨(Pk.fsB k).toArray⟩ : ByteArray)).run Try.prog W = .ok (.string (⟨(Pk.fsB l).toArray⟩ ++ ⟨(Pk.fsB k).toArray⟩)) W := fun W => run_string_add_sum W _ _ (by
                have b1 := (Pk.encE_zero.1 he).2.2
                have b2 := (Pk.encE_zero.1 hf).2.2
                unfold Pk.allB at b1 b2
                rw [List.length_cons] at b1 b2
                show (Pk.fsB l).toArray.size + (Pk.fsB k).toArray.size ≤ _
                rw [List.size_toArray, List.size_toArray]
                omega)
              generalize (⟨(Pk.fsB l).toArray⟩ : ByteArray) = x1 at cv1 cv3 hadd
              generalize (⟨(Pk.fsB k).toArray⟩ : ByteArray) = x2 at cv2 cv3 hadd
              obtain ⟨f0, f1⟩ := fst
              have q1 : 0 < N1 := by omega
              have q2 : 0 < N2 := by omega
              have q3 : 0 < N3 := by omega
              have z3 : (0 : Int) ≤ 0 := by omega
              generalize (a11.getD default).block = g11 at f0 f1
              subst f1
              have BB : Aside (∀ q, Below w.heap.size w (w11.drewN q)) := fun q => below_drewN B11.out q
              clear hO O11 r1 r2 r3 he hf hg C B11
              go_wp2_with fail
              go_quiet (fail)
              go_wp2
              go_ret
              exact ⟨rfl, BB.out _⟩
            · have hx2 : (((Pk.encE (l ++ k) : Nat) : Int) != 0) = true := by
                have : ¬ ((Pk.encE (l ++ k) : Nat) : Int) = 0 := by omega
                simpa using this
              rw [he, hf]
              generalize ((Pk.encE (l ++ k) : Nat) : Int) = ec at hx2
              generalize (Pk.encR l).length = N1 at *
              generalize (Pk.encR k).length = N2 at *
              generalize (Pk.encR (l ++ k)).length = N3 at *
              clear O11
              go_wp2
              go_ret
              exact ⟨rfl, B11.out⟩
          · have hx2 : (((Pk.encE k : Nat) : Int) != 0) = true := by
              have : ¬ ((Pk.encE k : Nat) : Int) = 0 := by omega
              simpa using this
            rw [he]
            generalize ((Pk.encE k : Nat) : Int) = ec at hx2
            generalize ((Pk.encE (l ++ k) : Nat) : Int) = ec2
            generalize (Pk.encR l).length = N1 at *
            generalize (Pk.encR k).length = N2 at *
            generalize (Pk.encR (l ++ k)).length = N3 at *
            clear O11
            go_wp2
            go_ret
            exact ⟨rfl, B11.out⟩
        · have hx2 : (((Pk.encE l : Nat) : Int) != 0) = true := by
            have : ¬ ((Pk.encE l : Nat) : Int) = 0 := by omega
            simpa using this
          generalize ((Pk.encE l : Nat) : Int) = ec at hx2
          generalize ((Pk.encE k : Nat) : Int) = ec2
          generalize ((Pk.encE (l ++ k) : Nat) : Int) = ec3
          generalize (Pk.encR l).length = N1 at *
          generalize (Pk.encR k).length = N2 at *
          generalize (Pk.encR (l ++ k)).length = N3 at *
          clear O11
          go_wp2
          go_ret
          exact ⟨rfl, B11.out⟩

end Go.Proofs.Ytjcgkljncaphhaa
