/- What the document's own Decode gives, of any bytes: their fields, or the error. -/
import Derived.Test.YtkphpdejcmkdeaaRefC
import Derived.Test.YtkphpdejcmkdeaaRefE
import Derived.Test.YtkphpdejcmkdeaaOurs
namespace Go.Proofs.Ytkphpdejcmkdeaa
open Go.RowKit

/-- How far the reading has come, where the bytes have fields. -/
def Far (bs : List UInt8) (k at_ : Nat) (acc : List Pk.Fld) : Prop := ∀ l, Pk.decP bs = some l → acc = l.take k ∧ at_ = 1 + (Pk.fsB (l.take k)).length

theorem far_start (bs : List UInt8) : Far bs 0 1 [] := fun l _ => ⟨by simp, by simp [Pk.fsB]⟩

theorem allB_drop (l : List Pk.Fld) (k : Nat) : (Pk.allB l).drop (1 + (Pk.fsB (l.take k)).length) = Pk.fsB (l.drop k) := by
  unfold Pk.allB
  rw [Nat.add_comm, List.drop_succ_cons]
  conv => lhs; rw [← List.take_append_drop k l]
  have e : Pk.fsB (l.take k ++ l.drop k) = Pk.fsB (l.take k) ++ Pk.fsB (l.drop k) := by unfold Pk.fsB; rw [List.flatMap_append]
  rw [e]
  have e2 : (l.take k ++ l.drop k).take k = l.take k := by rw [List.take_append_drop]
  simp

theorem fsB_cons (f : Pk.Fld) (l : List Pk.Fld) : Pk.fsB (f :: l) = Pk.encB f ++ Pk.fsB l := by unfold Pk.fsB; rw [List.flatMap_cons]

theorem far_step {bs : List UInt8} {k at_ cnt : Nat} {acc : List Pk.Fld} {f : Pk.Fld} (h : Far bs k at_ acc) (hk : ∀ l, Pk.decP bs = some l → k < l.length)
    (hf : ∀ g r, Pk.fldP (bs.drop at_) = some (g, r) → f = g ∧ cnt = (Pk.encB g).length) : Far bs (k + 1) (at_ + cnt) (acc ++ [f]) := by
  intro l hl
  obtain ⟨h1, h2⟩ := h l hl
  have hkl := hk l hl
  obtain ⟨g1, g2⟩ := Pk.decP_some hl
  have hmay := may_of_all (Pk.encE_zero.1 g1).1 k hkl
  have hd : bs.drop at_ = Pk.encB l[k] ++ Pk.fsB (l.drop (k + 1)) := by
    rw [← g2, h2, allB_drop, List.drop_eq_getElem_cons hkl, fsB_cons]
  have hp := Pk.fldP_enc l[k] (Pk.fsB (l.drop (k + 1))) hmay
  rw [← hd] at hp
  obtain ⟨e1, e2⟩ := hf _ _ hp
  rw [List.take_succ_eq_append_getElem hkl, e1, h1]
  refine ⟨rfl, ?_⟩
  have e : Pk.fsB (l.take k ++ [l[k]]) = Pk.fsB (l.take k) ++ Pk.encB l[k] := by unfold Pk.fsB; rw [List.flatMap_append]; simp
  rw [e, List.length_append, h2, e2]
  omega

theorem far_end {bs : List UInt8} {k at_ : Nat} {acc : List Pk.Fld} (h : Far bs k at_ acc) (hx : ∀ l, Pk.decP bs = some l → k ≤ l.length ∧ (k < l.length → bs.length ≤ at_)) : ∀ l, Pk.decP bs = some l → acc = l := by
  intro l hl
  obtain ⟨h1, h2⟩ := h l hl
  obtain ⟨x1, x2⟩ := hx l hl
  rcases Nat.lt_or_ge k l.length with hlt | hge
  · exfalso
    have := x2 hlt
    obtain ⟨g1, g2⟩ := Pk.decP_some hl
    have hd : (bs.drop at_).length = (Pk.fsB (l.drop k)).length := by rw [← g2, h2, allB_drop]
    rw [List.length_drop, List.drop_eq_getElem_cons hlt] at hd
    have e : Pk.fsB (l[k] :: l.drop (k + 1)) = Pk.encB l[k] ++ Pk.fsB (l.drop (k + 1)) := fsB_cons _ _
    rw [e, List.length_append, encB_length] at hd
    omega
  · rw [h1, List.take_of_length_le hge]

theorem decP_len {bs : List UInt8} {l : List Pk.Fld} (h : Pk.decP bs = some l) (h0 : 0 < bs.length) : bs[0].toNat = l.length := by
  obtain ⟨g1, g2⟩ := Pk.decP_some h
  have := (Pk.encE_zero.1 g1).2.1
  have e : bs[0] = UInt8.ofNat l.length := by
    have e : bs[0]? = (Pk.allB l)[0]? := by rw [g2]
    rw [List.getElem?_eq_getElem h0] at e
    simp [Pk.allB] at e
    exact e
  rw [e]
  simp
  omega

/-- What the document's Decode is to give. -/
def RDecPost (bs : List UInt8) (w : World) (e : Ending) (w' : World) : Prop :=
  (match Pk.decP bs with
   | some l => ∃ v, e = .returned (.tuple #[v, .int .i64 0]) ∧ w'.ownsRow w.heap.size 59 4 v l.length (flatR l)
   | none => e = .returned (.tuple #[.slice none 0 0, .int .i64 4])) ∧ Below w.heap.size w w'

theorem rdec_none {bs : List UInt8} {w w' : World} (h : Pk.decP bs = none) (hb : Below w.heap.size w w') : RDecPost bs w (.returned (.tuple #[.slice none 0 0, .int .i64 4])) w' := by
  unfold RDecPost; rw [h]; exact ⟨rfl, hb⟩
theorem rdec_some {bs : List UInt8} {l : List Pk.Fld} {w w' : World} {v : Value} (h : Pk.decP bs = some l) (ho : w'.ownsRow w.heap.size 59 4 v l.length (flatR l)) (hb : Below w.heap.size w w') : RDecPost bs w (.returned (.tuple #[v, .int .i64 0])) w' := by
  unfold RDecPost; rw [h]; exact ⟨⟨v, rfl, ho⟩, hb⟩

theorem none_of_ne {bs : List UInt8} {acc : List Pk.Fld} (h : ∀ l, Pk.decP bs = some l → acc = l) (hne : ¬ (Pk.encE acc = 0 ∧ Pk.allB acc = bs)) : Pk.decP bs = none := by
  rcases hd : Pk.decP bs with _ | l
  · rfl
  · exfalso
    apply hne
    rw [h l hd]
    exact Pk.decP_some hd

set_option maxRecDepth 20000 in
set_option maxHeartbeats 4000000 in
theorem rdecode_all (a : Option Addr) (m cap : Nat) (bs : List UInt8) (w : World) (hm : Hid (bs.length = m)) (hcap : m ≤ cap) (hat : AtB w a bs) :
    Calls Try.prog 32 #[.slice a m cap] w (RDecPost bs w) := by
  have N0 : Aside (∀ w', Pk.decP bs = none → Below w.heap.size w w' → RDecPost bs w (.returned (.tuple #[.slice none 0 0, .int .i64 4])) w') := fun w' h hb => rdec_none h hb
  have S0 : Aside (∀ l w' v, Pk.decP bs = some l → w'.ownsRow w.heap.size 59 4 v l.length (flatR l) → Below w.heap.size w w' → RDecPost bs w (.returned (.tuple #[v, .int .i64 0])) w') := fun l w' v h ho hb => rdec_some h ho hb
  generalize RDecPost bs w = Q at N0 S0 ⊢
  have A : Aside (AtB w a bs) := hat
  clear hat
  by_cases hz : m = 0
  · have Q1 := N0.out w (by
      have : bs = [] := List.eq_nil_of_length_eq_zero (by rw [hm.out]; exact hz)
      rw [this]; rfl) (Below.refl _ _)
    subst hz
    clear N0 S0
    go_enter Try.func32, Try.ntmps32
    go_wp2
    exact Q1
  · have hz' : ((m : Int) == 0) = false := by
      have : ¬ (m : Int) = 0 := by omega
      simpa using this
    by_cases h8 : 8000 < m
    · have Q1 := N0.out w (by unfold Pk.decP; rw [if_pos (by rw [hm.out]; exact h8)]) (Below.refl _ _)
      have t8 : (8000 : Int) < (m : Int) := by omega
      clear N0 S0
      go_enter Try.func32, Try.ntmps32
      go_wp2
      exact Q1
    · have t8 : ¬ (8000 : Int) < (m : Int) := by omega
      have h0 : 0 < bs.length := by rw [hm.out]; omega
      obtain ⟨b, off, rfl, hcs⟩ : ∃ b off, a = some ⟨b, off, none⟩ ∧ ∀ j (h : j < bs.length), w.cell? ⟨b, off + j, none⟩ = some (.int .u8 (bs[j].toNat : Int)) := by
        rcases A.out with he | h
        · exfalso; rw [he] at h0; simp at h0
        · exact h
      have c0 := hcs 0 h0
      rw [Nat.add_zero] at c0
      have C0 : Aside (w.cell? ⟨b, off, none⟩ = some (.int .u8 (bs[0].toNat : Int))) := c0
      have DL : Aside (∀ l, Pk.decP bs = some l → bs[0].toNat = l.length) := fun l h => decP_len h h0
      have n255 : bs[0].toNat ≤ 255 := by have := bs[0].toNat_lt; omega
      generalize bs[0].toNat = n0 at C0 DL n255
      obtain ⟨i0, hi, hz0, hz1, hz2⟩ := info_parts info48
      have I : Aside (Try.prog.info? 59 = some i0 ∧ i0.zero = some (.agg #[.int .i64 0, .int .u64 0, .string ⟨#[]⟩, .int .u64 0]) ∧ i0.size = 4 ∧ i0.bytes = 40) := ⟨hi, hz0, hz1, hz2⟩
      clear hcs c0 hi hz0 hz1 hz2 h0
      go_enter Try.func32, Try.ntmps32
      go_wp2_with fail
      go_loopw [4, 5, 6] (fun v p i wr => ∃ (k at_ : Nat) (acc : List Pk.Fld), k ≤ n0 ∧ 1 ≤ at_ ∧ at_ ≤ 17000 ∧ i = .int .i64 k ∧ p = .int .i64 at_ ∧ acc.length = k ∧ wr.ownsRow w.heap.size 59 4 v k (flatR acc) ∧ Below w.heap.size w wr ∧ Far bs k at_ acc) (fun _ _ i _ => n0 - (intOf i).toNat)
      case atStart => exact ⟨0, 1, [], Nat.zero_le _, by omega, by omega, rfl, rfl, rfl, World.ownsRow_nil _ _ _ _, Below.refl _ _, far_start bs⟩
      case round =>
        obtain ⟨k, at_, acc, hk, ha1, ha2, rfl, rfl, hacc, hown, hb, hfar⟩ := hrel
        have O : Aside (wr.ownsRow w.heap.size 59 4 u4 k (flatR acc) ∧ acc.length = k ∧ Far bs k at_ acc) := ⟨hown, hacc, hfar⟩
        have c0 := cell_later hb C0.out
        clear hown hacc hfar
        by_cases hgo : k < n0 ∧ at_ < m
        · obtain ⟨g1, g2⟩ := hgo
          have t1 : (k : Int) < (n0 : Int) := by omega
          have t2 : (at_ : Int) < (m : Int) := by omega
          have h1 := rone_any (some ⟨b, off, none⟩) m cap at_ bs wr hm hcap (atB_later hb A.out) g2 (by omega)
          go_wp2_with fail
          refine h1.mono ?_
          rintro e w2 ⟨f, cnt, rfl, n1, n2, hf, hb2⟩
          have F2 : Aside (Far bs (k + 1) (at_ + cnt) (acc ++ [f])) := far_step O.out.2.2 (fun l hl => by rw [← DL.out l hl]; exact g1) hf
          have O2 : Aside (w2.ownsRow w.heap.size 59 4 u4 k (flatR acc)) := owns_later hb2 O.out.1
          have B2 : Aside (Below w.heap.size w w2) := below_step hb hb2
          have FL : Hid (flatR acc ++ cellsR f = flatR (acc ++ [f])) := (flatR_snoc acc f).symm
          unfold cellsR at FL
          have L2 : Aside ((acc ++ [f]).length = k + 1) := by unfold Aside; rw [List.length_append, O.out.2.1]; rfl
          generalize acc ++ [f] = acc2 at F2 FL L2
          generalize f.kind = fk at FL
          generalize f.num.toNat = fn at FL
          generalize f.text = ft at FL
          generalize f.real.toNat = fr at FL
          clear h1 hf hb2 hb O c0
          go_wp2_with (at_builtin; refine wpList_append_own _ rfl _ _ 61 rfl w.heap.size 59 i0 (.agg #[.int .i64 0, .int .u64 0, .string ⟨#[]⟩, .int .u64 0]) 4 40 Try.underlying61 I.out.1 I.out.2.1 I.out.2.2.1 I.out.2.2.2 rfl (by decide) _ _ _ rfl ((O2.out.alloc _).alloc _) ⟨w2.heap.size + 1, 0, none⟩ 1 1 [.int .i64 fk, .int .u64 (fn : Int), .string ft, .int .u64 (fr : Int)] rfl rfl ?c1 ?c2 ?c3 ?c4 ?c5 ?_)
          case c1 =>
            have := cell_four_new (w2.alloc (.cells #[.int .i64 fk, .int .u64 (fn : Int), .string ft, .int .u64 (fr : Int)] 59)) (.int .i64 fk) (.int .u64 (fn : Int)) (.string ft) (.int .u64 (fr : Int)) 59
            simpa using this
          case c2 => intro u hu; simp at hu; rcases hu with rfl | rfl | rfl | rfl <;> rfl
          case c3 => unfold maxLen; omega
          case c4 => omega
          case c5 => have := B2.out.size; simp; omega
          intro v3 w3 hown3 hg3 _
          have hb3 : Below w.heap.size w w3 := grown_below (by have := B2.out.size; simp; omega) (O2.out.alloc _) (B2.out.alloc B2.out.size _) hg3
          rw [FL.out] at hown3
          clear hg3 O2 B2
          go_wp2
          go_roundw
          case rel => exact ⟨k + 1, at_ + cnt, acc2, by omega, by omega, by omega, by go_num, by go_num, L2.out, hown3, hb3, F2.out⟩
          case measure => simp [intOf]; omega
        · have FE : Aside (∀ l, Pk.decP bs = some l → acc = l) := far_end O.out.2.2 (fun l hl => by
            rw [← DL.out l hl, hm.out]
            exact ⟨hk, fun h => by omega⟩)
          obtain ⟨ra, rcap, hra, hrl, hrat⟩ := owns_refs O.out.1
          subst hra
          have hE := rencode_any ra rcap k acc wr hrl hrat (by omega)
          unfold EncPost at hE
          by_cases hkn : k < n0
          · have g2 : ¬ at_ < m := fun h => hgo ⟨hkn, h⟩
            have t1 : (k : Int) < (n0 : Int) := by omega
            have t2 : ¬ (at_ : Int) < (m : Int) := by omega
            go_wp2_with fail
            refine hE.mono ?_
            rintro e w2 ⟨v2, rfl, hown2, hb2⟩
            have B2 : Aside (Below w.heap.size w w2) := below_step hb hb2
            have O2 : Aside (w2.ownsRow w.heap.size 59 4 (.slice ra k rcap) k (flatR acc)) := owns_later hb2 O.out.1
            obtain ⟨ca, ccap, rfl, -, -, hca⟩ := owns_bytes hown2
            by_cases he : Pk.encE acc = 0
            · have er : Pk.encR acc = Pk.allB acc := by unfold Pk.encR; rw [if_pos he]
              have cv1 := conv_bytes w2 ca _ ccap hca
              have cv2 := conv_bytes w2 (some ⟨b, off, none⟩) bs cap (atB_later B2.out A.out)
              rw [hm.out] at cv2
              rw [er] at cv1 ⊢
              rw [he]
              by_cases hq : Pk.allB acc = bs
              · have Q1 := S0.out acc w2 (.slice ra k rcap) (by rw [← hq]; exact Pk.decP_enc he) (by rw [O.out.2.1]; exact O2.out) B2.out
                rw [hq] at cv1 ⊢
                generalize (⟨bs.toArray⟩ : ByteArray) = str at cv1 cv2
                generalize bs.length = bl at cv1 ⊢
                clear hE hown2 hb2 hca hq er he c0 hb hgo
                go_wp2
                exact Q1
              · have Q1 := N0.out w2 (none_of_ne FE.out (fun h => hq h.2)) B2.out
                have hne : ((⟨(Pk.allB acc).toArray⟩ : ByteArray).toList == (⟨bs.toArray⟩ : ByteArray).toList) = false := by
                  rw [ByteArray.toList_eq, ByteArray.toList_eq]
                  simpa using hq
                generalize (⟨bs.toArray⟩ : ByteArray) = str at cv2 hne
                generalize (⟨(Pk.allB acc).toArray⟩ : ByteArray) = str2 at cv1 hne
                generalize (Pk.allB acc).length = bl at cv1 ⊢
                clear hE hown2 hb2 hca hq er he c0 hb hgo
                go_wp2
                exact Q1
            · have Q1 := N0.out w2 (none_of_ne FE.out (fun h => he h.1)) B2.out
              have he2 : (((Pk.encE acc : Nat) : Int) != 0) = true := by
                have : ¬ ((Pk.encE acc : Nat) : Int) = 0 := by omega
                simpa using this
              generalize ((Pk.encE acc : Nat) : Int) = ec at he2
              generalize (Pk.encR acc).length = bl
              clear hE hown2 hb2 hca he c0 hb hgo
              go_wp2
              exact Q1
          · have t1 : ¬ (k : Int) < (n0 : Int) := by omega
            go_wp2_with fail
            refine hE.mono ?_
            rintro e w2 ⟨v2, rfl, hown2, hb2⟩
            have B2 : Aside (Below w.heap.size w w2) := below_step hb hb2
            have O2 : Aside (w2.ownsRow w.heap.size 59 4 (.slice ra k rcap) k (flatR acc)) := owns_later hb2 O.out.1
            obtain ⟨ca, ccap, rfl, -, -, hca⟩ := owns_bytes hown2
            by_cases he : Pk.encE acc = 0
            · have er : Pk.encR acc = Pk.allB acc := by unfold Pk.encR; rw [if_pos he]
              have cv1 := conv_bytes w2 ca _ ccap hca
              have cv2 := conv_bytes w2 (some ⟨b, off, none⟩) bs cap (atB_later B2.out A.out)
              rw [hm.out] at cv2
              rw [er] at cv1 ⊢
              rw [he]
              by_cases hq : Pk.allB acc = bs
              · have Q1 := S0.out acc w2 (.slice ra k rcap) (by rw [← hq]; exact Pk.decP_enc he) (by rw [O.out.2.1]; exact O2.out) B2.out
                rw [hq] at cv1 ⊢
                generalize (⟨bs.toArray⟩ : ByteArray) = str at cv1 cv2
                generalize bs.length = bl at cv1 ⊢
                clear hE hown2 hb2 hca hq er he c0 hb hgo
                go_wp2
                exact Q1
              · have Q1 := N0.out w2 (none_of_ne FE.out (fun h => hq h.2)) B2.out
                have hne : ((⟨(Pk.allB acc).toArray⟩ : ByteArray).toList == (⟨bs.toArray⟩ : ByteArray).toList) = false := by
                  rw [ByteArray.toList_eq, ByteArray.toList_eq]
                  simpa using hq
                generalize (⟨bs.toArray⟩ : ByteArray) = str at cv2 hne
                generalize (⟨(Pk.allB acc).toArray⟩ : ByteArray) = str2 at cv1 hne
                generalize (Pk.allB acc).length = bl at cv1 ⊢
                clear hE hown2 hb2 hca hq er he c0 hb hgo
                go_wp2
                exact Q1
            · have Q1 := N0.out w2 (none_of_ne FE.out (fun h => he h.1)) B2.out
              have he2 : (((Pk.encE acc : Nat) : Int) != 0) = true := by
                have : ¬ ((Pk.encE acc : Nat) : Int) = 0 := by omega
                simpa using this
              generalize ((Pk.encE acc : Nat) : Int) = ec at he2
              generalize (Pk.encR acc).length = bl
              clear hE hown2 hb2 hca he c0 hb hgo
              go_wp2
              exact Q1

end Go.Proofs.Ytkphpdejcmkdeaa
