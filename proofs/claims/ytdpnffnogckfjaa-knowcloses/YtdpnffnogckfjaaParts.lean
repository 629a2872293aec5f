/- What Parts gives: a term's kind, and the terms that it is made of, or the error. -/
import Derived.Test.YtdpnffnogckfjaaMake
namespace Go.Proofs.Ytdpnffnogckfjaa
open Go.RowKit

theorem grown_own {a w w' : World} {pb : Nat} {row : Option Nat} (h : a.grownBy w (some pb)) (hg : w.grownBy w' row) (hr : ∀ k, row = some k → a.heap.size ≤ k) : a.grownBy w' (some pb) :=
  ⟨hg.os.trans h.os, hg.tape.trans h.tape, hg.output.trans h.output, Nat.le_trans h.size hg.size, fun k hk hne =>
    (hg.block k (Nat.lt_of_lt_of_le hk h.size) (fun e => by have := hr k e.symm; omega)).trans (h.block k hk hne)⟩

theorem rd_grown {w w' : World} {pb i : Nat} {s : ByteArray} {row : Option Nat} (h : Rd w pb s i) (hg : w.grownBy w' row) (hr : ∀ k, row = some k → pb ≠ k) : Rd w' pb s i := by
  have e : w'.heap[pb]? = w.heap[pb]? := hg.block pb (rd_lt h) (fun e => hr pb e.symm rfl)
  obtain ⟨h1, h2, h3, h4, h5⟩ := h
  exact ⟨(World.cell?_of_block (w := w) e).trans h1, (World.cell?_of_block (w := w) e).trans h2, (World.frozen?_of_block (w := w) e).trans h3, h4, h5⟩
theorem rd_alloc {w : World} {pb i : Nat} {s : ByteArray} (h : Rd w pb s i) (o : Obj) : Rd (w.alloc o) pb s i :=
  rd_grown h (World.grownBy_alloc w o none) (fun k hk => by cases hk)
theorem rd_new (w : World) (s : ByteArray) (hs : s.size ≤ 2000) : Rd (w.alloc (.cells #[.string s, .int .i64 0] 86)) w.heap.size s 0 := by
  refine ⟨?_, ?_, ?_, Nat.zero_le _, hs⟩ <;> simp [go_sem]

theorem cut_bytes {s : ByteArray} {p q : Nat} {a r : List UInt8} (h : s.data.toList.drop p = a ++ r) (hq : q = p + a.length) : (s.extract p q).data.toList = a := by
  have : (s.extract p q).data.toList = (s.data.toList.drop p).take (q - p) := by
    simp [ByteArray.data_extract, List.extract]
  rw [this, h, hq, Nat.add_sub_cancel_left, List.take_left]

/-- What Parts is to give. -/
def PartsPost (bs : List UInt8) (w : World) (e : Ending) (w' : World) : Prop :=
  ∃ v, e = .returned (.tuple #[.int .u8 ((Tm.kindOf bs).toNat : Int), v, .int .i64 (Tm.chk bs : Nat)]) ∧ w'.ownsRow w.heap.size 23 1 v (Tm.partsOf bs).length (strs (Tm.partsOf bs)) ∧ Below w.heap.size w w'

theorem partsPost_err {bs : List UInt8} {w w' : World} (h : Tm.chk bs ≠ 0) (hb : Below w.heap.size w w') : PartsPost bs w (.returned (.tuple #[.int .u8 0, .slice none 0 0, .int .i64 (Tm.chk bs : Nat)])) w' := by
  refine ⟨.slice none 0 0, ?_, ?_, hb⟩
  · rw [show Tm.kindOf bs = 0 by unfold Tm.kindOf; rw [if_neg h]]; rfl
  · rw [show Tm.partsOf bs = [] by unfold Tm.partsOf; rw [if_neg h]]; exact World.ownsRow_nil _ _ _ _

namespace Tm
/-- A good term's first byte, and its parts behind it. -/
theorem parts_at {bs : List UInt8} (h : chk bs = 0) : ∃ t k r, tree bs = some t ∧ wf t ∧ bs = k :: r ∧ kindOf bs = k ∧ partsOf bs = (kids t).map text ∧ ar1 k = (kids t).length ∧ wfs (kids t) ∧ bs.length ≤ 2000 ∧
    (kids t ≠ [] → r = texts (kids t)) := by
  obtain ⟨hl, t, ht, hw, hx, _⟩ := chk_zero h
  have hp := text_pos hw
  rw [hx] at hp
  match bs, hp with
  | k :: r, _ =>
    obtain ⟨s1, s2, s3, s4⟩ := wf_step hw []
    rw [List.append_nil, hx] at s1 s2
    refine ⟨t, k, r, ht, hw, rfl, ?_, ?_, s2, s4, hl, fun hne => ?_⟩
    · unfold kindOf; rw [if_pos h]; rfl
    · unfold partsOf; rw [if_pos h, ht]
    · have e := text_eq t
      rw [hx] at e
      have h1 : own (k :: r) = 1 := own_one (by rw [s2]; intro e0; exact hne (List.eq_nil_of_length_eq_zero e0))
      rw [h1] at s1
      match hh : head t, s1 with
      | [x], _ =>
        rw [hh] at e
        simp at e
        exact e.2
end Tm

theorem results12 {tm : Array Value} {w : World} (a b c : Value) (ha : tm[2]? = some a) (hb : tm[3]? = some b) (hc : tm[4]? = some c) : (results Try.f61 tm).run Try.prog w = .ok (.tuple #[a, b, c]) w := by
  simp [results, Try.results61, go_sem, ha, hb, hc]

set_option maxHeartbeats 4000000 in
theorem parts_any (s : ByteArray) (w : World) : Calls Try.prog 61 #[.string s] w (PartsPost s.data.toList w) := by
  have hC := check_any s w
  by_cases h0 : Tm.chk s.data.toList = 0
  · obtain ⟨t, k, r, ht, hw, hbs, hk, hpt, har, hwk, hlen, hr⟩ := Tm.parts_at h0
    have hs : s.size ≤ 2000 := by rw [← len_bytes]; exact hlen
    have G : Aside (∀ v w', w'.ownsRow w.heap.size 23 1 v (Tm.kids t).length (strs ((Tm.kids t).map Tm.text)) → Below w.heap.size w w' → PartsPost s.data.toList w (.returned (.tuple #[.int .u8 (k.toNat : Int), v, .int .i64 0])) w') := by
      intro v w' ho hb
      refine ⟨v, by rw [hk, h0]; rfl, ?_, hb⟩
      rw [hpt, List.length_map]; exact ho
    generalize PartsPost s.data.toList w = Q at G ⊢
    rw [h0] at hC
    have hP := fun W => partsOf_any k W
    rw [har] at hP
    have ha2 : (Tm.kids t).length ≤ 2 := by rw [← har]; exact Tm.ar1_le k
    have hO : Aside (∀ W pb, Rd W pb s 0 → _) := fun W pb h => one_ok pb 0 s k r W h (by rw [List.drop_zero]; exact hbs)
    have R1 : Aside (0 < (Tm.kids t).length → s.data.toList.drop 1 = Tm.texts (Tm.kids t)) := by
      intro hp
      rw [hbs]
      exact hr (fun e => by rw [e] at hp; simp at hp)
    have WK : Aside (Tm.wfs (Tm.kids t)) := hwk
    obtain ⟨i0, hi, hz0, hz1, hz2⟩ := info_parts info22
    have I : Aside (Try.prog.info? 23 = some i0 ∧ i0.zero = some (.string ⟨#[]⟩) ∧ i0.size = 1 ∧ i0.bytes = 16) := ⟨hi, hz0, hz1, hz2⟩
    generalize Tm.kids t = ks at *
    obtain ⟨n, hn⟩ : ∃ n, n = ks.length := ⟨_, rfl⟩
    have HN : Hid (n = ks.length) := hn
    rw [← hn] at hP ha2
    generalize k.toNat = kk at *
    have P1 : Aside (∀ W, _) := hP
    clear hi hz0 hz1 hz2 hP hn hwk hr h0 hbs har hk hpt ht hw hlen
    go_enter Try.func61, Try.ntmps61
    go_wp2_with fail
    refine hC.mono ?_
    rintro e w1 ⟨rfl, hb1⟩
    have B1 : Aside (Below w.heap.size w w1) := hb1
    have hO1 := hO.out (w1.alloc (.cells #[.string s, .int .i64 0] 86)) w1.heap.size (rd_new w1 s hs)
    clear hC hb1 hO
    go_wp2_with fail
    refine hO1.mono ?_
    rintro e w2 ⟨rfl, hg2, hr2⟩
    have R2 : Aside (Rd w2 w1.heap.size s 1 ∧ (w1.alloc (.cells #[.string s, .int .i64 0] 86)).grownBy w2 (some w1.heap.size)) := ⟨hr2, hg2⟩
    clear hO1 hr2 hg2
    go_wp2_with fail
    refine (P1.out w2).mono ?_
    rintro e w3 ⟨rfl, hw⟩
    replace hw := hw.symm; subst hw
    have hsz : (w1.alloc (.cells #[.string s, .int .i64 0] 86)).heap.size = w1.heap.size + 1 := by simp
    generalize hW : w1.alloc (.cells #[.string s, .int .i64 0] 86) = W1 at R2 hsz
    have B2 : Aside (∀ w', W1.grownBy w' (some w1.heap.size) → Below w.heap.size w w') := by
      intro w' hg
      rw [← hW] at hg
      exact (B1.out.alloc B1.out.size _).grown hg (by have := B1.out.size; simp; omega) (fun q hq => by simp at hq; have := B1.out.size; omega)
    have hs1 := B1.out.size
    clear hW B1
    generalize w1.heap.size = pb at *
    go_wp2_with fail
    go_loopw [8, 20] (fun v i wr => ∃ (j p : Nat), j ≤ n ∧ i = .int .i64 j ∧ (j < n → s.data.toList.drop p = Tm.texts (ks.drop j)) ∧ Rd wr pb s p ∧ wr.ownsRow (pb + 1) 23 1 v j (strs ((ks.take j).map Tm.text)) ∧ W1.grownBy wr (some pb)) (fun _ i _ => n - (intOf i).toNat)
    case atStart => exact ⟨0, 1, Nat.zero_le _, rfl, fun h => by rw [R1.out (by rw [← HN.out]; exact h)]; rfl, R2.out.1, World.ownsRow_nil _ _ _ _, R2.out.2⟩
    case round =>
      obtain ⟨j, p, hj, rfl, hd, hr, hown, hg⟩ := hrel
      have S : Aside ((j < n → s.data.toList.drop p = Tm.texts (ks.drop j)) ∧ Rd wr pb s p ∧ wr.ownsRow (pb + 1) 23 1 u8 j (strs ((ks.take j).map Tm.text)) ∧ W1.grownBy wr (some pb)) := ⟨hd, hr, hown, hg⟩
      clear hd hr hown hg R2
      by_cases hlt : j < n
      · have hjl : j < ks.length := by rw [← HN.out]; exact hlt
        have hd : s.data.toList.drop p = Tm.text ks[j] ++ Tm.texts (ks.drop (j + 1)) := by rw [S.out.1 hlt, List.drop_eq_getElem_cons hjl, Tm.texts_cons]
        have hwj : Tm.wf ks[j] := WK.out _ (List.getElem_mem hjl)
        have hT := term_any pb p s _ wr S.out.2.1 hd
        unfold TermPost at hT
        rw [Tm.first_some.2 ⟨hwj, _, rfl⟩] at hT
        simp only at hT
        have r1 := S.out.2.1.1
        have r2 := S.out.2.1.2.1
        have r3 := S.out.2.1.2.2.2.1
        have hcut := cut_bytes hd rfl
        have hlen2 := drop_len hd r3
        rw [List.length_append] at hlen2
        have F : Aside (s.data.toList.drop (p + (Tm.text ks[j]).length) = Tm.texts (ks.drop (j + 1)) ∧ strs ((ks.take j).map Tm.text) ++ [.string (s.extract p (p + (Tm.text ks[j]).length))] = strs ((ks.take (j + 1)).map Tm.text)) := by
          refine ⟨?_, ?_⟩
          · rw [← List.drop_drop, hd, List.drop_left]
          · rw [List.take_succ_eq_append_getElem hjl, List.map_append, strs_append, str_eq hcut]; rfl
        have O1 : Aside (wr.ownsRow (pb + 1) 23 1 u8 j (strs ((ks.take j).map Tm.text)) ∧ W1.grownBy wr (some pb)) := S.out.2.2
        clear S
        generalize strs ((ks.take j).map Tm.text) = xs at O1 F
        generalize (Tm.text ks[j]).length = tl at *
        clear hcut hd hwj
        go_wp2_with fail
        refine hT.mono ?_
        rintro e w2 ⟨⟨rfl, hr2⟩, hg2⟩
        have hlo : ∀ g, u8.ownBlock = some g → pb + 1 ≤ g := fun g hb => (O1.out.1.lt g hb).1
        have hO2 : w2.ownsRow (pb + 1) 23 1 u8 j xs := O1.out.1.kept hg2 (by
          rcases hb : u8.ownBlock with _ | g
          · exact .inl rfl
          · right; intro e; have := hlo g hb; simp at e; omega)
        have hg3 : Aside (W1.grownBy w2 (some pb)) := Lib.grownBy_trans O1.out.2 hg2
        have hs2 : pb + 1 ≤ w2.heap.size := by have := hg3.out.size; omega
        have K2 : Aside (Rd w2 pb s (p + tl)) := hr2
        obtain ⟨q1, q2, q3, q4, q5⟩ := hr2
        clear hT hg2 O1
        go_wp2_with (at_builtin; refine wpList_append_own _ rfl _ _ 22 rfl (pb + 1) 23 i0 (.string ⟨#[]⟩) 1 16 Try.underlying22 I.out.1 I.out.2.1 I.out.2.2.1 I.out.2.2.2 rfl (by decide) _ _ _ rfl (hO2.alloc _) ⟨w2.heap.size, 0, none⟩ 1 1 [.string (s.extract p (p + tl))] rfl rfl ?c1 ?c2 ?c3 ?c4 ?c5 ?_)
        case c1 => exact cell_new1 _ _ _
        case c2 => intro u hu; simp at hu; subst hu; rfl
        case c3 => unfold maxLen; omega
        case c4 => omega
        case c5 => simp; omega
        intro v3 w3 hown3 hgrow3 _
        rw [F.out.2] at hown3
        have hg4 : Aside (W1.grownBy w3 (some pb)) := grown_own (Lib.grownBy_trans hg3.out (World.grownBy_alloc _ _ _)) hgrow3 (fun k hk => by have := hlo k hk; omega)
        have R3 : Aside (Rd w3 pb s (p + tl)) := rd_grown (rd_alloc K2.out _) hgrow3 (fun k hk => by have := hlo k hk; omega)
        clear hgrow3 hO2 hg3 K2 q1 q2 q3
        go_wp2
        go_roundw
        case rel => exact ⟨j + 1, p + tl, by omega, by go_num, fun _ => F.out.1, R3.out, hown3, hg4.out⟩
        case measure => simp [intOf]; omega
      · obtain rfl : j = n := by omega
        have Q1 := G.out u8 wr (by
          have := S.out.2.2.1
          rw [List.take_of_length_le (by rw [HN.out]; exact Nat.le_refl _)] at this
          rw [← HN.out]
          exact owns_mono this (by omega)) (B2.out wr S.out.2.2.2)
        clear S G
        go_wp2
        exact ⟨rfl, _, results12 _ _ _ rfl rfl rfl, Q1⟩
  · have Q1 : Aside (∀ w', Below w.heap.size w w' → PartsPost s.data.toList w (.returned (.tuple #[.int .u8 0, .slice none 0 0, .int .i64 (Tm.chk s.data.toList : Nat)])) w') := fun w' hb => partsPost_err h0 hb
    generalize PartsPost s.data.toList w = Q at Q1 ⊢
    have t1 : (((Tm.chk s.data.toList : Nat) : Int) != 0) = true := by
      have : ¬ ((Tm.chk s.data.toList : Nat) : Int) = 0 := by omega
      simpa using this
    generalize Tm.chk s.data.toList = c at *
    go_enter Try.func61, Try.ntmps61
    go_wp2_with fail
    refine hC.mono ?_
    rintro e w1 ⟨rfl, hb1⟩
    have Q2 := Q1.out w1 hb1
    clear hC hb1 Q1
    go_wp2
    exact ⟨rfl, _, results12 _ _ _ rfl rfl rfl, Q2⟩

end Go.Proofs.Ytdpnffnogckfjaa
