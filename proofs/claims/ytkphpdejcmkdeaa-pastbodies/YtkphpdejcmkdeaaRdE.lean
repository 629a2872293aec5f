/- What fields gives: all the fields of the bytes that are left, or it gives up. -/
import Derived.Test.YtkphpdejcmkdeaaRdD
namespace Go.Proofs.Ytkphpdejcmkdeaa
open Go.RowKit

theorem info52 : (Try.prog.info? 51).map (fun i => (i.zero, i.size, i.bytes)) = some (some (.agg #[.int .i64 0, .int .u64 0, .string ⟨#[]⟩, .float .f64 0]), 4, 40) := by kernel_rfl

/-- Fields, as the program's own cells. -/
def flatP (l : List Pk.Fld) : List Value := l.flatMap cellsP

theorem flatP_snoc (l : List Pk.Fld) (f : Pk.Fld) : flatP (l ++ [f]) = flatP l ++ cellsP f := by unfold flatP; rw [List.flatMap_append]; simp

theorem cell_four_new (w : World) (a b c d : Value) (t : TypeId) : ∀ j u, [a, b, c, d][j]? = some u → (w.alloc (.cells #[a, b, c, d] t)).cell? ((⟨w.heap.size, 0, none⟩ : Addr).add j) = some u := by
  intro j u hj
  have e : (⟨w.heap.size, 0, none⟩ : Addr).add j = ⟨w.heap.size, j, none⟩ := by unfold Addr.add; split <;> simp_all
  rw [e, World.cell?_alloc_at _ _ _ _ rfl, ← hj, ← Array.getElem?_toList]

theorem grown_own {a w w' : World} {pb : Nat} {row : Option Nat} (h : a.grownBy w (some pb)) (hg : w.grownBy w' row) (hr : ∀ k, row = some k → a.heap.size ≤ k) : a.grownBy w' (some pb) :=
  ⟨hg.os.trans h.os, hg.tape.trans h.tape, hg.output.trans h.output, Nat.le_trans h.size hg.size, fun k hk hne =>
    (hg.block k (Nat.lt_of_lt_of_le hk h.size) (fun e => by have := hr k e.symm; omega)).trans (h.block k hk hne)⟩

theorem rest_grown {w w' : World} {pb : Nat} {bs : List UInt8} {row : Option Nat} (h : Rest w pb bs) (hg : w.grownBy w' row) (hr : ∀ k, row = some k → pb < k) : Rest w' pb bs :=
  rest_of h fun k hk => hg.block k (by have := rest_lt h; omega) (fun e => by have := hr k e.symm; omega)

/-- All the fields of bytes, whatever their length. -/
def decQ : List UInt8 → Option (List Pk.Fld)
  | [] => none
  | n :: r =>
    if 200 < n.toNat then none else
    match Pk.fldsP n.toNat r with
    | some (l, []) => some l
    | _ => none

/-- What is still to be read behind what was. -/
def onto (acc : List Pk.Fld) : Option (List Pk.Fld × List UInt8) → Option (List Pk.Fld × List UInt8)
  | none => none
  | some (l, r) => some (acc ++ l, r)

theorem onto_nil (p : Option (List Pk.Fld × List UInt8)) : onto [] p = p := by rcases p with _ | ⟨l, r⟩ <;> rfl
theorem onto_step (acc : List Pk.Fld) (m : Nat) (bs : List UInt8) : onto acc (Pk.fldsP (m + 1) bs) = match Pk.fldP bs with | none => none | some (f, r) => onto (acc ++ [f]) (Pk.fldsP m r) := by
  simp only [Pk.fldsP]
  rcases Pk.fldP bs with _ | ⟨f, r⟩
  · rfl
  · simp only
    rcases Pk.fldsP m r with _ | ⟨l, q⟩
    · rfl
    · simp [onto]

/-- What fields is to give. -/
def FieldsPost (bs : List UInt8) (pb : Nat) (w : World) (e : Ending) (w' : World) : Prop :=
  (match decQ bs with
   | some l => ∃ v, e = .returned v ∧ w'.ownsRow w.heap.size 51 4 v l.length (flatP l)
   | none => e = .panicked gave) ∧ w.grownBy w' (some pb)

set_option maxHeartbeats 4000000 in
theorem fields_any (pb : Nat) (bs : List UInt8) (w : World) (h : Rest w pb bs) :
    Calls Try.prog 39 #[.pointer (some ⟨pb, 0, none⟩)] w (FieldsPost bs pb w) := by
  have hlt := rest_lt h
  cases bs with
  | nil =>
    have G : Aside (∀ w', w.grownBy w' (some pb) → FieldsPost [] pb w (.panicked gave) w') := fun w' hg => ⟨rfl, hg⟩
    have ho := one_end pb w h
    generalize FieldsPost [] pb w = Q at G ⊢
    clear h
    go_enter Try.func39, Try.ntmps39
    go_wp2_with fail
    refine ho.mono ?_
    rintro e w1 ⟨rfl, hg⟩
    have Q1 := G.out _ hg
    clear G hg ho
    go_wp2
    exact ⟨rfl, Q1⟩
  | cons n r =>
    have ho := one_ok pb n r w h
    clear h
    by_cases h2 : 200 < n.toNat
    · have G : Aside (∀ w', w.grownBy w' (some pb) → FieldsPost (n :: r) pb w (.panicked gave) w') := by
        intro w' hg
        unfold FieldsPost
        rw [show decQ (n :: r) = none by simp only [decQ]; rw [if_pos h2]]
        exact ⟨rfl, hg⟩
      generalize FieldsPost (n :: r) pb w = Q at G ⊢
      have t1 : (200 : Int) < (n.toNat : Int) := by omega
      have t2 : n.toNat < 256 := n.toNat_lt
      generalize n.toNat = m at *
      go_enter Try.func39, Try.ntmps39
      go_wp2_with fail
      refine ho.mono ?_
      rintro e w1 ⟨rfl, hg, hr⟩
      have Q1 := G.out _ hg
      clear G hg hr ho
      go_wp2_with fail
      refine (giveUp_any _).mono ?_; rintro e w2 ⟨rfl, hw⟩
      replace hw := hw.symm; subst hw
      go_wp2
      exact ⟨rfl, Q1⟩
    · have G1 : Aside (∀ w', Pk.fldsP n.toNat r = none → w.grownBy w' (some pb) → FieldsPost (n :: r) pb w (.panicked gave) w') := by
        intro w' hn hg
        unfold FieldsPost
        rw [show decQ (n :: r) = none by simp only [decQ]; rw [if_neg h2, hn]]
        exact ⟨rfl, hg⟩
      have G2 : Aside (∀ w' l x q, Pk.fldsP n.toNat r = some (l, x :: q) → w.grownBy w' (some pb) → FieldsPost (n :: r) pb w (.panicked gave) w') := by
        intro w' l x q hn hg
        unfold FieldsPost
        rw [show decQ (n :: r) = none by simp only [decQ]; rw [if_neg h2, hn]]
        exact ⟨rfl, hg⟩
      have G3 : Aside (∀ w' l v, Pk.fldsP n.toNat r = some (l, []) → w'.ownsRow w.heap.size 51 4 v l.length (flatP l) → w.grownBy w' (some pb) → FieldsPost (n :: r) pb w (.returned v) w') := by
        intro w' l v hn ho hg
        unfold FieldsPost
        rw [show decQ (n :: r) = some l by simp only [decQ]; rw [if_neg h2, hn]]
        exact ⟨⟨v, rfl, ho⟩, hg⟩
      generalize FieldsPost (n :: r) pb w = Q at G1 G2 G3 ⊢
      have t1 : ¬ (200 : Int) < (n.toNat : Int) := by omega
      generalize n.toNat = m at *
      obtain ⟨i0, hi, hz0, hz1, hz2⟩ := info_parts info52
      have I : Aside (Try.prog.info? 51 = some i0 ∧ i0.zero = some (.agg #[.int .i64 0, .int .u64 0, .string ⟨#[]⟩, .float .f64 0]) ∧ i0.size = 4 ∧ i0.bytes = 40) := ⟨hi, hz0, hz1, hz2⟩
      clear hi hz0 hz1 hz2
      go_enter Try.func39, Try.ntmps39
      go_wp2_with fail
      refine ho.mono ?_
      rintro e w1 ⟨rfl, hg, hr⟩
      have R : Aside (Rest w1 pb r) := hr
      clear hr ho
      go_wp2_with fail
      go_loopw [4, 12] (fun v i wr => ∃ (k : Nat) (acc : List Pk.Fld) (rest : List UInt8), k ≤ m ∧ i = .int .i64 k ∧ Rest wr pb rest ∧ wr.ownsRow w.heap.size 51 4 v k (flatP acc) ∧ w.grownBy wr (some pb) ∧ acc.length = k ∧ Pk.fldsP m r = onto acc (Pk.fldsP (m - k) rest)) (fun _ i _ => m - (intOf i).toNat)
      case atStart => exact ⟨0, [], r, Nat.zero_le _, rfl, R.out, World.ownsRow_nil _ _ _ _, hg, rfl, (onto_nil _).symm⟩
      case round =>
        obtain ⟨k, acc, rest, hk, rfl, hr, hown, hgw, hacc, hsp⟩ := hrel
        have S : Aside (acc.length = k ∧ Pk.fldsP m r = onto acc (Pk.fldsP (m - k) rest)) := ⟨hacc, hsp⟩
        have R1 : Aside (Rest wr pb rest) := hr
        have O : Aside (wr.ownsRow w.heap.size 51 4 u4 k (flatP acc)) := hown
        clear hacc hsp hr hown R hg
        by_cases hlt2 : k < m
        · have hF := field_any pb rest wr R1.out
          have S1 : Aside (Pk.fldsP m r = match Pk.fldP rest with | none => none | some (f, q) => onto (acc ++ [f]) (Pk.fldsP (m - (k + 1)) q)) := by
            have := S.out.2
            rw [show m - k = (m - (k + 1)) + 1 by omega, onto_step] at this
            exact this
          rcases hP : Pk.fldP rest with _ | ⟨f, q⟩
          · rw [hP] at hF S1
            go_wp2_with fail
            refine hF.mono ?_
            rintro e w2 ⟨rfl, hg2⟩
            have Q1 := G1.out w2 S1.out (Lib.grownBy_trans hgw hg2)
            clear hg2 hgw hF
            go_wp2
            exact ⟨rfl, Q1⟩
          · rw [hP] at hF S1
            go_wp2_with fail
            refine hF.mono ?_
            rintro e w2 ⟨⟨rfl, hr2⟩, hg2⟩
            have hO2 : w2.ownsRow w.heap.size 51 4 u4 k (flatP acc) := O.out.kept hg2 (by
              rcases hb : u4.ownBlock with _ | g
              · exact .inl rfl
              · right; intro e; have := O.out.lt g hb; simp at e; omega)
            have hg3 : Aside (w.grownBy w2 (some pb)) := Lib.grownBy_trans hgw hg2
            have R2 : Aside (Rest w2 pb q) := hr2
            have hs2 : w.heap.size ≤ w2.heap.size := hg3.out.size
            clear hg2 hgw hF hr2 O R1
            have FL : Hid (flatP acc ++ cellsP f = flatP (acc ++ [f])) := (flatP_snoc acc f).symm
            unfold encP
            unfold cellsP at FL ⊢
            generalize f.kind = fk at FL
            generalize f.num.toNat = fn at FL
            generalize f.text = ft at FL
            generalize f.real.toNat = fr at FL
            go_wp2_with (at_builtin; refine wpList_append_own _ rfl _ _ 53 rfl w.heap.size 51 i0 (.agg #[.int .i64 0, .int .u64 0, .string ⟨#[]⟩, .float .f64 0]) 4 40 Try.underlying53 I.out.1 I.out.2.1 I.out.2.2.1 I.out.2.2.2 rfl (by decide) _ _ _ rfl (hO2.alloc _) ⟨w2.heap.size, 0, none⟩ 1 1 [.int .i64 fk, .int .u64 (fn : Int), .string ft, .float .f64 fr] rfl rfl ?c1 ?c2 ?c3 ?c4 ?c5 ?_)
            case c1 => exact cell_four_new _ _ _ _ _ _
            case c2 => intro u hu; simp at hu; rcases hu with rfl | rfl | rfl | rfl <;> rfl
            case c3 => unfold maxLen; omega
            case c4 => omega
            case c5 => simp; omega
            intro v3 w3 hown3 hgrow3 _
            have hlt3 : ∀ j, u4.ownBlock = some j → w.heap.size ≤ j := fun j hj => (hO2.lt j hj).1
            have hg4 : Aside (w.grownBy w3 (some pb)) := grown_own (Lib.grownBy_trans hg3.out (World.grownBy_alloc _ _ _)) hgrow3 hlt3
            have R3 : Aside (Rest w3 pb q) := rest_grown (rest_alloc R2.out _) hgrow3 (fun j hj => by have := hlt3 j hj; omega)
            rw [FL.out] at hown3
            clear hgrow3 hO2 hg3 R2
            go_wp2
            go_roundw
            case rel => exact ⟨k + 1, acc ++ [f], q, by omega, by go_num, R3.out, hown3, hg4.out, by rw [List.length_append, S.out.1]; rfl, S1.out⟩
            case measure => simp [intOf]; omega
        · obtain rfl : k = m := by omega
          have S1 : Aside (Pk.fldsP k r = some (acc, rest)) := by
            have := S.out.2
            rw [Nat.sub_self] at this
            simp only [Pk.fldsP, onto, List.append_nil] at this
            exact this
          obtain ⟨hz, a, cap, hc, hcap, _⟩ := R1.out
          cases rest with
          | nil =>
            have O1 := O.out
            rw [← S.out.1] at O1
            have Q1 := G3.out wr acc u4 S1.out O1 hgw
            rw [List.length_nil] at hc
            clear O1 hgw
            go_wp2
            exact Q1
          | cons x q =>
            have Q1 := G2.out wr acc x q S1.out hgw
            have hp : (0 : Int) < ((x :: q).length : Nat) := by rw [List.length_cons]; omega
            generalize (x :: q).length = p at hc hp
            clear hgw
            go_wp2_with fail
            refine (giveUp_any _).mono ?_; rintro e w2 ⟨rfl, hw⟩
            replace hw := hw.symm; subst hw
            go_wp2
            exact ⟨rfl, Q1⟩

end Go.Proofs.Ytkphpdejcmkdeaa
