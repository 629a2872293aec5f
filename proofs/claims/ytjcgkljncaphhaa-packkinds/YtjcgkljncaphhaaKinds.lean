/- PackKinds: the walk. -/
import Derived.Test.YtjcgkljncaphhaaOwn2
namespace Go.Proofs.Ytjcgkljncaphhaa
open Go.RowKit

theorem kinds_next (l : List Pk.Fld) (k : Nat) (h : k < l.length) : ics (kindsOf (l.take k)) ++ [.int .i64 l[k].kind] = ics (kindsOf (l.take (k + 1))) := by
  rw [List.take_succ_eq_append_getElem h]
  unfold kindsOf ics
  rw [List.map_append, List.map_append]
  rfl

theorem isB_self (l : List Pk.Fld) : isB l (kindsOf l) = true := by unfold isB; simp
theorem isB_more (l : List Pk.Fld) (x : Int) : isB l (kindsOf l ++ [x]) = false := isB_len (by simp [kindsOf])
theorem isB_set (l : List Pk.Fld) (i : Nat) (x : Int) (h : i < (kindsOf l).length) : isB l ((kindsOf l).set i x) = decide (x = (kindsOf l)[i]) := by
  unfold isB
  by_cases hx : x = (kindsOf l)[i]
  · rw [decide_eq_true hx, decide_eq_true]
    rw [hx, List.set_getElem_self]
  · rw [decide_eq_false hx, decide_eq_false]
    intro e
    apply hx
    have := congrArg (fun m => m[i]?) e
    simp [h] at this
    exact this.symm

set_option maxHeartbeats 4000000 in
theorem kinds_walk (a : Option Addr) (n cap : Nat) (l : List Pk.Fld) (at_ : Nat) (kind : Int) (w : World) (hat : at_ < 256) (hl : IsRefs w a n l) :
    Calls Try.prog 8 #[.slice a n cap, .int .u8 (at_ : Int), .int .i64 kind] w fun e w' => e = .returned (.bool true) ∧ Below w.heap.size w w' := by
  have hn : Hid (l.length = n) := hl.1
  have hmx := hl.2.1
  have C : Aside (AtR w a l) := hl.2.2
  clear hl
  obtain ⟨i0, hi, hz0, hz1, hz2⟩ := info_parts info3
  have I : Aside (Try.prog.info? 3 = some i0 ∧ i0.zero = some (.int .i64 0) ∧ i0.size = 1 ∧ i0.bytes = 8) := ⟨hi, hz0, hz1, hz2⟩
  clear hi hz0 hz1 hz2
  go_enter Try.func8, Try.ntmps8
  go_wp2_with fail
  refine (alive_any w).mono ?_
  rintro e w1 ⟨rfl, hb1⟩
  have hfew := few_any a n cap l w1 hmx hn (atR_later hb1 C.out)
  go_wp2_with fail
  refine hfew.mono ?_
  rintro e w2 ⟨⟨t, rfl, ht⟩, hb2⟩
  have B2 : Aside (Below w.heap.size w w2) := below_step hb1 hb2
  clear hfew hb1 hb2 hmx
  cases t with
  | false =>
    go_wp2
    go_ret
    exact ⟨rfl, B2.out⟩
  | true =>
    have h210 : n ≤ 210 := ht rfl
    clear ht
    go_wp2_with fail
    go_loopw [7, 20] (fun v i wr => ∃ k : Nat, k ≤ n ∧ i = .int .i64 k ∧ wr.ownsRow w.heap.size 3 1 v k (ics (kindsOf (l.take k))) ∧ Below w.heap.size w wr) (fun _ i _ => n - (intOf i).toNat)
    case atStart => exact ⟨0, Nat.zero_le _, rfl, World.ownsRow_nil _ _ _ _, B2.out⟩
    case round =>
      clear B2
      obtain ⟨k, hk, rfl, hown, hb⟩ := hrel
      have O : Aside (wr.ownsRow w.heap.size 3 1 u7 k (ics (kindsOf (l.take k)))) := hown
      clear hown
      by_cases hlt : k < n
      · have hk1 : k < l.length := by rw [hn.out]; exact hlt
        rcases C.out with he | ⟨b, off, rfl, hcs⟩
        · exfalso; rw [he] at hk1; simp at hk1
        obtain ⟨c0, c1, c2, c3⟩ := refAt_later hb rfl (hcs k l[k] (List.getElem?_eq_getElem hk1))
        have KN : Hid (_ = _) := kinds_next l k hk1
        generalize l[k].kind = fk at c0 KN
        generalize l[k].num.toNat = fn at c1
        generalize l[k].text = ft at c2
        generalize l[k].real.toNat = fr at c3
        clear hcs
        go_wp2_with (at_builtin; refine wpList_append_own _ rfl _ _ 23 rfl w.heap.size 3 i0 (.int .i64 0) 1 8 Try.underlying23 I.out.1 I.out.2.1 I.out.2.2.1 I.out.2.2.2 rfl (by decide) _ _ _ rfl ((O.out.alloc _).alloc _) ⟨wr.heap.size + 1, 0, none⟩ 1 1 [.int .i64 fk] rfl rfl ?c1 ?c2 ?c3 ?c4 ?c5 ?_)
        case c1 =>
          have := cell_one_new (wr.alloc (.cells #[.int .i64 fk, .int .u64 (fn : Int), .string ft, .int .u64 (fr : Int)] 48)) (.int .i64 fk) 3
          simpa using this
        case c2 => intro u hu; simp at hu; subst hu; rfl
        case c3 => unfold maxLen; omega
        case c4 => omega
        case c5 => have := hb.size; simp; omega
        intro v1 w3 hown1 hgrow _
        have hbb : Below w.heap.size w w3 := grown_below (by have := hb.size; simp; omega) (O.out.alloc _) (hb.alloc hb.size _) hgrow
        rw [KN.out] at hown1
        clear hgrow hb O c0 c1 c2 c3
        go_wp2
        go_roundw
        case rel => exact ⟨k + 1, by omega, by go_num, hown1, hbb⟩
        case measure => simp [intOf]; omega
      · obtain rfl : k = n := by omega
        have O1 := O.out
        rw [show l.take k = l by rw [← hn.out, List.take_length]] at O1
        have O : Aside (wr.ownsRow w.heap.size 3 1 u7 k (ics (kindsOf l))) := O1
        clear O1
        have hT := theirs_any a k cap l wr h210 hn (atR_later hb C.out)
        go_wp2_with fail
        refine hT.mono ?_
        rintro e w3 ⟨v3, rfl, hown3, hb3⟩
        have hb4 : Below w.heap.size w w3 := below_step hb hb3
        obtain ⟨xa, xcap, rfl, -, hxa⟩ := owns_fields hown3
        have O2 := owns_later hb3 O.out
        have XO : Aside (w3.ownsRow wr.heap.size 52 4 (.slice xa k xcap) k (flatP l)) := hown3
        have OL : Aside (∀ g, u7.ownBlock = some g → w.heap.size ≤ g ∧ g < wr.heap.size) := fun g hg => O.out.lt g hg
        have O3 : Aside (w3.ownsRow w.heap.size 3 1 u7 k (ics (kindsOf l))) := O2
        obtain ⟨ka, kcap, hka, hkl, hkat⟩ := owns_ints O2
        subst hka
        have KL : Aside ((kindsOf l).length = k) := hkl
        have hI1 := is_any xa ka k k xcap kcap l (kindsOf l) w3 (by omega) hn hkl hxa hkat
        rw [isB_self] at hI1
        clear hT hown3 hb hb3 O O2 hxa C hkl hkat
        go_wp2_with fail
        refine hI1.mono ?_
        rintro e w4 ⟨rfl, hb5⟩
        have O4 : Aside (w4.ownsRow w.heap.size 3 1 (.slice ka k kcap) k (ics (kindsOf l))) := owns_later hb5 O3.out
        have XO4 : Aside (w4.ownsRow wr.heap.size 52 4 (.slice xa k xcap) k (flatP l)) := owns_later hb5 XO.out
        have XA : Aside (AtP w4 xa l) := by
          obtain ⟨a', c', he, _, h⟩ := owns_fields XO4.out
          simp only [Value.slice.injEq] at he
          rw [he.1]; exact h
        have B4 : Aside (Below w.heap.size w w4) := below_step hb4 hb5
        have KA : Hid (ics (kindsOf l) ++ [Value.int .i64 kind] = ics (kindsOf l ++ [kind])) := by show _ = _; exact (ics_append (kindsOf l) [kind]).symm
        clear hI1 hb5 hb4 O3 XO
        rcases O4.out.2 with ⟨hnil, hk0⟩ | ⟨g, gc, cur, hsl, hgB, _⟩
        · simp only [Value.slice.injEq] at hnil
          obtain ⟨rfl, rfl, rfl⟩ := hnil
          have O5 : Aside (w4.ownsRow w4.heap.size 3 1 (.slice none 0 0) 0 (ics (kindsOf l))) := by
            have e : kindsOf l = [] := List.eq_nil_of_length_eq_zero KL.out
            rw [e]; exact World.ownsRow_nil _ _ _ _
          have hb45 : Below w4.heap.size w4 w4 := Below.refl _ _
          have hg5 : True := trivial
          have Q5 : Aside (AtP w4 xa l ∧ Below w.heap.size w w4) := ⟨atP_later hb45 XA.out, below_step B4.out hb45⟩
          clear hg5
          go_wp2_with (at_builtin; refine wpList_append_g _ _ _ 23 rfl w4.heap.size 3 i0 (.int .i64 0) 1 8 Try.underlying23 I.out.1 I.out.2.1 I.out.2.2.1 I.out.2.2.2 rfl (by decide) _ _ _ rfl (O5.out.alloc _) ⟨w4.heap.size, 0, none⟩ 1 1 [.int .i64 kind] rfl rfl ?e1 ?e2 ?hw ?e3 ?e4 ?e5 ?_)
          case e1 => exact cell_one_new _ _ _
          case e2 => intro u hu; simp at hu; subst hu; rfl
          case e3 => unfold maxLen; omega
          case e4 => omega
          case e5 => have := hb45.size; simp <;> omega
          intro v6 w6 hown6 hg6 _
          have hb46 : Below w4.heap.size w4 w6 := grown_below hb45.size O5.out hb45 hg6
          rw [KA.out] at hown6
          obtain ⟨ya, ycap, rfl, hyl, hya⟩ := owns_ints hown6
          have hI2 := is_any xa ya 0 (0 + 1) xcap ycap l (kindsOf l ++ [kind]) w6 (by omega) hn hyl (atP_later hb46 XA.out) hya
          rw [isB_more] at hI2
          have B6 : Aside (Below w4.heap.size w4 w6) := hb46
          clear hg6 hown6 hyl hya hb46 hb45 O5 Q5
          go_wp2_with fail
          refine hI2.mono ?_
          rintro e w7 ⟨rfl, hb67⟩
          have B7 : Aside (Below w4.heap.size w4 w7) := below_step B6.out hb67
          clear hI2 hb67 B6
          have BB := below_step B4.out B7.out
          clear B4 B7 XO4 O4 XA
          go_wp2
          go_ret
          exact ⟨rfl, BB⟩
        · simp only [Value.slice.injEq] at hsl
          obtain ⟨rfl, _, rfl⟩ := hsl
          have KC : Aside (∀ j u, (ics (kindsOf l))[j]? = some u → w4.cell? ((⟨g, 0, none⟩ : Addr).add j) = some u) := fun j u hu => O4.out.cells (g := g) rfl j u hu
          go_wp2_with (at_builtin; (refine wpList_append_g _ _ _ 23 rfl w4.heap.size 3 i0 (.int .i64 0) 1 8 Try.underlying23 I.out.1 I.out.2.1 I.out.2.2.1 I.out.2.2.2 rfl (by decide) _ _ _ rfl (World.ownsRow_nil w4 w4.heap.size 3 1) ⟨g, 0, none⟩ k kcap (ics (kindsOf l)) rfl ?d0 ?d1 ?d2 ?hw ?d3 ?d4 ?d5 ?_))
          case d0 => rw [Nat.mul_one]; unfold ics; rw [List.length_map]; exact KL.out
          case d1 => intro j u hu; exact KC.out j u hu
          case d2 => intro u hu; unfold ics at hu; simp at hu; obtain ⟨_, _, rfl⟩ := hu; rfl
          case d3 => unfold maxLen; omega
          case d4 => omega
          case d5 => exact Nat.le_refl _
          intro v5 w5 hown5 hg5 _
          have hb45 : Below w4.heap.size w4 w5 := (Below.refl _ _).grown hg5 (Nat.le_refl _) (fun j hj => by simp [Value.ownBlock] at hj)
          have O5 : Aside (w5.ownsRow w4.heap.size 3 1 v5 k (ics (kindsOf l))) := hown5
          clear hown5
          have Q5 : Aside (AtP w5 xa l ∧ Below w.heap.size w w5) := ⟨atP_later hb45 XA.out, below_step B4.out hb45⟩
          clear hg5
          go_wp2_with (at_builtin; refine wpList_append_g _ _ _ 23 rfl w4.heap.size 3 i0 (.int .i64 0) 1 8 Try.underlying23 I.out.1 I.out.2.1 I.out.2.2.1 I.out.2.2.2 rfl (by decide) _ _ _ rfl (O5.out.alloc _) ⟨w5.heap.size, 0, none⟩ 1 1 [.int .i64 kind] rfl rfl ?e1 ?e2 ?hw ?e3 ?e4 ?e5 ?_)
          case e1 => exact cell_one_new _ _ _
          case e2 => intro u hu; simp at hu; subst hu; rfl
          case e3 => unfold maxLen; omega
          case e4 => omega
          case e5 => have := hb45.size; simp <;> omega
          intro v6 w6 hown6 hg6 _
          have hb46 : Below w4.heap.size w4 w6 := grown_below hb45.size O5.out hb45 hg6
          rw [KA.out] at hown6
          obtain ⟨ya, ycap, rfl, hyl, hya⟩ := owns_ints hown6
          have hI2 := is_any xa ya k (k + 1) xcap ycap l (kindsOf l ++ [kind]) w6 (by omega) hn hyl (atP_later hb46 XA.out) hya
          rw [isB_more] at hI2
          have B6 : Aside (Below w4.heap.size w4 w6) := hb46
          clear hg6 hown6 hyl hya hb46 hb45 O5 Q5
          go_wp2_with fail
          refine hI2.mono ?_
          rintro e w7 ⟨rfl, hb67⟩
          have B7 : Aside (Below w4.heap.size w4 w7) := below_step B6.out hb67
          clear hI2 hb67 B6
          have O7 : Aside (w7.ownsRow w.heap.size 3 1 (.slice (some ⟨g, 0, none⟩) k kcap) k (ics (kindsOf l))) := owns_later B7.out O4.out
          have XO7 : Aside (w7.ownsRow wr.heap.size 52 4 (.slice xa k xcap) k (flatP l)) := owns_later B7.out XO4.out
          have BB : Aside (Below w.heap.size w w7) := below_step B4.out B7.out
          have hgw := OL.out g rfl
          clear B4 B7 XO4 O4 XA KC OL
          by_cases h0 : k = 0
          · subst h0
            go_wp2
            go_ret
            exact ⟨rfl, BB.out⟩
          · have h0' : ((k : Int) == 0) = false := by
              have : ¬ (k : Int) = 0 := by omega
              simpa using this
            have hp : 0 < k := by omega
            have hmod : at_ % k < k := Nat.mod_lt _ hp
            have hkl : at_ % k < (kindsOf l).length := by rw [KL.out]; exact hmod
            have c7 : w7.cell? ⟨g, at_ % k, none⟩ = some (.int .i64 (kindsOf l)[at_ % k]) := by
              rw [O7.out.cellAt _ (by omega)]
              simp [ics, hkl]
            have z7 : w7.frozen? ⟨g, at_ % k, none⟩ = false := O7.out.frozenAt _
            have m1 : (at_ : Int) % (k : Int) < (k : Int) := Int.emod_lt_of_pos _ (by omega)
            have m0 : 0 ≤ (at_ : Int) % (k : Int) := Int.emod_nonneg _ (by omega)
            obtain ⟨st, hgs⟩ := O7.out.stored (at_ % k) (.int .i64 kind)
            rw [show (ics (kindsOf l)).set (at_ % k) (.int .i64 kind) = ics ((kindsOf l).set (at_ % k) kind) by unfold ics; rw [List.map_set]] at st
            have XO8 := XO7.out.kept hgs (by
              right
              intro e
              have := (XO7.out.lt g e).1
              omega)
            obtain ⟨ya', yc', he', hkl', hat'⟩ := owns_ints st
            simp only [Value.slice.injEq] at he'
            obtain ⟨rfl, -, rfl⟩ := he'
            obtain ⟨xa', xc', he2, -, hxat⟩ := owns_fields XO8
            simp only [Value.slice.injEq] at he2
            obtain ⟨rfl, -, rfl⟩ := he2
            have hI3 := is_any xa (some ⟨g, 0, none⟩) k k xcap kcap l ((kindsOf l).set (at_ % k) kind) _ (by omega) hn hkl' hxat hat'
            rw [isB_set l _ _ hkl] at hI3
            have B8 : Aside (Below w.heap.size w (w7.setCell ⟨g, at_ % k, none⟩ (.int .i64 kind))) := BB.out.setCell hgw.1 _
            generalize (kindsOf l)[at_ % k] = was at c7 hI3
            clear st hgs XO8 hkl' hat' hxat O7 XO7 BB KL KA hkl
            go_wp2_with fail
            refine hI3.mono ?_
            rintro e w9 ⟨rfl, hb9⟩
            have BB : Below w.heap.size w w9 := below_step B8.out hb9
            clear hI3 hb9 B8
            go_wp2
            go_ret
            refine ⟨congrArg (fun z => Ending.returned (.bool z)) ?_, BB⟩
            by_cases hx : kind = was <;> simp [hx]

end Go.Proofs.Ytjcgkljncaphhaa
