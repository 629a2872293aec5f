/- What the document's own Known and Derives give; KnowCloses: the walk. -/
import Derived.Test.YtdpnffnogckfjaaRk
namespace Go.Proofs.Ytdpnffnogckfjaa
open Go.RowKit

-- What the document's own Known and Derives give.

/-- append of a row that came in behind an own row of none. -/
theorem wpList_copy2 (w : World) {ops : Array Oper} {rest : List Oper} {o : Oper} {a : Act} {Q : Exit → Act → World → Prop} (hgd : o.guard = none) (s x : Operand)
    (ho : o.op = .call { callee := .builtin .append, args := #[s, x], argTypes := #[22, 22] }) (v0 : Value) (hs : a.eval s = v0) (base : Nat) (hv0 : w.ownsRow base 23 1 v0 0 []) (ad : Option Addr) (n cap : Nat) (l : List (List UInt8)) (hx : a.eval x = .slice ad n cap)
    (hl : AtS w ad l) (hn : l.length = n) (hnone : ad = none → n = 0 ∧ cap = 0) (hn4 : n ≤ 4000) (hbase : base ≤ w.heap.size)
    (h : ∀ v w', w'.ownsRow base 23 1 v n (strs l) → Below base w w' → wpList Try.prog ops Q rest (a.put o.dst v) w') : wpList Try.prog ops Q (o :: rest) a w := by
  obtain ⟨i0, hi, hz0, hz1, hz2⟩ := info_parts info22
  cases ad with
  | none =>
    obtain ⟨rfl, rfl⟩ := hnone rfl
    obtain rfl : l = [] := List.eq_nil_of_length_eq_zero hn
    exact wpList_append_own_none hgd s x 22 ho base 23 i0 1 Try.underlying22 hi v0 0 [] hs hv0 hx (h _ _ hv0 (Below.refl _ _))
  | some ad =>
    refine wpList_append_own (P := Try.prog) w hgd s x 22 ho base 23 i0 (.string ⟨#[]⟩) 1 16 Try.underlying22 hi hz0 hz1 hz2 rfl (by decide) v0 0 [] hs hv0 ad n cap (strs l) hx (by rw [strs_len, hn, Nat.mul_one]) ?_ ?_ (by unfold maxLen; omega) (by omega) hbase ?_
    · intro j u hu
      have hjl : j < l.length := by
        have := (List.getElem?_eq_some_iff.1 hu).1
        rw [strs_len] at this
        exact this
      rcases hl with e | ⟨b, off, e, hc⟩
      · rw [e] at hjl; simp at hjl
      · simp only [Option.some.injEq] at e
        subst e
        have h1 := hc j l[j] (List.getElem?_eq_getElem hjl)
        have e2 : (⟨b, off, none⟩ : Addr).add j = ⟨b, off + j, none⟩ := by unfold Addr.add; split <;> simp_all
        rw [e2, h1]
        unfold strs at hu
        rw [List.getElem?_map, List.getElem?_eq_getElem hjl] at hu
        exact hu
    · intro u hu
      obtain ⟨y, _, rfl⟩ := List.mem_map.1 hu
      rfl
    · intro v w' hown hg _
      refine h v w' (by simpa using hown) ?_
      exact ⟨hg.os, hg.tape, hg.output, hg.size, fun j hj => hg.block j (Nat.lt_of_lt_of_le hj hbase) (fun e => by have := (hv0.lt j e.symm).1; omega)⟩

theorem all_small {l : List (List UInt8)} (h : l.length ≤ 300) : (Tm.allL l).length ≤ 1000000 := by
  have := all_len_le l
  omega

theorem closeF_len : ∀ (f : Nat) (U h : List (List UInt8)), (Tm.closeF f U h).length ≤ h.length + Tm.lack U h
  | 0, _, _ => Nat.le_add_right _ _
  | f + 1, U, h => by
    unfold Tm.closeF
    split
    · exact Nat.le_add_right _ _
    · exact Nat.le_trans (closeF_len f U _) (Tm.sweep_sum (fun t ht => ht))
theorem close_small {l k : List (List UInt8)} (h : l.length ≤ 300) (hk : k.length ≤ 300) : (Tm.closeL l (Tm.allL k)).length ≤ 5000000 := by
  have h1 := closeF_len ((Tm.allL k).length + 1) (Tm.allL k) (Tm.puts [] l)
  have h2 := puts_len_le l []
  have h3 := Tm.lack_le (Tm.allL k) (Tm.puts [] l)
  have h4 := all_small hk
  rw [List.length_nil] at h2
  unfold Tm.closeL
  omega

set_option maxRecDepth 20000 in
set_option maxHeartbeats 4000000 in
theorem rknown_any (a : Option Addr) (n cap : Nat) (l : List (List UInt8)) (w : World) (hn : l.length = n) (hn5 : n ≤ 300) (hl : AtS w a l) : Calls Try.prog 14 #[.slice a n cap] w (KnownPost l w) := by
  have CK : Aside (Calls Try.prog 29 #[.slice a n cap] w _) := rchecks_any a n cap l w hn (by omega) hl
  by_cases h0 : Tm.knownE l = 0
  · have QK : Aside (∀ v w2 w', Below w.heap.size w w2 → ClosePost l (Tm.allL l) w2 (.returned v) w' → KnownPost l w (.returned (.tuple #[v, .int .i64 0])) w') := by
      rintro v w2 w' hb ⟨v', he, ho, hb2⟩
      cases he
      refine ⟨v, by rw [h0]; rfl, ?_, later2 hb hb2⟩
      unfold Tm.knownL
      rw [if_pos h0]
      exact owns_mono ho hb.size
    generalize KnownPost l w = Q at QK ⊢
    rw [h0] at CK
    have AL : Aside (∀ W, Below w.heap.size w W → Calls Try.prog 31 #[.slice a n cap] W (AllPost l W)) := fun W hb => all_any a n cap l W hn hn5 (atS_later hb hl)
    have CL : Aside (∀ ua ucap W, Below w.heap.size w W → AtS W ua (Tm.allL l) → Calls Try.prog 30 #[.slice a n cap, .slice ua (Tm.allL l).length ucap] W (ClosePost l (Tm.allL l) W)) := fun ua ucap W hb hu => close_any a n cap l ua _ ucap _ W hn hn5 (atS_later hb hl) rfl (all_small (by omega)) hu
    clear hl hn h0
    go_enter Try.func14, Try.ntmps14
    go_wp2_with fail
    refine CK.out.mono ?_
    rintro e w1 ⟨rfl, b1⟩
    have A1 := AL.out w1 b1
    have B1 : Aside (Below w.heap.size w w1) := b1
    clear CK AL b1
    go_wp2_with fail
    refine A1.mono ?_
    rintro e w2 ⟨v, rfl, ho, b2⟩
    obtain ⟨ua, uc, rfl, -, -, hu⟩ := owns_strs ho
    have B2 : Aside (Below w.heap.size w w2) := later2 B1.out b2
    have C1 := CL.out ua uc w2 B2.out hu
    clear A1 ho b2 hu CL B1
    generalize (Tm.allL l).length = ul at *
    go_wp2_with fail
    refine C1.mono ?_
    rintro e w3 hq
    obtain ⟨v3, he, -, -⟩ := id hq
    subst he
    have Q3 := QK.out v3 w2 w3 B2.out hq
    clear C1 hq QK B2
    go_wp2
    exact Q3
  · have QE : Aside (∀ w', Below w.heap.size w w' → KnownPost l w (.returned (.tuple #[.slice none 0 0, .int .i64 (Tm.knownE l : Nat)])) w') := by
      intro w' hb
      refine ⟨_, rfl, ?_, hb⟩
      unfold Tm.knownL
      rw [if_neg h0]
      exact World.ownsRow_nil _ _ _ _
    generalize KnownPost l w = Q at QE ⊢
    have t9 : (((Tm.knownE l : Nat) : Int) != 0) = true := ne_zero h0
    clear hl hn h0
    generalize Tm.knownE l = c at *
    go_enter Try.func14, Try.ntmps14
    go_wp2_with fail
    refine CK.out.mono ?_
    rintro e w1 ⟨rfl, b1⟩
    have Q2 := QE.out w1 b1
    clear CK QE b1
    go_wp2
    exact Q2

set_option maxRecDepth 20000 in
set_option maxHeartbeats 16000000 in
theorem rder_any (a : Option Addr) (n cap : Nat) (l : List (List UInt8)) (g : List UInt8) (w : World) (hn : l.length = n) (hn5 : n ≤ 200) (hnone : a = none → n = 0 ∧ cap = 0) (hl : AtS w a l) : Calls Try.prog 16 #[.slice a n cap, str g] w (DerPost l g w) := by
  have CK : Aside (Calls Try.prog 29 #[.slice a n cap] w _) := rchecks_any a n cap l w hn (by omega) hl
  by_cases h0 : Tm.knownE l = 0
  · rw [h0] at CK
    have CG : Aside (∀ W, Below w.heap.size w W → Calls Try.prog 19 #[str g] W fun e w' => e = .returned (.int .i64 (Tm.chk g : Nat)) ∧ Below w.heap.size w w') := fun W hb => c_chk ⟨g.toArray⟩ W hb
    by_cases h1 : Tm.chk g = 0
    · have QK : Aside (∀ w', Below w.heap.size w w' → DerPost l g w (.returned (.tuple #[.bool (decide (g ∈ Tm.closeL l (Tm.allL (l ++ [g])))), .int .i64 0])) w') := by
        intro w' hb
        refine ⟨?_, hb⟩
        rw [(der_good h0 h1).1, (der_good h0 h1).2]; rfl
      generalize DerPost l g w = Q at QK ⊢
      rw [h1] at CG
      have AT : Aside (∀ W, Below w.heap.size w W → AtS W a l) := fun W hb => atS_later hb hl
      have HN : Aside (l.length = n ∧ (a = none → n = 0 ∧ cap = 0)) := ⟨hn, hnone⟩
      have AL : Aside (∀ ma mc W, AtS W ma (l ++ [g]) → Calls Try.prog 31 #[.slice ma (n + 1) mc] W (AllPost (l ++ [g]) W)) := fun ma mc W h => all_any ma (n + 1) mc (l ++ [g]) W (by simp [hn]) (by omega) h
      have CL : Aside (∀ ua ucap W, Below w.heap.size w W → AtS W ua (Tm.allL (l ++ [g])) → Calls Try.prog 30 #[.slice a n cap, .slice ua (Tm.allL (l ++ [g])).length ucap] W (ClosePost l (Tm.allL (l ++ [g])) W)) := fun ua ucap W hb hu => close_any a n cap l ua _ ucap _ W hn (by omega) (atS_later hb hl) rfl (all_small (by simp; omega)) hu
      have IN : Aside (∀ ka kc W, AtS W ka (Tm.closeL l (Tm.allL (l ++ [g]))) → Calls Try.prog 34 #[.slice ka (Tm.closeL l (Tm.allL (l ++ [g]))).length kc, str g] W fun e w' => e = .returned (.bool (decide (g ∈ Tm.closeL l (Tm.allL (l ++ [g]))))) ∧ w' = W) := fun ka kc W h => in_any ka _ kc _ g W rfl (close_small (by omega) (by simp; omega)) h
      have ST : Hid (strs l ++ [.string ⟨g.toArray⟩] = strs (l ++ [g])) := by rw [strs_append]; rfl
      obtain ⟨i0, hi, hz0, hz1, hz2⟩ := info_parts info22
      have I : Aside (Try.prog.info? 23 = some i0 ∧ i0.zero = some (.string ⟨#[]⟩) ∧ i0.size = 1 ∧ i0.bytes = 16) := ⟨hi, hz0, hz1, hz2⟩
      clear hl hn h0 h1 hnone hi hz0 hz1 hz2
      unfold str at CG IN ⊢
      unfold AllPost at AL
      unfold ClosePost at CL
      generalize Tm.allL (l ++ [g]) = U at *
      generalize Tm.closeL l U = K at *
      generalize decide (g ∈ K) = ans at *
      generalize (⟨g.toArray⟩ : ByteArray) = x at *
      go_enter Try.func16, Try.ntmps16
      go_wp2_with fail
      refine CK.out.mono ?_
      rintro e w1 ⟨rfl, b1⟩
      have C1 := CG.out w1 b1
      clear CK CG b1
      go_wp2_with fail
      refine C1.mono ?_
      rintro e w2 ⟨rfl, b2⟩
      have B2 : Aside (Below w.heap.size w w2) := b2
      clear C1 b2
      go_wp2_with (at_builtin; refine wpList_copy2 _ rfl _ _ rfl _ rfl w.heap.size ?c1 a n cap l rfl ?c2 HN.out.1 HN.out.2 (by omega) ?c3 ?_)
      case c1 => exact World.ownsRow_made _ #[] 0 B2.out.size (by unfold maxLen; omega) rfl
      case c2 => exact AT.out _ (B2.out.alloc B2.out.size _)
      case c3 => exact Nat.le_trans B2.out.size (by simp)
      intro v3 w3 hown3 hb3
      have O3 : Aside (w3.ownsRow w.heap.size 23 1 v3 n (strs l) ∧ Below w.heap.size w w3) := ⟨hown3, (B2.out.alloc B2.out.size _).trans hb3⟩
      have hs3 : w.heap.size ≤ w3.heap.size := O3.out.2.size
      clear hown3 hb3 B2 AT
      go_wp2_with (at_builtin; refine wpList_append_own _ rfl _ _ 22 rfl w.heap.size 23 i0 (.string ⟨#[]⟩) 1 16 Try.underlying22 I.out.1 I.out.2.1 I.out.2.2.1 I.out.2.2.2 rfl (by decide) _ _ _ rfl (O3.out.1.alloc _) ⟨w3.heap.size, 0, none⟩ 1 1 [.string x] rfl rfl ?d1 ?d2 ?d3 ?d4 ?d5 ?_)
      case d1 => exact cell_new1 _ _ _
      case d2 => intro u hu; simp at hu; subst hu; rfl
      case d3 => unfold maxLen; omega
      case d4 => omega
      case d5 => simp; omega
      intro v4 w4 hown4 hgrow4 _
      rw [ST.out] at hown4
      have hb4 : Below w.heap.size w w4 := grown_below hs3 O3.out.1 O3.out.2 hgrow4
      have B4 : Aside (Below w.heap.size w w4) := hb4
      obtain ⟨ma, mc, rfl, -, -, hm⟩ := owns_strs hown4
      have A1 := AL.out ma mc w4 hm
      clear hgrow4 O3 hown4 hb4 hm AL ST I
      go_wp2_with fail
      refine A1.mono ?_
      rintro e w5 ⟨v5, rfl, ho5, b5⟩
      obtain ⟨ua, uc, rfl, -, -, hu⟩ := owns_strs ho5
      have B5 : Aside (Below w.heap.size w w5) := later2 B4.out b5
      have C5 := CL.out ua uc w5 B5.out hu
      clear A1 ho5 b5 hu CL B4
      generalize U.length = ul at *
      go_wp2_with fail
      refine C5.mono ?_
      rintro e w6 ⟨v6, rfl, ho6, b6⟩
      obtain ⟨ka, kc, rfl, -, -, hk⟩ := owns_strs ho6
      have I6 := IN.out ka kc w6 hk
      have Q6 := QK.out w6 (later2 B5.out b6)
      clear C5 ho6 b6 hk IN QK B5
      generalize K.length = kl at *
      go_wp2_with fail
      refine I6.mono ?_
      rintro e w7 ⟨rfl, hw⟩
      replace hw := hw.symm; subst hw
      clear I6
      go_wp2
      exact Q6
    · have QE : Aside (∀ w', Below w.heap.size w w' → DerPost l g w (.returned (.tuple #[.bool false, .int .i64 (Tm.chk g : Nat)])) w') := by
        intro w' hb
        exact der_err (by unfold Tm.derivesE; rw [if_pos h0]) h1 hb
      generalize DerPost l g w = Q at QE ⊢
      have t9 : (((Tm.chk g : Nat) : Int) != 0) = true := ne_zero h1
      clear hl hn h0 h1 hnone
      unfold str at CG ⊢
      generalize Tm.chk g = c at *
      generalize (⟨g.toArray⟩ : ByteArray) = x at *
      go_enter Try.func16, Try.ntmps16
      go_wp2_with fail
      refine CK.out.mono ?_
      rintro e w1 ⟨rfl, b1⟩
      have C1 := CG.out w1 b1
      clear CK CG b1
      go_wp2_with fail
      refine C1.mono ?_
      rintro e w2 ⟨rfl, b2⟩
      have Q2 := QE.out w2 b2
      clear C1 QE b2
      go_wp2
      exact Q2
  · have QE : Aside (∀ w', Below w.heap.size w w' → DerPost l g w (.returned (.tuple #[.bool false, .int .i64 (Tm.knownE l : Nat)])) w') := by
      intro w' hb
      exact der_err (by unfold Tm.derivesE; rw [if_neg h0]) h0 hb
    generalize DerPost l g w = Q at QE ⊢
    have t9 : (((Tm.knownE l : Nat) : Int) != 0) = true := ne_zero h0
    clear hl hn h0 hnone
    unfold str
    generalize Tm.knownE l = c at *
    generalize (⟨g.toArray⟩ : ByteArray) = x at *
    go_enter Try.func16, Try.ntmps16
    go_wp2_with fail
    refine CK.out.mono ?_
    rintro e w1 ⟨rfl, b1⟩
    have Q2 := QE.out w1 b1
    clear CK QE b1
    go_wp2
    exact Q2

-- KnowCloses: the walk.

set_option maxRecDepth 20000 in
set_option maxHeartbeats 16000000 in
theorem closes_walk (a : Option Addr) (n cap : Nat) (l : List (List UInt8)) (g : ByteArray) (w : World) (h : IsTermsC w a n cap l) :
    Calls Try.prog 3 #[.slice a n cap, .string g] w fun e w' => e = .returned (.bool true) ∧ Below w.heap.size w w' := by
  have AL : Aside (∀ W, Below w.heap.size w W → _) := fun W hb => c_alive w W hb
  have FW : Aside (∀ W, Below w.heap.size w W → _) := fun W hb => c_few cap h.1 W hb
  have KN : Aside (∀ W, Below w.heap.size w W → Calls Try.prog 13 #[.slice a n cap] W fun e w' => ∃ ka kc, e = .returned (.tuple #[.slice ka (Tm.knownL l).length kc, .int .i64 (Tm.knownE l : Nat)]) ∧ AtS w' ka (Tm.knownL l) ∧ Below w.heap.size w w') := fun W hb => c_known cap h.1 W hb
  have RK : Aside (∀ W, n ≤ 20 → Below w.heap.size w W → Calls Try.prog 14 #[.slice a n cap] W fun e w' => ∃ ka kc, e = .returned (.tuple #[.slice ka (Tm.knownL l).length kc, .int .i64 (Tm.knownE l : Nat)]) ∧ AtS w' ka (Tm.knownL l) ∧ Below W.heap.size W w') := fun W h20 hb =>
    (rknown_any a n cap l W h.1.1 (by omega) (atS_later hb h.1.2.2.1)).mono fun _ _ ⟨v, he, ho, hb2⟩ => by
      obtain ⟨ka, kc, rfl, _, _, hat⟩ := owns_strs ho
      exact ⟨ka, kc, he, hat, hb2⟩
  have DE : Aside (∀ W, Below w.heap.size w W → Calls Try.prog 15 #[.slice a n cap, .string g] W fun e w' => e = .returned (.tuple #[.bool (Tm.derives l g.data.toList), .int .i64 (Tm.derivesE l g.data.toList : Nat)]) ∧ Below W.heap.size W w') := fun W hb => derives_any a n cap l g.data.toList W h.1.1 (atS_later hb h.1.2.2.1)
  have RD : Aside (∀ W, n ≤ 20 → Below w.heap.size w W → Calls Try.prog 16 #[.slice a n cap, .string g] W fun e w' => e = .returned (.tuple #[.bool (Tm.derives l g.data.toList), .int .i64 (Tm.derivesE l g.data.toList : Nat)]) ∧ Below W.heap.size W w') := fun W h20 hb => rder_any a n cap l g.data.toList W h.1.1 (by omega) h.2 (atS_later hb h.1.2.2.1)
  have SM : Aside (∀ ka kc kb kd W, AtS W ka (Tm.knownL l) → AtS W kb (Tm.knownL l) → Calls Try.prog 17 #[.slice ka (Tm.knownL l).length kc, .slice kb (Tm.knownL l).length kd] W fun e w' => e = .returned (.bool true) ∧ Below W.heap.size W w') := fun ka kc kb kd W h1 h2 => by
    have := same_big ka kb (Tm.knownL l).length kc (Tm.knownL l).length kd (Tm.knownL l) (Tm.knownL l) W rfl rfl h1 h2 (known_len l)
    rw [decide_eq_true rfl] at this
    exact this
  clear h
  generalize Tm.knownL l = K at *
  generalize Tm.knownE l = ke at *
  generalize Tm.derives l g.data.toList = dd at *
  generalize Tm.derivesE l g.data.toList = de at *
  generalize K.length = kl at *
  by_cases tg : (400 : Int) < (g.size : Int)
  all_goals
    go_enter Try.func3, Try.ntmps3
    go_wp2_with fail
    refine (AL.out w (Below.refl _ _)).mono ?_
    rintro e w1 ⟨rfl, b1⟩
    have B1 : Aside (Below w.heap.size w w1) := b1
    clear b1 AL
    go_wp2_with fail
    refine (FW.out w1 B1.out).mono ?_
    rintro e w2 ⟨b, rfl, h20, b2⟩
    have B2 : Aside (Below w.heap.size w w2) := b2
    clear b2 B1 FW
    cases b with
    | false =>
      go_wp2
      go_ret
      exact ⟨rfl, B2.out⟩
    | true => ?_
  · clear KN RK DE RD SM
    go_wp2
    go_ret
    exact ⟨rfl, B2.out⟩
  · have hn20 : n ≤ 20 := h20 rfl
    clear h20
    go_wp2_with fail
    refine (KN.out w2 B2.out).mono ?_
    rintro e w3 ⟨ka, kc, rfl, hat3, b3⟩
    have M3 : Aside (AtS w3 ka K ∧ Below w.heap.size w w3) := ⟨hat3, b3⟩
    have K4 := RK.out w3 hn20 b3
    clear KN RK hat3 b3 B2
    go_wp2_with fail
    refine K4.mono ?_
    rintro e w4 ⟨kb, kd, rfl, hat4, b4⟩
    have M4 : Aside (AtS w4 ka K ∧ AtS w4 kb K ∧ Below w.heap.size w w4) := ⟨atS_later b4 M3.out.1, hat4, later2 M3.out.2 b4⟩
    have D5 := DE.out w4 M4.out.2.2
    clear K4 hat4 b4 M3 DE
    go_wp2_with fail
    refine D5.mono ?_
    rintro e w5 ⟨rfl, b5⟩
    have M5 : Aside (AtS w5 ka K ∧ AtS w5 kb K ∧ Below w.heap.size w w5) := ⟨atS_later b5 M4.out.1, atS_later b5 M4.out.2.1, later2 M4.out.2.2 b5⟩
    have D6 := RD.out w5 hn20 M5.out.2.2
    clear D5 b5 M4 RD
    go_wp2_with fail
    refine D6.mono ?_
    rintro e w6 ⟨rfl, b6⟩
    have S7 := SM.out ka kc kb kd w6 (atS_later b6 M5.out.1) (atS_later b6 M5.out.2.1)
    have B6 : Aside (Below w.heap.size w w6) := later2 M5.out.2.2 b6
    clear D6 b6 M5 SM
    go_wp2_with fail
    refine S7.mono ?_
    rintro e w7 ⟨rfl, b7⟩
    have B7 : Aside (Below w.heap.size w w7) := later2 B6.out b7
    clear S7 b7 B6
    go_wp2
    go_ret
    exact ⟨by simp, B7.out⟩

end Go.Proofs.Ytdpnffnogckfjaa
