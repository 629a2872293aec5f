/- What the document's own Decode gives, of any text. -/
import Derived.Test.YtkphpdejcmkdeaaPsM
set_option linter.unusedVariables false
namespace Go.Proofs.Ytkphpdejcmkdeaa
open Go.RowKit Go.Shelf
namespace Ps

theorem wpList_bdZ29 {w : World} {ops : Array Oper} {rest : List Oper} {o : Oper} {a : Act} {Q : Exit → Act → World → Prop} {b : Nat} {t : TypeId} {x : Bd} (h : B18 w b t x) (hg : o.guard = none) (p y : Operand) (ho : o.op = .store 29 p y)
    (hp : a.eval p = .pointer (some ⟨b, 0, none⟩)) (hx : a.eval y = .agg #[.int .i64 0, .int .u16 0, .int .u16 0, .int .u16 0, .int .u16 0, .int .u16 0, .int .u16 0, .int .u16 0, .int .u16 0, .int .u16 0, .int .u16 0, .int .u16 0, .int .u16 0, .int .u16 0, .int .u16 0, .int .u16 0, .int .u16 0, .string ⟨#[]⟩]) (hn : wpList Try.prog ops Q rest (a.put o.dst undef) (w.setCells b 0 (bdA zeroB).toList)) : wpList Try.prog ops Q (o :: rest) a w := by
  refine wpList_store hg 29 18 p y ho (Try.sizeOf29 w) (bdA zeroB).toList rfl b 0 hp hx (fun j hj => ?_) (fun j _ => h.frozen _) (bdA_one zeroB) hn
  have hj : j < 18 := hj
  rw [Nat.zero_add, cell_of_row w b j _ t _ h, Array.getElem?_eq_getElem (show j < (bdA x).size from hj)]; rfl
theorem wpList_bd_store29 {w : World} {ops : Array Oper} {rest : List Oper} {o : Oper} {a : Act} {Q : Exit → Act → World → Prop} {b : Nat} {t : TypeId} {x z : Bd} (h : B18 w b t x) (hg : o.guard = none) (p y : Operand) (ho : o.op = .store 29 p y)
    (hp : a.eval p = .pointer (some ⟨b, 0, none⟩)) (hx : a.eval y = .agg (bdA z)) (hn : wpList Try.prog ops Q rest (a.put o.dst undef) (w.setCells b 0 (bdA z).toList)) : wpList Try.prog ops Q (o :: rest) a w := by
  refine wpList_store hg 29 18 p y ho (Try.sizeOf29 w) (bdA z).toList rfl b 0 hp (by simpa using hx) (fun j hj => ?_) (fun j _ => h.frozen _) (bdA_one z) hn
  have hj : j < 18 := hj
  rw [Nat.zero_add, cell_of_row w b j _ t _ h, Array.getElem?_eq_getElem (show j < (bdA x).size from hj)]; rfl
/-- A vector stored into a body. -/
theorem wpList_sub_store {w : World} {ops : Array Oper} {rest : List Oper} {o : Oper} {a : Act} {Q : Exit → Act → World → Prop} {b : Nat} {t : TypeId} {x : Bd} {f : Nat → Nat} (h : B18 w b t x) (hg : o.guard = none) (p y : Operand) (ho : o.op = .store 24 p y)
    (hp : a.eval p = .pointer (some ⟨b, 1, none⟩)) (hx : a.eval y = .agg (vecA f)) (hn : wpList Try.prog ops Q rest (a.put o.dst undef) (w.setCells b 1 (vecA f).toList)) : wpList Try.prog ops Q (o :: rest) a w := by
  refine wpList_store hg 24 16 p y ho (Try.sizeOf24 w) (vecA f).toList rfl b 1 hp (by simpa using hx) (fun j hj => ?_) (fun j _ => h.frozen _) (vecA_one f) hn
  have hj : j < 16 := hj
  rw [h.past hj]; rfl
theorem B18.sub {w : World} {b : Nat} {t : TypeId} {x : Bd} (h : B18 w b t x) (f : Nat → Nat) : B18 (w.setCells b 1 (vecA f).toList) b t ⟨x.kind, f, x.text⟩ := by
  obtain ⟨cur', h1, h2⟩ := row_cells (vecA f).toList 1 w (bdA x) h (by show 1 + 16 ≤ 18; decide)
  have : cur' = bdA ⟨x.kind, f, x.text⟩ := by
    apply Array.toList_inj.1
    rw [h2]; rfl
  unfold B18
  rw [h1, this]
def partF (F : Nat → Nat) (k : Nat) : Nat → Nat := fun i => if i < k then F i else 0
theorem partF_upd (F : Nat → Nat) (k n : Nat) (hn : n = F k) : upd (partF F k) k n = partF F (k + 1) := by
  funext i
  unfold upd partF
  by_cases h : i = k
  · subst h; rw [if_pos rfl, if_pos (by omega), hn]
  · rw [if_neg h]
    by_cases h2 : i < k
    · rw [if_pos h2, if_pos (by omega)]
    · rw [if_neg h2, if_neg (by omega)]

set_option maxHeartbeats 8000000 in
set_option maxRecDepth 100000 in
theorem rdecode_bd (s : ByteArray) (w : World) : Calls Try.prog 17 #[.string s] w (DecP s.data.toList w) := by
  have PE : Aside (∀ w', dec s.data.toList = none → Below w.heap.size w w' → _) := fun w' h hb => decP_err h hb
  have PO : Aside (∀ w' b, dec s.data.toList = some b → Below w.heap.size w w' → _) := fun w' b h hb => decP_ok h hb
  generalize DecP s.data.toList w = Q at PE PO ⊢
  have X0 : Aside (B18 (w.alloc (.cells #[.int .i64 0, .int .u16 0, .int .u16 0, .int .u16 0, .int .u16 0, .int .u16 0, .int .u16 0, .int .u16 0, .int .u16 0, .int .u16 0, .int .u16 0, .int .u16 0, .int .u16 0, .int .u16 0, .int .u16 0, .int .u16 0, .int .u16 0, .string ⟨#[]⟩] 29)) w.heap.size 29 zeroB ∧ Below w.heap.size w (w.alloc (.cells #[.int .i64 0, .int .u16 0, .int .u16 0, .int .u16 0, .int .u16 0, .int .u16 0, .int .u16 0, .int .u16 0, .int .u16 0, .int .u16 0, .int .u16 0, .int .u16 0, .int .u16 0, .int .u16 0, .int .u16 0, .int .u16 0, .int .u16 0, .string ⟨#[]⟩] 29))) := ⟨B18.zero w 29, (Below.refl _ w).alloc (Nat.le_refl _) _⟩
  obtain ⟨gc, W1, hrun, hb1, hgc, hat⟩ := conv_txt (w.alloc (.cells #[.int .i64 0, .int .u16 0, .int .u16 0, .int .u16 0, .int .u16 0, .int .u16 0, .int .u16 0, .int .u16 0, .int .u16 0, .int .u16 0, .int .u16 0, .int .u16 0, .int .u16 0, .int .u16 0, .int .u16 0, .int .u16 0, .int .u16 0, .string ⟨#[]⟩] 29)) s
  have X1 : Aside (B18 W1 w.heap.size 29 zeroB ∧ Below w.heap.size w W1) := ⟨X0.out.1.later hb1, step_below X0.out.2 hb1⟩
  rw [World.size_alloc] at hrun hat
  have hD := rdecode_all (some ⟨w.heap.size + 1, 0, none⟩) s.size gc s.data.toList W1 (by show s.data.toList.length = s.size; exact Array.length_toList) hgc hat
  clear hb1 hgc hat X0
  unfold RDecPost at hD
  go_enter Try.func17, Try.ntmps17
  go_wp2_with fail
  refine hD.mono ?_
  rintro e w2 ⟨hp, hb2⟩
  have X2 : Aside (B18 w2 w.heap.size 29 zeroB ∧ Below w.heap.size w w2) := ⟨X1.out.1.later hb2, step_below X1.out.2 hb2⟩
  clear hD hrun hb2 X1
  rcases hd : Pk.decP s.data.toList with _ | l
  · rw [hd] at hp
    subst hp
    have dn : Aside (dec s.data.toList = none) := dec_none hd
    clear hd
    have Q1 : Aside (∀ w', Below w.heap.size w w' → _) := fun w' hb => PE.out w' dn.out hb
    have HB : Aside (B18 w2 w.heap.size 29 zeroB ∧ Below w.heap.size w w2) := ⟨X2.out.1, X2.out.2⟩
    clear PE PO
    go_wp2_with (with_reducible refine wpList_bdZ29 HB.out.1 rfl _ _ rfl rfl rfl ?_)
    exact bodyPost_ret (results_cell2 rfl rfl (Try.isAgg29 _) (Try.sizeOf29 _) (load_bd (HB.out.1.whole zeroB))) rfl (Q1.out _ (below_cells _ _ HB.out.2 (Nat.le_refl _)))
  · rw [hd] at hp
    obtain ⟨v, rfl, hown⟩ := hp
    obtain ⟨D1, D2, D3⟩ := dec_held hd
    obtain ⟨la, lcap, rfl, hll, hla⟩ := owns_refs hown
    have hz := (Pk.encE_zero.1 (Pk.decP_some hd).1).2.1
    clear hown hll hd
    by_cases hn18 : l.length = 18
    · rcases hla with he | ⟨b, off, rfl, hcs⟩
      · exfalso; rw [he] at hn18; simp at hn18
      have DH : Aside (_ ∧ _) := ⟨D1, D2⟩
      obtain ⟨-, c1, -, -⟩ := hcs 0 l[0] (List.getElem?_eq_getElem (by omega))
      obtain ⟨-, -, c2, -⟩ := hcs 17 l[17] (List.getElem?_eq_getElem (by omega))
      obtain ⟨q0, hq0⟩ : ∃ q, q = min l[0].num.toNat 9 := ⟨_, rfl⟩
      have K0 : Aside ((held (ofF l)).kind = (q0 : Int)) := by
        show min ((((l[0]?.map fun f => f.num.toNat).getD 0 : Nat) : Int)) 9 = _
        rw [List.getElem?_eq_getElem (by omega), hq0]
        show min ((l[0].num.toNat : Nat) : Int) 9 = _
        omega
      have K1 : Aside ((held (ofF l)).text = l[17].text) := by
        show ((l[17]?.map fun f => f.text).getD ⟨#[]⟩) = _
        rw [List.getElem?_eq_getElem (by omega)]; rfl
      have hm0 : min ((l[0].num.toNat : Nat) : Int) 9 = (q0 : Int) := by rw [hq0]; omega
      have hq9 : q0 ≤ 9 := by rw [hq0]; exact Nat.min_le_right _ _
      generalize l[0].num.toNat = n0 at c1 hm0 hq0
      generalize l[17].text = T at c2 K1
      have hwq : wrap64 (q0 : Int) = (q0 : Int) := by unfold wrap64; omega
      simp only [Nat.zero_mul, Nat.add_zero, Nat.reduceMul] at c1 c2
      have c3 : ∀ o, (w2.alloc o).cell? ⟨b, off + 1, none⟩ = some (.int .u64 (n0 : Int)) := fun o => by
        rw [World.cell?_alloc_past _ _ _ (World.block_lt_of_cell? w2 _ c1)]; exact c1
      have c4 : ∀ o, (w2.alloc o).cell? ⟨b, off + 68 + 2, none⟩ = some (.string T) := fun o => by
        rw [World.cell?_alloc_past _ _ _ (World.block_lt_of_cell? w2 _ c2)]; exact c2
      have HL : Hid (l.length = 18) := hn18
      have H2 : Aside (_) := hcs
      have e18 : ((l.length : Nat) : Int) = 18 := by omega
      rw [hn18]
      clear hcs hq0 D1 D2 D3 hn18 hz e18
      go_wp2_with fail
      go_region
      have Z0 : B18 (w2.alloc (.cells #[.int .i64 (q0 : Int), .int .u16 0, .int .u16 0, .int .u16 0, .int .u16 0, .int .u16 0, .int .u16 0, .int .u16 0, .int .u16 0, .int .u16 0, .int .u16 0, .int .u16 0, .int .u16 0, .int .u16 0, .int .u16 0, .int .u16 0, .int .u16 0, .string T] 29)).drew w2.heap.size 29 ⟨(q0 : Int), fun _ => 0, T⟩ := B18.new w2 29 ⟨(q0 : Int), fun _ => 0, T⟩
      have Z1 : Below w2.heap.size w2 (w2.alloc (.cells #[.int .i64 (q0 : Int), .int .u16 0, .int .u16 0, .int .u16 0, .int .u16 0, .int .u16 0, .int .u16 0, .int .u16 0, .int .u16 0, .int .u16 0, .int .u16 0, .int .u16 0, .int .u16 0, .int .u16 0, .int .u16 0, .int .u16 0, .int .u16 0, .string T] 29)).drew := ((Below.refl _ w2).alloc (Nat.le_refl _) _).drew
      have Z2 : (w2.alloc (.cells #[.int .i64 (q0 : Int), .int .u16 0, .int .u16 0, .int .u16 0, .int .u16 0, .int .u16 0, .int .u16 0, .int .u16 0, .int .u16 0, .int .u16 0, .int .u16 0, .int .u16 0, .int .u16 0, .int .u16 0, .int .u16 0, .int .u16 0, .int .u16 0, .string T] 29)).drew.heap.size = w2.heap.size + 1 := by simp
      refine (?REST : ∀ V, B18 V w2.heap.size 29 ⟨(q0 : Int), fun _ => 0, T⟩ ∧ Below w2.heap.size w2 V ∧ V.heap.size = w2.heap.size + 1 → Exit.then _ _ _ _ V) _ ⟨Z0, Z1, Z2⟩
      intro V hV
      have XV : Aside (_ ∧ _ ∧ _) := hV
      obtain ⟨F, hF⟩ : ∃ F, F = (held (ofF l)).past := ⟨_, rfl⟩
      have FQ : Aside (∀ i, F i ≤ 9999) := fun i => by rw [hF]; exact Nat.min_le_right _ _
      have FK : Aside (∀ k (h : 1 + k < l.length), F k = min (l[1 + k].num.toNat) 9999) := fun k h => by
        rw [hF]
        show min ((l[1 + k]?.map fun f => f.num.toNat).getD 0) 9999 = _
        rw [List.getElem?_eq_getElem h]; rfl
      have HF : Aside (F = (held (ofF l)).past) := hF
      have Y0 : Aside (V16 (V.alloc (.cells #[.int .u16 0, .int .u16 0, .int .u16 0, .int .u16 0, .int .u16 0, .int .u16 0, .int .u16 0, .int .u16 0, .int .u16 0, .int .u16 0, .int .u16 0, .int .u16 0, .int .u16 0, .int .u16 0, .int .u16 0, .int .u16 0] 24)) V.heap.size (partF F 0)) := by
        have := V16.zero V
        rw [show partF F 0 = fun _ => 0 from by funext i; simp [partF]]; exact this
      clear hV c1 c2 c3 c4 hwq Z0 Z1 Z2 hm0 hF
      go_wp2_with fail
      go_loopw [8] (fun i wr => ∃ k : Nat, k ≤ 16 ∧ i = .int .i64 k ∧ V16 wr V.heap.size (partF F k) ∧ Below V.heap.size V wr) (fun i _ => 16 - (intOf i).toNat)
      case atStart => exact ⟨0, by omega, rfl, Y0.out, (Below.refl _ V).alloc (Nat.le_refl _) _⟩
      case round =>
        obtain ⟨k, hk, rfl, hbx, hbe⟩ := hrel
        have W : Aside (V16 wr V.heap.size (partF F k) ∧ Below V.heap.size V wr) := ⟨hbx, hbe⟩
        clear hbx hbe Y0
        by_cases hlt : k < 16
        · have hi : 1 + k < l.length := by rw [HL.out]; omega
          obtain ⟨-, c1, -, -⟩ := refAt_later (step_below XV.out.2.1 W.out.2) rfl (H2.out (1 + k) l[1 + k] (List.getElem?_eq_getElem hi))
          have EK := FK.out k hi
          have d1 := W.out.1.at_ hlt
          have z1 := W.out.1.frozen k
          generalize l[1 + k].num.toNat = nk at c1 EK
          have hmk : min (nk : Int) 9999 = ((F k : Nat) : Int) := by rw [EK]; omega
          have hfk := FQ.out k
          have EKA : Aside (_ = _) := EK
          generalize partF F k k = old at d1
          obtain ⟨qk, hqk⟩ : ∃ q, q = F k := ⟨_, rfl⟩
          rw [← hqk] at hmk hfk
          have QK : Aside (qk = F k) := hqk
          have hwk : IntKind.u16.wrap (qk : Int) = (qk : Int) := by rw [IntKind.wrap_u16]; omega
          have t0 : (0 : Int) ≤ (k : Int) := by omega
          have t1 : (k : Int) < 16 := by omega
          have t2 : ((k : Int) + 1).toNat = k + 1 := by omega
          have t3 : (k : Int) + 1 < 18 := by omega
          rw [show 1 + k = k + 1 by omega] at c1
          clear EK hqk hi
          go_wp2
          go_roundw
          case rel =>
            refine ⟨k + 1, by omega, by go_num, ?_, W.out.2.setCell (Nat.le_refl _) _⟩
            have := W.out.1.set qk hlt
            rw [partF_upd F k qk QK.out] at this
            exact this
          case measure => simp [intOf]; omega
        · obtain rfl : k = 16 := by omega
          have Y1 : Aside (V16 wr V.heap.size (partF F 16)) := W.out.1
          have hbV := XV.out.1.later W.out.2
          have Y2 : Aside (B18 wr w2.heap.size 29 ⟨(q0 : Int), fun _ => 0, T⟩) := hbV
          have Y3 : Aside (B18 (wr.setCells w2.heap.size 1 (vecA (partF F 16)).toList) w2.heap.size 29 ⟨(q0 : Int), partF F 16, T⟩) := hbV.sub (partF F 16)
          have WB : Aside (Below w2.heap.size w2 (wr.setCells w2.heap.size 1 (vecA (partF F 16)).toList)) := below_cells _ _ (step_below XV.out.2.1 W.out.2) (Nat.le_refl _)
          have AL : Aside (Alike ⟨(q0 : Int), partF F 16, T⟩ (held (ofF l))) := ⟨K0.out.symm, fun i hi => by rw [← HF.out]; show (if i < 16 then F i else 0) = _; rw [if_pos hi], K1.out.symm⟩
          obtain ⟨B, hB⟩ : ∃ B : Bd, B = ⟨(q0 : Int), partF F 16, T⟩ := ⟨_, rfl⟩
          rw [← hB] at Y3 AL
          have SB : Small B := fun i hi => by
            rw [hB]; show (if i < 16 then F i else 0) < 65536
            rw [if_pos hi]; have := FQ.out i; omega
          have CE : Aside (∀ W, Calls Try.prog 15 #[.agg (bdA B)] W fun e w' => e = .returned (.tuple #[.string (encS B), .int .i64 (encK B : Nat)]) ∧ Below W.heap.size W w') := fun W => rencode_bd B W SB
          have MB : Aside (may B = may (held (ofF l)) ∧ bytes B = bytes (held (ofF l))) := ⟨may_alike AL.out, bytes_alike AL.out⟩
          clear W hB SB hbV FQ FK HF K0 K1 H2
          unfold encS encK at CE
          rcases hm : may B with _ | _
          · rw [hm] at CE
            simp only [Bool.false_eq_true, if_false] at CE
            have dn : Aside (dec s.data.toList = none) := DH.out.2 fun h => by have := MB.out.1; rw [hm, h.1] at this; cases this
            clear DH hm MB
            go_wp2_with (first
              | (with_reducible refine wpList_vec Y1.out rfl _ rfl rfl ?_)
              | (with_reducible refine wpList_sub_store Y2.out rfl _ _ rfl rfl rfl ?_)
              | (with_reducible refine wpList_bd29 Y3.out rfl _ rfl rfl ?_)
              | (go_at_call 15; refine (CE.out _).mono ?_; rintro e w7 ⟨rfl, hb7⟩; have B7 : Aside (Below w2.heap.size w2 w7) := step_below WB.out hb7; clear hb7)
              | (with_reducible refine wpList_bdZ29 (X2.out.1.later B7.out) rfl _ _ rfl rfl rfl ?_))
            exact bodyPost_ret (results_cell2 rfl rfl (Try.isAgg29 _) (Try.sizeOf29 _) (load_bd ((X2.out.1.later B7.out).whole zeroB))) rfl (PE.out _ dn.out (below_cells _ _ (step_below X2.out.2 B7.out) (Nat.le_refl _)))
          · rw [hm] at CE
            simp only [if_true] at CE
            obtain ⟨C, hC⟩ : ∃ C : ByteArray, C = ⟨(bytes B).toArray⟩ := ⟨_, rfl⟩
            rw [← hC] at CE
            have CD : Aside (∀ W, _) := CE.out
            clear CE
            by_cases hcs : C = s
            · have e1 : (C.toList == s.toList) = true := by rw [hcs]; simp
              have dn : ∃ b', dec s.data.toList = some b' ∧ Alike b' B := by
                have hb : bytes B = s.data.toList := by rw [← hcs, hC]
                obtain ⟨b', h1, h2, -⟩ := DH.out.1 ⟨by rw [← MB.out.1]; exact hm, by rw [← MB.out.2]; exact hb⟩
                exact ⟨b', h1, h2.trans AL.out.symm⟩
              obtain ⟨b', hb', hal⟩ := dn
              have ba := bdA_alike hal
              have DN : Aside (dec s.data.toList = some b' ∧ bdA b' = bdA B) := ⟨hb', ba⟩
              clear DH hm MB hcs hC hb' hal ba AL
              go_wp2_with (first
                | (with_reducible refine wpList_vec Y1.out rfl _ rfl rfl ?_)
                | (with_reducible refine wpList_sub_store Y2.out rfl _ _ rfl rfl rfl ?_)
                | (with_reducible refine wpList_bd29 Y3.out rfl _ rfl rfl ?_)
                | (go_at_call 15; refine (CD.out _).mono ?_; rintro e w7 ⟨rfl, hb7⟩; have B7 : Aside (Below w2.heap.size w2 w7) := step_below WB.out hb7; have Y4 : Aside (B18 w7 w2.heap.size 29 B) := Y3.out.later hb7; clear hb7 Y3)
                | (with_reducible refine wpList_bd29 Y4.out rfl _ rfl rfl ?_)
                | (with_reducible refine wpList_bd_store29 (X2.out.1.later B7.out) rfl _ _ rfl rfl rfl ?_))
              have Q1 := PO.out _ _ DN.out.1 (below_cells (bdA B).toList 0 (step_below X2.out.2 B7.out) (Nat.le_refl _))
              rw [DN.out.2] at Q1
              exact bodyPost_ret (results_cell2 rfl rfl (Try.isAgg29 _) (Try.sizeOf29 _) (load_bd ((X2.out.1.later B7.out).whole B))) rfl Q1
            · have e1 : (C.toList == s.toList) = false := by
                rw [beq_eq_false_iff_ne, ByteArray.toList_eq, ByteArray.toList_eq]
                intro e
                apply hcs
                cases C; cases s
                simp only [ByteArray.mk.injEq]
                exact Array.toList_inj.1 e
              have dn : Aside (dec s.data.toList = none) := DH.out.2 fun h => hcs (by rw [hC, MB.out.2, h.2])
              clear DH hm MB hcs hC AL
              go_wp2_with (first
                | (with_reducible refine wpList_vec Y1.out rfl _ rfl rfl ?_)
                | (with_reducible refine wpList_sub_store Y2.out rfl _ _ rfl rfl rfl ?_)
                | (with_reducible refine wpList_bd29 Y3.out rfl _ rfl rfl ?_)
                | (go_at_call 15; refine (CD.out _).mono ?_; rintro e w7 ⟨rfl, hb7⟩; have B7 : Aside (Below w2.heap.size w2 w7) := step_below WB.out hb7; clear hb7)
                | (with_reducible refine wpList_bdZ29 (X2.out.1.later B7.out) rfl _ _ rfl rfl rfl ?_))
              exact bodyPost_ret (results_cell2 rfl rfl (Try.isAgg29 _) (Try.sizeOf29 _) (load_bd ((X2.out.1.later B7.out).whole zeroB))) rfl (PE.out _ dn.out (below_cells _ _ (step_below X2.out.2 B7.out) (Nat.le_refl _)))
    · have dn : Aside (dec s.data.toList = none) := D3 hn18
      have hne : (((l.length : Nat) : Int) != 18) = true := by
        have : ¬ ((l.length : Nat) : Int) = 18 := by omega
        simpa using this
      generalize l.length = N at hne hz ⊢
      clear D1 D2 D3 hn18 hla
      have Q1 : Aside (∀ w', Below w.heap.size w w' → _) := fun w' hb => PE.out w' dn.out hb
      have HB : Aside (B18 w2 w.heap.size 29 zeroB ∧ Below w.heap.size w w2) := ⟨X2.out.1, X2.out.2⟩
      clear PE PO
      go_wp2_with (with_reducible refine wpList_bdZ29 HB.out.1 rfl _ _ rfl rfl rfl ?_)
      exact bodyPost_ret (results_cell2 rfl rfl (Try.isAgg29 _) (Try.sizeOf29 _) (load_bd (HB.out.1.whole zeroB))) rfl (Q1.out _ (below_cells _ _ HB.out.2 (Nat.le_refl _)))
end Ps
end Go.Proofs.Ytkphpdejcmkdeaa
