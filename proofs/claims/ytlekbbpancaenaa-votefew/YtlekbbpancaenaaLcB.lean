/- The walk of VoteFew: as long as too few echo one body, and too few are ready for one, nobody is made ready, and nothing is delivered. -/
import Derived.Test.YtlekbbpancaenaaVtN
import Derived.Test.YtlekbbpancaenaaVtO
namespace Go.Proofs.Ytlekbbpancaenaa
open Go.RowKit Go.Shelf

set_option maxHeartbeats 16000000 in
set_option maxRecDepth 100000 in
theorem few_walk (ms frm : Nat) (a : Option Addr) (cap : Nat) (l : List (Int × Nat × ByteArray)) (w : World) (hms : ms < 65536) (hl : AtV w a l) :
    Calls Try.prog 10 #[.agg #[.int .u16 (ms : Nat), .int .u8 (frm : Nat)], .slice a l.length cap] w fun e w' => e = .returned (.bool true) ∧ Below w.heap.size w w' := by
  have AL : Aside (∀ W, _) := fun W => alive_any W
  have L0 : Aside (AtV w a l ∧ ms < 65536) := ⟨hl, hms⟩
  have SN : Aside (∀ W, Calls Try.prog 27 #[.int .u16 (ms : Nat)] W fun e w' => e = .returned (.int .i64 (Cn.sizeS ms : Nat)) ∧ Below W.heap.size W w') := fun W => rsize_any ms W hms
  have SZ : Aside (∀ s W, s < 65536 → Calls Try.prog 27 #[.int .u16 (s : Nat)] W fun e w' => e = .returned (.int .i64 (Cn.sizeS s : Nat)) ∧ Below W.heap.size W w') := fun s W hs => rsize_any s W hs
  have EC : Aside (∀ W, Calls Try.prog 29 #[.int .i64 (Cn.sizeS ms : Nat)] W fun e w' => e = .returned (.int .i64 (Cn.echoes (Cn.sizeS ms) : Nat)) ∧ w' = W) := fun W => rechoes_any _ W
  have RC : Aside (∀ W, Calls Try.prog 30 #[.int .i64 (Cn.sizeS ms : Nat)] W fun e w' => e = .returned (.int .i64 (Cn.readies (Cn.sizeS ms) : Nat)) ∧ w' = W) := fun W => rreadies_any _ W
  clear hl hms
  go_enter Try.func10, Try.ntmps10
  go_wp2_with fail
  refine (AL.out _).mono ?_
  rintro z w1 ⟨rfl, hb1⟩
  have B0 : Aside (Below w.heap.size w w1) := below_step ((Below.refl _ w).alloc (Nat.le_refl _) _) hb1
  have pt0 : w1.cell? ⟨w.heap.size, 0, none⟩ = some (.int .u16 (ms : Int)) := cell_later hb1 (World.cell?_alloc_at _ _ _ _ rfl)
  have pt1 : w1.cell? ⟨w.heap.size, 1, none⟩ = some (.int .u8 (frm : Int)) := cell_later hb1 (World.cell?_alloc_at _ _ _ _ rfl)
  have PT : Aside (w1.cell? ⟨w.heap.size, 0, none⟩ = some (.int .u16 (ms : Int)) ∧ w1.cell? ⟨w.heap.size, 1, none⟩ = some (.int .u8 (frm : Int)) ∧ AtV w1 a l) := ⟨pt0, pt1, L0.out.1.later B0.out⟩
  have pl1 := World.block_lt_of_cell? _ _ pt0
  dsimp only at pl1
  clear hb1 AL
  go_wp2_with fail
  refine (SN.out _).mono ?_
  rintro z w2 ⟨rfl, hb2⟩
  have K0 : Aside (Kept w1 w2 0 Vt.Cs.none none none 0 0) := (Kept.start w1).later hb2
  clear pt0 pt1 hb2 SN pl1
  go_wp2_with fail
  go_loopw [7] (fun i wr => ∃ k c a1 a2 c1 c2, k ≤ l.length ∧ k ≤ 60 ∧ i = .int .i64 (k : Nat) ∧
      Aside (Kept w1 wr k c a1 a2 c1 c2 ∧ (c.done = true → c.readied = true) ∧ Vt.FewOk (Cn.sizeS ms) c)) (fun i _ => 60 - (intOf i).toNat)
  case atStart => exact ⟨0, Vt.Cs.none, none, none, 0, 0, Nat.zero_le _, by omega, rfl, K0.out, (fun h => nomatch h), Vt.few_none _⟩
  case round =>
    obtain ⟨k, c, a1, a2, c1, c2, hk, hk6, rfl, hC⟩ := hrel
    clear K0
    by_cases hlt : k < l.length
    · have t1 : (k : Int) < (l.length : Int) := by omega
      by_cases h60 : k < 60
      · have t2 : (k : Int) < 60 := by omega
        have t3 : (0 : Int) ≤ (k : Int) := by omega
        have hB := hC.out.1.below
        obtain ⟨b, off, kd, id, x, rfl, hg, v0, v1, v2⟩ := (PT.out.2.2.later hB).get hlt
        have p0 := cell_later hB PT.out.1
        have p1 := cell_later hB PT.out.2.1
        have pl := World.block_lt_of_cell? _ _ p0
        have vl := World.block_lt_of_cell? _ _ v0
        have cl := hC.out.1.at_.1.lt
        obtain ⟨y0, y1, y2, y3, y4⟩ := hC.out.1.at_.1.cells
        dsimp only at pl vl
        clear hB hg
        by_cases hx : (1100 : Int) < (x.size : Int)
        · have RL : Aside (∀ o, Kept w1 (wr.alloc o) (k + 1) c a1 a2 c1 c2 ∧ (c.done = true → c.readied = true) ∧ Vt.FewOk (Cn.sizeS ms) c) := fun o => ⟨(hC.out.1.alloc o).more (Nat.le_succ _), hC.out.2.1, hC.out.2.2⟩
          clear SZ EC RC
          go_wp2
          go_roundw
          case rel => exact ⟨k + 1, c, a1, a2, c1, c2, by omega, by omega, by go_num, RL.out _⟩
          case measure => simp [intOf]; omega
        · have T1 : Aside (∀ o, _) := fun o => take_kept (ms := ms) (frm := frm) (kind := kd) (id := id) (x := x) hC.out.1 (by omega) L0.out.2 o
          go_wp2_with fail
          refine (T1.out _).mono ?_
          rintro z w4 ⟨t, b1, k1, b2, k2, ao, co, ht, rfl, hA⟩
          have TC := Vt.take_casts c ms frm kd id x hC.out.2.1 t ht.out
          have FW := Vt.few_take frm kd id x hC.out.2.2
          rw [ht.out] at FW
          have DR : Aside ((t.c.done = true → t.c.readied = true) ∧ (t.is = true → t.c.readied = true) ∧ Vt.FewOk (Cn.sizeS ms) t.c) := ⟨TC.2.2, fun hi => by
            rcases TC.2.1 with ⟨h0, _⟩ | ⟨_, _, h1⟩
            · rw [h0] at hi; cases hi
            · exact TC.2.2 h1, FW⟩
          obtain ⟨p0, p1, p2, p3, p4⟩ := hA.out.1.cells
          have pf := hA.out.1.frozen
          have pl4 := hA.out.1.lt
          have NX : Aside (∀ o', Kept w1 _ (k + 1) t.c b1 b2 k1 k2 ∧ _) := hA.out.2
          clear T1 hA TC ht hC y0 y1 y2 y3 y4 FW
          generalize t.is = is at *
          generalize t.body = bd at *
          generalize t.e = er at *
          generalize t.outs.length = ol at *
          go_wp2_with fail
          refine (?_ : ∀ V, (Kept w1 V (k + 1) t.c b1 b2 k1 k2 ∧ AtO V ao t.outs) → Code.wp _ _ _ _ V) _ (NX.out _)
          intro V hV
          have HV : Aside (Kept w1 V (k + 1) t.c b1 b2 k1 k2) := hV.1
          clear hV NX p0 p1 p2 p3 p4 pf pl4 v0 v1 v2 pl vl cl
          obtain ⟨N1, hN1⟩ : ∃ n : Nat, n = t.c.echoes.length := ⟨_, rfl⟩
          obtain ⟨N2, hN2⟩ : ∃ n : Nat, n = t.c.readies.length := ⟨_, rfl⟩
          rw [← hN1, ← hN2]
          have HN : Aside (N1 = t.c.echoes.length ∧ N2 = t.c.readies.length) := ⟨hN1, hN2⟩
          have bN1 : N1 ≤ 61 := by have := HV.out.n1; omega
          have bN2 : N2 ≤ 61 := by have := HV.out.n2; omega
          clear hN1 hN2
          -- the echoes
          go_loopw [14, 64] (fun acc j wr => ∃ m : Nat, m ≤ N1 ∧ j = .int .i64 (m : Nat) ∧ acc = .bool ((t.c.echoes.take m).any fun b => decide (Cn.echoes (Cn.sizeS ms) ≤ Cn.sizeS b.2)) ∧ Aside (Below V.heap.size V wr)) (fun _ j _ => N1 - (intOf j).toNat)
          case atStart => exact ⟨0, Nat.zero_le _, rfl, rfl, Below.refl _ V⟩
          case round =>
            obtain ⟨m, hm, rfl, rfl, hB2⟩ := hrel
            by_cases hm1 : m < N1
            · have s1 : (m : Int) < (N1 : Int) := by omega
              have s3 : (m : Int) < 61 := by omega
              have s2 : (0 : Int) ≤ (m : Int) := by omega
              obtain ⟨bb, hbb⟩ : ∃ bb, t.c.echoes[m]? = some bb := ⟨_, List.getElem?_eq_getElem (HN.out.1 ▸ hm1)⟩
              obtain ⟨by_, bs⟩ := bb
              obtain ⟨g, of, rfl, o0, o1⟩ := at_cell (HV.out.at_.2.1.later hB2.out) hbb
              have ST : Aside ((t.c.echoes.take (m + 1)).any (fun b => decide (Cn.echoes (Cn.sizeS ms) ≤ Cn.sizeS b.2)) = ((t.c.echoes.take m).any (fun b => decide (Cn.echoes (Cn.sizeS ms) ≤ Cn.sizeS b.2)) || decide (Cn.echoes (Cn.sizeS ms) ≤ Cn.sizeS bs))) := Vt.any_step hbb
              have S6 : Aside (bs < 65536) := HV.out.small.1 _ (List.mem_of_getElem? hbb)
              have B3 : Aside (∀ o, Below V.heap.size V (wr.alloc o)) := fun o => hB2.out.alloc hB2.out.size o
              clear hbb
              generalize (t.c.echoes.take m).any (fun b => decide (Cn.echoes (Cn.sizeS ms) ≤ Cn.sizeS b.2)) = acc at ST ⊢
              cases acc with
              | true =>
                clear SZ EC RC
                go_wp2
                go_roundw
                case rel => exact ⟨m + 1, by omega, by go_num, by rw [ST.out]; rfl, B3.out _⟩
                case measure => simp [intOf]; omega
              | false =>
                go_wp2_with fail
                refine (SZ.out bs _ S6.out).mono ?_
                rintro z w5 ⟨rfl, hb5⟩
                have B5 : Aside (Below V.heap.size V w5) := below_step (B3.out _) hb5
                clear hb5 B3 o0 o1
                go_wp2_with fail
                refine (EC.out _).mono ?_
                rintro z w6 ⟨rfl, hw6⟩
                replace hw6 := hw6.symm; subst hw6
                go_wp2
                go_roundw
                case rel => exact ⟨m + 1, by omega, by go_num, by rw [ST.out, Bool.false_or], B5.out⟩
                case measure => simp [intOf]; omega
            · obtain rfl : m = N1 := by omega
              have K2 : Aside (Kept w1 wr (k + 1) t.c b1 b2 k1 k2) := HV.out.later hB2.out
              have A1 : Aside ((t.c.echoes.take m).any (fun b => decide (Cn.echoes (Cn.sizeS ms) ≤ Cn.sizeS b.2)) = Vt.hasE t.c.echoes (Cn.echoes (Cn.sizeS ms))) := by show _ = _; rw [HN.out.1, List.take_length]; rfl
              rw [A1.out]
              obtain ⟨u0, u1, u2, u3, u4⟩ := K2.out.at_.1.cells
              clear A1 hB2 HV
              generalize hE0 : Vt.hasE t.c.echoes (Cn.echoes (Cn.sizeS ms)) = E0
              have HE : Aside (Vt.hasE t.c.echoes (Cn.echoes (Cn.sizeS ms)) = E0) := hE0
              clear hE0
              rw [← HN.out.1] at u3
              rw [← HN.out.2] at u4
              go_wp2_with fail
              refine (?_ : ∀ V2, Kept w1 V2 (k + 1) t.c b1 b2 k1 k2 → Code.wp _ _ _ _ V2) _ K2.out
              clear K2 u0 u1 u2 u3 u4
              intro V2 hV2
              have K2 : Aside (Kept w1 V2 (k + 1) t.c b1 b2 k1 k2) := hV2
              clear hV2
              go_loopw [14, 81] (fun acc j wr => ∃ q : Nat, q ≤ N2 ∧ j = .int .i64 (q : Nat) ∧ acc = .bool (E0 || (t.c.readies.take q).any fun b => decide (Cn.readies (Cn.sizeS ms) ≤ Cn.sizeS b.2)) ∧ Aside (Below V2.heap.size V2 wr)) (fun _ j _ => N2 - (intOf j).toNat)
              case atStart => exact ⟨0, Nat.zero_le _, rfl, (by show Value.bool E0 = Value.bool (E0 || false); rw [Bool.or_false]), Below.refl _ V2⟩
              case round =>
                obtain ⟨q, hq, rfl, rfl, hB2⟩ := hrel
                by_cases hq1 : q < N2
                · have s1 : (q : Int) < (N2 : Int) := by omega
                  have s3 : (q : Int) < 61 := by omega
                  have s2 : (0 : Int) ≤ (q : Int) := by omega
                  obtain ⟨bb, hbb⟩ : ∃ bb, t.c.readies[q]? = some bb := ⟨_, List.getElem?_eq_getElem (HN.out.2 ▸ hq1)⟩
                  obtain ⟨by_, bs⟩ := bb
                  obtain ⟨g, of, rfl, o0, o1⟩ := at_cell (K2.out.at_.2.2.later hB2.out) hbb
                  have ST : Aside ((E0 || (t.c.readies.take (q + 1)).any (fun b => decide (Cn.readies (Cn.sizeS ms) ≤ Cn.sizeS b.2))) = ((E0 || (t.c.readies.take q).any (fun b => decide (Cn.readies (Cn.sizeS ms) ≤ Cn.sizeS b.2))) || decide (Cn.readies (Cn.sizeS ms) ≤ Cn.sizeS bs))) := by
                    show _ = _; rw [Vt.any_step hbb, Bool.or_assoc]
                  have S6 : Aside (bs < 65536) := K2.out.small.2 _ (List.mem_of_getElem? hbb)
                  have B3 : Aside (∀ o, Below V2.heap.size V2 (wr.alloc o)) := fun o => hB2.out.alloc hB2.out.size o
                  clear hbb
                  generalize (E0 || (t.c.readies.take q).any (fun b => decide (Cn.readies (Cn.sizeS ms) ≤ Cn.sizeS b.2))) = acc at ST ⊢
                  cases acc with
                  | true =>
                    clear SZ EC RC
                    go_wp2
                    go_roundw
                    case rel => exact ⟨q + 1, by omega, by go_num, by rw [ST.out]; rfl, B3.out _⟩
                    case measure => simp [intOf]; omega
                  | false =>
                    go_wp2_with fail
                    refine (SZ.out bs _ S6.out).mono ?_
                    rintro z w5 ⟨rfl, hb5⟩
                    have B5 : Aside (Below V2.heap.size V2 w5) := below_step (B3.out _) hb5
                    clear hb5 B3 o0 o1
                    go_wp2_with fail
                    refine (RC.out _).mono ?_
                    rintro z w6 ⟨rfl, hw6⟩
                    replace hw6 := hw6.symm; subst hw6
                    go_wp2
                    go_roundw
                    case rel => exact ⟨q + 1, by omega, by go_num, by rw [ST.out, Bool.false_or], B5.out⟩
                    case measure => simp [intOf]; omega
                · obtain rfl : q = N2 := by omega
                  have K3 : Aside (Kept w1 wr (k + 1) t.c b1 b2 k1 k2) := K2.out.later hB2.out
                  have A2 : Aside ((E0 || (t.c.readies.take q).any (fun b => decide (Cn.readies (Cn.sizeS ms) ≤ Cn.sizeS b.2))) = t.c.readied) := by
                    show _ = _
                    rw [HN.out.2, List.take_length, ← HE.out]
                    exact DR.out.2.2.symm
                  rw [A2.out]
                  obtain ⟨u0, u1, u2, u3, u4⟩ := K3.out.at_.1.cells
                  have IS : Aside (is = true → t.c.readied = true) := DR.out.2.1
                  generalize hrd : t.c.readied = rd at u1 IS ⊢
                  clear SZ EC RC A2 hB2 K2
                  have KK : Aside (Kept w1 wr (k + 1) t.c b1 b2 k1 k2 ∧ (t.c.done = true → t.c.readied = true) ∧ Vt.FewOk (Cn.sizeS ms) t.c) := ⟨K3.out, DR.out.1, DR.out.2.2⟩
                  clear hrd DR K3 HE
                  cases is with
                  | true =>
                    have hr := IS.out rfl
                    subst hr
                    clear IS
                    go_wp2
                    go_roundw
                    case rel => exact ⟨k + 1, t.c, b1, b2, k1, k2, by omega, by omega, by go_num, KK.out⟩
                    case measure => simp [intOf]; omega
                  | false =>
                    clear IS
                    go_wp2
                    go_roundw
                    case rel => exact ⟨k + 1, t.c, b1, b2, k1, k2, by omega, by omega, by go_num, KK.out⟩
                    case measure => simp [intOf]; omega
      · have t2 : ¬ (k : Int) < 60 := by omega
        have B9 : Aside (Below w.heap.size w wr) := below_step B0.out hC.out.1.below
        clear SZ EC RC
        go_wp2
        go_ret
        exact ⟨rfl, B9.out⟩
    · have t1 : ¬ (k : Int) < (l.length : Int) := by omega
      have B9 : Aside (Below w.heap.size w wr) := below_step B0.out hC.out.1.below
      clear SZ EC RC
      go_wp2
      go_ret
      exact ⟨rfl, B9.out⟩
end Go.Proofs.Ytlekbbpancaenaa
