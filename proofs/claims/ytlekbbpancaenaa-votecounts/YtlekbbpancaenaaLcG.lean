/- The walk of VoteCounts: no member votes twice; what is delivered has enough readies, what it is ready for enough of either. -/
import Derived.Test.YtlekbbpancaenaaCtA
import Derived.Test.YtlekbbpancaenaaVtP
import Derived.Test.YtlekbbpancaenaaVtN
import Derived.Deep.AppendLies
namespace Go.Proofs.Ytlekbbpancaenaa
open Go.RowKit Go.Shelf

theorem field24_3 : ∀ (v0 v1 v2 v3 v4 : Value) (W : World), (Instr.field 24 (.agg #[v0, v1, v2, v3, v4]) 3).run Try.prog W = .ok v3 W := fun _ _ _ _ _ _ => by kernel_rfl
theorem field24_4 : ∀ (v0 v1 v2 v3 v4 : Value) (W : World), (Instr.field 24 (.agg #[v0, v1, v2, v3, v4]) 4).run Try.prog W = .ok v4 W := fun _ _ _ _ _ _ => by kernel_rfl
theorem andNot_sub {a b : Nat} (hb : b < 65536) (h : ∀ j, a.testBit j = true → b.testBit j = true) : a &&& (65535 - b) = 0 := by
  apply Nat.eq_of_testBit_eq
  intro j
  have e : 65535 - b = 2 ^ 16 - (b + 1) := by omega
  rw [Nat.testBit_and, e, Nat.testBit_two_pow_sub_succ (by omega), Nat.zero_testBit]
  cases ha : a.testBit j with
  | false => rfl
  | true => rw [h j ha]; simp
/-- Ballots appended to a row of one's own. -/
theorem run_append_bal {w : World} {B n : Nat} {v : Value} {xs : List Value} {a : Option Addr} {c : Nat} {l : Vt.Bal} (ty : TypeId) (i0 : TypeInfo) (hi : Try.prog.info? 77 = some i0 ∧ i0.zero = some (.agg #[.string ⟨#[]⟩, .int .u16 0]) ∧ i0.size = 2 ∧ i0.bytes = 24)
    (ho : w.ownsRow B 77 2 v n xs) (h : Vt.At w a l) (hn : n + l.length ≤ 1000) (hB : B ≤ w.heap.size) :
    ∃ v' w', (Builtin.append_ #[33, 33] ty #[v, .slice a l.length c]).run Try.prog w = .ok v' w' ∧ w'.ownsRow B 77 2 v' (n + l.length) (xs ++ Vt.balC l) ∧ w.grownBy w' v.ownBlock ∧ (v'.ownBlock = v.ownBlock ∨ v'.ownBlock = some w.heap.size) := by
  cases a with
  | none =>
    have hl : l = [] := by
      rcases h with h | ⟨b, off, h, _⟩
      · exact h
      · cases h
    subst hl
    refine ⟨v, w, ?_, ?_, World.grownBy.refl _ _, .inl rfl⟩
    · rcases ho.2 with ⟨rfl, rfl⟩ | ⟨g, cap, cur, rfl, _, _, hnc, _⟩
      · simp [Builtin.append_, run_underlying Try.underlying33, sizeOf, typeInfo, hi.1, Builtin.lenOf, Builtin.firstCells]
      · simp [Builtin.append_, run_underlying Try.underlying33, sizeOf, typeInfo, hi.1, Builtin.lenOf, Builtin.firstCells, hnc, storeCells]
    · have e : xs ++ Vt.balC [] = xs := List.append_nil _
      rw [e]; exact ho
  | some ad =>
    obtain ⟨v', w', h1, h2, h3, _, h5⟩ := run_append_own_at (P := Try.prog) w B 33 ty 77 i0 (.agg #[.string ⟨#[]⟩, .int .u16 0]) 2 24 Try.underlying33 hi.1 hi.2.1 hi.2.2.1 hi.2.2.2 rfl (by decide) v n xs ho ad l.length c (Vt.balC l) (Vt.balC_len l) (fun j u hu => by
      rcases h with rfl | ⟨b, off, e, hc⟩
      · simp [Vt.balC] at hu
      · obtain rfl := Option.some.inj e
        have := hc j u hu
        cases j with
        | zero => simpa [Addr.add] using this
        | succ j => simpa [Addr.add] using this) (Vt.balC_one l) (by unfold maxLen; omega) (by omega) hB
    exact ⟨v', w', h1, h2, h3, h5⟩
theorem step_append_bal {w : World} {ops : Array Oper} {o : Oper} {a : Act} {K : Act → World → Prop} {Q : Exit → Act → World → Prop} {E : Prop} (hgd : o.guard = none) (s x : Operand)
    (hop : o.op = .call { callee := .builtin .append, args := #[s, x], argTypes := #[33, 33] }) {B n : Nat} {v : Value} {xs : List Value} {ad : Option Addr} {c : Nat} {l : Vt.Bal} (i0 : TypeInfo) (hi : Try.prog.info? 77 = some i0 ∧ i0.zero = some (.agg #[.string ⟨#[]⟩, .int .u16 0]) ∧ i0.size = 2 ∧ i0.bytes = 24)
    (hs : a.eval s = v) (hx : a.eval x = .slice ad l.length c) (ho : w.ownsRow B 77 2 v n xs) (h : Vt.At w ad l) (hn : n + l.length ≤ 1000) (hB : B ≤ w.heap.size) (N : Nat) (hN : n + l.length = N)
    (hK : ∀ ga gc w', w'.ownsRow B 77 2 (.slice ga N gc) N (xs ++ Vt.balC l) → w.grownBy w' v.ownBlock → K (a.put o.dst (.slice ga N gc)) w') :
    if Region.wanted o (yielded ops a.tmps) = true then Oper.wp Try.prog o a w K Q else E := by
  have hw : Region.wanted o (yielded ops a.tmps) = true := by simp [Region.wanted, hgd]
  rw [if_pos hw]
  obtain ⟨v', w', hr, h1, h2, h3⟩ := run_append_bal (c := c) o.type i0 hi ho h hn hB
  rw [hN] at h1
  obtain ⟨ga, gc, rfl⟩ : ∃ ga gc, v' = .slice ga N gc := by
    rcases h1.2 with ⟨e, e0⟩ | ⟨g, cap, cur, e, _⟩
    · subst e0; exact ⟨_, _, e⟩
    · exact ⟨_, _, e⟩
  unfold Oper.wp execOp
  simp only [hop, resolve, invoke, builtin, Sem.run_bind, Sem.run_pure, Result.andThen_ok, List.map_toArray, List.map_cons, List.map_nil, hs, hx, hr]
  exact hK ga gc w' h1 h2

set_option maxHeartbeats 16000000 in
set_option maxRecDepth 100000 in
theorem counts_walk (ms frm : Nat) (a : Option Addr) (cap : Nat) (l : List (Int × Nat × ByteArray)) (w : World) (hms : ms < 65536) (hl : AtV w a l) :
    Calls Try.prog 9 #[.agg #[.int .u16 (ms : Nat), .int .u8 (frm : Nat)], .slice a l.length cap] w fun e w' => e = .returned (.bool true) ∧ Below w.heap.size w w' := by
  have AL : Aside (∀ W, _) := fun W => alive_any W
  have L0 : Aside (AtV w a l ∧ ms < 65536) := ⟨hl, hms⟩
  obtain ⟨i0, hi, hz0, hz1, hz2⟩ := info_parts info77
  have I : Aside (Try.prog.info? 77 = some i0 ∧ i0.zero = some (.agg #[.string ⟨#[]⟩, .int .u16 0]) ∧ i0.size = 2 ∧ i0.bytes = 24) := ⟨hi, hz0, hz1, hz2⟩
  have SN : Aside (∀ W, Calls Try.prog 27 #[.int .u16 (ms : Nat)] W fun e w' => e = .returned (.int .i64 (Cn.sizeS ms : Nat)) ∧ Below W.heap.size W w') := fun W => rsize_any ms W hms
  have SZ : Aside (∀ s W, s < 65536 → Calls Try.prog 27 #[.int .u16 (s : Nat)] W fun e w' => e = .returned (.int .i64 (Cn.sizeS s : Nat)) ∧ Below W.heap.size W w') := fun s W hs => rsize_any s W hs
  have EC : Aside (∀ W, Calls Try.prog 29 #[.int .i64 (Cn.sizeS ms : Nat)] W fun e w' => e = .returned (.int .i64 (Cn.echoes (Cn.sizeS ms) : Nat)) ∧ w' = W) := fun W => rechoes_any _ W
  have RC : Aside (∀ W, Calls Try.prog 30 #[.int .i64 (Cn.sizeS ms : Nat)] W fun e w' => e = .returned (.int .i64 (Cn.readies (Cn.sizeS ms) : Nat)) ∧ w' = W) := fun W => rreadies_any _ W
  have NC : Aside (∀ W, Calls Try.prog 28 #[.int .i64 (Cn.sizeS ms : Nat)] W fun e w' => e = .returned (.int .i64 (Cn.enough (Cn.sizeS ms) : Nat)) ∧ w' = W) := fun W => renough_any _ W
  have FD : Aside (_ ∧ _) := ⟨field24_3, field24_4⟩
  clear hl hms hi hz0 hz1 hz2
  go_enter Try.func9, Try.ntmps9
  go_wp2_with fail
  refine (AL.out _).mono ?_
  rintro z w1 ⟨rfl, hb1⟩
  have B0 : Aside (Below w.heap.size w w1) := below_step ((Below.refl _ w).alloc (Nat.le_refl _) _) hb1
  have pt0 : w1.cell? ⟨w.heap.size, 0, none⟩ = some (.int .u16 (ms : Int)) := cell_later hb1 (World.cell?_alloc_at _ _ _ _ rfl)
  have pt1 : w1.cell? ⟨w.heap.size, 1, none⟩ = some (.int .u8 (frm : Int)) := cell_later hb1 (World.cell?_alloc_at _ _ _ _ rfl)
  have PT : Aside (w1.cell? ⟨w.heap.size, 0, none⟩ = some (.int .u16 (ms : Int)) ∧ w1.cell? ⟨w.heap.size, 1, none⟩ = some (.int .u8 (frm : Int)) ∧ AtV w1 a l) := ⟨pt0, pt1, L0.out.1.later B0.out⟩
  have pl1 := World.block_lt_of_cell? _ _ pt0
  dsimp only at pl1
  clear hb1 AL
  go_wp2_with fail
  refine (SN.out _).mono ?_
  rintro z w2 ⟨rfl, hb2⟩
  have K0 : Aside (Kept w1 w2 0 Vt.Cs.none none none 0 0) := (Kept.start w1).later hb2
  clear pt0 pt1 hb2 SN pl1
  go_wp2_with fail
  go_loopw [7] (fun i wr => ∃ k c a1 a2 c1 c2, k ≤ l.length ∧ k ≤ 60 ∧ i = .int .i64 (k : Nat) ∧
      Aside (Kept w1 wr k c a1 a2 c1 c2 ∧ Vt.Cnt ms c)) (fun i _ => 60 - (intOf i).toNat)
  case atStart => exact ⟨0, Vt.Cs.none, none, none, 0, 0, Nat.zero_le _, by omega, rfl, K0.out, Vt.cnt_none _⟩
  case round =>
    obtain ⟨k, c, a1, a2, c1, c2, hk, hk6, rfl, hC⟩ := hrel
    clear K0
    by_cases hlt : k < l.length
    · have t1 : (k : Int) < (l.length : Int) := by omega
      by_cases h60 : k < 60
      · have t2 : (k : Int) < 60 := by omega
        have t3 : (0 : Int) ≤ (k : Int) := by omega
        have hB := hC.out.1.below
        obtain ⟨b, off, kd, id, x, rfl, hg, v0, v1, v2⟩ := (PT.out.2.2.later hB).get hlt
        have p0 := cell_later hB PT.out.1
        have p1 := cell_later hB PT.out.2.1
        have pl := World.block_lt_of_cell? _ _ p0
        have vl := World.block_lt_of_cell? _ _ v0
        have cl := hC.out.1.at_.1.lt
        obtain ⟨y0, y1, y2, y3, y4⟩ := hC.out.1.at_.1.cells
        dsimp only at pl vl
        clear hB hg
        by_cases hx : (1100 : Int) < (x.size : Int)
        · have RL : Aside (∀ o, Kept w1 (wr.alloc o) (k + 1) c a1 a2 c1 c2 ∧ Vt.Cnt ms c) := fun o => ⟨(hC.out.1.alloc o).more (Nat.le_succ _), hC.out.2⟩
          clear SZ EC RC NC
          go_wp2
          go_roundw
          case rel => exact ⟨k + 1, c, a1, a2, c1, c2, by omega, by omega, by go_num, RL.out _⟩
          case measure => simp [intOf]; omega
        · have T1 : Aside (∀ o, _) := fun o => take_kept (ms := ms) (frm := frm) (kind := kd) (id := id) (x := x) hC.out.1 (by omega) L0.out.2 o
          go_wp2_with fail
          refine (T1.out _).mono ?_
          rintro z w4 ⟨t, b1, k1, b2, k2, ao, co, ht, rfl, hA⟩
          have CT : Aside (_ ∧ _ ∧ _ ∧ _) := Vt.cnt_take ht.out hC.out.2
          obtain ⟨p0, p1, p2, p3, p4⟩ := hA.out.1.cells
          have pf := hA.out.1.frozen
          have pl4 := hA.out.1.lt
          have NX : Aside (∀ o', Kept w1 _ (k + 1) t.c b1 b2 k1 k2 ∧ _) := hA.out.2
          clear T1 hA ht hC y0 y1 y2 y3 y4
          go_wp2_with fail
          refine (?_ : ∀ V, (Kept w1 V (k + 1) t.c b1 b2 k1 k2 ∧ AtO V ao t.outs) → Calls Try.prog 19 _ V _) _ (NX.out _)
          intro V hV
          have HV : Aside (Kept w1 V (k + 1) t.c b1 b2 k1 k2 ∧ AtO V ao t.outs) := hV
          clear hV NX p0 p1 p2 p3 p4 pf pl4 v0 v1 v2 pl vl cl
          have KL : Aside (∀ X X', (Kept w1 X (k + 1) t.c b1 b2 k1 k2 ∧ AtO X ao t.outs) → Below X.heap.size X X' → (Kept w1 X' (k + 1) t.c b1 b2 k1 k2 ∧ AtO X' ao t.outs)) := fun X X' h hb => ⟨h.1.later hb, h.2.later hb⟩
          have bN1 : t.c.echoes.length ≤ 61 := by have := HV.out.1.n1; omega
          have bN2 : t.c.readies.length ≤ 61 := by have := HV.out.1.n2; omega
          have OU : Aside (∀ X, (Kept w1 X (k + 1) t.c b1 b2 k1 k2 ∧ AtO X ao t.outs) → Calls Try.prog 19 #[.agg #[.bool t.c.echoed, .bool t.c.readied, .bool t.c.done, .slice b1 t.c.echoes.length k1, .slice b2 t.c.readies.length k2]] X fun z w' => ∃ y1 i1 y2 i2, z = .returned (.agg #[.bool t.c.echoed, .bool t.c.readied, .bool t.c.done, .slice y1 t.c.echoes.length i1, .slice y2 t.c.readies.length i2]) ∧ Aside ((Kept w1 w' (k + 1) t.c b1 b2 k1 k2 ∧ AtO w' ao t.outs) ∧ Vt.At w' y1 t.c.echoes ∧ Vt.At w' y2 t.c.readies)) := fun X hX =>
            (ours_any t.c.echoed t.c.readied t.c.done b1 b2 k1 k2 t.c.echoes t.c.readies X hX.1.at_.2.1 hX.1.at_.2.2 (by omega) (by omega)).mono fun _ _ ⟨y1, i1, y2, i2, h0, h1, h2, h3⟩ => ⟨y1, i1, y2, i2, h0, KL.out _ _ hX h3, h1, h2⟩
          have DB : Aside (∀ X X' : World, Drew X X' → Below X.heap.size X X') := fun X X' ⟨q, h⟩ => by rw [h]; exact below_drew (Below.refl _ X) q
          have S1 : Aside (∀ X y i, (Kept w1 X (k + 1) t.c b1 b2 k1 k2 ∧ AtO X ao t.outs) → Vt.At X y t.c.echoes → Calls Try.prog 14 #[.slice y t.c.echoes.length i] X fun z w' => z = .returned (.bool true) ∧ Aside (Kept w1 w' (k + 1) t.c b1 b2 k1 k2 ∧ AtO w' ao t.outs)) := fun X y i hX h1 =>
            (sound_any y i t.c.echoes X h1 hX.1.small.1 (by omega)).mono fun _ _ ⟨b, h0, h1, h2⟩ => by rw [h0, h1 (Vt.sound_pw CT.out.1.e)]; exact ⟨rfl, KL.out _ _ hX (DB.out _ _ h2)⟩
          have S2 : Aside (∀ X y i, (Kept w1 X (k + 1) t.c b1 b2 k1 k2 ∧ AtO X ao t.outs) → Vt.At X y t.c.readies → Calls Try.prog 14 #[.slice y t.c.readies.length i] X fun z w' => z = .returned (.bool true) ∧ Aside (Kept w1 w' (k + 1) t.c b1 b2 k1 k2 ∧ AtO w' ao t.outs)) := fun X y i hX h1 =>
            (sound_any y i t.c.readies X h1 hX.1.small.2 (by omega)).mono fun _ _ ⟨b, h0, h1, h2⟩ => by rw [h0, h1 (Vt.sound_pw CT.out.1.r)]; exact ⟨rfl, KL.out _ _ hX (DB.out _ _ h2)⟩
          have F1b : Aside (∀ X y, (Kept w1 X (k + 1) t.c b1 b2 k1 k2 ∧ AtO X ao t.outs) → Calls Try.prog 21 #[.slice b1 t.c.echoes.length k1, .string y] X fun z w' => z = .returned (.int .u16 (Vt.forB t.c.echoes y : Nat)) ∧ Aside (Kept w1 w' (k + 1) t.c b1 b2 k1 k2 ∧ AtO w' ao t.outs) ∧ Aside (Below X.heap.size X w')) := fun X y hX =>
            (for_any b1 k1 t.c.echoes y X hX.1.at_.2.1 (by omega)).mono fun _ _ ⟨h0, h1⟩ => ⟨h0, KL.out _ _ hX h1, h1⟩
          have F1 : Aside (∀ X y, (Kept w1 X (k + 1) t.c b1 b2 k1 k2 ∧ AtO X ao t.outs) → Calls Try.prog 21 #[.slice b1 t.c.echoes.length k1, .string y] X fun z w' => z = .returned (.int .u16 (Vt.forB t.c.echoes y : Nat)) ∧ Aside (Kept w1 w' (k + 1) t.c b1 b2 k1 k2 ∧ AtO w' ao t.outs)) := fun X y hX =>
            (for_any b1 k1 t.c.echoes y X hX.1.at_.2.1 (by omega)).mono fun _ _ ⟨h0, h1⟩ => ⟨h0, KL.out _ _ hX h1⟩
          have F2 : Aside (∀ X y, (Kept w1 X (k + 1) t.c b1 b2 k1 k2 ∧ AtO X ao t.outs) → Calls Try.prog 21 #[.slice b2 t.c.readies.length k2, .string y] X fun z w' => z = .returned (.int .u16 (Vt.forB t.c.readies y : Nat)) ∧ Aside (Kept w1 w' (k + 1) t.c b1 b2 k1 k2 ∧ AtO w' ao t.outs)) := fun X y hX =>
            (for_any b2 k2 t.c.readies y X hX.1.at_.2.2 (by omega)).mono fun _ _ ⟨h0, h1⟩ => ⟨h0, KL.out _ _ hX h1⟩
          have SB : Aside ((∀ y, Vt.forB t.c.echoes y < 65536) ∧ ∀ y, Vt.forB t.c.readies y < 65536) := ⟨fun y => Vt.small_for HV.out.1.small.1 y, fun y => Vt.small_for HV.out.1.small.2 y⟩
          refine (OU.out _ HV.out).mono ?_
          rintro z w5 ⟨y1, i1, y2, i2, rfl, hA⟩
          have K5 : Aside (Kept w1 w5 (k + 1) t.c b1 b2 k1 k2 ∧ AtO w5 ao t.outs) := hA.out.1
          have O5 : Aside (Vt.At w5 y1 t.c.echoes) := hA.out.2.1
          clear hA HV
          have fd := FD.out.1
          go_wp2_with fail
          refine (S1.out _ y1 i1 K5.out O5.out).mono ?_
          rintro z w6 ⟨rfl, hA⟩
          have K6 : Aside (Kept w1 w6 (k + 1) t.c b1 b2 k1 k2 ∧ AtO w6 ao t.outs) := hA.out
          clear hA K5 O5 S1
          obtain ⟨u0, u1, u2, u3, u4⟩ := K6.out.1.at_.1.cells
          go_wp2_with fail
          refine (OU.out _ K6.out).mono ?_
          rintro z w7 ⟨y3, i3, y4, i4, rfl, hA⟩
          have K7 : Aside (Kept w1 w7 (k + 1) t.c b1 b2 k1 k2 ∧ AtO w7 ao t.outs) := hA.out.1
          have O7 : Aside (Vt.At w7 y4 t.c.readies) := hA.out.2.2
          clear hA K6 u0 u1 u2 u3 u4 fd OU
          have fd := FD.out.2
          go_wp2_with fail
          refine (S2.out _ y4 i4 K7.out O7.out).mono ?_
          rintro z w8 ⟨rfl, hA⟩
          have K8 : Aside (Kept w1 w8 (k + 1) t.c b1 b2 k1 k2 ∧ AtO w8 ao t.outs) := hA.out
          clear hA K7 O7 S2 fd
          obtain ⟨u0, u1, u2, u3, u4⟩ := K8.out.1.at_.1.cells
          rcases (show t.is = true ∨ t.is = false by cases t.is <;> simp) with his | his
          · rw [his]
            have LE : Aside (Cn.enough (Cn.sizeS ms) ≤ Cn.sizeS (Vt.forB t.c.readies t.body)) := CT.out.2.1 his
            clear his
            go_wp2_with fail
            refine (F2.out _ t.body K8.out).mono ?_
            rintro z w9 ⟨rfl, hA⟩
            have K9 : Aside (Kept w1 w9 (k + 1) t.c b1 b2 k1 k2 ∧ AtO w9 ao t.outs) := hA.out
            clear hA K8 u0 u1 u2 u3 u4
            go_wp2_with fail
            refine (SZ.out _ _ (SB.out.2 _)).mono ?_
            rintro z wa ⟨rfl, hb⟩
            have Ka : Aside (Kept w1 wa (k + 1) t.c b1 b2 k1 k2 ∧ AtO wa ao t.outs) := KL.out _ _ K9.out hb
            clear hb K9
            go_wp2_with fail
            refine (NC.out _).mono ?_
            rintro z wb ⟨rfl, hw⟩
            replace hw := hw.symm; subst hw
            have q1 : ¬ Cn.sizeS (Vt.forB t.c.readies t.body) < Cn.enough (Cn.sizeS ms) := by have := LE.out; omega
            clear LE
            go_wp2_with fail
            refine (?_ : ∀ V, (Kept w1 V (k + 1) t.c b1 b2 k1 k2 ∧ AtO V ao t.outs) → Code.wp _ _ _ _ V) _ Ka.out
            intro V hV
            have HV : Aside (Kept w1 V (k + 1) t.c b1 b2 k1 k2 ∧ AtO V ao t.outs) := hV
            clear hV Ka q1
            obtain ⟨N, hN⟩ : ∃ n : Nat, n = t.outs.length := ⟨_, rfl⟩
            rw [← hN]
            have HN : Aside (N = t.outs.length) := hN
            have bN : N ≤ 1 := by have := CT.out.2.2.1; omega
            clear hN
            go_loopw [87] (fun j wr => ∃ m : Nat, m ≤ N ∧ j = .int .i64 (m : Nat) ∧ Aside (Kept w1 wr (k + 1) t.c b1 b2 k1 k2 ∧ AtO wr ao t.outs)) (fun j _ => N - (intOf j).toNat)
            case atStart => exact ⟨0, Nat.zero_le _, rfl, HV.out⟩
            case round =>
              obtain ⟨m, hm, rfl, hK⟩ := hrel
              clear HV
              by_cases hm1 : m < N
              · have s1 : (m : Int) < (N : Int) := by omega
                have s2 : (0 : Int) ≤ (m : Int) := by omega
                have s3 : (m : Int) < 61 := by omega
                obtain ⟨bb, hbb⟩ : ∃ bb, t.outs[m]? = some bb := ⟨_, List.getElem?_eq_getElem (HN.out ▸ hm1)⟩
                obtain ⟨kk, yy⟩ := bb
                obtain ⟨bo, oo, rfl, hoc⟩ : ∃ b off, ao = some ⟨b, off, none⟩ ∧ ∀ (j : Nat) (k : Nat) (y : ByteArray), t.outs[j]? = some (k, y) → wr.cell? ⟨b, off + j * 2, none⟩ = some (.int .i64 (k : Int)) ∧ wr.cell? ⟨b, off + j * 2 + 1, none⟩ = some (.string y) := by
                  rcases hK.out.2 with h | h
                  · rw [h] at hbb; cases hbb
                  · exact h
                have o0 := (hoc m kk yy hbb).1
                have o1 := (hoc m kk yy hbb).2
                have ol := World.block_lt_of_cell? _ _ o0
                dsimp only at ol
                have KW : Aside (∀ o, Kept w1 (wr.alloc o) (k + 1) t.c b1 b2 k1 k2 ∧ AtO (wr.alloc o) (some ⟨bo, oo, none⟩) t.outs) := fun o => KL.out _ _ hK.out ((Below.refl _ wr).alloc (Nat.le_refl _) o)
                obtain ⟨u0, u1, u2, u3, u4⟩ := hK.out.1.at_.1.cells
                have ul := hK.out.1.at_.1.lt
                have HO := CT.out.2.2.2 kk yy (List.mem_of_getElem? hbb)
                clear hoc hbb hK
                rcases HO with rfl | ⟨rfl, HO⟩
                · clear F1 F1b F2 SZ EC RC NC
                  go_wp2
                  go_roundw
                  case rel => exact ⟨m + 1, by omega, by go_num, KW.out _⟩
                  case measure => simp [intOf]; omega
                · have HO' : Aside (Cn.echoes (Cn.sizeS ms) ≤ Cn.sizeS (Vt.forB t.c.echoes yy) ∨ Cn.readies (Cn.sizeS ms) ≤ Cn.sizeS (Vt.forB t.c.readies yy)) := HO
                  clear HO
                  go_wp2_with fail
                  refine (F1b.out _ yy (KW.out _)).mono ?_
                  rintro z wa ⟨rfl, hA, hbl⟩
                  have Ka : Aside (Kept w1 wa (k + 1) t.c b1 b2 k1 k2 ∧ AtO wa (some ⟨bo, oo, none⟩) t.outs) := hA.out
                  clear u0 u1 u2 u3 u4 ul o0 o1 ol
                  have X2 : Aside (wa.cell? ⟨wr.heap.size, 1, none⟩ = some (.string yy)) := cell_later hbl.out (World.cell?_alloc_at _ _ _ _ rfl)
                  clear hA KW hbl
                  go_wp2_with fail
                  refine (SZ.out _ _ (SB.out.1 _)).mono ?_
                  rintro z wb ⟨rfl, hb⟩
                  have Kb : Aside (Kept w1 wb (k + 1) t.c b1 b2 k1 k2 ∧ AtO wb (some ⟨bo, oo, none⟩) t.outs) := KL.out _ _ Ka.out hb
                  have X3 : Aside (wb.cell? ⟨wr.heap.size, 1, none⟩ = some (.string yy)) := cell_later hb X2.out
                  clear hb Ka X2
                  go_wp2_with fail
                  refine (EC.out _).mono ?_
                  rintro z wc ⟨rfl, hw⟩
                  replace hw := hw.symm; subst hw
                  obtain ⟨u0, u1, u2, u3, u4⟩ := Kb.out.1.at_.1.cells
                  have x3 := X3.out
                  by_cases hq : Cn.sizeS (Vt.forB t.c.echoes yy) < Cn.echoes (Cn.sizeS ms)
                  · have LE : Aside (Cn.readies (Cn.sizeS ms) ≤ Cn.sizeS (Vt.forB t.c.readies yy)) := by
                      rcases HO'.out with h | h
                      · omega
                      · exact h
                    clear HO'
                    go_wp2_with fail
                    refine (F2.out _ yy Kb.out).mono ?_
                    rintro z wd ⟨rfl, hA⟩
                    have Kd : Aside (Kept w1 wd (k + 1) t.c b1 b2 k1 k2 ∧ AtO wd (some ⟨bo, oo, none⟩) t.outs) := hA.out
                    clear hA Kb u0 u1 u2 u3 u4 x3 X3
                    go_wp2_with fail
                    refine (SZ.out _ _ (SB.out.2 _)).mono ?_
                    rintro z we ⟨rfl, hb⟩
                    have Ke : Aside (Kept w1 we (k + 1) t.c b1 b2 k1 k2 ∧ AtO we (some ⟨bo, oo, none⟩) t.outs) := KL.out _ _ Kd.out hb
                    clear hb Kd
                    go_wp2_with fail
                    refine (RC.out _).mono ?_
                    rintro z wf ⟨rfl, hw⟩
                    replace hw := hw.symm; subst hw
                    have q1 : ¬ Cn.sizeS (Vt.forB t.c.readies yy) < Cn.readies (Cn.sizeS ms) := by have := LE.out; omega
                    clear LE F1 F1b F2 SZ EC RC NC
                    go_wp2
                    go_roundw
                    case rel => exact ⟨m + 1, by omega, by go_num, Ke.out⟩
                    case measure => simp [intOf]; omega
                  · clear HO' F1 F1b F2 SZ EC RC NC
                    go_wp2
                    go_roundw
                    case rel => exact ⟨m + 1, by omega, by go_num, Kb.out⟩
                    case measure => simp [intOf]; omega
              · obtain rfl : m = N := by omega
                clear F1 F1b F2 SZ EC RC NC
                have CF : Aside (∀ (j : Nat) (x : ByteArray) (s : Nat), (t.c.echoes ++ t.c.readies)[j]? = some (x, s) → s < 65536 ∧ s ≠ 0 ∧ s &&& (65535 - ms) = 0) := fun j x s hj => by
                  rcases List.mem_append.1 (List.mem_of_getElem? hj) with h | h
                  · exact ⟨hK.out.1.small.1 _ h, (CT.out.1.se _ _ h).1, andNot_sub L0.out.2 (CT.out.1.se _ _ h).2⟩
                  · exact ⟨hK.out.1.small.2 _ h, (CT.out.1.sr _ _ h).1, andNot_sub L0.out.2 (CT.out.1.sr _ _ h).2⟩
                have KD : Aside (Kept w1 wr.drew (k + 1) t.c b1 b2 k1 k2) := hK.out.1.later ((Below.refl _ wr).drew)
                have KN : Aside (Kept w1 wr (k + 1) t.c b1 b2 k1 k2 ∧ Vt.Cnt ms t.c) := ⟨hK.out.1, CT.out.1⟩
                obtain ⟨u0, u1, u2, u3, u4⟩ := hK.out.1.at_.1.cells
                obtain ⟨M, hM⟩ : ∃ M : Nat, t.c.echoes.length + t.c.readies.length = M := ⟨_, rfl⟩
                have HM0 : Aside (t.c.echoes.length + t.c.readies.length = M) := hM
                have bM : M ≤ 122 := by omega
                clear hK CT hM
                go_wp2_with fail
                go_region_held3 (fun w' => w'.cell? ⟨w1.heap.size, 3, none⟩ = some (.slice b1 t.c.echoes.length k1) ∧ w'.cell? ⟨w1.heap.size, 4, none⟩ = some (.slice b2 t.c.readies.length k2))
                  (first
                    | go_keep
                    | (go_split_ands; refine ⟨?_, ?_⟩ <;> assumption))
                  (first
                    | (refine step_append_bal (by rfl) _ _ (by rfl) (B := wr.heap.size) (n := 0) (v := .slice none 0 0) (xs := []) (ad := b1) (c := k1) (l := t.c.echoes) i0 I.out (by rfl) (by rfl) (World.ownsRow_nil _ _ _ _) KD.out.at_.2.1 (by omega) (by exact Nat.le_refl _) t.c.echoes.length (by omega) ?_; intro ga1 gc1 wx hown hgrow; have KX : Aside (Kept w1 wx (k + 1) t.c b1 b2 k1 k2 ∧ wx.ownsRow wr.heap.size 77 2 (.slice ga1 t.c.echoes.length gc1) t.c.echoes.length ([] ++ Vt.balC t.c.echoes) ∧ Below wr.heap.size wr wx) := ⟨KD.out.later ((Below.refl _ _).grown hgrow (Nat.le_refl _) (fun j hj => nomatch hj)), hown, (Below.refl _ wr).drew.grown hgrow (Nat.le_refl _) (fun j hj => nomatch hj)⟩; clear hown hgrow u0 u1 u2 u3 u4; obtain ⟨u0, u1, u2, u3, u4⟩ := KX.out.1.at_.1.cells)
                    | (refine step_append_bal (by rfl) _ _ (by rfl) (B := wr.heap.size) (n := t.c.echoes.length) (v := .slice ga1 t.c.echoes.length gc1) (xs := [] ++ Vt.balC t.c.echoes) (ad := b2) (c := k2) (l := t.c.readies) i0 I.out (by rfl) (by rfl) KX.out.2.1 KX.out.1.at_.2.2 (by omega) KX.out.2.2.size M HM0.out ?_; intro ga gc wy hown hgrow; have BY : Aside (Below wr.heap.size wr wy) := KX.out.2.2.grown hgrow KX.out.2.2.size (fun j hj => (KX.out.2.1.lt j hj).1); have KY : Aside (Kept w1 wy (k + 1) t.c b1 b2 k1 k2 ∧ wy.ownsRow wr.heap.size 77 2 (.slice ga M gc) M ([] ++ Vt.balC t.c.echoes ++ Vt.balC t.c.readies)) := ⟨KN.out.1.later BY.out, hown⟩; clear hown hgrow u0 u1 u2 u3 u4; obtain ⟨u0, u1, u2, u3, u4⟩ := KY.out.1.at_.1.cells)
                    | fail)
                have OW := KY.out.2
                rw [List.nil_append, ← Vt.balC_append] at OW
                obtain ⟨ga', gc', eg, hL, hat⟩ := Vt.own_at OW
                obtain rfl := (Value.slice.inj eg).1
                clear eg
                have AT : Aside (Vt.At wy ga (t.c.echoes ++ t.c.readies)) := hat
                have HM : Aside ((t.c.echoes ++ t.c.readies).length = M) := hL
                have pw : wy.cell? ⟨w.heap.size, 0, none⟩ = some (.int .u16 (ms : Int)) := cell_later KY.out.1.below PT.out.1
                have PW : Aside (wy.cell? ⟨w.heap.size, 0, none⟩ = some (.int .u16 (ms : Int))) := pw
                have NX : Aside (Kept w1 wy (k + 1) t.c b1 b2 k1 k2 ∧ Vt.Cnt ms t.c) := ⟨KY.out.1, KN.out.2⟩
                clear OW hat hL pw KY KX KN KD BY u0 u1 u2 u3 u4
                go_wp2_with fail
                go_loopw [124] (fun j wr => ∃ q : Nat, q ≤ M ∧ j = .int .i64 (q : Nat) ∧ Aside (Below wy.heap.size wy wr)) (fun j _ => M - (intOf j).toNat)
                case atStart => exact ⟨0, Nat.zero_le _, rfl, Below.refl _ wy⟩
                case round =>
                  obtain ⟨q, hq, rfl, hB2⟩ := hrel
                  by_cases hq1 : q < M
                  · have s1 : (q : Int) < (M : Int) := by omega
                    have s2 : (0 : Int) ≤ (q : Int) := by omega
                    have s3 : (q : Int) < 122 := by omega
                    obtain ⟨bb, hbb⟩ : ∃ bb, (t.c.echoes ++ t.c.readies)[q]? = some bb := ⟨_, List.getElem?_eq_getElem (by rw [HM.out]; exact hq1)⟩
                    obtain ⟨bx, bs⟩ := bb
                    obtain ⟨gg, of, rfl, o0, o1⟩ := at_cell (AT.out.later hB2.out) hbb
                    obtain ⟨f1, f2, f3⟩ := CF.out q bx bs hbb
                    have g1 := u16_andNot_nat bs ms f1 L0.out.2
                    rw [f3] at g1
                    have g2 : ((bs : Int) == 0) = false := by
                      have : ¬ (bs : Int) = 0 := by omega
                      simpa using this
                    have pp := cell_later hB2.out PW.out
                    have ppl := World.block_lt_of_cell? _ _ pp
                    have ol := World.block_lt_of_cell? _ _ o0
                    dsimp only at ppl ol
                    have B3 : Aside (∀ o, Below wy.heap.size wy (wr.alloc o)) := fun o => hB2.out.alloc hB2.out.size o
                    clear hbb f1 f2 f3
                    go_wp2
                    go_roundw
                    case rel => exact ⟨q + 1, by omega, by go_num, B3.out _⟩
                    case measure => simp [intOf]; omega
                  · obtain rfl : q = M := by omega
                    have RR : Aside (Kept w1 wr (k + 1) t.c b1 b2 k1 k2 ∧ Vt.Cnt ms t.c) := ⟨NX.out.1.later hB2.out, NX.out.2⟩
                    clear hB2 NX AT CF
                    go_wp2
                    go_roundw
                    case rel => exact ⟨k + 1, t.c, b1, b2, k1, k2, by omega, by omega, by go_num, RR.out⟩
                    case measure => simp [intOf]; omega
          · rw [his]
            clear his
            go_wp2_with fail
            refine (?_ : ∀ V, (Kept w1 V (k + 1) t.c b1 b2 k1 k2 ∧ AtO V ao t.outs) → Code.wp _ _ _ _ V) _ K8.out
            intro V hV
            have HV : Aside (Kept w1 V (k + 1) t.c b1 b2 k1 k2 ∧ AtO V ao t.outs) := hV
            clear hV K8 u0 u1 u2 u3 u4
            obtain ⟨N, hN⟩ : ∃ n : Nat, n = t.outs.length := ⟨_, rfl⟩
            rw [← hN]
            have HN : Aside (N = t.outs.length) := hN
            have bN : N ≤ 1 := by have := CT.out.2.2.1; omega
            clear hN
            go_loopw [87] (fun j wr => ∃ m : Nat, m ≤ N ∧ j = .int .i64 (m : Nat) ∧ Aside (Kept w1 wr (k + 1) t.c b1 b2 k1 k2 ∧ AtO wr ao t.outs)) (fun j _ => N - (intOf j).toNat)
            case atStart => exact ⟨0, Nat.zero_le _, rfl, HV.out⟩
            case round =>
              obtain ⟨m, hm, rfl, hK⟩ := hrel
              clear HV
              by_cases hm1 : m < N
              · have s1 : (m : Int) < (N : Int) := by omega
                have s2 : (0 : Int) ≤ (m : Int) := by omega
                have s3 : (m : Int) < 61 := by omega
                obtain ⟨bb, hbb⟩ : ∃ bb, t.outs[m]? = some bb := ⟨_, List.getElem?_eq_getElem (HN.out ▸ hm1)⟩
                obtain ⟨kk, yy⟩ := bb
                obtain ⟨bo, oo, rfl, hoc⟩ : ∃ b off, ao = some ⟨b, off, none⟩ ∧ ∀ (j : Nat) (k : Nat) (y : ByteArray), t.outs[j]? = some (k, y) → wr.cell? ⟨b, off + j * 2, none⟩ = some (.int .i64 (k : Int)) ∧ wr.cell? ⟨b, off + j * 2 + 1, none⟩ = some (.string y) := by
                  rcases hK.out.2 with h | h
                  · rw [h] at hbb; cases hbb
                  · exact h
                have o0 := (hoc m kk yy hbb).1
                have o1 := (hoc m kk yy hbb).2
                have ol := World.block_lt_of_cell? _ _ o0
                dsimp only at ol
                have KW : Aside (∀ o, Kept w1 (wr.alloc o) (k + 1) t.c b1 b2 k1 k2 ∧ AtO (wr.alloc o) (some ⟨bo, oo, none⟩) t.outs) := fun o => KL.out _ _ hK.out ((Below.refl _ wr).alloc (Nat.le_refl _) o)
                obtain ⟨u0, u1, u2, u3, u4⟩ := hK.out.1.at_.1.cells
                have ul := hK.out.1.at_.1.lt
                have HO := CT.out.2.2.2 kk yy (List.mem_of_getElem? hbb)
                clear hoc hbb hK
                rcases HO with rfl | ⟨rfl, HO⟩
                · clear F1 F1b F2 SZ EC RC NC
                  go_wp2
                  go_roundw
                  case rel => exact ⟨m + 1, by omega, by go_num, KW.out _⟩
                  case measure => simp [intOf]; omega
                · have HO' : Aside (Cn.echoes (Cn.sizeS ms) ≤ Cn.sizeS (Vt.forB t.c.echoes yy) ∨ Cn.readies (Cn.sizeS ms) ≤ Cn.sizeS (Vt.forB t.c.readies yy)) := HO
                  clear HO
                  go_wp2_with fail
                  refine (F1b.out _ yy (KW.out _)).mono ?_
                  rintro z wa ⟨rfl, hA, hbl⟩
                  have Ka : Aside (Kept w1 wa (k + 1) t.c b1 b2 k1 k2 ∧ AtO wa (some ⟨bo, oo, none⟩) t.outs) := hA.out
                  clear u0 u1 u2 u3 u4 ul o0 o1 ol
                  have X2 : Aside (wa.cell? ⟨wr.heap.size, 1, none⟩ = some (.string yy)) := cell_later hbl.out (World.cell?_alloc_at _ _ _ _ rfl)
                  clear hA KW hbl
                  go_wp2_with fail
                  refine (SZ.out _ _ (SB.out.1 _)).mono ?_
                  rintro z wb ⟨rfl, hb⟩
                  have Kb : Aside (Kept w1 wb (k + 1) t.c b1 b2 k1 k2 ∧ AtO wb (some ⟨bo, oo, none⟩) t.outs) := KL.out _ _ Ka.out hb
                  have X3 : Aside (wb.cell? ⟨wr.heap.size, 1, none⟩ = some (.string yy)) := cell_later hb X2.out
                  clear hb Ka X2
                  go_wp2_with fail
                  refine (EC.out _).mono ?_
                  rintro z wc ⟨rfl, hw⟩
                  replace hw := hw.symm; subst hw
                  obtain ⟨u0, u1, u2, u3, u4⟩ := Kb.out.1.at_.1.cells
                  have x3 := X3.out
                  by_cases hq : Cn.sizeS (Vt.forB t.c.echoes yy) < Cn.echoes (Cn.sizeS ms)
                  · have LE : Aside (Cn.readies (Cn.sizeS ms) ≤ Cn.sizeS (Vt.forB t.c.readies yy)) := by
                      rcases HO'.out with h | h
                      · omega
                      · exact h
                    clear HO'
                    go_wp2_with fail
                    refine (F2.out _ yy Kb.out).mono ?_
                    rintro z wd ⟨rfl, hA⟩
                    have Kd : Aside (Kept w1 wd (k + 1) t.c b1 b2 k1 k2 ∧ AtO wd (some ⟨bo, oo, none⟩) t.outs) := hA.out
                    clear hA Kb u0 u1 u2 u3 u4 x3 X3
                    go_wp2_with fail
                    refine (SZ.out _ _ (SB.out.2 _)).mono ?_
                    rintro z we ⟨rfl, hb⟩
                    have Ke : Aside (Kept w1 we (k + 1) t.c b1 b2 k1 k2 ∧ AtO we (some ⟨bo, oo, none⟩) t.outs) := KL.out _ _ Kd.out hb
                    clear hb Kd
                    go_wp2_with fail
                    refine (RC.out _).mono ?_
                    rintro z wf ⟨rfl, hw⟩
                    replace hw := hw.symm; subst hw
                    have q1 : ¬ Cn.sizeS (Vt.forB t.c.readies yy) < Cn.readies (Cn.sizeS ms) := by have := LE.out; omega
                    clear LE F1 F1b F2 SZ EC RC NC
                    go_wp2
                    go_roundw
                    case rel => exact ⟨m + 1, by omega, by go_num, Ke.out⟩
                    case measure => simp [intOf]; omega
                  · clear HO' F1 F1b F2 SZ EC RC NC
                    go_wp2
                    go_roundw
                    case rel => exact ⟨m + 1, by omega, by go_num, Kb.out⟩
                    case measure => simp [intOf]; omega
              · obtain rfl : m = N := by omega
                clear F1 F1b F2 SZ EC RC NC
                have CF : Aside (∀ (j : Nat) (x : ByteArray) (s : Nat), (t.c.echoes ++ t.c.readies)[j]? = some (x, s) → s < 65536 ∧ s ≠ 0 ∧ s &&& (65535 - ms) = 0) := fun j x s hj => by
                  rcases List.mem_append.1 (List.mem_of_getElem? hj) with h | h
                  · exact ⟨hK.out.1.small.1 _ h, (CT.out.1.se _ _ h).1, andNot_sub L0.out.2 (CT.out.1.se _ _ h).2⟩
                  · exact ⟨hK.out.1.small.2 _ h, (CT.out.1.sr _ _ h).1, andNot_sub L0.out.2 (CT.out.1.sr _ _ h).2⟩
                have KD : Aside (Kept w1 wr.drew (k + 1) t.c b1 b2 k1 k2) := hK.out.1.later ((Below.refl _ wr).drew)
                have KN : Aside (Kept w1 wr (k + 1) t.c b1 b2 k1 k2 ∧ Vt.Cnt ms t.c) := ⟨hK.out.1, CT.out.1⟩
                obtain ⟨u0, u1, u2, u3, u4⟩ := hK.out.1.at_.1.cells
                obtain ⟨M, hM⟩ : ∃ M : Nat, t.c.echoes.length + t.c.readies.length = M := ⟨_, rfl⟩
                have HM0 : Aside (t.c.echoes.length + t.c.readies.length = M) := hM
                have bM : M ≤ 122 := by omega
                clear hK CT hM
                go_wp2_with fail
                go_region_held3 (fun w' => w'.cell? ⟨w1.heap.size, 3, none⟩ = some (.slice b1 t.c.echoes.length k1) ∧ w'.cell? ⟨w1.heap.size, 4, none⟩ = some (.slice b2 t.c.readies.length k2))
                  (first
                    | go_keep
                    | (go_split_ands; refine ⟨?_, ?_⟩ <;> assumption))
                  (first
                    | (refine step_append_bal (by rfl) _ _ (by rfl) (B := wr.heap.size) (n := 0) (v := .slice none 0 0) (xs := []) (ad := b1) (c := k1) (l := t.c.echoes) i0 I.out (by rfl) (by rfl) (World.ownsRow_nil _ _ _ _) KD.out.at_.2.1 (by omega) (by exact Nat.le_refl _) t.c.echoes.length (by omega) ?_; intro ga1 gc1 wx hown hgrow; have KX : Aside (Kept w1 wx (k + 1) t.c b1 b2 k1 k2 ∧ wx.ownsRow wr.heap.size 77 2 (.slice ga1 t.c.echoes.length gc1) t.c.echoes.length ([] ++ Vt.balC t.c.echoes) ∧ Below wr.heap.size wr wx) := ⟨KD.out.later ((Below.refl _ _).grown hgrow (Nat.le_refl _) (fun j hj => nomatch hj)), hown, (Below.refl _ wr).drew.grown hgrow (Nat.le_refl _) (fun j hj => nomatch hj)⟩; clear hown hgrow u0 u1 u2 u3 u4; obtain ⟨u0, u1, u2, u3, u4⟩ := KX.out.1.at_.1.cells)
                    | (refine step_append_bal (by rfl) _ _ (by rfl) (B := wr.heap.size) (n := t.c.echoes.length) (v := .slice ga1 t.c.echoes.length gc1) (xs := [] ++ Vt.balC t.c.echoes) (ad := b2) (c := k2) (l := t.c.readies) i0 I.out (by rfl) (by rfl) KX.out.2.1 KX.out.1.at_.2.2 (by omega) KX.out.2.2.size M HM0.out ?_; intro ga gc wy hown hgrow; have BY : Aside (Below wr.heap.size wr wy) := KX.out.2.2.grown hgrow KX.out.2.2.size (fun j hj => (KX.out.2.1.lt j hj).1); have KY : Aside (Kept w1 wy (k + 1) t.c b1 b2 k1 k2 ∧ wy.ownsRow wr.heap.size 77 2 (.slice ga M gc) M ([] ++ Vt.balC t.c.echoes ++ Vt.balC t.c.readies)) := ⟨KN.out.1.later BY.out, hown⟩; clear hown hgrow u0 u1 u2 u3 u4; obtain ⟨u0, u1, u2, u3, u4⟩ := KY.out.1.at_.1.cells)
                    | fail)
                have OW := KY.out.2
                rw [List.nil_append, ← Vt.balC_append] at OW
                obtain ⟨ga', gc', eg, hL, hat⟩ := Vt.own_at OW
                obtain rfl := (Value.slice.inj eg).1
                clear eg
                have AT : Aside (Vt.At wy ga (t.c.echoes ++ t.c.readies)) := hat
                have HM : Aside ((t.c.echoes ++ t.c.readies).length = M) := hL
                have pw : wy.cell? ⟨w.heap.size, 0, none⟩ = some (.int .u16 (ms : Int)) := cell_later KY.out.1.below PT.out.1
                have PW : Aside (wy.cell? ⟨w.heap.size, 0, none⟩ = some (.int .u16 (ms : Int))) := pw
                have NX : Aside (Kept w1 wy (k + 1) t.c b1 b2 k1 k2 ∧ Vt.Cnt ms t.c) := ⟨KY.out.1, KN.out.2⟩
                clear OW hat hL pw KY KX KN KD BY u0 u1 u2 u3 u4
                go_wp2_with fail
                go_loopw [124] (fun j wr => ∃ q : Nat, q ≤ M ∧ j = .int .i64 (q : Nat) ∧ Aside (Below wy.heap.size wy wr)) (fun j _ => M - (intOf j).toNat)
                case atStart => exact ⟨0, Nat.zero_le _, rfl, Below.refl _ wy⟩
                case round =>
                  obtain ⟨q, hq, rfl, hB2⟩ := hrel
                  by_cases hq1 : q < M
                  · have s1 : (q : Int) < (M : Int) := by omega
                    have s2 : (0 : Int) ≤ (q : Int) := by omega
                    have s3 : (q : Int) < 122 := by omega
                    obtain ⟨bb, hbb⟩ : ∃ bb, (t.c.echoes ++ t.c.readies)[q]? = some bb := ⟨_, List.getElem?_eq_getElem (by rw [HM.out]; exact hq1)⟩
                    obtain ⟨bx, bs⟩ := bb
                    obtain ⟨gg, of, rfl, o0, o1⟩ := at_cell (AT.out.later hB2.out) hbb
                    obtain ⟨f1, f2, f3⟩ := CF.out q bx bs hbb
                    have g1 := u16_andNot_nat bs ms f1 L0.out.2
                    rw [f3] at g1
                    have g2 : ((bs : Int) == 0) = false := by
                      have : ¬ (bs : Int) = 0 := by omega
                      simpa using this
                    have pp := cell_later hB2.out PW.out
                    have ppl := World.block_lt_of_cell? _ _ pp
                    have ol := World.block_lt_of_cell? _ _ o0
                    dsimp only at ppl ol
                    have B3 : Aside (∀ o, Below wy.heap.size wy (wr.alloc o)) := fun o => hB2.out.alloc hB2.out.size o
                    clear hbb f1 f2 f3
                    go_wp2
                    go_roundw
                    case rel => exact ⟨q + 1, by omega, by go_num, B3.out _⟩
                    case measure => simp [intOf]; omega
                  · obtain rfl : q = M := by omega
                    have RR : Aside (Kept w1 wr (k + 1) t.c b1 b2 k1 k2 ∧ Vt.Cnt ms t.c) := ⟨NX.out.1.later hB2.out, NX.out.2⟩
                    clear hB2 NX AT CF
                    go_wp2
                    go_roundw
                    case rel => exact ⟨k + 1, t.c, b1, b2, k1, k2, by omega, by omega, by go_num, RR.out⟩
                    case measure => simp [intOf]; omega
      · have t2 : ¬ (k : Int) < 60 := by omega
        have B9 : Aside (Below w.heap.size w wr) := below_step B0.out hC.out.1.below
        go_wp2
        go_ret
        exact ⟨rfl, B9.out⟩
    · have t1 : ¬ (k : Int) < (l.length : Int) := by omega
      have B9 : Aside (Below w.heap.size w wr) := below_step B0.out hC.out.1.below
      go_wp2
      go_ret
      exact ⟨rfl, B9.out⟩
end Go.Proofs.Ytlekbbpancaenaa
