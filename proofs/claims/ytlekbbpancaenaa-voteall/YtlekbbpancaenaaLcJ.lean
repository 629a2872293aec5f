/- The walk of VoteAll. -/
import Derived.Test.YtlekbbpancaenaaLcI
namespace Go.Proofs.Ytlekbbpancaenaa
open Go.RowKit Go.Shelf
set_option linter.unusedVariables false

/-- What is left when nothing is under way. -/
structure Fin_ (w0 w : World) (n f frm : Nat) (s : Vt.Tk) (cb sb db : Nat) (vw : Value) (a1 a2 : Nat → Option Addr) (k1 k2 : Nat → Nat) (sent : ByteArray) : Prop where
  t : Talk w0 w n f frm s cb sb db vw a1 a2 k1 k2
  a : (∀ i j, f ≤ i → i < n → f ≤ j → j < n → s.done i = true → s.done j = true → s.told i = s.told j) ∧ (f ≤ frm → ∀ i, f ≤ i → i < n → s.done i = true → s.told i = sent)
  d : (∀ i, f ≤ i → i < n → s.done i = true) ∨ ((∀ i, f ≤ i → i < n → s.done i = false) ∧ frm < f)
theorem fin_of {w0 w : World} {n f frm cb sb db : Nat} {s : Vt.Tk} {vw : Value} {a1 a2 : Nat → Option Addr} {k1 k2 : Nat → Nat} {sent : ByteArray} {ech rdy : Nat → Option ByteArray} (h1 : 1 ≤ n) (h7 : n ≤ 7) (hf : f = Cn.faulty n) (hT : Talk w0 w n f frm s cb sb db vw a1 a2 k1 k2) (hA : Vt.Al n f frm sent ech rdy s) (hw : s.way.length = 0) : Fin_ w0 w n f frm s cb sb db vw a1 a2 k1 k2 sent := by
  have hE := Vt.tot_end h1 h7 hf hA.i hA.t (List.eq_nil_of_length_eq_zero hw)
  refine ⟨hT, Vt.inv_agree h1 h7 hf hA.i, ?_⟩
  by_cases hD : (∃ i, f ≤ i ∧ i < n ∧ s.done i = true) ∨ f ≤ frm
  · exact .inl (hE hD)
  · refine .inr ⟨fun i a b => ?_, ?_⟩
    · cases h : s.done i with
      | false => rfl
      | true => exact absurd (.inl ⟨i, a, b, h⟩) hD
    · rcases Nat.lt_or_ge frm f with h | h
      · exact h
      · exact absurd (.inr h) hD

theorem fin_nums {q c f frm : Nat} (hq : c + f = q) (nf : f < q) (n7 : q ≤ 7) (nr : frm < q) : c = q - f ∧ 1 ≤ c ∧ frm < 300 := by omega
set_option maxHeartbeats 16000000 in
set_option maxRecDepth 100000 in
theorem all_walk (d0 d1 : Nat) (body : ByteArray) (a : Option Addr) (cap : Nat) (l : List Ply) (w : World) (h0 : d0 < 256) (h1 : d1 < 256) (hl : AtP w a l) (hb : ∀ p ∈ l, p.at_ < 65536 ∧ p.to < 256 ∧ p.who < 256) :
    Calls Try.prog 6 #[.agg #[.int .u8 (d0 : Nat), .int .u8 (d1 : Nat)], .string body, .slice a l.length cap] w fun e w' => e = .returned (.bool true) ∧ Below w.heap.size w w' := by
  have AL : Aside (∀ W, _) := fun W => alive_any W
  have B0 : Aside (∀ o, Below w.heap.size w (w.alloc o)) := fun o => (Below.refl _ w).alloc (Nat.le_refl _) o
  by_cases hx : (100 : Int) < (body.size : Int)
  · clear hl hb
    go_enter Try.func6, Try.ntmps6
    go_wp2_with fail
    refine (AL.out _).mono ?_
    rintro z w1 ⟨rfl, hb1⟩
    have B1 : Aside (Below w.heap.size w w1) := below_step (B0.out _) hb1
    clear hb1 AL B0
    go_wp2
    go_ret
    exact ⟨rfl, B1.out⟩
  by_cases hy : (200 : Int) < (l.length : Int)
  · clear hl hb
    go_enter Try.func6, Try.ntmps6
    go_wp2_with fail
    refine (AL.out _).mono ?_
    rintro z w1 ⟨rfl, hb1⟩
    have B1 : Aside (Below w.heap.size w w1) := below_step (B0.out _) hb1
    clear hb1 AL B0
    go_wp2
    go_ret
    exact ⟨rfl, B1.out⟩
  have hsz : body.size ≤ 100 := Nat.le_of_not_lt fun h => hx (Int.ofNat_lt.2 h)
  obtain ⟨n, hn⟩ : ∃ n, n = d0 % 7 + 1 := ⟨_, rfl⟩
  obtain ⟨f, hf⟩ : ∃ f, f = Cn.faulty n := ⟨_, rfl⟩
  obtain ⟨frm, hfr⟩ : ∃ frm, frm = d1 % n := ⟨_, rfl⟩
  obtain ⟨g1, g7, gfn, gf⟩ := begun_nums hn hf hfr
  have gfl : f < n := (Vt.num7 g1 g7 hf).1
  obtain ⟨L, hL⟩ : ∃ L : Nat, L = l.length := ⟨_, rfl⟩
  have BG : Aside (∀ W, _) := fun (W : World) => begun_goA (w := W) (body := body) h0 h1 hn hf hfr
  have SG : Aside (∀ w0 cb sb db m (p : Ply) W, p.body.size ≤ 100 → p ∈ l → GoA w0 n f frm body cb sb db m W → _) := fun (w0 : World) (cb sb db m : Nat) (p : Ply) (W : World) (hpb : p.body.size ≤ 100) (hp : p ∈ l) (hG : GoA w0 n f frm body cb sb db m W) => step_goA g1 g7 hf gf hsz p hpb (hb p hp).1 (hb p hp).2.1 (hb p hp).2.2 hG
  have NN : Aside (1 ≤ n ∧ n ≤ 7 ∧ f = Cn.faulty n ∧ frm < n ∧ f < n ∧ body.size ≤ 100) := ⟨g1, g7, hf, gf, gfl, hsz⟩
  have L0 : Aside (AtP w a l) := hl
  have HL : Aside (L = l.length) := hL
  rw [← hL] at hy ⊢
  have hL4 : L ≤ 200 := Nat.le_of_not_lt fun h => hy (Int.ofNat_lt.2 h)
  have bx : (w.alloc (.cells #[.int .u8 (d0 : Int), .int .u8 (d1 : Int)] 53)).cell? ⟨w.heap.size, 0, none⟩ = some (.int .u8 (d0 : Int)) := World.cell?_alloc_at _ _ _ _ rfl
  have by_ : (w.alloc (.cells #[.int .u8 (d0 : Int), .int .u8 (d1 : Int)] 53)).cell? ⟨w.heap.size, 1, none⟩ = some (.int .u8 (d1 : Int)) := World.cell?_alloc_at _ _ _ _ rfl
  have BX : Aside (∀ W, Below (w.alloc (.cells #[.int .u8 (d0 : Int), .int .u8 (d1 : Int)] 53)).heap.size (w.alloc (.cells #[.int .u8 (d0 : Int), .int .u8 (d1 : Int)] 53)) W → W.cell? ⟨w.heap.size, 0, none⟩ = some (.int .u8 (d0 : Int)) ∧ W.cell? ⟨w.heap.size, 1, none⟩ = some (.int .u8 (d1 : Int))) := fun W hb => ⟨cell_later hb bx, cell_later hb by_⟩
  clear hn hf hfr hl hb hL g1 g7 gf gfn gfl h0 h1 bx by_ hsz
  go_enter Try.func6, Try.ntmps6
  go_wp2_with fail
  refine (AL.out _).mono ?_
  rintro z w1 ⟨rfl, hb1⟩
  have B1 : Aside (Below w.heap.size w w1) := below_step (B0.out _) hb1
  obtain ⟨c0, c1⟩ := BX.out w1 hb1
  have cl := World.block_lt_of_cell? _ _ c0
  dsimp only at cl
  clear hb1 AL B0 BX
  go_wp2_with fail
  refine (BG.out w1).mono ?_
  rintro z w2 ⟨rfl, hG0⟩
  have G0 : Aside (∃ m, GoA w1 n f frm body (w1.heap.size + 1) (w1.heap.size + 1 + 1) (w1.heap.size + 1 + 1 + 1) m w2) := hG0
  clear hG0 BG c0 c1 cl
  go_wp2_with fail
  go_loopw [34] (fun j wr => ∃ k, k ≤ L ∧ j = .int .i64 (k : Nat) ∧ Aside (∃ m, GoA w1 n f frm body (w1.heap.size + 1) (w1.heap.size + 1 + 1) (w1.heap.size + 1 + 1 + 1) m wr)) (fun j _ => L - (intOf j).toNat)
  case atStart => exact ⟨0, Nat.zero_le _, rfl, G0.out⟩
  case round =>
    obtain ⟨k, hk, rfl, hG⟩ := hrel
    clear G0
    by_cases hlt : k < L
    · have t1 : (k : Int) < (L : Int) := Int.ofNat_lt.2 hlt
      have t2 : (0 : Int) ≤ (k : Int) := Int.natCast_nonneg _
      have t3 : (k : Int) < 200 := by omega
      obtain ⟨m0, hGm⟩ := hG.out
      obtain ⟨p, hp⟩ : ∃ p, l[k]? = some p := ⟨_, List.getElem?_eq_getElem (HL.out ▸ hlt)⟩
      have MP : Aside (p ∈ l) := List.mem_of_getElem? hp
      obtain ⟨b, off, rfl, hc⟩ : ∃ b off, a = some ⟨b, off, none⟩ ∧ ∀ (j : Nat) (p : Ply), l[j]? = some p → wr.cell? ⟨b, off + j * 6, none⟩ = some (.bool p.lie) ∧ wr.cell? ⟨b, off + j * 6 + 1, none⟩ = some (.int .u16 (p.at_ : Int)) ∧ wr.cell? ⟨b, off + j * 6 + 2, none⟩ = some (.int .u8 (p.to : Int)) ∧ wr.cell? ⟨b, off + j * 6 + 3, none⟩ = some (.int .i64 p.kind) ∧ wr.cell? ⟨b, off + j * 6 + 4, none⟩ = some (.int .u8 (p.who : Int)) ∧ wr.cell? ⟨b, off + j * 6 + 5, none⟩ = some (.string p.body) := by
        rcases L0.out.later (below_step B1.out hGm.below) with hh | hh
        · rw [hh] at hp; cases hp
        · exact hh
      obtain ⟨v0, v1, v2, v3, v4, v5⟩ := hc k p hp
      have vl := World.block_lt_of_cell? _ _ v0
      dsimp only at vl
      have GA : Aside (∀ o, GoA w1 n f frm body (w1.heap.size + 1) (w1.heap.size + 1 + 1) (w1.heap.size + 1 + 1 + 1) m0 (wr.alloc o)) := fun o => hGm.later ((Below.refl _ wr).alloc (Nat.le_refl _) o)
      clear hc hp hG hGm
      by_cases hx2 : (p.body.size : Int) ≤ 100
      · have PB : Aside (p.body.size ≤ 100) := Int.ofNat_le.1 hx2
        go_wp2_with fail
        refine (SG.out w1 _ _ _ m0 p _ PB.out MP.out (GA.out _)).mono ?_
        rintro z w5 ⟨rfl, hG5⟩
        have G5 : Aside (∃ m, GoA w1 n f frm body (w1.heap.size + 1) (w1.heap.size + 1 + 1) (w1.heap.size + 1 + 1 + 1) m w5) := hG5
        clear hG5 GA SG v0 v1 v2 v3 v4 v5 vl
        go_wp2
        go_roundw
        case rel => exact ⟨k + 1, by omega, by go_num, G5.out⟩
        case measure => simp [intOf]; omega
      · have GM : Aside (∀ o, ∃ m, GoA w1 n f frm body (w1.heap.size + 1) (w1.heap.size + 1 + 1) (w1.heap.size + 1 + 1 + 1) m (wr.alloc o)) := fun o => ⟨m0, GA.out o⟩
        clear SG GA
        go_wp2
        go_roundw
        case rel => exact ⟨k + 1, by omega, by go_num, GM.out _⟩
        case measure => simp [intOf]; omega
    · obtain rfl : k = L := by omega
      obtain ⟨m0, hGm⟩ := hG.out
      have GG : Aside (GoA w1 n f frm body (w1.heap.size + 1) (w1.heap.size + 1 + 1) (w1.heap.size + 1 + 1 + 1) m0 wr) := hGm
      clear hG hGm SG
      generalize w1.heap.size + 1 + 1 + 1 = db at *
      generalize w1.heap.size + 1 + 1 = sb at *
      generalize w1.heap.size + 1 = cb at *
      go_wp2_with fail
      go_loopg [] m0 (fun m wv => Aside (GoA w1 n f frm body cb sb db m wv))
      case atStart => exact GG.out
      case round =>
        obtain ⟨wv, hwv⟩ : ∃ wv, wv = wr := ⟨_, rfl⟩
        subst hwv
        obtain ⟨s, vw, a1, a2, k1, k2, ech, rdy, hT, hA, hmu, hm2⟩ := hrel.out
        clear hrel GG
        by_cases hw : s.way.length = 0
        · have FF : Aside (Fin_ w1 _ n f frm s cb sb db vw a1 a2 k1 k2 body) := fin_of NN.out.1 NN.out.2.1 NN.out.2.2.1 hT hA hw
          have p6 := hT.p6
          obtain ⟨va, vc, hv⟩ : ∃ va vc, vw = .slice va 0 vc := by
            have := hT.way
            rw [hw] at this
            rcases this.2 with ⟨e, _⟩ | ⟨g, o, cap, cur, e, _⟩
            · exact ⟨_, _, e⟩
            · exact ⟨_, _, e⟩
          rw [hv] at p6
          have p0 := hT.p0
          have p1 := hT.p1
          have p2 := hT.p2
          have p5 := hT.p5
          have pl := World.block_lt_of_cell? _ _ p6
          dsimp only at pl
          have DC : Aside (∀ i, i < n → wv.cell? ⟨db, i, none⟩ = some (.bool (s.done i))) := fun i hi => hT.d i hi
          have B9 : Aside (∀ q, Below w.heap.size w (wv.drewN q)) := fun q => below_drew (below_step B1.out hT.below) q
          have AG : Aside (∀ q, Calls Try.prog 25 #[.pointer (some ⟨w1.heap.size, 0, none⟩), .string body] (wv.drewN q) fun e w' => e = .returned (.bool true) ∧ ∃ m, w' = (wv.drewN q).drewN m) := fun q => agree_any w1 n f frm s cb sb db vw a1 a2 k1 k2 body (wv.drewN q) NN.out.2.1 (Nat.le_of_lt NN.out.2.2.2.2.1) NN.out.2.2.2.1 FF.out.a (hT.later (below_drew (Below.refl _ wv) q))
          have DD := FF.out.d
          have n1 : 1 ≤ n := NN.out.1
          have n7 : n ≤ 7 := NN.out.2.1
          have nf : f < n := NN.out.2.2.2.2.1
          have nr : frm < n := NN.out.2.2.2.1
          clear hT hA hmu hm2 hw hv FF
          rcases DD with hall | ⟨hnone, hff⟩
          · have HA : Aside (∀ i, f ≤ i → i < n → s.done i = true) := hall
            clear hall
            go_wp2_with fail
            go_loopw [11, 12] (fun cn i wx => ∃ q c, c + f = q ∧ q ≤ n ∧ cn = .int .i64 (c : Nat) ∧ i = .int .i64 (q : Nat) ∧ wx = wv) (fun _ i _ => n - (intOf i).toNat)
            case atStart => exact ⟨f, 0, Nat.zero_add _, Nat.le_of_lt nf, rfl, rfl, rfl⟩
            case round =>
              obtain ⟨q, c, hq, hqn, rfl, rfl, hw⟩ := hrel
              replace hw := hw.symm; subst hw
              by_cases hlt : q < n
              · have t1 : (q : Int) < (n : Int) := by omega
                have t2 : (0 : Int) ≤ (q : Int) := by omega
                have t3 : (q : Int) < 8 := by omega
                have t4 : (c : Int) < 8 := by omega
                have t5 : (0 : Int) ≤ (c : Int) := by omega
                have dq := DC.out q hlt
                rw [HA.out q (by omega) hlt] at dq
                clear AG B9
                go_wp2
                go_roundw
                case rel => exact ⟨q + 1, c + 1, by omega, by omega, by go_num, by go_num, by first | rfl | trivial⟩
                case measure => simp [intOf]; omega
              · obtain rfl : q = n := by omega
                obtain ⟨xc, xd, xe⟩ := fin_nums hq nf n7 nr
                have x1 : wrap64 ((q : Int) - (f : Int)) = (c : Int) := w64_sub n7 nf xc
                have x2 : IntKind.i64.wrap ((q : Int) - (f : Int)) = (c : Int) := (wrap_eq _).trans x1
                have x3 := nat_ne0 (n := c) xd
                have x4 : ¬ c = 0 := Nat.ne_of_gt xd
                have x5 : wrap64 (frm : Int) = (frm : Int) := w64_nat xe
                have x6 : IntKind.i64.wrap (frm : Int) = (frm : Int) := (wrap_eq _).trans x5
                clear DC HA xc xd xe
                by_cases hfr : frm < f
                · have y1 : (frm : Int) < (f : Int) := Int.ofNat_lt.2 hfr
                  go_wp2_with fail
                  go_quiet ((go_at_call 25; exact Calls.quiet_of (AG.out _)))
                  go_wp2
                  go_ret
                  exact ⟨rfl, B9.out _⟩
                · have y1 : ¬ (frm : Int) < (f : Int) := fun e => hfr (Int.ofNat_lt.1 e)
                  go_wp2_with fail
                  go_quiet ((go_at_call 25; exact Calls.quiet_of (AG.out _)))
                  go_wp2
                  go_ret
                  exact ⟨rfl, B9.out _⟩
          · have HA : Aside (∀ i, f ≤ i → i < n → s.done i = false) := hnone
            clear hnone
            go_wp2_with fail
            go_loopw [11, 12] (fun cn i wx => ∃ q, f ≤ q ∧ q ≤ n ∧ cn = .int .i64 0 ∧ i = .int .i64 (q : Nat) ∧ wx = wv) (fun _ i _ => n - (intOf i).toNat)
            case atStart => exact ⟨f, Nat.le_refl _, Nat.le_of_lt nf, rfl, rfl, rfl⟩
            case round =>
              obtain ⟨q, hq, hqn, rfl, rfl, hw⟩ := hrel
              replace hw := hw.symm; subst hw
              by_cases hlt : q < n
              · have t1 : (q : Int) < (n : Int) := by omega
                have t2 : (0 : Int) ≤ (q : Int) := by omega
                have t3 : (q : Int) < 8 := by omega
                have dq := DC.out q hlt
                rw [HA.out q hq hlt] at dq
                clear AG B9
                go_wp2
                go_roundw
                case rel => exact ⟨q + 1, by omega, by omega, rfl, by go_num, by first | rfl | trivial⟩
                case measure => simp [intOf]; omega
              · obtain rfl : q = n := by omega
                have y1 : (frm : Int) < (f : Int) := Int.ofNat_lt.2 hff
                have xe : frm < 300 := Nat.lt_trans nr (Nat.lt_of_le_of_lt n7 (by decide))
                have x5 : wrap64 (frm : Int) = (frm : Int) := w64_nat xe
                have x6 : IntKind.i64.wrap (frm : Int) = (frm : Int) := (wrap_eq _).trans x5
                clear xe
                clear DC HA
                go_wp2_with fail
                go_quiet ((go_at_call 25; exact Calls.quiet_of (AG.out _)))
                go_wp2
                go_ret
                exact ⟨rfl, B9.out _⟩
        · obtain ⟨g, o, cp, rfl, hcp, hcell⟩ := hT.way.form (Nat.pos_of_ne_zero hw)
          obtain ⟨Lw, hLw⟩ : ∃ Lw, Lw = s.way.length := ⟨_, rfl⟩
          obtain ⟨u, hu⟩ : ∃ u, s.way[0]? = some u := ⟨_, List.getElem?_eq_getElem (Nat.pos_of_ne_zero hw)⟩
          obtain ⟨hun, hd, ech', rdy', hA', hmu'⟩ := Vt.al_way (i := 0) NN.out.1 NN.out.2.1 NN.out.2.2.1 NN.out.2.2.2.1 NN.out.2.2.2.2.2 hA hu
          obtain ⟨o', s1, s2, hrow⟩ := tail_row hT.way rfl (Nat.pos_of_ne_zero hw)
          obtain ⟨to, who, ukind, ubody⟩ := u
          obtain ⟨c0, c1, c2, c3⟩ := wayC_get hu
          have g0 : wv.cell? ⟨g, o, none⟩ = some (.int .u8 (to : Int)) := by have := hcell _ _ c0; simpa using this
          have g1 : wv.cell? ⟨g, o + 1, none⟩ = some (.int .u8 (who : Int)) := by have := hcell _ _ c1; simpa using this
          have g2 : wv.cell? ⟨g, o + 2, none⟩ = some (.int .i64 ukind) := by have := hcell _ _ c2; simpa using this
          have g3 : wv.cell? ⟨g, o + 3, none⟩ = some (.string ubody) := by have := hcell _ _ c3; simpa using this
          have hle : (s.way.eraseIdx 0).length = s.way.length - 1 := List.length_eraseIdx_of_lt (Nat.pos_of_ne_zero hw)
          have TC := hT.cast (l := s.way.eraseIdx 0) (v' := .slice (some ⟨g, o', none⟩) (s.way.length - 1) (cp - 1)) (Below.refl _ wv) (by rw [hle]; exact hrow) (World.grownBy.refl _ _) (.inl rfl)
          have hwl := Vt.mu_way (n := n) (f := f) (s := s) (by omega)
          have CO : Aside (∀ W, Talk w1 W n f frm { s with way := s.way.eraseIdx 0 } cb sb db (.slice (some ⟨g, o', none⟩) (s.way.length - 1) (cp - 1)) a1 a2 k1 k2 → Calls Try.prog 26 #[.pointer (some ⟨w1.heap.size, 0, none⟩), .agg #[.int .u8 (to : Nat), .int .u8 (who : Nat), .int .i64 ukind, .string ubody]] W (ComePost w1 W n f frm (Vt.come n f frm { s with way := s.way.eraseIdx 0 } ⟨to, who, ukind, ubody⟩) cb sb db (.slice (some ⟨g, o', none⟩) (s.way.length - 1) (cp - 1)))) := fun W hT' => come_any w1 n f frm { s with way := s.way.eraseIdx 0 } cb sb db _ a1 a2 k1 k2 to who ukind ubody W NN.out.1 NN.out.2.1 (Nat.le_of_lt NN.out.2.2.2.2.1) hun.1 (by show (s.way.eraseIdx 0).length ≤ 50000; omega) (Vt.al_len hA _) hd hT'
          have NX : Aside (∀ w9, (∃ vw a1 a2 k1 k2, Talk w1 w9 n f frm (Vt.come n f frm { s with way := s.way.eraseIdx 0 } ⟨to, who, ukind, ubody⟩) cb sb db vw a1 a2 k1 k2) → GoA w1 n f frm body cb sb db (Vt.mu n f (Vt.come n f frm { s with way := s.way.eraseIdx 0 } ⟨to, who, ukind, ubody⟩)) w9) := fun w9 ⟨x0, x1, x2, y1, y2, hx⟩ => ⟨_, x0, x1, x2, y1, y2, ech', rdy', hx, hA', rfl, by omega⟩
          have ME : Aside (Vt.mu n f (Vt.come n f frm { s with way := s.way.eraseIdx 0 } ⟨to, who, ukind, ubody⟩) < gk) := by show _ < _; omega
          have p6 := hT.p6
          have pz := hT.pz
          have pl := World.block_lt_of_cell? _ _ p6
          have gl := World.block_lt_of_cell? _ _ g0
          dsimp only at pl gl
          have TD : Aside (∀ ob, Talk w1 ((wv.setCell ⟨w1.heap.size, 6, none⟩ (.slice (some ⟨g, o', none⟩) (s.way.length - 1) (cp - 1))).alloc ob) n f frm { s with way := s.way.eraseIdx 0 } cb sb db (.slice (some ⟨g, o', none⟩) (s.way.length - 1) (cp - 1)) a1 a2 k1 k2) := fun ob => px_new TC ob
          have gw : g ≠ w1.heap.size := by have := (hT.way.lt g rfl).1; have := hT.ord; omega
          have gw2 := gw.symm
          have lp : (0 : Int) < (s.way.length : Int) := by omega
          clear hT hA hd hA' hmu hmu' hm2 hrow hcell hcp hu c0 c1 c2 c3 TC hle hun hwl hLw hw
          generalize s.way.length - 1 = N at *
          generalize cp - 1 = cq at *
          generalize s.way.length = Lw at *
          generalize Vt.mu n f (Vt.come n f frm { s with way := s.way.eraseIdx 0 } ⟨to, who, ukind, ubody⟩) = m' at NX ME
          go_wp2_with fail
          refine (CO.out _ (TD.out _)).mono ?_
          rintro z w9 ⟨rfl, hT9, -⟩
          have G9 : Aside (GoA w1 n f frm body cb sb db m' w9) := NX.out w9 hT9
          clear hT9 NX CO TD g0 g1 g2 g3 p6 pz pl gl s1 s2
          go_wp2
          go_roundg m'
          case rel => exact G9.out
          case measure => exact ME.out
end Go.Proofs.Ytlekbbpancaenaa
