/- The walk of VoteCasts: of one broadcast a member casts one echo and one ready at most, and delivers once at most. -/
import Derived.Test.YtlekbbpancaenaaVtO
namespace Go.Proofs.Ytlekbbpancaenaa
open Go.RowKit Go.Shelf

set_option maxHeartbeats 16000000 in
set_option maxRecDepth 100000 in
theorem casts_walk (ms frm : Nat) (a : Option Addr) (cap : Nat) (l : List (Int × Nat × ByteArray)) (w : World) (hms : ms < 65536) (hl : AtV w a l) :
    Calls Try.prog 8 #[.agg #[.int .u16 (ms : Nat), .int .u8 (frm : Nat)], .slice a l.length cap] w fun e w' => e = .returned (.bool true) ∧ Below w.heap.size w w' := by
  have AL : Aside (∀ W, _) := fun W => alive_any W
  have L0 : Aside (AtV w a l ∧ ms < 65536) := ⟨hl, hms⟩
  clear hl hms
  go_enter Try.func8, Try.ntmps8
  go_wp2_with fail
  refine (AL.out _).mono ?_
  rintro z w1 ⟨rfl, hb1⟩
  have B0 : Aside (Below w.heap.size w w1) := below_step ((Below.refl _ w).alloc (Nat.le_refl _) _) hb1
  have pt0 : w1.cell? ⟨w.heap.size, 0, none⟩ = some (.int .u16 (ms : Int)) := cell_later hb1 (World.cell?_alloc_at _ _ _ _ rfl)
  have pt1 : w1.cell? ⟨w.heap.size, 1, none⟩ = some (.int .u8 (frm : Int)) := cell_later hb1 (World.cell?_alloc_at _ _ _ _ rfl)
  have PT : Aside (w1.cell? ⟨w.heap.size, 0, none⟩ = some (.int .u16 (ms : Int)) ∧ w1.cell? ⟨w.heap.size, 1, none⟩ = some (.int .u8 (frm : Int)) ∧ AtV w1 a l) := ⟨pt0, pt1, L0.out.1.later B0.out⟩
  clear pt0 pt1 hb1 AL
  go_wp2_with fail
  go_loopw [6, 7, 8, 9] (fun en rn tn i wr => ∃ k c a1 a2 c1 c2, k ≤ l.length ∧ k ≤ 60 ∧ i = .int .i64 (k : Nat) ∧ en = .int .i64 (b2n c.echoed : Nat) ∧ rn = .int .i64 (b2n c.readied : Nat) ∧ tn = .int .i64 (b2n c.done : Nat) ∧
      Aside (Kept w1 wr k c a1 a2 c1 c2 ∧ (c.done = true → c.readied = true))) (fun _ _ _ i _ => 60 - (intOf i).toNat)
  case atStart => exact ⟨0, Vt.Cs.none, none, none, 0, 0, Nat.zero_le _, by omega, rfl, rfl, rfl, rfl, Kept.start w1, fun h => nomatch h⟩
  case round =>
    obtain ⟨k, c, a1, a2, c1, c2, hk, hk6, rfl, rfl, rfl, rfl, hC⟩ := hrel
    by_cases hlt : k < l.length
    · have t1 : (k : Int) < (l.length : Int) := by omega
      by_cases h60 : k < 60
      · have t2 : (k : Int) < 60 := by omega
        have t3 : (0 : Int) ≤ (k : Int) := by omega
        have hB := hC.out.1.below
        obtain ⟨b, off, kd, id, x, rfl, hg, v0, v1, v2⟩ := (PT.out.2.2.later hB).get hlt
        have p0 := cell_later hB PT.out.1
        have p1 := cell_later hB PT.out.2.1
        have pl := World.block_lt_of_cell? _ _ p0
        have vl := World.block_lt_of_cell? _ _ v0
        have cl := hC.out.1.at_.1.lt
        obtain ⟨y0, y1, y2, y3, y4⟩ := hC.out.1.at_.1.cells
        dsimp only at pl vl
        clear hB hg
        by_cases hx : (1100 : Int) < (x.size : Int)
        · have RL : Aside (∀ o, Kept w1 (wr.alloc o) (k + 1) c a1 a2 c1 c2 ∧ (c.done = true → c.readied = true)) := fun o => ⟨(hC.out.1.alloc o).more (Nat.le_succ _), hC.out.2⟩
          go_wp2
          go_roundw
          case rel => exact ⟨k + 1, c, a1, a2, c1, c2, by omega, by omega, by go_num, rfl, rfl, rfl, RL.out _⟩
          case measure => simp [intOf]; omega
        · have T1 : Aside (∀ o, _) := fun o => take_kept (ms := ms) (frm := frm) (kind := kd) (id := id) (x := x) hC.out.1 (by omega) L0.out.2 o
          go_wp2_with fail
          refine (T1.out _).mono ?_
          rintro z w4 ⟨t, b1, k1, b2, k2, ao, co, ht, rfl, hA⟩
          have TC := Vt.take_casts c ms frm kd id x hC.out.2 t ht.out
          have DR : Aside (t.c.done = true → t.c.readied = true) := TC.2.2
          obtain ⟨p0, p1, p2, p3, p4⟩ := hA.out.1.cells
          have pf := hA.out.1.frozen
          have pl4 := hA.out.1.lt
          have NX : Aside (∀ o', Kept w1 _ (k + 1) t.c b1 b2 k1 k2 ∧ _) := hA.out.2
          have q1 := b2n_mono TC.2.2
          have q2 := b2n_le t.c.echoed
          have q3 := b2n_le t.c.readied
          have q0 := b2n_le t.c.done
          have G1 := b2n_eq t.c.echoed
          have G2 := b2n_eq t.c.readied
          have G3 := b2n_eq t.c.done
          have F1 : ¬ (b2n t.c.readied : Int) < (b2n t.c.done : Int) := by omega
          have F2 : ¬ (1 : Int) < (b2n t.c.readied : Int) := by omega
          have F3 : ¬ (1 : Int) < (b2n t.c.echoed : Int) := by omega
          have OL : Aside ((t.outs = [] ∧ b2n c.echoed = b2n t.c.echoed ∧ b2n c.readied = b2n t.c.readied) ∨ (t.outs = [(2, x)] ∧ b2n c.echoed = 0 ∧ b2n t.c.echoed = 1 ∧ b2n c.readied = b2n t.c.readied) ∨ (t.outs = [(3, x)] ∧ b2n c.readied = 0 ∧ b2n t.c.readied = 1 ∧ b2n c.echoed = b2n t.c.echoed)) := by
            rcases TC.1 with ⟨h0, hE, hR⟩ | ⟨h0, hE0, hE, hR⟩ | ⟨h0, hR0, hR, hE⟩
            · exact .inl ⟨h0, by rw [hE], by rw [hR]⟩
            · exact .inr (.inl ⟨h0, by rw [hE0]; rfl, by rw [hE]; rfl, by rw [hR]⟩)
            · exact .inr (.inr ⟨h0, by rw [hR0]; rfl, by rw [hR]; rfl, by rw [hE]⟩)
          have IL : Aside ((t.is = false ∧ b2n c.done = b2n t.c.done) ∨ (t.is = true ∧ b2n c.done + 1 = b2n t.c.done)) := by
            rcases TC.2.1 with ⟨h0, hD⟩ | ⟨h0, hD0, hD⟩
            · exact .inl ⟨h0, by rw [hD]⟩
            · exact .inr ⟨h0, by rw [hD0, hD]; rfl⟩
          have ow : t.outs.length ≤ 1 := by rcases OL.out with h | h | h <;> rw [h.1] <;> simp
          generalize b2n c.echoed = e0 at *
          generalize b2n c.readied = r0 at *
          generalize b2n c.done = d0 at *
          have HB : Aside (∃ e1 r1 d1, e1 = b2n t.c.echoed ∧ r1 = b2n t.c.readied ∧ d1 = b2n t.c.done) := ⟨_, _, _, rfl, rfl, rfl⟩
          obtain ⟨e1, r1, d1, he1, hr1, hd1⟩ := HB.out
          rw [← he1] at F3 G1 OL
          rw [← hr1] at F1 F2 G2 OL
          rw [← hd1] at F1 G3 IL
          have HE : Aside (e1 = b2n t.c.echoed ∧ r1 = b2n t.c.readied ∧ d1 = b2n t.c.done) := ⟨he1, hr1, hd1⟩
          clear he1 hr1 hd1 HB
          generalize t.is = is at *
          clear T1 hA TC ht hC y0 y1 y2 y3 y4 q1 q2 q3 q0
          go_wp2_with fail
          refine (?_ : ∀ V, (Kept w1 V (k + 1) t.c b1 b2 k1 k2 ∧ AtO V ao t.outs) → Code.wp _ _ _ _ V) _ (NX.out _)
          intro V hV
          -- ways
          rcases OL.out with ⟨h0, h1, h2⟩ | ⟨h0, h1, h2, h3⟩ | ⟨h0, h1, h2, h3⟩
          · rw [h0]
            simp only [List.length_nil]
            subst h1
            subst h2
            go_loopw [6, 7, 59] (fun en rn j wr => j = .int .i64 0 ∧ en = .int .i64 (e0 : Nat) ∧ rn = .int .i64 (r0 : Nat) ∧ wr = V) (fun _ _ _ _ => 0)
            case atStart => exact ⟨rfl, rfl, rfl, rfl⟩
            case round =>
              obtain ⟨rfl, rfl, rfl, hw⟩ := hrel
              replace hw := hw.symm; subst hw
              have hK : Aside (Kept w1 V (k + 1) t.c b1 b2 k1 k2) := hV.1
              obtain ⟨u0, u1, u2, u3, u4⟩ := hK.out.at_.1.cells
              rcases IL.out with ⟨hI, hD⟩ | ⟨hI, hD⟩
              · subst hI
                subst hD
                clear IL NX hV OL
                go_wp2
                go_roundw
                case rel => exact ⟨k + 1, t.c, b1, b2, k1, k2, by omega, by omega, by go_num, congrArg (fun n : Nat => Value.int .i64 (n : Int)) HE.out.1, congrArg (fun n : Nat => Value.int .i64 (n : Int)) HE.out.2.1, congrArg (fun n : Nat => Value.int .i64 (n : Int)) HE.out.2.2, hK.out, DR.out⟩
                case measure => simp [intOf]; omega
              · subst hI
                have hD' : (d0 : Int) + 1 = (d1 : Int) := by omega
                clear hD
                clear IL NX hV OL
                go_wp2
                go_roundw
                case rel => exact ⟨k + 1, t.c, b1, b2, k1, k2, by omega, by omega, by go_num, congrArg (fun n : Nat => Value.int .i64 (n : Int)) HE.out.1, congrArg (fun n : Nat => Value.int .i64 (n : Int)) HE.out.2.1, congrArg (fun n : Nat => Value.int .i64 (n : Int)) HE.out.2.2, hK.out, DR.out⟩
                case measure => simp [intOf]; omega
          · rw [h0] at hV
            rw [h0]
            simp only [List.length_cons, List.length_nil, Nat.zero_add]
            obtain ⟨bo, oo, rfl, hoc⟩ : ∃ b off, ao = some ⟨b, off, none⟩ ∧ ∀ (j : Nat) (k : Nat) (y : ByteArray), [(2, x)][j]? = some (k, y) → V.cell? ⟨b, off + j * 2, none⟩ = some (.int .i64 (k : Int)) ∧ V.cell? ⟨b, off + j * 2 + 1, none⟩ = some (.string y) := by
              rcases hV.2 with h | h
              · cases h
              · exact h
            have OC : Aside (V.cell? ⟨bo, oo, none⟩ = some (.int .i64 2) ∧ V.cell? ⟨bo, oo + 1, none⟩ = some (.string x)) := hoc 0 2 x rfl
            clear hoc
            subst h1
            subst h2
            subst h3
            go_loopw [6, 7, 59] (fun en rn j wr => ∃ m : Nat, m ≤ 1 ∧ j = .int .i64 (m : Nat) ∧ en = .int .i64 (m : Nat) ∧ rn = .int .i64 (r0 : Nat) ∧ Aside (Below V.heap.size V wr)) (fun _ _ j _ => 1 - (intOf j).toNat)
            case atStart => exact ⟨0, by omega, rfl, rfl, rfl, Below.refl _ V⟩
            case round =>
              obtain ⟨m, hm, rfl, rfl, rfl, hB2⟩ := hrel
              by_cases hm0 : m = 0
              · subst hm0
                have o0 := cell_later hB2.out OC.out.1
                have o1 := cell_later hB2.out OC.out.2
                have ol := World.block_lt_of_cell? _ _ o0
                dsimp only at ol
                have B3 : Aside (∀ o, Below V.heap.size V (wr.alloc o)) := fun o => hB2.out.alloc hB2.out.size o
                clear hV NX OL IL
                go_wp2
                go_roundw
                case rel => exact ⟨1, by omega, by go_num, by go_num, rfl, B3.out _⟩
                case measure => simp [intOf]
              · obtain rfl : m = 1 := by omega
                have hK : Aside (Kept w1 wr (k + 1) t.c b1 b2 k1 k2) := hV.1.later hB2.out
                obtain ⟨u0, u1, u2, u3, u4⟩ := hK.out.at_.1.cells
                have hE1 := b2n_one HE.out.1
                rw [hE1] at u0
                clear G1 hE1
                rcases IL.out with ⟨hI, hD⟩ | ⟨hI, hD⟩
                · subst hI
                  subst hD
                  clear IL NX hV OL
                  go_wp2
                  go_roundw
                  case rel => exact ⟨k + 1, t.c, b1, b2, k1, k2, by omega, by omega, by go_num, congrArg (fun n : Nat => Value.int .i64 (n : Int)) HE.out.1, congrArg (fun n : Nat => Value.int .i64 (n : Int)) HE.out.2.1, congrArg (fun n : Nat => Value.int .i64 (n : Int)) HE.out.2.2, hK.out, DR.out⟩
                  case measure => simp [intOf]; omega
                · subst hI
                  have hD' : (d0 : Int) + 1 = (d1 : Int) := by omega
                  clear hD
                  clear IL NX hV OL
                  go_wp2
                  go_roundw
                  case rel => exact ⟨k + 1, t.c, b1, b2, k1, k2, by omega, by omega, by go_num, congrArg (fun n : Nat => Value.int .i64 (n : Int)) HE.out.1, congrArg (fun n : Nat => Value.int .i64 (n : Int)) HE.out.2.1, congrArg (fun n : Nat => Value.int .i64 (n : Int)) HE.out.2.2, hK.out, DR.out⟩
                  case measure => simp [intOf]; omega
          · rw [h0] at hV
            rw [h0]
            simp only [List.length_cons, List.length_nil, Nat.zero_add]
            obtain ⟨bo, oo, rfl, hoc⟩ : ∃ b off, ao = some ⟨b, off, none⟩ ∧ ∀ (j : Nat) (k : Nat) (y : ByteArray), [(3, x)][j]? = some (k, y) → V.cell? ⟨b, off + j * 2, none⟩ = some (.int .i64 (k : Int)) ∧ V.cell? ⟨b, off + j * 2 + 1, none⟩ = some (.string y) := by
              rcases hV.2 with h | h
              · cases h
              · exact h
            have OC : Aside (V.cell? ⟨bo, oo, none⟩ = some (.int .i64 3) ∧ V.cell? ⟨bo, oo + 1, none⟩ = some (.string x)) := hoc 0 3 x rfl
            clear hoc
            subst h1
            subst h2
            subst h3
            go_loopw [6, 7, 59] (fun en rn j wr => ∃ m : Nat, m ≤ 1 ∧ j = .int .i64 (m : Nat) ∧ rn = .int .i64 (m : Nat) ∧ en = .int .i64 (e0 : Nat) ∧ Aside (Below V.heap.size V wr)) (fun _ _ j _ => 1 - (intOf j).toNat)
            case atStart => exact ⟨0, by omega, rfl, rfl, rfl, Below.refl _ V⟩
            case round =>
              obtain ⟨m, hm, rfl, rfl, rfl, hB2⟩ := hrel
              by_cases hm0 : m = 0
              · subst hm0
                have o0 := cell_later hB2.out OC.out.1
                have o1 := cell_later hB2.out OC.out.2
                have ol := World.block_lt_of_cell? _ _ o0
                dsimp only at ol
                have B3 : Aside (∀ o, Below V.heap.size V (wr.alloc o)) := fun o => hB2.out.alloc hB2.out.size o
                clear hV NX OL IL
                go_wp2
                go_roundw
                case rel => exact ⟨1, by omega, by go_num, by go_num, rfl, B3.out _⟩
                case measure => simp [intOf]
              · obtain rfl : m = 1 := by omega
                have hK : Aside (Kept w1 wr (k + 1) t.c b1 b2 k1 k2) := hV.1.later hB2.out
                obtain ⟨u0, u1, u2, u3, u4⟩ := hK.out.at_.1.cells
                have hR1 := b2n_one HE.out.2.1
                rw [hR1] at u1
                clear G2 hR1
                rcases IL.out with ⟨hI, hD⟩ | ⟨hI, hD⟩
                · subst hI
                  subst hD
                  clear IL NX hV OL
                  go_wp2
                  go_roundw
                  case rel => exact ⟨k + 1, t.c, b1, b2, k1, k2, by omega, by omega, by go_num, congrArg (fun n : Nat => Value.int .i64 (n : Int)) HE.out.1, congrArg (fun n : Nat => Value.int .i64 (n : Int)) HE.out.2.1, congrArg (fun n : Nat => Value.int .i64 (n : Int)) HE.out.2.2, hK.out, DR.out⟩
                  case measure => simp [intOf]; omega
                · subst hI
                  have hD' : (d0 : Int) + 1 = (d1 : Int) := by omega
                  clear hD
                  clear IL NX hV OL
                  go_wp2
                  go_roundw
                  case rel => exact ⟨k + 1, t.c, b1, b2, k1, k2, by omega, by omega, by go_num, congrArg (fun n : Nat => Value.int .i64 (n : Int)) HE.out.1, congrArg (fun n : Nat => Value.int .i64 (n : Int)) HE.out.2.1, congrArg (fun n : Nat => Value.int .i64 (n : Int)) HE.out.2.2, hK.out, DR.out⟩
                  case measure => simp [intOf]; omega
      · have t2 : ¬ (k : Int) < 60 := by omega
        have B9 : Aside (Below w.heap.size w wr) := below_step B0.out hC.out.1.below
        go_wp2
        go_ret
        exact ⟨rfl, B9.out⟩
    · have t1 : ¬ (k : Int) < (l.length : Int) := by omega
      have B9 : Aside (Below w.heap.size w wr) := below_step B0.out hC.out.1.below
      go_wp2
      go_ret
      exact ⟨rfl, B9.out⟩
end Go.Proofs.Ytlekbbpancaenaa
