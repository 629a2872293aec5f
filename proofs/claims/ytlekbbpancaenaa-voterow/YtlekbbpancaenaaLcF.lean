/- The walk of VoteRow: what comes of any votes in a row, from nothing on, is the document's. -/
import Derived.Test.YtlekbbpancaenaaLcE
namespace Go.Proofs.Ytlekbbpancaenaa
open Go.RowKit Go.Shelf

theorem s5_block (w : World) {b g : Nat} (h : g ≠ b) (u0 u1 u2 u3 u4 : Value) : (set5 w b u0 u1 u2 u3 u4).heap[g]? = w.heap[g]? := by
  unfold set5
  rw [row_far h, row_far h, row_far h, row_far h, row_far h]
theorem s5_size (w : World) (b : Nat) (u0 u1 u2 u3 u4 : Value) : (set5 w b u0 u1 u2 u3 u4).heap.size = w.heap.size := by simp [set5, World.setCell]
/-- Both cases, the program's and the document's, in their boxes, behind k votes. -/
structure Pair (w0 w : World) (k : Nat) (c : Vt.Cs) (a1 a2 d1 d2 : Option Addr) (c1 c2 e1 e2 : Nat) : Prop where
  p : C5 w w0.heap.size (.bool c.echoed) (.bool c.readied) (.bool c.done) (.slice a1 c.echoes.length c1) (.slice a2 c.readies.length c2)
  d : X5 w (w0.heap.size + 1) 24 (.bool c.echoed) (.bool c.readied) (.bool c.done) (.slice d1 c.echoes.length e1) (.slice d2 c.readies.length e2)
  p1 : Vt.At w a1 c.echoes
  p2 : Vt.At w a2 c.readies
  f1 : Vt.At w d1 c.echoes
  f2 : Vt.At w d2 c.readies
  off : ∀ P, P = w0.heap.size ∨ P = w0.heap.size + 1 → Off P d1 c.echoes ∧ Off P d2 c.readies
  below : Below w0.heap.size w0 w
  small : c.Small
  n1 : c.echoes.length ≤ k
  n2 : c.readies.length ≤ k
theorem Pair.later {w0 w w' : World} {k : Nat} {c : Vt.Cs} {a1 a2 d1 d2 : Option Addr} {c1 c2 e1 e2 : Nat} (h : Pair w0 w k c a1 a2 d1 d2 c1 c2 e1 e2) (hb : Below w.heap.size w w') : Pair w0 w' k c a1 a2 d1 d2 c1 c2 e1 e2 :=
  ⟨h.p.later hb, h.d.later hb, h.p1.later hb, h.p2.later hb, h.f1.later hb, h.f2.later hb, h.off, below_step h.below hb, h.small, h.n1, h.n2⟩
theorem Pair.more {w0 w : World} {k m : Nat} {c : Vt.Cs} {a1 a2 d1 d2 : Option Addr} {c1 c2 e1 e2 : Nat} (h : Pair w0 w k c a1 a2 d1 d2 c1 c2 e1 e2) (hm : k ≤ m) : Pair w0 w m c a1 a2 d1 d2 c1 c2 e1 e2 :=
  ⟨h.p, h.d, h.p1, h.p2, h.f1, h.f2, h.off, h.below, h.small, Nat.le_trans h.n1 hm, Nat.le_trans h.n2 hm⟩
theorem pair_start (w0 : World) : Pair w0 ((w0.alloc (.cells #[.bool false, .bool false, .bool false, .slice none 0 0, .slice none 0 0] 35)).alloc (.cells #[.bool false, .bool false, .bool false, .slice none 0 0, .slice none 0 0] 24)) 0 Vt.Cs.none none none none none 0 0 0 0 := by
  have N := X5.new (w0.alloc (.cells #[.bool false, .bool false, .bool false, .slice none 0 0, .slice none 0 0] 35)) 24 (.bool false) (.bool false) (.bool false) (.slice none 0 0) (.slice none 0 0)
  rw [World.size_alloc] at N
  exact ⟨(C5.new w0 _ _ _ _ _).alloc _, N, .inl rfl, .inl rfl, .inl rfl, .inl rfl, fun _ _ => ⟨(fun _ e => nomatch e), (fun _ e => nomatch e)⟩, ((Below.refl _ w0).alloc (Nat.le_refl _) _).alloc (by simp) _, none_small, Nat.le_refl _, Nat.le_refl _⟩
/-- Both cases stored, and what is told beside them. -/
structure Rowed (w0 V : World) (k : Nat) (t : Vt.Told) (b1 b2 ao g1 g2 go : Option Addr) (k1 k2 j1 j2 jo tb : Nat) : Prop where
  pair : Pair w0 V k t.c b1 b2 g1 g2 k1 k2 j1 j2
  told : X9 V tb (.bool t.c.echoed) (.bool t.c.readied) (.bool t.c.done) (.slice g1 t.c.echoes.length j1) (.slice g2 t.c.readies.length j2) (.slice go t.outs.length jo) (.string t.body) (.bool t.is) (.int .i64 (t.e : Int))
  o : AtO V ao t.outs
  ro : AtO V go t.outs
theorem Rowed.later {w0 V V' : World} {k : Nat} {t : Vt.Told} {b1 b2 ao g1 g2 go : Option Addr} {k1 k2 j1 j2 jo tb : Nat} (h : Rowed w0 V k t b1 b2 ao g1 g2 go k1 k2 j1 j2 jo tb) (hb : Below V.heap.size V V') : Rowed w0 V' k t b1 b2 ao g1 g2 go k1 k2 j1 j2 jo tb :=
  ⟨h.pair.later hb, h.told.later hb, h.o.later hb, h.ro.later hb⟩
theorem Rowed.cells {w1 W : World} {k : Nat} {t : Vt.Told} {b1 b2 ao g1 g2 go : Option Addr} {k1 k2 j1 j2 jo tb : Nat} (h : Rowed w1 W k t b1 b2 ao g1 g2 go k1 k2 j1 j2 jo tb) :
    W.cell? ⟨w1.heap.size, 0, none⟩ = some (.bool t.c.echoed) ∧ W.cell? ⟨w1.heap.size, 1, none⟩ = some (.bool t.c.readied) ∧ W.cell? ⟨w1.heap.size, 2, none⟩ = some (.bool t.c.done) ∧ W.cell? ⟨w1.heap.size, 3, none⟩ = some (.slice b1 t.c.echoes.length k1) ∧ W.cell? ⟨w1.heap.size, 4, none⟩ = some (.slice b2 t.c.readies.length k2) ∧ W.cell? ⟨w1.heap.size + 1, 0, none⟩ = some (.bool t.c.echoed) ∧ W.cell? ⟨w1.heap.size + 1, 1, none⟩ = some (.bool t.c.readied) ∧ W.cell? ⟨w1.heap.size + 1, 2, none⟩ = some (.bool t.c.done) ∧ W.cell? ⟨w1.heap.size + 1, 3, none⟩ = some (.slice g1 t.c.echoes.length j1) ∧ W.cell? ⟨w1.heap.size + 1, 4, none⟩ = some (.slice g2 t.c.readies.length j2) ∧ W.cell? ⟨tb, 5, none⟩ = some (.slice go t.outs.length jo) ∧ W.cell? ⟨tb, 6, none⟩ = some (.string t.body) ∧ W.cell? ⟨tb, 7, none⟩ = some (.bool t.is) ∧ W.cell? ⟨tb, 8, none⟩ = some (.int .i64 (t.e : Int)) :=
  ⟨h.pair.p.cells.1, h.pair.p.cells.2.1, h.pair.p.cells.2.2.1, h.pair.p.cells.2.2.2.1, h.pair.p.cells.2.2.2.2, h.pair.d.cells.1, h.pair.d.cells.2.1, h.pair.d.cells.2.2.1, h.pair.d.cells.2.2.2.1, h.pair.d.cells.2.2.2.2, h.told.cells.2.2.2.2.2⟩
theorem rowed_new {w0 wr wa w4 wb w9 : World} {k m : Nat} {c : Vt.Cs} {t : Vt.Told} {a1 a2 d1 d2 b1 b2 ao g1 g2 go : Option Addr} {c1 c2 e1 e2 k1 k2 j1 j2 jo : Nat}
    (h : Pair w0 wr k c a1 a2 d1 d2 c1 c2 e1 e2) (ha : Below wr.heap.size wr wa)
    (hA : Vt.At w4 b1 t.c.echoes ∧ Vt.At w4 b2 t.c.readies ∧ AtO w4 ao t.outs ∧ Below wa.heap.size wa w4 ∧ Fr wa.heap.size b1 ∧ Fr wa.heap.size b2 ∧ Fr wa.heap.size ao)
    (hb : Below w4.heap.size w4 wb)
    (hR : Vt.At w9 g1 t.c.echoes ∧ Vt.At w9 g2 t.c.readies ∧ AtO w9 go t.outs ∧ Below wb.heap.size wb w9 ∧ Fr wb.heap.size go ∧ ∀ P, P < wb.heap.size → Off P d1 c.echoes → Off P d2 c.readies → Off P g1 t.c.echoes ∧ Off P g2 t.c.readies)
    (hs : t.c.Small) (n1 : t.c.echoes.length ≤ m) (n2 : t.c.readies.length ≤ m) :
    Rowed w0 ((set5 (set5 w9 w0.heap.size (.bool t.c.echoed) (.bool t.c.readied) (.bool t.c.done) (.slice b1 t.c.echoes.length k1) (.slice b2 t.c.readies.length k2)) (w0.heap.size + 1) (.bool t.c.echoed) (.bool t.c.readied) (.bool t.c.done) (.slice g1 t.c.echoes.length j1) (.slice g2 t.c.readies.length j2)).alloc
      (.cells #[.bool t.c.echoed, .bool t.c.readied, .bool t.c.done, .slice g1 t.c.echoes.length j1, .slice g2 t.c.readies.length j2, .slice go t.outs.length jo, .string t.body, .bool t.is, .int .i64 (t.e : Int)] 43)) m t b1 b2 ao g1 g2 go k1 k2 j1 j2 jo w9.heap.size := by
  have hdl := h.d.lt
  have s1 := ha.size; have s2 := hA.2.2.2.1.size; have s3 := hb.size; have s4 := hR.2.2.2.1.size
  have H4 := (h.later ha).later hA.2.2.2.1
  have H9 := (H4.later hb).later hR.2.2.2.1
  have B : ∀ g, g ≠ w0.heap.size → g ≠ w0.heap.size + 1 → (set5 (set5 w9 w0.heap.size (.bool t.c.echoed) (.bool t.c.readied) (.bool t.c.done) (.slice b1 t.c.echoes.length k1) (.slice b2 t.c.readies.length k2)) (w0.heap.size + 1) (.bool t.c.echoed) (.bool t.c.readied) (.bool t.c.done) (.slice g1 t.c.echoes.length j1) (.slice g2 t.c.readies.length j2)).heap[g]? = w9.heap[g]? := fun g x y => (s5_block _ y _ _ _ _ _).trans (s5_block _ x _ _ _ _ _)
  have A2 : ∀ (a : Option Addr) (l : Vt.Bal), Vt.At w9 a l → Off w0.heap.size a l → Off (w0.heap.size + 1) a l → Vt.At (set5 (set5 w9 w0.heap.size (.bool t.c.echoed) (.bool t.c.readied) (.bool t.c.done) (.slice b1 t.c.echoes.length k1) (.slice b2 t.c.readies.length k2)) (w0.heap.size + 1) (.bool t.c.echoed) (.bool t.c.readied) (.bool t.c.done) (.slice g1 t.c.echoes.length j1) (.slice g2 t.c.readies.length j2)) a l := fun a l x y z =>
    at_block (at_block x y fun _ hg => s5_block _ hg _ _ _ _ _) z fun _ hg => s5_block _ hg _ _ _ _ _
  have O2 : ∀ (a : Option Addr) (l : List (Nat × ByteArray)), AtO w9 a l → Off w0.heap.size a l → Off (w0.heap.size + 1) a l → AtO (set5 (set5 w9 w0.heap.size (.bool t.c.echoed) (.bool t.c.readied) (.bool t.c.done) (.slice b1 t.c.echoes.length k1) (.slice b2 t.c.readies.length k2)) (w0.heap.size + 1) (.bool t.c.echoed) (.bool t.c.readied) (.bool t.c.done) (.slice g1 t.c.echoes.length j1) (.slice g2 t.c.readies.length j2)) a l := fun a l x y z =>
    atO_block (atO_block x y fun _ hg => s5_block _ hg _ _ _ _ _) z fun _ hg => s5_block _ hg _ _ _ _ _
  have oc := hR.2.2.2.2.2 w0.heap.size (by omega) (h.off _ (.inl rfl)).1 (h.off _ (.inl rfl)).2
  have od := hR.2.2.2.2.2 (w0.heap.size + 1) (by omega) (h.off _ (.inr rfl)).1 (h.off _ (.inr rfl)).2
  have sz : (set5 (set5 w9 w0.heap.size (.bool t.c.echoed) (.bool t.c.readied) (.bool t.c.done) (.slice b1 t.c.echoes.length k1) (.slice b2 t.c.readies.length k2)) (w0.heap.size + 1) (.bool t.c.echoed) (.bool t.c.readied) (.bool t.c.done) (.slice g1 t.c.echoes.length j1) (.slice g2 t.c.readies.length j2)).heap.size = w9.heap.size := (s5_size _ _ _ _ _ _ _).trans (s5_size _ _ _ _ _ _ _)
  have q1 := A2 b1 _ ((hA.1.later hb).later hR.2.2.2.1) (off_fr hA.2.2.2.2.1 (by omega)) (off_fr hA.2.2.2.2.1 (by omega))
  have q2 := A2 b2 _ ((hA.2.1.later hb).later hR.2.2.2.1) (off_fr hA.2.2.2.2.2.1 (by omega)) (off_fr hA.2.2.2.2.2.1 (by omega))
  have q3 := A2 g1 _ hR.1 oc.1 od.1
  have q4 := A2 g2 _ hR.2.1 oc.2 od.2
  have q5 := O2 ao _ ((hA.2.2.1.later hb).later hR.2.2.2.1) (off_fr hA.2.2.2.2.2.2 (by omega)) (off_fr hA.2.2.2.2.2.2 (by omega))
  have q6 := O2 go _ hR.2.2.1 (off_fr hR.2.2.2.2.1 (by omega)) (off_fr hR.2.2.2.2.1 (by omega))
  have bl : Below w0.heap.size w0 (set5 (set5 w9 w0.heap.size (.bool t.c.echoed) (.bool t.c.readied) (.bool t.c.done) (.slice b1 t.c.echoes.length k1) (.slice b2 t.c.readies.length k2)) (w0.heap.size + 1) (.bool t.c.echoed) (.bool t.c.readied) (.bool t.c.done) (.slice g1 t.c.echoes.length j1) (.slice g2 t.c.readies.length j2)) := below_set5 (below_set5 H9.below (Nat.le_refl _) _ _ _ _ _) (by omega) _ _ _ _ _
  have p0 : C5 (set5 (set5 w9 w0.heap.size (.bool t.c.echoed) (.bool t.c.readied) (.bool t.c.done) (.slice b1 t.c.echoes.length k1) (.slice b2 t.c.readies.length k2)) (w0.heap.size + 1) (.bool t.c.echoed) (.bool t.c.readied) (.bool t.c.done) (.slice g1 t.c.echoes.length j1) (.slice g2 t.c.readies.length j2)) w0.heap.size (.bool t.c.echoed) (.bool t.c.readied) (.bool t.c.done) (.slice b1 t.c.echoes.length k1) (.slice b2 t.c.readies.length k2) := (s5_block _ (by omega) _ _ _ _ _).trans (H9.p.set _ _ _ _ _)
  have d0 : X5 (set5 (set5 w9 w0.heap.size (.bool t.c.echoed) (.bool t.c.readied) (.bool t.c.done) (.slice b1 t.c.echoes.length k1) (.slice b2 t.c.readies.length k2)) (w0.heap.size + 1) (.bool t.c.echoed) (.bool t.c.readied) (.bool t.c.done) (.slice g1 t.c.echoes.length j1) (.slice g2 t.c.readies.length j2)) (w0.heap.size + 1) 24 (.bool t.c.echoed) (.bool t.c.readied) (.bool t.c.done) (.slice g1 t.c.echoes.length j1) (.slice g2 t.c.readies.length j2) := X5.set ((s5_block _ (by omega) _ _ _ _ _).trans H9.d) _ _ _ _ _
  have N := X9.new (set5 (set5 w9 w0.heap.size (.bool t.c.echoed) (.bool t.c.readied) (.bool t.c.done) (.slice b1 t.c.echoes.length k1) (.slice b2 t.c.readies.length k2)) (w0.heap.size + 1) (.bool t.c.echoed) (.bool t.c.readied) (.bool t.c.done) (.slice g1 t.c.echoes.length j1) (.slice g2 t.c.readies.length j2)) (.bool t.c.echoed) (.bool t.c.readied) (.bool t.c.done) (.slice g1 t.c.echoes.length j1) (.slice g2 t.c.readies.length j2) (.slice go t.outs.length jo) (.string t.body) (.bool t.is) (.int .i64 (t.e : Int))
  rw [sz] at N
  have hP : Pair w0 (set5 (set5 w9 w0.heap.size (.bool t.c.echoed) (.bool t.c.readied) (.bool t.c.done) (.slice b1 t.c.echoes.length k1) (.slice b2 t.c.readies.length k2)) (w0.heap.size + 1) (.bool t.c.echoed) (.bool t.c.readied) (.bool t.c.done) (.slice g1 t.c.echoes.length j1) (.slice g2 t.c.readies.length j2)) m t.c b1 b2 g1 g2 k1 k2 j1 j2 :=
    ⟨p0, d0, q1, q2, q3, q4, fun P hP => by rcases hP with e | e <;> subst e <;> assumption, bl, hs, n1, n2⟩
  have la := (Below.refl _ (set5 (set5 w9 w0.heap.size (.bool t.c.echoed) (.bool t.c.readied) (.bool t.c.done) (.slice b1 t.c.echoes.length k1) (.slice b2 t.c.readies.length k2)) (w0.heap.size + 1) (.bool t.c.echoed) (.bool t.c.readied) (.bool t.c.done) (.slice g1 t.c.echoes.length j1) (.slice g2 t.c.readies.length j2))).alloc (Nat.le_refl _) (.cells #[.bool t.c.echoed, .bool t.c.readied, .bool t.c.done, .slice g1 t.c.echoes.length j1, .slice g2 t.c.readies.length j2, .slice go t.outs.length jo, .string t.body, .bool t.is, .int .i64 (t.e : Int)] 43)
  exact ⟨hP.later la, N, q5.later la, q6.later la⟩

set_option maxHeartbeats 16000000 in
set_option maxRecDepth 100000 in
theorem row_walk (ms frm : Nat) (a : Option Addr) (cap : Nat) (l : List (Int × Nat × ByteArray)) (w : World) (hms : ms < 65536) (hf8 : frm < 256) (hl : AtV w a l) (h8 : ∀ v ∈ l, v.2.1 < 256) :
    Calls Try.prog 4 #[.int .u16 (ms : Nat), .int .u8 (frm : Nat), .slice a l.length cap] w fun e w' => e = .returned (.bool true) ∧ Below w.heap.size w w' := by
  have AL : Aside (∀ W, _) := fun W => alive_any W
  have L0 : Aside (ms < 65536 ∧ frm < 256 ∧ ∀ v ∈ l, v.2.1 < 256) := ⟨hms, hf8, h8⟩
  have L1 : Aside (AtV w a l) := hl
  clear hl hms hf8 h8
  go_enter Try.func4, Try.ntmps4
  go_wp2_with fail
  refine (AL.out _).mono ?_
  rintro z w1 ⟨rfl, hb1⟩
  have B0 : Aside (Below w.heap.size w w1) := hb1
  have PT : Aside (AtV w1 a l) := L1.out.later hb1
  clear hb1 AL L1
  go_wp2_with fail
  go_loopw [9] (fun i wr => ∃ k c a1 a2 d1 d2 c1 c2 e1 e2, k ≤ l.length ∧ k ≤ 60 ∧ i = .int .i64 (k : Nat) ∧ Aside (Pair w1 wr k c a1 a2 d1 d2 c1 c2 e1 e2)) (fun i _ => 60 - (intOf i).toNat)
  case atStart => exact ⟨0, Vt.Cs.none, none, none, none, none, 0, 0, 0, 0, Nat.zero_le _, by omega, rfl, pair_start w1⟩
  case round =>
    obtain ⟨k, c, a1, a2, d1, d2, c1, c2, e1, e2, hk, hk6, rfl, hC⟩ := hrel
    by_cases hlt : k < l.length
    · have t1 : (k : Int) < (l.length : Int) := by omega
      by_cases h60 : k < 60
      · have t2 : (k : Int) < 60 := by omega
        have t3 : (0 : Int) ≤ (k : Int) := by omega
        obtain ⟨b, off, kd, id, x, rfl, hg, v0, v1, v2⟩ := (PT.out.later hC.out.below).get hlt
        have HI : Aside (id < 256) := L0.out.2.2 _ (List.mem_of_getElem? hg)
        have vl := World.block_lt_of_cell? _ _ v0
        have cl := hC.out.p.lt
        have dl := hC.out.d.lt
        obtain ⟨y0, y1, y2, y3, y4⟩ := hC.out.p.cells
        dsimp only at vl
        clear hg
        by_cases hx : (1100 : Int) < (x.size : Int)
        · have RL : Aside (∀ o, Pair w1 (wr.alloc o) (k + 1) c a1 a2 d1 d2 c1 c2 e1 e2) := fun o => (hC.out.later ((Below.refl _ wr).alloc (Nat.le_refl _) o)).more (Nat.le_succ _)
          go_wp2
          go_roundw
          case rel => exact ⟨k + 1, c, a1, a2, d1, d2, c1, c2, e1, e2, by omega, by omega, by go_num, RL.out _⟩
          case measure => simp [intOf]; omega
        · obtain ⟨t, ht⟩ : ∃ t, Vt.take c ms frm kd id x = t := ⟨_, rfl⟩
          have HT : Aside (Vt.take c ms frm kd id x = t) := ht
          clear ht
          have BA : Aside (∀ o, Below wr.heap.size wr (wr.alloc o)) := fun o => (Below.refl _ wr).alloc (Nat.le_refl _) o
          have K9 : Aside (c.echoes.length ≤ 900 ∧ c.readies.length ≤ 900) := ⟨by have := hC.out.n1; omega, by have := hC.out.n2; omega⟩
          have T1 : Aside (∀ o, _) := fun o => take_let (c1 := c1) (c2 := c2) HT.out (w := wr.alloc o) ⟨hC.out.p1.later (BA.out o), hC.out.p2.later (BA.out o), hC.out.small, K9.out.1, K9.out.2⟩ L0.out.1
          go_wp2_with fail
          refine (T1.out _).mono ?_
          rintro z w4 ⟨b1, k1, b2, k2, ao, co, rfl, hA⟩
          have P4 : Aside (Pair w1 w4 k c a1 a2 d1 d2 c1 c2 e1 e2) := (hC.out.later (BA.out _)).later hA.out.2.2.2.1
          obtain ⟨o, ho⟩ : ∃ o, o = Obj.cells #[.int .i64 kd, .int .u8 (id : Int), .string x] 30 := ⟨_, rfl⟩
          have x0 : w4.cell? ⟨wr.heap.size, 0, none⟩ = some (.int .i64 kd) := cell_later hA.out.2.2.2.1 (World.cell?_alloc_at _ _ _ _ rfl)
          have x1 : w4.cell? ⟨wr.heap.size, 1, none⟩ = some (.int .u8 (id : Int)) := cell_later hA.out.2.2.2.1 (World.cell?_alloc_at _ _ _ _ rfl)
          have x2 : w4.cell? ⟨wr.heap.size, 2, none⟩ = some (.string x) := cell_later hA.out.2.2.2.1 (World.cell?_alloc_at _ _ _ _ rfl)
          have xl := World.block_lt_of_cell? _ _ x0
          dsimp only at xl
          clear T1 y0 y1 y2 y3 y4 ho o v0 v1 v2 vl
          obtain ⟨y0, y1, y2, y3, y4⟩ := P4.out.d.cells
          have dl4 := P4.out.d.lt
          have BB : Aside (∀ o, Below w4.heap.size w4 (w4.alloc o)) := fun o => (Below.refl _ w4).alloc (Nat.le_refl _) o
          have T2 : Aside (∀ o, Calls Try.prog 17 #[.agg #[.bool c.echoed, .bool c.readied, .bool c.done, .slice d1 c.echoes.length e1, .slice d2 c.readies.length e2], .int .u16 (ms : Nat), .int .u8 (frm : Nat), .int .i64 kd, .int .u8 (id : Nat), .string x] (w4.alloc o) (RTold (w4.alloc o) d1 d2 c t)) := fun o =>
            rtake_any c d1 d2 e1 e2 ms frm kd id x (w4.alloc o) ⟨P4.out.f1.later (BB.out o), P4.out.f2.later (BB.out o), P4.out.small, K9.out.1, K9.out.2⟩ L0.out.1 HI.out L0.out.2.1 t HT.out
          go_wp2_with fail
          refine (T2.out _).mono ?_
          rintro z w9 ⟨g1, j1, g2, j2, go, jo, rfl, hR⟩
          have P9 : Aside (Pair w1 w9 k c a1 a2 d1 d2 c1 c2 e1 e2) := (P4.out.later (BB.out _)).later hR.out.2.2.2.1
          have z4 := C5.cells (C5.later (C5.new w4 (.bool t.c.echoed) (.bool t.c.readied) (.bool t.c.done) (.slice b1 t.c.echoes.length k1) (.slice b2 t.c.readies.length k2)) hR.out.2.2.2.1)
          obtain ⟨z0, z1, z2, z3, z4⟩ := z4
          have zl : w4.heap.size < w9.heap.size := by have := hR.out.2.2.2.1.size; simp at this; omega
          have LN := Vt.take_len c ms frm kd id x
          have LO := outs_len c ms frm kd id x
          have SM := Vt.take_small hC.out.small ms frm kd id x
          rw [HT.out] at LN LO SM
          have RW : Aside (Rowed w1 _ (k + 1) t b1 b2 ao g1 g2 go k1 k2 j1 j2 jo w9.heap.size) := rowed_new (c1 := c1) (c2 := c2) (e1 := e1) (e2 := e2) (jo := jo) hC.out (BA.out _) hA.out (BB.out _) hR.out SM (by have := hC.out.n1; have := LN.1; omega) (by have := hC.out.n2; have := LN.2; omega)
          have LL : Aside (t.c.echoes.length ≤ 900 ∧ t.c.readies.length ≤ 900 ∧ t.outs.length ≤ 1000) := ⟨by have := K9.out.1; have := RW.out.pair.n1; omega, by have := RW.out.pair.n2; omega, by omega⟩
          clear LN LO SM T2 hA hR hC BA BB P4 HT x0 x1 x2 xl y0 y1 y2 y3 y4 dl4 cl dl K9 HI
          obtain ⟨y0, y1, y2, y3, y4⟩ := P9.out.p.cells
          obtain ⟨u0, u1, u2, u3, u4⟩ := P9.out.d.cells
          have yf := P9.out.p.frozen
          have uf := P9.out.d.frozen
          have yl := P9.out.p.lt
          have ul := P9.out.d.lt
          clear P9
          go_wp2_with fail
          refine (?_ : ∀ V, Rowed w1 V (k + 1) t b1 b2 ao g1 g2 go k1 k2 j1 j2 jo w9.heap.size → Code.wp _ _ _ _ V) _ RW.out
          intro V hV
          clear RW y0 y1 y2 y3 y4 u0 u1 u2 u3 u4 yf uf yl ul z0 z1 z2 z3 z4 zl
          generalize w9.heap.size = tb at hV ⊢
          have ST : Aside (Rowed w1 V (k + 1) t b1 b2 ao g1 g2 go k1 k2 j1 j2 jo tb) := hV
          have BD : Aside (Below V.heap.size V V.drew) := (Below.refl _ V).drew
          have OU : Aside (∀ X, Rowed w1 X (k + 1) t b1 b2 ao g1 g2 go k1 k2 j1 j2 jo tb → Calls Try.prog 19 #[.agg #[.bool t.c.echoed, .bool t.c.readied, .bool t.c.done, .slice b1 t.c.echoes.length k1, .slice b2 t.c.readies.length k2]] X fun z w' => ∃ y1 i1 y2 i2, z = .returned (.agg #[.bool t.c.echoed, .bool t.c.readied, .bool t.c.done, .slice y1 t.c.echoes.length i1, .slice y2 t.c.readies.length i2]) ∧ Aside ((Rowed w1 w' (k + 1) t b1 b2 ao g1 g2 go k1 k2 j1 j2 jo tb) ∧ Vt.At w' y1 t.c.echoes ∧ Vt.At w' y2 t.c.readies)) := fun X hX =>
            (ours_any t.c.echoed t.c.readied t.c.done b1 b2 k1 k2 t.c.echoes t.c.readies X hX.pair.p1 hX.pair.p2 LL.out.1 LL.out.2.1).mono fun _ _ ⟨y1, i1, y2, i2, h0, h1, h2, h3⟩ => ⟨y1, i1, y2, i2, h0, hX.later h3, h1, h2⟩
          have SE : Aside (∀ X y1 y2 i1 i2, Rowed w1 X (k + 1) t b1 b2 ao g1 g2 go k1 k2 j1 j2 jo tb → Vt.At X y1 t.c.echoes → Vt.At X y2 t.c.readies → Calls Try.prog 18 #[.agg #[.bool t.c.echoed, .bool t.c.readied, .bool t.c.done, .slice y1 t.c.echoes.length i1, .slice y2 t.c.readies.length i2], .agg #[.bool t.c.echoed, .bool t.c.readied, .bool t.c.done, .slice g1 t.c.echoes.length j1, .slice g2 t.c.readies.length j2]] X fun z w' => z = .returned (.bool true) ∧ Aside (Rowed w1 w' (k + 1) t b1 b2 ao g1 g2 go k1 k2 j1 j2 jo tb)) := fun X y1 y2 i1 i2 hX p1 p2 =>
            (same_eq t.c.echoed t.c.readied t.c.done y1 y2 g1 g2 i1 i2 j1 j2 t.c.echoes t.c.readies X p1 p2 hX.pair.f1 hX.pair.f2 LL.out.1 LL.out.2.1).mono fun _ _ ⟨h0, h3⟩ => ⟨h0, hX.later h3⟩
          have OE : Aside (∀ X co, Rowed w1 X (k + 1) t b1 b2 ao g1 g2 go k1 k2 j1 j2 jo tb → Calls Try.prog 20 #[.slice ao t.outs.length co, .slice go t.outs.length jo] X fun z w' => z = .returned (.bool true) ∧ Aside (Rowed w1 w' (k + 1) t b1 b2 ao g1 g2 go k1 k2 j1 j2 jo tb)) := fun X co hX =>
            (outs_eq ao go co jo t.outs X hX.o hX.ro LL.out.2.2).mono fun _ _ ⟨h0, h3⟩ => ⟨h0, hX.later h3⟩
          have bq := eq_arr t.body t.body
          rw [decide_eq_true rfl] at bq
          obtain ⟨q0, q1, q2, q3, q4, q5, q6, q7, q8, q9, q10, q11, q12, q13⟩ := ST.out.cells
          clear hV LL
          go_region_held3 (fun w' => w'.cell? ⟨w1.heap.size, 0, none⟩ = some (.bool t.c.echoed) ∧ w'.cell? ⟨w1.heap.size, 1, none⟩ = some (.bool t.c.readied) ∧ w'.cell? ⟨w1.heap.size, 2, none⟩ = some (.bool t.c.done) ∧ w'.cell? ⟨w1.heap.size, 3, none⟩ = some (.slice b1 t.c.echoes.length k1) ∧ w'.cell? ⟨w1.heap.size, 4, none⟩ = some (.slice b2 t.c.readies.length k2) ∧ w'.cell? ⟨w1.heap.size + 1, 0, none⟩ = some (.bool t.c.echoed) ∧ w'.cell? ⟨w1.heap.size + 1, 1, none⟩ = some (.bool t.c.readied) ∧ w'.cell? ⟨w1.heap.size + 1, 2, none⟩ = some (.bool t.c.done) ∧ w'.cell? ⟨w1.heap.size + 1, 3, none⟩ = some (.slice g1 t.c.echoes.length j1) ∧ w'.cell? ⟨w1.heap.size + 1, 4, none⟩ = some (.slice g2 t.c.readies.length j2) ∧ w'.cell? ⟨tb, 5, none⟩ = some (.slice go t.outs.length jo) ∧ w'.cell? ⟨tb, 6, none⟩ = some (.string t.body) ∧ w'.cell? ⟨tb, 7, none⟩ = some (.bool t.is) ∧ w'.cell? ⟨tb, 8, none⟩ = some (.int .i64 (t.e : Int)))
            (first | go_keep)
            (first
              | (go_at_call 19; refine (OU.out V.drew (ST.out.later BD.out)).mono ?_; rintro z w11 ⟨y1, i1, y2, i2, rfl, hA⟩; clear ST; have ST : Aside (Rowed w1 w11 (k + 1) t b1 b2 ao g1 g2 go k1 k2 j1 j2 jo tb) := hA.out.1; have OA : Aside (Vt.At w11 y1 t.c.echoes ∧ Vt.At w11 y2 t.c.readies) := hA.out.2; clear hA q0 q1 q2 q3 q4 q5 q6 q7 q8 q9 q10 q11 q12 q13; obtain ⟨q0, q1, q2, q3, q4, q5, q6, q7, q8, q9, q10, q11, q12, q13⟩ := ST.out.cells)
              | (go_at_call 18; refine (SE.out w11 y1 y2 i1 i2 ST.out OA.out.1 OA.out.2).mono ?_; rintro z w12 ⟨rfl, hA⟩; clear ST; have ST : Aside (Rowed w1 w12 (k + 1) t b1 b2 ao g1 g2 go k1 k2 j1 j2 jo tb) := hA.out; clear hA q0 q1 q2 q3 q4 q5 q6 q7 q8 q9 q10 q11 q12 q13; obtain ⟨q0, q1, q2, q3, q4, q5, q6, q7, q8, q9, q10, q11, q12, q13⟩ := ST.out.cells)
              | (go_at_call 20; refine (OE.out w12 _ ST.out).mono ?_; rintro z w13 ⟨rfl, hA⟩; clear ST; have ST : Aside (Rowed w1 w13 (k + 1) t b1 b2 ao g1 g2 go k1 k2 j1 j2 jo tb) := hA.out; clear hA q0 q1 q2 q3 q4 q5 q6 q7 q8 q9 q10 q11 q12 q13; obtain ⟨q0, q1, q2, q3, q4, q5, q6, q7, q8, q9, q10, q11, q12, q13⟩ := ST.out.cells)
              | fail)
          have RR : Aside (Pair w1 _ (k + 1) t.c b1 b2 g1 g2 k1 k2 j1 j2) := ST.out.pair
          clear ST
          go_wp2
          go_roundw
          case rel => exact ⟨k + 1, t.c, b1, b2, g1, g2, k1, k2, j1, j2, by omega, by omega, by go_num, RR.out⟩
          case measure => simp [intOf]; omega
      · have t2 : ¬ (k : Int) < 60 := by omega
        have B9 : Aside (Below w.heap.size w wr) := below_step B0.out hC.out.below
        go_wp2
        go_ret
        exact ⟨rfl, B9.out⟩
    · have t1 : ¬ (k : Int) < (l.length : Int) := by omega
      have B9 : Aside (Below w.heap.size w wr) := below_step B0.out hC.out.below
      go_wp2
      go_ret
      exact ⟨rfl, B9.out⟩
end Go.Proofs.Ytlekbbpancaenaa
