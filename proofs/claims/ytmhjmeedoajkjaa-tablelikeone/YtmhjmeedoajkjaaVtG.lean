/- What comes of a Ready that may be taken; taken as a whole. -/
import Derived.Test.YtmhjmeedoajkjaaVtF
namespace Go.Proofs.Ytmhjmeedoajkjaa
open Go.RowKit Go.Shelf

set_option maxHeartbeats 8000000 in
set_option maxRecDepth 100000 in
theorem taken_ready_t (B : Nat) (c : Vt.Cs) (a1 a2 : Option Addr) (c1 c2 n : Nat) (id : Nat) (x : ByteArray) (w : World) (hB : B ≤ w.heap.size) (hT : Two B w (.slice a1 c.echoes.length c1) (.slice a2 c.readies.length c2) c.echoes c.readies) (hs : Vt.Small c.readies) (hn : c.readies.length ≤ 900) (hd : c.done = true) :
    Calls Try.prog 32 #[.agg #[.bool c.echoed, .bool c.readied, .bool true, .slice a1 c.echoes.length c1, .slice a2 c.readies.length c2], .int .i64 (n : Int), .int .i64 3, .int .u8 (id : Nat), .string x] w
      (TakenPost B w (Vt.taken c n 3 id x)) := by
  have WV : Aside (∀ o o', Calls Try.prog 47 #[.slice a2 c.readies.length c2, .int .u8 (id : Nat), .string x] ((w.alloc o).alloc o') (WithPost B (.slice a2 c.readies.length c2) (Vt.withB c.readies id x) ((w.alloc o).alloc o'))) :=
    fun o o' => withVote_any B a2 c2 c.readies id x _ (by simp; omega) ((hT.2.1.alloc o).alloc o') hs hn
  have EC : Aside (∀ W, Calls Try.prog 52 #[.int .i64 (n : Int)] W fun e w' => e = .returned (.int .i64 (Cn.readies n : Nat)) ∧ w' = W) := fun W => readies_any n W
  have EN : Aside (∀ W, Calls Try.prog 51 #[.int .i64 (n : Int)] W fun e w' => e = .returned (.int .i64 (Cn.enough n : Nat)) ∧ w' = W) := fun W => enough_any n W
  have hs' : Aside (Vt.Small (Vt.withB c.readies id x) ∧ (Vt.withB c.readies id x).length ≤ 1000) := ⟨Vt.small_with hs id x, by have := Vt.len_with c.readies id x; omega⟩
  have TE : Vt.taken c n 3 id x = Vt.ready { c with readies := Vt.withB c.readies id x, done := true } x (decide (Cn.readies n ≤ Vt.sizeB (Vt.withB c.readies id x) x)) := by
    show Vt.readyT c n id x = _
    unfold Vt.readyT
    rw [hd]; rfl
  have R : Aside (∀ en V s1 s2 a2' m2 c2' ao co, en = decide (Cn.readies n ≤ Vt.sizeB (Vt.withB c.readies id x) x) → Boxes w V B c.echoed c.readied true s1 s2 → V.ownsRow B 94 2 (.slice a1 c.echoes.length c1) c.echoes.length (Vt.balC c.echoes) → V.ownsRow B 94 2 (.slice a2' m2 c2') (Vt.withB c.readies id x).length (Vt.balC (Vt.withB c.readies id x)) → AtO V ao (if c.readied || !en then [] else [(3, x)]) → (∀ ad, ao = some ad → w.heap.size + 1 < ad.block) →
      TakenPost B w (Vt.taken c n 3 id x) (.returned (.tuple #[.agg #[.bool c.echoed, .bool (c.readied || en), .bool true, .slice a1 c.echoes.length c1, .slice a2' m2 c2'], .slice ao (if c.readied || !en then [] else [(3, x)] : List (Nat × ByteArray)).length co]))
        (((((V.setCell ⟨w.heap.size + 1, 0, none⟩ (.bool c.echoed)).setCell ⟨w.heap.size + 1, 1, none⟩ (.bool (c.readied || en))).setCell ⟨w.heap.size + 1, 2, none⟩ (.bool true)).setCell ⟨w.heap.size + 1, 3, none⟩ (.slice a1 c.echoes.length c1)).setCell ⟨w.heap.size + 1, 4, none⟩ (.slice a2' m2 c2'))) := by
    intro en V s1 s2 a2' m2 c2' ao co he hX o1 o2 ho hf
    rw [TE, ← he]
    exact taken_end (c := { c with readies := Vt.withB c.readies id x, done := true, readied := c.readied || en }) hB hX o1 o2 ho hf
  generalize TakenPost B w (Vt.taken c n 3 id x) = Q at R ⊢
  have X0 : Aside (Boxes w _ B c.echoed c.readied true (.slice a1 c.echoes.length c1) (.slice a2 c.readies.length c2)) := boxes_new w B hB c.echoed c.readied true (.slice a1 c.echoes.length c1) (.slice a2 c.readies.length c2)
  have T0 : Aside (Two B w (.slice a2 c.readies.length c2) (.slice a1 c.echoes.length c1) c.readies c.echoes ∧ B ≤ w.heap.size) := ⟨hT.swap, hB⟩
  clear hT hs hn TE hd
  generalize c.echoed = e at *
  generalize c.readied = r at *
  generalize hsz : Vt.sizeB (Vt.withB c.readies id x) x = sz at R
  generalize Cn.readies n = eN at *
  generalize Cn.enough n = nN at *
  go_enter Try.func32, Try.ntmps32
  go_wp2_with fail
  refine (WV.out _ _).mono ?_
  rintro z w1 ⟨a', m', c', rfl, o1, hm, hg⟩
  have Y1 : Aside (Boxes w w1 B e r true _ _ ∧ w1.ownsRow B 94 2 (.slice a' m' c') (Vt.withB c.readies id x).length (Vt.balC (Vt.withB c.readies id x)) ∧ w1.ownsRow B 94 2 (.slice a1 c.echoes.length c1) c.echoes.length (Vt.balC c.echoes)) :=
    ⟨boxes_with X0.out T0.out.1.1 hg (by simp; have := T0.out.2; omega), o1, At.grown ((T0.out.1.2.1.alloc _).alloc _) hg T0.out.1.2.2⟩
  obtain ⟨y0, y1, y2, y3, y4⟩ := Y1.out.1.box.cells
  have yf := Y1.out.1.box.frozen
  obtain ⟨V, hV⟩ : ∃ V, V = w1.setCell ⟨w.heap.size, 4, none⟩ (.slice a' m' c') := ⟨_, rfl⟩
  have Y2 : Aside (Boxes w V B e r true (.slice a1 c.echoes.length c1) (.slice a' m' c') ∧ V.ownsRow B 94 2 (.slice a' m' c') (Vt.withB c.readies id x).length (Vt.balC (Vt.withB c.readies id x)) ∧ V.ownsRow B 94 2 (.slice a1 c.echoes.length c1) c.echoes.length (Vt.balC c.echoes) ∧ B ≤ V.heap.size) := by
    have q := boxes_set4 Y1.out.1 T0.out.2 (.slice a' m' c')
    rw [hV]
    exact ⟨q, own_far Y1.out.2.1 (own_ne5 Y1.out.2.1 Y1.out.1.box) _, own_far Y1.out.2.2 (own_ne5 Y1.out.2.2 Y1.out.1.box) _, by have := q.size; have := T0.out.2; omega⟩
  have VO : Aside (∀ W, Below V.heap.size V W → Calls Try.prog 49 #[.slice a' m' c', .string x] W fun e w' => e = .returned (.int .i64 (sz : Int)) ∧ Below W.heap.size W w') := by
    intro W hb
    obtain ⟨q1, q2⟩ := own_atv Y2.out.2.1
    have := votes_any a' c' (Vt.withB c.readies id x) x W (q2.later hb) hs'.out.1 hs'.out.2
    rw [q1, hsz] at this
    exact this
  clear WV X0 hg o1 hm hsz hs'
  generalize Vt.balC (Vt.withB c.readies id x) = xs1 at *
  generalize (Vt.withB c.readies id x).length = k1 at *
  generalize Vt.balC c.echoes = xs2 at *
  generalize c.echoes.length = k2 at *
  have RD : Aside (∀ d en W, _) := fun (d en : Bool) (W : World) => readied_let e r d a1 a' k2 m' c1 c' x en W
  have hE : w1.cell? ⟨w.heap.size, 4, none⟩ = some (.slice a2 c.readies.length c2) := y4
  go_wp2_with fail
  rw [← hV]
  refine (VO.out V (Below.refl _ V)).mono ?_
  rintro z w2 ⟨rfl, b2⟩
  clear hV y0 y1 y2 y3 y4 yf Y1 hE VO
  have Y3 : Aside (Boxes w w2 B e r true (.slice a1 k2 c1) (.slice a' m' c') ∧ w2.ownsRow B 94 2 (.slice a' m' c') k1 xs1 ∧ w2.ownsRow B 94 2 (.slice a1 k2 c1) k2 xs2 ∧ B ≤ w2.heap.size) := ⟨Boxes.later Y2.out.1 b2 Y2.out.2.2.2, own_later Y2.out.2.1 b2, own_later Y2.out.2.2.1 b2, Nat.le_trans Y2.out.2.2.2 b2.size⟩
  clear b2 Y2
  obtain ⟨y0, y1, y2, y3, y4⟩ := Y3.out.1.box.cells
  have yf := Y3.out.1.box.frozen
  obtain ⟨V3, hV⟩ : ∃ V3, V3 = w2.setCell ⟨w.heap.size, 2, none⟩ (.bool true) := ⟨_, rfl⟩
  have Y4 : Aside (Boxes w V3 B e r true (.slice a1 k2 c1) (.slice a' m' c') ∧ V3.ownsRow B 94 2 (.slice a' m' c') k1 xs1 ∧ V3.ownsRow B 94 2 (.slice a1 k2 c1) k2 xs2 ∧ B ≤ V3.heap.size) := by
    have q := boxes_set2 Y3.out.1 T0.out.2 true
    rw [hV]
    exact ⟨q, own_far Y3.out.2.1 (own_ne5 Y3.out.2.1 Y3.out.1.box) _, own_far Y3.out.2.2.1 (own_ne5 Y3.out.2.2.1 Y3.out.1.box) _, by have := q.size; have := T0.out.2; omega⟩
  go_wp2_with fail
  rw [← hV]
  clear hV y0 y1 y2 y3 y4 yf Y3 EN
  obtain ⟨y0, y1, y2, y3, y4⟩ := Y4.out.1.box.cells
  go_region_held3 (fun w' => w'.cell? ⟨w.heap.size, 0, none⟩ = some (.bool e) ∧ w'.cell? ⟨w.heap.size, 1, none⟩ = some (.bool r) ∧ w'.cell? ⟨w.heap.size, 2, none⟩ = some (.bool true) ∧ w'.cell? ⟨w.heap.size, 3, none⟩ = some (.slice a1 k2 c1) ∧ w'.cell? ⟨w.heap.size, 4, none⟩ = some (.slice a' m' c'))
    (first | go_keep)
    (first
      | (go_at_call 52; refine (EC.out V3.drew).mono ?_; rintro z w3 ⟨rfl, hw3⟩; replace hw3 := hw3.symm; subst hw3)
      | (go_at_call 48; refine (RD.out true _ V3.drew).mono ?_; rintro z w4 ⟨r', ao, k3, co, rfl, hA⟩; have Y5 : Aside (Boxes w w4 B e r true (.slice a1 k2 c1) (.slice a' m' c') ∧ w4.ownsRow B 94 2 (.slice a' m' c') k1 xs1 ∧ w4.ownsRow B 94 2 (.slice a1 k2 c1) k2 xs2 ∧ AtO w4 ao _ ∧ ∀ ad, ao = some ad → w.heap.size + 1 < ad.block) := ⟨Boxes.later Y4.out.1.drew hA.out.2.2.2.2 Y4.out.2.2.2, own_later (w := V3.drew) Y4.out.2.1 hA.out.2.2.2.2, own_later (w := V3.drew) Y4.out.2.2.1 hA.out.2.2.2.2, hA.out.2.2.1, fun ad h => Nat.lt_of_lt_of_le Y4.out.1.size (hA.out.2.2.2.1 ad h)⟩; obtain ⟨g0, g1, g2, g3, g4⟩ := Y5.out.1.box.cells; obtain ⟨z0, z1, z2, z3, z4⟩ := Y5.out.1.res.cells; have zf := Y5.out.1.res.frozen)
      | fail)
  have Q1 := R.out (decide (eN ≤ sz)) w4 _ _ a' m' c' ao co rfl Y5.out.1 Y5.out.2.2.1 Y5.out.2.1 Y5.out.2.2.2.1 Y5.out.2.2.2.2
  rw [← hA.out.1, ← hA.out.2.1] at Q1
  have hD : Aside (C5 _ _ _ _ _ _ _) := C5.set Y5.out.1.res (.bool e) (.bool r') (.bool true) (.slice a1 k2 c1) (.slice a' m' c')
  have Q2 : Aside (Q _ _) := Q1
  clear R Q1 EC RD Y4 Y5 T0 hA
  go_wp2
  refine ⟨rfl, _, ?_, Q2.out⟩
  obtain ⟨d0, d1, d2, d3, d4⟩ := hD.out.cells
  simp [results, Try.results32, go_sem, d0, d1, d2, d3, d4]

set_option maxHeartbeats 8000000 in
set_option maxRecDepth 100000 in
theorem taken_ready_f (B : Nat) (c : Vt.Cs) (a1 a2 : Option Addr) (c1 c2 n : Nat) (id : Nat) (x : ByteArray) (w : World) (hB : B ≤ w.heap.size) (hT : Two B w (.slice a1 c.echoes.length c1) (.slice a2 c.readies.length c2) c.echoes c.readies) (hs : Vt.Small c.readies) (hn : c.readies.length ≤ 900) (hd : c.done = false) :
    Calls Try.prog 32 #[.agg #[.bool c.echoed, .bool c.readied, .bool false, .slice a1 c.echoes.length c1, .slice a2 c.readies.length c2], .int .i64 (n : Int), .int .i64 3, .int .u8 (id : Nat), .string x] w
      (TakenPost B w (Vt.taken c n 3 id x)) := by
  have WV : Aside (∀ o o', Calls Try.prog 47 #[.slice a2 c.readies.length c2, .int .u8 (id : Nat), .string x] ((w.alloc o).alloc o') (WithPost B (.slice a2 c.readies.length c2) (Vt.withB c.readies id x) ((w.alloc o).alloc o'))) :=
    fun o o' => withVote_any B a2 c2 c.readies id x _ (by simp; omega) ((hT.2.1.alloc o).alloc o') hs hn
  have EC : Aside (∀ W, Calls Try.prog 52 #[.int .i64 (n : Int)] W fun e w' => e = .returned (.int .i64 (Cn.readies n : Nat)) ∧ w' = W) := fun W => readies_any n W
  have EN : Aside (∀ W, Calls Try.prog 51 #[.int .i64 (n : Int)] W fun e w' => e = .returned (.int .i64 (Cn.enough n : Nat)) ∧ w' = W) := fun W => enough_any n W
  have hs' : Aside (Vt.Small (Vt.withB c.readies id x) ∧ (Vt.withB c.readies id x).length ≤ 1000) := ⟨Vt.small_with hs id x, by have := Vt.len_with c.readies id x; omega⟩
  have TE : Vt.taken c n 3 id x = Vt.ready { c with readies := Vt.withB c.readies id x, done := (decide (Cn.enough n ≤ Vt.sizeB (Vt.withB c.readies id x) x)) } x (decide (Cn.readies n ≤ Vt.sizeB (Vt.withB c.readies id x) x)) := by
    show Vt.readyT c n id x = _
    unfold Vt.readyT
    rw [hd]; rfl
  have R : Aside (∀ en V s1 s2 a2' m2 c2' ao co, en = decide (Cn.readies n ≤ Vt.sizeB (Vt.withB c.readies id x) x) → Boxes w V B c.echoed c.readied (decide (Cn.enough n ≤ Vt.sizeB (Vt.withB c.readies id x) x)) s1 s2 → V.ownsRow B 94 2 (.slice a1 c.echoes.length c1) c.echoes.length (Vt.balC c.echoes) → V.ownsRow B 94 2 (.slice a2' m2 c2') (Vt.withB c.readies id x).length (Vt.balC (Vt.withB c.readies id x)) → AtO V ao (if c.readied || !en then [] else [(3, x)]) → (∀ ad, ao = some ad → w.heap.size + 1 < ad.block) →
      TakenPost B w (Vt.taken c n 3 id x) (.returned (.tuple #[.agg #[.bool c.echoed, .bool (c.readied || en), .bool (decide (Cn.enough n ≤ Vt.sizeB (Vt.withB c.readies id x) x)), .slice a1 c.echoes.length c1, .slice a2' m2 c2'], .slice ao (if c.readied || !en then [] else [(3, x)] : List (Nat × ByteArray)).length co]))
        (((((V.setCell ⟨w.heap.size + 1, 0, none⟩ (.bool c.echoed)).setCell ⟨w.heap.size + 1, 1, none⟩ (.bool (c.readied || en))).setCell ⟨w.heap.size + 1, 2, none⟩ (.bool (decide (Cn.enough n ≤ Vt.sizeB (Vt.withB c.readies id x) x)))).setCell ⟨w.heap.size + 1, 3, none⟩ (.slice a1 c.echoes.length c1)).setCell ⟨w.heap.size + 1, 4, none⟩ (.slice a2' m2 c2'))) := by
    intro en V s1 s2 a2' m2 c2' ao co he hX o1 o2 ho hf
    rw [TE, ← he]
    exact taken_end (c := { c with readies := Vt.withB c.readies id x, done := (decide (Cn.enough n ≤ Vt.sizeB (Vt.withB c.readies id x) x)), readied := c.readied || en }) hB hX o1 o2 ho hf
  generalize TakenPost B w (Vt.taken c n 3 id x) = Q at R ⊢
  have X0 : Aside (Boxes w _ B c.echoed c.readied false (.slice a1 c.echoes.length c1) (.slice a2 c.readies.length c2)) := boxes_new w B hB c.echoed c.readied false (.slice a1 c.echoes.length c1) (.slice a2 c.readies.length c2)
  have T0 : Aside (Two B w (.slice a2 c.readies.length c2) (.slice a1 c.echoes.length c1) c.readies c.echoes ∧ B ≤ w.heap.size) := ⟨hT.swap, hB⟩
  clear hT hs hn TE hd
  generalize c.echoed = e at *
  generalize c.readied = r at *
  generalize hsz : Vt.sizeB (Vt.withB c.readies id x) x = sz at R
  generalize Cn.readies n = eN at *
  generalize Cn.enough n = nN at *
  go_enter Try.func32, Try.ntmps32
  go_wp2_with fail
  refine (WV.out _ _).mono ?_
  rintro z w1 ⟨a', m', c', rfl, o1, hm, hg⟩
  have Y1 : Aside (Boxes w w1 B e r false _ _ ∧ w1.ownsRow B 94 2 (.slice a' m' c') (Vt.withB c.readies id x).length (Vt.balC (Vt.withB c.readies id x)) ∧ w1.ownsRow B 94 2 (.slice a1 c.echoes.length c1) c.echoes.length (Vt.balC c.echoes)) :=
    ⟨boxes_with X0.out T0.out.1.1 hg (by simp; have := T0.out.2; omega), o1, At.grown ((T0.out.1.2.1.alloc _).alloc _) hg T0.out.1.2.2⟩
  obtain ⟨y0, y1, y2, y3, y4⟩ := Y1.out.1.box.cells
  have yf := Y1.out.1.box.frozen
  obtain ⟨V, hV⟩ : ∃ V, V = w1.setCell ⟨w.heap.size, 4, none⟩ (.slice a' m' c') := ⟨_, rfl⟩
  have Y2 : Aside (Boxes w V B e r false (.slice a1 c.echoes.length c1) (.slice a' m' c') ∧ V.ownsRow B 94 2 (.slice a' m' c') (Vt.withB c.readies id x).length (Vt.balC (Vt.withB c.readies id x)) ∧ V.ownsRow B 94 2 (.slice a1 c.echoes.length c1) c.echoes.length (Vt.balC c.echoes) ∧ B ≤ V.heap.size) := by
    have q := boxes_set4 Y1.out.1 T0.out.2 (.slice a' m' c')
    rw [hV]
    exact ⟨q, own_far Y1.out.2.1 (own_ne5 Y1.out.2.1 Y1.out.1.box) _, own_far Y1.out.2.2 (own_ne5 Y1.out.2.2 Y1.out.1.box) _, by have := q.size; have := T0.out.2; omega⟩
  have VO : Aside (∀ W, Below V.heap.size V W → Calls Try.prog 49 #[.slice a' m' c', .string x] W fun e w' => e = .returned (.int .i64 (sz : Int)) ∧ Below W.heap.size W w') := by
    intro W hb
    obtain ⟨q1, q2⟩ := own_atv Y2.out.2.1
    have := votes_any a' c' (Vt.withB c.readies id x) x W (q2.later hb) hs'.out.1 hs'.out.2
    rw [q1, hsz] at this
    exact this
  clear WV X0 hg o1 hm hsz hs'
  generalize Vt.balC (Vt.withB c.readies id x) = xs1 at *
  generalize (Vt.withB c.readies id x).length = k1 at *
  generalize Vt.balC c.echoes = xs2 at *
  generalize c.echoes.length = k2 at *
  have RD : Aside (∀ d en W, _) := fun (d en : Bool) (W : World) => readied_let e r d a1 a' k2 m' c1 c' x en W
  have hE : w1.cell? ⟨w.heap.size, 4, none⟩ = some (.slice a2 c.readies.length c2) := y4
  go_wp2_with fail
  rw [← hV]
  refine (VO.out V (Below.refl _ V)).mono ?_
  rintro z w2 ⟨rfl, b2⟩
  clear hV y0 y1 y2 y3 y4 yf Y1 hE VO
  have Y3 : Aside (Boxes w w2 B e r false (.slice a1 k2 c1) (.slice a' m' c') ∧ w2.ownsRow B 94 2 (.slice a' m' c') k1 xs1 ∧ w2.ownsRow B 94 2 (.slice a1 k2 c1) k2 xs2 ∧ B ≤ w2.heap.size) := ⟨Boxes.later Y2.out.1 b2 Y2.out.2.2.2, own_later Y2.out.2.1 b2, own_later Y2.out.2.2.1 b2, Nat.le_trans Y2.out.2.2.2 b2.size⟩
  clear b2 Y2
  obtain ⟨y0, y1, y2, y3, y4⟩ := Y3.out.1.box.cells
  have yf := Y3.out.1.box.frozen
  obtain ⟨V3, hV⟩ : ∃ V3, V3 = w2.setCell ⟨w.heap.size, 2, none⟩ (.bool (decide (nN ≤ sz))) := ⟨_, rfl⟩
  have Y4 : Aside (Boxes w V3 B e r (decide (nN ≤ sz)) (.slice a1 k2 c1) (.slice a' m' c') ∧ V3.ownsRow B 94 2 (.slice a' m' c') k1 xs1 ∧ V3.ownsRow B 94 2 (.slice a1 k2 c1) k2 xs2 ∧ B ≤ V3.heap.size) := by
    have q := boxes_set2 Y3.out.1 T0.out.2 (decide (nN ≤ sz))
    rw [hV]
    exact ⟨q, own_far Y3.out.2.1 (own_ne5 Y3.out.2.1 Y3.out.1.box) _, own_far Y3.out.2.2.1 (own_ne5 Y3.out.2.2.1 Y3.out.1.box) _, by have := q.size; have := T0.out.2; omega⟩
  go_wp2_with fail
  refine (EN.out w2).mono ?_
  rintro z w3 ⟨rfl, hw3⟩
  replace hw3 := hw3.symm; subst hw3
  go_wp2_with fail
  rw [← hV]
  clear hV y0 y1 y2 y3 y4 yf Y3 EN
  generalize (decide (nN ≤ sz)) = dq at *
  obtain ⟨y0, y1, y2, y3, y4⟩ := Y4.out.1.box.cells
  go_region_held3 (fun w' => w'.cell? ⟨w.heap.size, 0, none⟩ = some (.bool e) ∧ w'.cell? ⟨w.heap.size, 1, none⟩ = some (.bool r) ∧ w'.cell? ⟨w.heap.size, 2, none⟩ = some (.bool dq) ∧ w'.cell? ⟨w.heap.size, 3, none⟩ = some (.slice a1 k2 c1) ∧ w'.cell? ⟨w.heap.size, 4, none⟩ = some (.slice a' m' c'))
    (first | go_keep)
    (first
      | (go_at_call 52; refine (EC.out V3.drew).mono ?_; rintro z w3 ⟨rfl, hw3⟩; replace hw3 := hw3.symm; subst hw3)
      | (go_at_call 48; refine (RD.out dq _ V3.drew).mono ?_; rintro z w4 ⟨r', ao, k3, co, rfl, hA⟩; have Y5 : Aside (Boxes w w4 B e r dq (.slice a1 k2 c1) (.slice a' m' c') ∧ w4.ownsRow B 94 2 (.slice a' m' c') k1 xs1 ∧ w4.ownsRow B 94 2 (.slice a1 k2 c1) k2 xs2 ∧ AtO w4 ao _ ∧ ∀ ad, ao = some ad → w.heap.size + 1 < ad.block) := ⟨Boxes.later Y4.out.1.drew hA.out.2.2.2.2 Y4.out.2.2.2, own_later (w := V3.drew) Y4.out.2.1 hA.out.2.2.2.2, own_later (w := V3.drew) Y4.out.2.2.1 hA.out.2.2.2.2, hA.out.2.2.1, fun ad h => Nat.lt_of_lt_of_le Y4.out.1.size (hA.out.2.2.2.1 ad h)⟩; obtain ⟨g0, g1, g2, g3, g4⟩ := Y5.out.1.box.cells; obtain ⟨z0, z1, z2, z3, z4⟩ := Y5.out.1.res.cells; have zf := Y5.out.1.res.frozen)
      | fail)
  have Q1 := R.out (decide (eN ≤ sz)) w4 _ _ a' m' c' ao co rfl Y5.out.1 Y5.out.2.2.1 Y5.out.2.1 Y5.out.2.2.2.1 Y5.out.2.2.2.2
  rw [← hA.out.1, ← hA.out.2.1] at Q1
  have hD : Aside (C5 _ _ _ _ _ _ _) := C5.set Y5.out.1.res (.bool e) (.bool r') (.bool dq) (.slice a1 k2 c1) (.slice a' m' c')
  have Q2 : Aside (Q _ _) := Q1
  clear R Q1 EC RD Y4 Y5 T0 hA
  go_wp2
  refine ⟨rfl, _, ?_, Q2.out⟩
  obtain ⟨d0, d1, d2, d3, d4⟩ := hD.out.cells
  simp [results, Try.results32, go_sem, d0, d1, d2, d3, d4]

theorem taken_any (B : Nat) (c : Vt.Cs) (a1 a2 : Option Addr) (c1 c2 n : Nat) (kind : Int) (id : Nat) (x : ByteArray) (w : World) (hk : kind = 1 ∨ kind = 2 ∨ kind = 3) (hB : B ≤ w.heap.size) (hT : Two B w (.slice a1 c.echoes.length c1) (.slice a2 c.readies.length c2) c.echoes c.readies) (hs : c.Small) (n1 : c.echoes.length ≤ 900) (n2 : c.readies.length ≤ 900) :
    Calls Try.prog 32 #[.agg #[.bool c.echoed, .bool c.readied, .bool c.done, .slice a1 c.echoes.length c1, .slice a2 c.readies.length c2], .int .i64 (n : Int), .int .i64 kind, .int .u8 (id : Nat), .string x] w
      (TakenPost B w (Vt.taken c n kind id x)) := by
  rcases hk with rfl | rfl | rfl
  · exact taken_send B c a1 a2 c1 c2 n id x w hB hT
  · exact taken_echo B c a1 a2 c1 c2 n id x w hB hT hs.1 n1
  · cases hd : c.done with
    | true => exact taken_ready_t B c a1 a2 c1 c2 n id x w hB hT hs.2 n2 hd
    | false => exact taken_ready_f B c a1 a2 c1 c2 n id x w hB hT hs.2 n2 hd
end Go.Proofs.Ytmhjmeedoajkjaa
