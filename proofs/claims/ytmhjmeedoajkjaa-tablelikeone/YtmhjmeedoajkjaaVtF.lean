/- What comes of a vote that may be taken. -/
import Derived.Test.YtmhjmeedoajkjaaVtE
namespace Go.Proofs.Ytmhjmeedoajkjaa
open Go.RowKit Go.Shelf

/-- From a block on. -/
def Fr (B : Nat) (a : Option Addr) : Prop := ∀ ad, a = some ad → B ≤ ad.block
theorem own_fr {w : World} {B n m c : Nat} {a : Option Addr} {xs : List Value} (h : w.ownsRow B 94 2 (.slice a n c) m xs) : Fr B a := fun ad e => by subst e; exact (h.lt _ rfl).1

/-- What taken answers. -/
def TakenPost (B : Nat) (w : World) (r : Vt.Cs × List (Nat × ByteArray)) (z : Ending) (w' : World) : Prop :=
  ∃ a1 c1 a2 c2 ao co, z = .returned (.tuple #[.agg #[.bool r.1.echoed, .bool r.1.readied, .bool r.1.done, .slice a1 r.1.echoes.length c1, .slice a2 r.1.readies.length c2], .slice ao r.2.length co]) ∧
    Vt.At w' a1 r.1.echoes ∧ Vt.At w' a2 r.1.readies ∧ AtO w' ao r.2 ∧ Below B w w' ∧ Fr B a1 ∧ Fr B a2 ∧ Fr B ao

theorem own_atv {w : World} {B n c : Nat} {a : Option Addr} {l : Vt.Bal} (h : w.ownsRow B 94 2 (.slice a n c) l.length (Vt.balC l)) : l.length = n ∧ Vt.At w a l := by
  obtain ⟨a', c', e, hl, hat⟩ := Vt.own_at h
  have := Value.slice.inj e
  rw [this.1]
  exact ⟨this.2.1.symm, hat⟩

set_option maxHeartbeats 4000000 in
set_option maxRecDepth 100000 in
theorem taken_send (B : Nat) (c : Vt.Cs) (a1 a2 : Option Addr) (c1 c2 n : Nat) (id : Nat) (x : ByteArray) (w : World) (hB : B ≤ w.heap.size) (hT : Two B w (.slice a1 c.echoes.length c1) (.slice a2 c.readies.length c2) c.echoes c.readies) :
    Calls Try.prog 32 #[.agg #[.bool c.echoed, .bool c.readied, .bool c.done, .slice a1 c.echoes.length c1, .slice a2 c.readies.length c2], .int .i64 (n : Int), .int .i64 1, .int .u8 (id : Nat), .string x] w
      (TakenPost B w (Vt.taken c n 1 id x)) := by
  have h1 := (own_atv hT.1).2
  have h2 := (own_atv hT.2.1).2
  have f1 := own_fr hT.1
  have f2 := own_fr hT.2.1
  have B0 : Aside (∀ o o' o'', Below w.heap.size w (((w.alloc o).alloc o').alloc o'')) := fun o o' o'' => (((Below.refl _ w).alloc (Nat.le_refl _) o).alloc (by simp) o').alloc (by simp; omega) o''
  have R : Aside (∀ w' ao co, AtO w' ao [(2, x)] → Fr w.heap.size ao → Below w.heap.size w w' → TakenPost B w (Vt.taken c n 1 id x) (.returned (.tuple #[.agg #[.bool true, .bool c.readied, .bool c.done, .slice a1 c.echoes.length c1, .slice a2 c.readies.length c2], .slice ao 1 co])) w') :=
    fun w' ao co ha hf hb => ⟨a1, c1, a2, c2, ao, co, rfl, h1.later hb, h2.later hb, ha, hb.mono hB, f1, f2, fun ad e => Nat.le_trans hB (hf ad e)⟩
  generalize TakenPost B w (Vt.taken c n 1 id x) = Q at R ⊢
  generalize c.echoed = e at *
  generalize c.readied = r at *
  generalize c.done = d at *
  generalize c.echoes.length = m1 at *
  generalize c.readies.length = m2 at *
  clear h1 h2 hT f1 f2
  go_enter Try.func32, Try.ntmps32
  go_wp2
  refine ⟨rfl, _, ?_, R.out _ (some ⟨w.heap.size + 2, 0, none⟩) 1 ?_ (fun ad h => by obtain rfl := Option.some.inj h; exact Nat.le_add_right _ _) (B0.out _ _ _)⟩
  · simp [results, Try.results32, go_sem]
  · have := atO_one ((w.alloc (.cells #[.bool true, .bool r, .bool d, .slice a1 m1 c1, .slice a2 m2 c2] 48)).alloc (.cells #[.bool true, .bool r, .bool d, .slice a1 m1 c1, .slice a2 m2 c2] 48)) 2 x
    simpa using this

/-- A case in a box, a box for the answer, behind them what withVote left. -/
structure Boxes (w V : World) (B : Nat) (e r d : Bool) (s1 s2 : Value) : Prop where
  box : C5 V w.heap.size (.bool e) (.bool r) (.bool d) s1 s2
  res : C5 V (w.heap.size + 1) (.bool false) (.bool false) (.bool false) (.slice none 0 0) (.slice none 0 0)
  below : Below B w V
theorem Boxes.later {w V V' : World} {B : Nat} {e r d : Bool} {s1 s2 : Value} (h : Boxes w V B e r d s1 s2) (hb : Below V.heap.size V V') (hB : B ≤ V.heap.size) : Boxes w V' B e r d s1 s2 :=
  ⟨h.box.later hb, h.res.later hb, h.below.trans (hb.mono hB)⟩
theorem Boxes.drew {w V : World} {B : Nat} {e r d : Bool} {s1 s2 : Value} (h : Boxes w V B e r d s1 s2) : Boxes w V.drew B e r d s1 s2 := ⟨h.box, h.res, h.below.drew⟩
theorem Boxes.size {w V : World} {B : Nat} {e r d : Bool} {s1 s2 : Value} (h : Boxes w V B e r d s1 s2) : w.heap.size + 1 < V.heap.size := h.res.lt

theorem boxes_new (w : World) (B : Nat) (hB : B ≤ w.heap.size) (e r d : Bool) (s1 s2 : Value) :
    Boxes w ((w.alloc (.cells #[.bool e, .bool r, .bool d, s1, s2] 48)).alloc (.cells #[.bool false, .bool false, .bool false, .slice none 0 0, .slice none 0 0] 48)) B e r d s1 s2 := by
  refine ⟨(C5.new w _ _ _ _ _).alloc _, ?_, ((Below.refl _ w).alloc hB _).alloc (by simp; omega) _⟩
  have := C5.new (w.alloc (.cells #[.bool e, .bool r, .bool d, s1, s2] 48)) (.bool false) (.bool false) (.bool false) (.slice none 0 0) (.slice none 0 0)
  rwa [World.size_alloc] at this
/-- Behind withVote's call, and the store of its answer. -/
theorem boxes_with {w V V' : World} {B m : Nat} {e r d : Bool} {s1 s2 : Value} {a : Option Addr} {c n : Nat} {xs : List Value} (h : Boxes w V B e r d s1 s2) (ho : w.ownsRow B 94 2 (.slice a n c) m xs) (hg : V.grownBy V' (Value.slice a n c).ownBlock) (hB : B ≤ V.heap.size) : Boxes w V' B e r d s1 s2 := by
  have hlt := h.size
  have ne : ∀ k, w.heap.size ≤ k → some k ≠ (Value.slice a n c).ownBlock := fun k hk e => by have := (ho.lt k e.symm).2; omega
  exact ⟨(hg.block _ h.box.lt (ne _ (Nat.le_refl _))).trans h.box, (hg.block _ h.res.lt (ne _ (by omega))).trans h.res, h.below.grown hg hB fun k hk => (ho.lt k hk).1⟩

theorem At.grown {w w' : World} {a : Option Addr} {l : Vt.Bal} {v : Value} {B c n : Nat} (h : w.ownsRow B 94 2 (.slice a n c) l.length (Vt.balC l)) (hg : w.grownBy w' v.ownBlock) (hne : v.ownBlock = none ∨ v.ownBlock ≠ (Value.slice a n c).ownBlock) : w'.ownsRow B 94 2 (.slice a n c) l.length (Vt.balC l) := by
  refine h.kept hg ?_
  cases e : (Value.slice a n c).ownBlock with
  | none => exact .inl rfl
  | some k =>
    refine .inr fun e2 => ?_
    rcases hne with h3 | h3
    · rw [h3] at e2; cases e2
    · exact h3 (e2.symm.trans e.symm)

theorem boxes_set {w V : World} {B : Nat} {e r d : Bool} {s1 s2 : Value} (h : Boxes w V B e r d s1 s2) (hB : B ≤ w.heap.size) (u : Value) : Boxes w (V.setCell ⟨w.heap.size, 3, none⟩ u) B e r d u s2 :=
  ⟨row_set h.box u, h.res.far (by omega) u, h.below.setCell (p := ⟨w.heap.size, 3, none⟩) hB u⟩
theorem boxes_set4 {w V : World} {B : Nat} {e r d : Bool} {s1 s2 : Value} (h : Boxes w V B e r d s1 s2) (hB : B ≤ w.heap.size) (u : Value) : Boxes w (V.setCell ⟨w.heap.size, 4, none⟩ u) B e r d s1 u :=
  ⟨row_set h.box u, h.res.far (by omega) u, h.below.setCell (p := ⟨w.heap.size, 4, none⟩) hB u⟩
theorem boxes_set2 {w V : World} {B : Nat} {e r d : Bool} {s1 s2 : Value} (h : Boxes w V B e r d s1 s2) (hB : B ≤ w.heap.size) (u : Bool) : Boxes w (V.setCell ⟨w.heap.size, 2, none⟩ (.bool u)) B e r u s1 s2 :=
  ⟨row_set h.box _, h.res.far (by omega) _, h.below.setCell (p := ⟨w.heap.size, 2, none⟩) hB _⟩
/-- The answer stored. -/
theorem at_set5 {V : World} {a : Option Addr} {l : Vt.Bal} {b : Nat} (h : Vt.At V a l) (hl : ∀ ad, a = some ad → ad.block ≠ b ∨ l = []) (u0 u1 u2 u3 u4 : Value) :
    Vt.At (((((V.setCell ⟨b, 0, none⟩ u0).setCell ⟨b, 1, none⟩ u1).setCell ⟨b, 2, none⟩ u2).setCell ⟨b, 3, none⟩ u3).setCell ⟨b, 4, none⟩ u4) a l := by
  rcases h with rfl | ⟨g, off, rfl, hc⟩
  · exact .inl rfl
  · rcases hl _ rfl with hne | hne
    · refine .inr ⟨g, off, rfl, fun j u hu => ?_⟩
      have e : ∀ (W : World) (i : Nat) (v : Value), (W.setCell ⟨b, i, none⟩ v).cell? ⟨g, off + j, none⟩ = W.cell? ⟨g, off + j, none⟩ := fun W i v => World.cell?_of_block (Below.heap_setCell _ _ _ _ hne)
      rw [e, e, e, e, e]
      exact hc j u hu
    · exact .inl hne
theorem atO_set5 {V : World} {a : Option Addr} {l : List (Nat × ByteArray)} {b : Nat} (h : AtO V a l) (hl : ∀ ad, a = some ad → ad.block ≠ b ∨ l = []) (u0 u1 u2 u3 u4 : Value) :
    AtO (((((V.setCell ⟨b, 0, none⟩ u0).setCell ⟨b, 1, none⟩ u1).setCell ⟨b, 2, none⟩ u2).setCell ⟨b, 3, none⟩ u3).setCell ⟨b, 4, none⟩ u4) a l := by
  rcases h with rfl | ⟨g, off, rfl, hc⟩
  · exact .inl rfl
  · rcases hl _ rfl with hne | hne
    · refine .inr ⟨g, off, rfl, fun j k x hx => ?_⟩
      have e : ∀ (W : World) (i o : Nat) (v : Value), (W.setCell ⟨b, i, none⟩ v).cell? ⟨g, o, none⟩ = W.cell? ⟨g, o, none⟩ := fun W i o v => World.cell?_of_block (Below.heap_setCell _ _ _ _ hne)
      rw [e, e, e, e, e, e, e, e, e, e]
      exact hc j k x hx
    · exact .inl hne
theorem own_ne5 {w : World} {B n c m b : Nat} {a : Option Addr} {xs : List Value} {v0 v1 v2 v3 v4 : Value} (h : w.ownsRow B 94 2 (.slice a n c) m xs) (h5 : C5 w b v0 v1 v2 v3 v4) : (Value.slice a n c).ownBlock ≠ some b := by
  rcases h.2 with ⟨e, _⟩ | ⟨g, cap, cur, e, _, hg, _⟩
  · rw [e]; simp [Value.ownBlock]
  · rw [e]
    intro e2
    simp [Value.ownBlock] at e2
    subst e2
    unfold C5 at h5
    rw [hg] at h5
    have := Option.some.inj h5
    simp at this

/-- The end of taken: the answer in its box. -/
theorem taken_end {w V : World} {B : Nat} {e r d : Bool} {s1 s2 : Value} {c : Vt.Cs} {outs : List (Nat × ByteArray)} {a1 a2 ao : Option Addr} {m1 m2 c1 c2 co : Nat} (hB : B ≤ w.heap.size) (hX : Boxes w V B e r d s1 s2)
    (o1 : V.ownsRow B 94 2 (.slice a1 m1 c1) c.echoes.length (Vt.balC c.echoes)) (o2 : V.ownsRow B 94 2 (.slice a2 m2 c2) c.readies.length (Vt.balC c.readies)) (ho : AtO V ao outs) (hf : ∀ ad, ao = some ad → w.heap.size + 1 < ad.block) :
    TakenPost B w (c, outs) (.returned (.tuple #[.agg #[.bool c.echoed, .bool c.readied, .bool c.done, .slice a1 m1 c1, .slice a2 m2 c2], .slice ao outs.length co]))
      (((((V.setCell ⟨w.heap.size + 1, 0, none⟩ (.bool c.echoed)).setCell ⟨w.heap.size + 1, 1, none⟩ (.bool c.readied)).setCell ⟨w.heap.size + 1, 2, none⟩ (.bool c.done)).setCell ⟨w.heap.size + 1, 3, none⟩ (.slice a1 m1 c1)).setCell ⟨w.heap.size + 1, 4, none⟩ (.slice a2 m2 c2)) := by
  obtain ⟨l1, t1⟩ := own_atv (own_far5 o1 (own_ne5 o1 hX.res) (.bool c.echoed) (.bool c.readied) (.bool c.done) (.slice a1 m1 c1) (.slice a2 m2 c2))
  obtain ⟨l2, t2⟩ := own_atv (own_far5 o2 (own_ne5 o2 hX.res) (.bool c.echoed) (.bool c.readied) (.bool c.done) (.slice a1 m1 c1) (.slice a2 m2 c2))
  refine ⟨a1, c1, a2, c2, ao, co, ?_, t1, t2, atO_set5 ho (fun ad h => .inl (by have := hf ad h; omega)) _ _ _ _ _, below_set5 hX.below (by omega) _ _ _ _ _, own_fr o1, own_fr o2, fun ad h => by have := hf ad h; omega⟩
  rw [l1, l2]

/-- readied, its answer under letters. -/
theorem readied_let (e r d : Bool) (a1 a2 : Option Addr) (m1 m2 c1 c2 : Nat) (x : ByteArray) (en : Bool) (w : World) :
    Calls Try.prog 48 #[.agg #[.bool e, .bool r, .bool d, .slice a1 m1 c1, .slice a2 m2 c2], .string x, .bool en] w fun z w' =>
      ∃ r' ao k co, z = .returned (.tuple #[.agg #[.bool e, .bool r', .bool d, .slice a1 m1 c1, .slice a2 m2 c2], .slice ao k co]) ∧
        Aside (r' = (r || en) ∧ k = (if r || !en then [] else [(3, x)] : List (Nat × ByteArray)).length ∧ AtO w' ao (if r || !en then [] else [(3, x)]) ∧ (∀ ad, ao = some ad → w.heap.size ≤ ad.block) ∧ Below w.heap.size w w') :=
  (readied_any e r d a1 a2 m1 m2 c1 c2 x en w).mono fun _ _ ⟨ao, co, h0, h1, h2, h3⟩ => ⟨_, ao, _, co, h0, rfl, rfl, h1, h2, h3⟩

set_option maxHeartbeats 8000000 in
set_option maxRecDepth 100000 in
theorem taken_echo (B : Nat) (c : Vt.Cs) (a1 a2 : Option Addr) (c1 c2 n : Nat) (id : Nat) (x : ByteArray) (w : World) (hB : B ≤ w.heap.size) (hT : Two B w (.slice a1 c.echoes.length c1) (.slice a2 c.readies.length c2) c.echoes c.readies) (hs : Vt.Small c.echoes) (hn : c.echoes.length ≤ 900) :
    Calls Try.prog 32 #[.agg #[.bool c.echoed, .bool c.readied, .bool c.done, .slice a1 c.echoes.length c1, .slice a2 c.readies.length c2], .int .i64 (n : Int), .int .i64 2, .int .u8 (id : Nat), .string x] w
      (TakenPost B w (Vt.taken c n 2 id x)) := by
  have WV : Aside (∀ o o', Calls Try.prog 47 #[.slice a1 c.echoes.length c1, .int .u8 (id : Nat), .string x] ((w.alloc o).alloc o') (WithPost B (.slice a1 c.echoes.length c1) (Vt.withB c.echoes id x) ((w.alloc o).alloc o'))) :=
    fun o o' => withVote_any B a1 c1 c.echoes id x _ (by simp; omega) ((hT.1.alloc o).alloc o') hs hn
  have EC : Aside (∀ W, Calls Try.prog 50 #[.int .i64 (n : Int)] W fun e w' => e = .returned (.int .i64 (Cn.echoes n : Nat)) ∧ w' = W) := fun W => echoes_any n W
  have hs' : Aside (Vt.Small (Vt.withB c.echoes id x) ∧ (Vt.withB c.echoes id x).length ≤ 1000) := ⟨Vt.small_with hs id x, by have := Vt.len_with c.echoes id x; omega⟩
  have TE : Vt.taken c n 2 id x = Vt.ready { c with echoes := Vt.withB c.echoes id x } x (decide (Cn.echoes n ≤ Vt.sizeB (Vt.withB c.echoes id x) x)) := rfl
  have R : Aside (∀ en V s1 s2 a1' m1 c1' ao co, en = decide (Cn.echoes n ≤ Vt.sizeB (Vt.withB c.echoes id x) x) → Boxes w V B c.echoed c.readied c.done s1 s2 → V.ownsRow B 94 2 (.slice a1' m1 c1') (Vt.withB c.echoes id x).length (Vt.balC (Vt.withB c.echoes id x)) → V.ownsRow B 94 2 (.slice a2 c.readies.length c2) c.readies.length (Vt.balC c.readies) → AtO V ao (if c.readied || !en then [] else [(3, x)]) → (∀ ad, ao = some ad → w.heap.size + 1 < ad.block) →
      TakenPost B w (Vt.taken c n 2 id x) (.returned (.tuple #[.agg #[.bool c.echoed, .bool (c.readied || en), .bool c.done, .slice a1' m1 c1', .slice a2 c.readies.length c2], .slice ao (if c.readied || !en then [] else [(3, x)] : List (Nat × ByteArray)).length co]))
        (((((V.setCell ⟨w.heap.size + 1, 0, none⟩ (.bool c.echoed)).setCell ⟨w.heap.size + 1, 1, none⟩ (.bool (c.readied || en))).setCell ⟨w.heap.size + 1, 2, none⟩ (.bool c.done)).setCell ⟨w.heap.size + 1, 3, none⟩ (.slice a1' m1 c1')).setCell ⟨w.heap.size + 1, 4, none⟩ (.slice a2 c.readies.length c2))) := by
    intro en V s1 s2 a1' m1 c1' ao co he hX o1 o2 ho hf
    rw [TE, ← he]
    exact taken_end (c := { c with echoes := Vt.withB c.echoes id x, readied := c.readied || en }) hB hX o1 o2 ho hf
  generalize TakenPost B w (Vt.taken c n 2 id x) = Q at R ⊢
  have X0 : Aside (Boxes w _ B c.echoed c.readied c.done (.slice a1 c.echoes.length c1) (.slice a2 c.readies.length c2)) := boxes_new w B hB c.echoed c.readied c.done (.slice a1 c.echoes.length c1) (.slice a2 c.readies.length c2)
  have T0 : Aside (Two B w (.slice a1 c.echoes.length c1) (.slice a2 c.readies.length c2) c.echoes c.readies ∧ B ≤ w.heap.size) := ⟨hT, hB⟩
  clear hT hs hn TE
  generalize c.echoed = e at *
  generalize c.readied = r at *
  generalize c.done = d at *
  generalize hsz : Vt.sizeB (Vt.withB c.echoes id x) x = sz at R
  generalize Cn.echoes n = eN at *
  go_enter Try.func32, Try.ntmps32
  go_wp2_with fail
  refine (WV.out _ _).mono ?_
  rintro z w1 ⟨a', m', c', rfl, o1, hm, hg⟩
  have Y1 : Aside (Boxes w w1 B e r d _ _ ∧ w1.ownsRow B 94 2 (.slice a' m' c') (Vt.withB c.echoes id x).length (Vt.balC (Vt.withB c.echoes id x)) ∧ w1.ownsRow B 94 2 (.slice a2 c.readies.length c2) c.readies.length (Vt.balC c.readies)) :=
    ⟨boxes_with X0.out T0.out.1.1 hg (by simp; have := T0.out.2; omega), o1, At.grown ((T0.out.1.2.1.alloc _).alloc _) hg T0.out.1.2.2⟩
  obtain ⟨y0, y1, y2, y3, y4⟩ := Y1.out.1.box.cells
  have yf := Y1.out.1.box.frozen
  obtain ⟨V, hV⟩ : ∃ V, V = w1.setCell ⟨w.heap.size, 3, none⟩ (.slice a' m' c') := ⟨_, rfl⟩
  have Y2 : Aside (Boxes w V B e r d (.slice a' m' c') (.slice a2 c.readies.length c2) ∧ V.ownsRow B 94 2 (.slice a' m' c') (Vt.withB c.echoes id x).length (Vt.balC (Vt.withB c.echoes id x)) ∧ V.ownsRow B 94 2 (.slice a2 c.readies.length c2) c.readies.length (Vt.balC c.readies) ∧ B ≤ V.heap.size) := by
    have q := boxes_set Y1.out.1 T0.out.2 (.slice a' m' c')
    rw [hV]
    exact ⟨q, own_far Y1.out.2.1 (own_ne5 Y1.out.2.1 Y1.out.1.box) _, own_far Y1.out.2.2 (own_ne5 Y1.out.2.2 Y1.out.1.box) _, by have := q.size; have := T0.out.2; omega⟩
  have VO : Aside (∀ W, Below V.heap.size V W → Calls Try.prog 49 #[.slice a' m' c', .string x] W fun e w' => e = .returned (.int .i64 (sz : Int)) ∧ Below W.heap.size W w') := by
    intro W hb
    obtain ⟨q1, q2⟩ := own_atv Y2.out.2.1
    have := votes_any a' c' (Vt.withB c.echoes id x) x W (q2.later hb) hs'.out.1 hs'.out.2
    rw [q1, hsz] at this
    exact this
  clear WV X0 hg o1 hm hsz hs'
  generalize Vt.balC (Vt.withB c.echoes id x) = xs1 at *
  generalize (Vt.withB c.echoes id x).length = k1 at *
  generalize Vt.balC c.readies = xs2 at *
  generalize c.readies.length = k2 at *
  have RD : Aside (∀ en W, _) := fun (en : Bool) (W : World) => readied_let e r d a' a2 m' k2 c' c2 x en W
  go_wp2_with fail
  rw [← hV]
  clear hV y0 y1 y2 y3 y4 yf Y1
  obtain ⟨y0, y1, y2, y3, y4⟩ := Y2.out.1.box.cells
  go_region_held3 (fun w' => w'.cell? ⟨w.heap.size, 0, none⟩ = some (.bool e) ∧ w'.cell? ⟨w.heap.size, 1, none⟩ = some (.bool r) ∧ w'.cell? ⟨w.heap.size, 2, none⟩ = some (.bool d) ∧ w'.cell? ⟨w.heap.size, 3, none⟩ = some (.slice a' m' c') ∧ w'.cell? ⟨w.heap.size, 4, none⟩ = some (.slice a2 k2 c2))
    (first | go_keep)
    (first
      | (go_at_call 49; refine (VO.out V.drew (Below.refl _ V).drew).mono ?_; rintro z w2 ⟨rfl, b2⟩; have Y3 : Aside (Boxes w w2 B e r d (.slice a' m' c') (.slice a2 k2 c2) ∧ w2.ownsRow B 94 2 (.slice a' m' c') k1 xs1 ∧ w2.ownsRow B 94 2 (.slice a2 k2 c2) k2 xs2 ∧ B ≤ w2.heap.size) := ⟨Boxes.later Y2.out.1.drew b2 Y2.out.2.2.2, own_later (w := V.drew) Y2.out.2.1 b2, own_later (w := V.drew) Y2.out.2.2.1 b2, Nat.le_trans Y2.out.2.2.2 b2.size⟩; obtain ⟨p0, p1, p2, p3, p4⟩ := Y3.out.1.box.cells; clear b2)
      | (go_at_call 50; refine (EC.out w2).mono ?_; rintro z w3 ⟨rfl, hw3⟩; replace hw3 := hw3.symm; subst hw3)
      | (go_at_call 48; refine (RD.out _ w2).mono ?_; rintro z w4 ⟨r', ao, k3, co, rfl, hA⟩; have Y4 : Aside (Boxes w w4 B e r d (.slice a' m' c') (.slice a2 k2 c2) ∧ w4.ownsRow B 94 2 (.slice a' m' c') k1 xs1 ∧ w4.ownsRow B 94 2 (.slice a2 k2 c2) k2 xs2 ∧ AtO w4 ao _ ∧ ∀ ad, ao = some ad → w.heap.size + 1 < ad.block) := ⟨Boxes.later Y3.out.1 hA.out.2.2.2.2 Y3.out.2.2.2, own_later Y3.out.2.1 hA.out.2.2.2.2, own_later Y3.out.2.2.1 hA.out.2.2.2.2, hA.out.2.2.1, fun ad h => Nat.lt_of_lt_of_le Y3.out.1.size (hA.out.2.2.2.1 ad h)⟩; obtain ⟨g0, g1, g2, g3, g4⟩ := Y4.out.1.box.cells; obtain ⟨z0, z1, z2, z3, z4⟩ := Y4.out.1.res.cells; have zf := Y4.out.1.res.frozen)
      | fail)
  have Q1 := R.out (decide (eN ≤ sz)) w4 _ _ a' m' c' ao co rfl Y4.out.1 Y4.out.2.1 Y4.out.2.2.1 Y4.out.2.2.2.1 Y4.out.2.2.2.2
  rw [← hA.out.1, ← hA.out.2.1] at Q1
  have hD : Aside (C5 _ _ _ _ _ _ _) := C5.set Y4.out.1.res (.bool e) (.bool r') (.bool d) (.slice a' m' c') (.slice a2 k2 c2)
  have Q2 : Aside (Q _ _) := Q1
  clear R Q1 VO EC RD Y2 Y3 Y4 T0 hA
  go_wp2
  refine ⟨rfl, _, ?_, Q2.out⟩
  obtain ⟨d0, d1, d2, d3, d4⟩ := hD.out.cells
  simp [results, Try.results32, go_sem, d0, d1, d2, d3, d4]
end Go.Proofs.Ytmhjmeedoajkjaa
