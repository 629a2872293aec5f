/- Ballots with one vote more, in a row of one's own; ready for a body. -/
import Derived.Test.YtmhjmeedoajkjaaVtD
namespace Go.Proofs.Ytmhjmeedoajkjaa
open Go.RowKit Go.Shelf

theorem cell_new2 (w : World) (a b : Value) (t : TypeId) : ∀ j u, [a, b][j]? = some u → (w.alloc (.cells #[a, b] t)).cell? ((⟨w.heap.size, 0, none⟩ : Addr).add j) = some u := by
  intro j u hj
  have e : (⟨w.heap.size, 0, none⟩ : Addr).add j = ⟨w.heap.size, j, none⟩ := by unfold Addr.add; split <;> simp_all
  rw [e, World.cell?_alloc_at _ _ _ _ rfl, ← hj, ← Array.getElem?_toList]

/-- What withVote answers. -/
def WithPost (B : Nat) (v : Value) (l : Vt.Bal) (w : World) (e : Ending) (w' : World) : Prop :=
  ∃ a n c, e = .returned (.slice a n c) ∧ w'.ownsRow B 94 2 (.slice a n c) l.length (Vt.balC l) ∧ l.length = n ∧ w.grownBy w' v.ownBlock

theorem grown_of_below {w w' : World} (h : Below w.heap.size w w') (row : Option Nat) : w.grownBy w' row := ⟨h.os, h.tape, h.output, h.size, fun k hk _ => h.block k hk⟩
theorem grown_trans {a b c : World} {row : Option Nat} (h : a.grownBy b row) (k : b.grownBy c row) : a.grownBy c row :=
  ⟨k.os.trans h.os, k.tape.trans h.tape, k.output.trans h.output, Nat.le_trans h.size k.size, fun i hi hr => (k.block i (Nat.lt_of_lt_of_le hi h.size) hr).trans (h.block i hi hr)⟩

set_option maxHeartbeats 4000000 in
set_option maxRecDepth 100000 in
theorem withVote_any (B : Nat) (a : Option Addr) (cap : Nat) (l : Vt.Bal) (id : Nat) (x : ByteArray) (w : World) (hB : B ≤ w.heap.size) (ho : w.ownsRow B 94 2 (.slice a l.length cap) l.length (Vt.balC l)) (hs : Vt.Small l) (hn : l.length ≤ 900) :
    Calls Try.prog 47 #[.slice a l.length cap, .int .u8 (id : Nat), .string x] w (WithPost B (.slice a l.length cap) (Vt.withB l id x) w) := by
  obtain ⟨i0, hi, hz0, hz1, hz2⟩ := info_parts info77
  have I : Aside (Try.prog.info? 94 = some i0 ∧ i0.zero = some (.agg #[.string ⟨#[]⟩, .int .u16 0]) ∧ i0.size = 2 ∧ i0.bytes = 24) := ⟨hi, hz0, hz1, hz2⟩
  clear hi hz0 hz1 hz2
  obtain ⟨a', cap', e1, -, hat⟩ := Vt.own_at ho
  have hp := place_any a cap l x w (by have := Value.slice.inj e1; rw [this.1]; exact hat) (by omega)
  clear e1 hat a' cap'
  have R : Aside (∀ v w' n, w'.ownsRow B 94 2 v n (Vt.balC (Vt.withB l id x)) → w.grownBy w' (Value.slice a l.length cap).ownBlock → WithPost B (.slice a l.length cap) (Vt.withB l id x) w (.returned v) w') := by
    intro v w' n h1 h2
    obtain ⟨a', cap', rfl, hl, -⟩ := Vt.own_at h1
    rw [← hl] at h1
    exact ⟨a', n, cap', rfl, by rw [hl] at h1 ⊢; exact h1, hl, h2⟩
  generalize WithPost B (.slice a l.length cap) (Vt.withB l id x) w = Q at R ⊢
  rcases Vt.idx_cases l x with ⟨h1, -, h3⟩ | ⟨k, s, h1, h2, -, h4⟩
  · rw [h1] at hp
    rw [h3, Vt.balC_append] at R
    have hW : Aside (∀ W, Calls Try.prog 62 #[.int .u16 0, .int .u8 (id : Nat)] W fun e w' => e = .returned (.int .u16 (Cn.withS 0 id : Nat)) ∧ w' = W) := fun W => with_any 0 id W (by omega)
    generalize Cn.withS 0 id = t at hW R
    have O : Aside (w.ownsRow B 94 2 (.slice a l.length cap) l.length (Vt.balC l) ∧ B ≤ w.heap.size) := ⟨ho, hB⟩
    generalize Vt.balC l = xs at *
    generalize l.length = n at *
    clear h1 h3 hs ho hB
    go_enter Try.func47, Try.ntmps47
    go_wp2_with fail
    refine hp.mono ?_; rintro e w1 ⟨rfl, hb1⟩
    have O1 : Aside (w1.ownsRow B 94 2 (.slice a n cap) n xs ∧ B ≤ w1.heap.size ∧ Below w.heap.size w w1) := ⟨own_later O.out.1 hb1, Nat.le_trans O.out.2 hb1.size, hb1⟩
    clear hp hb1 O
    go_wp2_with fail
    refine (hW.out _).mono ?_; rintro e w2 ⟨rfl, hw⟩
    replace hw := hw.symm; subst hw
    clear hW
    go_wp2_with (at_builtin; refine wpList_append_own _ rfl _ _ 46 rfl B 94 i0 (.agg #[.string ⟨#[]⟩, .int .u16 0]) 2 24 Try.underlying46 I.out.1 I.out.2.1 I.out.2.2.1 I.out.2.2.2 rfl (by decide) _ _ _ rfl (O1.out.1.alloc _) ⟨w1.heap.size, 0, none⟩ 1 1 [.string x, .int .u16 (t : Int)] rfl rfl ?c1 ?c2 ?c3 ?c4 ?c5 ?_)
    case c1 => exact cell_new2 _ _ _ _
    case c2 => intro u hu; simp at hu; rcases hu with rfl | rfl <;> rfl
    case c3 => unfold maxLen; omega
    case c4 => omega
    case c5 => have := O1.out.2.1; simp; omega
    intro v' w2 hown' hgrow _
    have Q1 : Aside (Q (.returned v') w2) := R.out v' w2 (n + 1) hown' (grown_trans (grown_of_below O1.out.2.2 _) (grown_trans (World.grownBy_alloc w1 _ _) hgrow))
    clear R hown' hgrow O1 I
    go_wp2
    exact Q1.out
  · rw [h1] at hp
    have hk : k < l.length := (List.getElem?_eq_some_iff.1 h2).1
    have hsm : s < 65536 := hs (x, s) (List.mem_of_getElem? h2)
    have hW : Aside (∀ W, Calls Try.prog 62 #[.int .u16 (s : Nat), .int .u8 (id : Nat)] W fun e w' => e = .returned (.int .u16 (Cn.withS s id : Nat)) ∧ w' = W) := fun W => with_any s id W hsm
    rw [h4, Vt.balC_set h2] at R
    obtain ⟨c1, c2⟩ := Vt.balC_get h2
    have hl := Vt.balC_len l
    have t1 : (0 : Int) ≤ (k : Int) := by omega
    have t2 : (k : Int) < (l.length : Int) := by omega
    generalize Cn.withS s id = t at hW R
    have O : Aside (w.ownsRow B 94 2 (.slice a l.length cap) l.length (Vt.balC l) ∧ B ≤ w.heap.size ∧ (Vt.balC l)[k * 2 + 1]? = some (.int .u16 (s : Int))) := ⟨ho, hB, c2⟩
    generalize Vt.balC l = xs at *
    generalize l.length = n at *
    clear h1 h2 h4 hs hB c1 c2 hsm
    obtain ⟨g, rfl⟩ : ∃ g, a = some ⟨g, 0, none⟩ := by
      rcases ho.2 with ⟨h, h0⟩ | ⟨g, cap', cur, h, _⟩
      · omega
      · exact ⟨g, (Value.slice.inj h).1⟩
    clear ho
    go_enter Try.func47, Try.ntmps47
    go_wp2_with fail
    refine hp.mono ?_; rintro e w1 ⟨rfl, hb1⟩
    have O1 : Aside (w1.ownsRow B 94 2 (.slice (some ⟨g, 0, none⟩) n cap) n xs ∧ Below w.heap.size w w1) := ⟨own_later O.out.1 hb1, hb1⟩
    have c2 : w1.cell? ⟨g, k * 2 + 1, none⟩ = some (.int .u16 (s : Int)) := (O1.out.1.cellAt (k * 2 + 1) (by omega)).trans O.out.2.2
    have fz := O1.out.1.frozenAt
    clear hp hb1 O
    go_wp2_with fail
    refine (hW.out _).mono ?_; rintro e w2 ⟨rfl, hw⟩
    replace hw := hw.symm; subst hw
    have Q1 : Aside (Q (.returned (.slice (some ⟨g, 0, none⟩) n cap)) (w1.setCell ⟨g, k * 2 + 1, none⟩ (.int .u16 (t : Int)))) := by
      obtain ⟨s1, s2⟩ := O1.out.1.stored (k * 2 + 1) (.int .u16 (t : Int))
      exact R.out _ _ n s1 (grown_trans (grown_of_below O1.out.2 _) s2)
    clear R O1 hW
    go_wp2
    exact Q1.out

/-- What readied answers: a case, and what is cast. -/
def OutC (l : List (Nat × ByteArray)) : List Value := l.flatMap fun o => [.int .i64 (o.1 : Int), .string o.2]
def AtO (w : World) (a : Option Addr) (l : List (Nat × ByteArray)) : Prop :=
  l = [] ∨ ∃ b off, a = some ⟨b, off, none⟩ ∧ ∀ (j : Nat) (k : Nat) (x : ByteArray), l[j]? = some (k, x) → w.cell? ⟨b, off + j * 2, none⟩ = some (.int .i64 (k : Int)) ∧ w.cell? ⟨b, off + j * 2 + 1, none⟩ = some (.string x)
theorem AtO.later {w w' : World} {a : Option Addr} {l : List (Nat × ByteArray)} (h : AtO w a l) (hb : Below w.heap.size w w') : AtO w' a l := by
  rcases h with rfl | ⟨b, off, rfl, hc⟩
  · exact .inl rfl
  · exact .inr ⟨b, off, rfl, fun j k x hx => ⟨cell_later hb (hc j k x hx).1, cell_later hb (hc j k x hx).2⟩⟩
theorem atO_one (w : World) (k : Nat) (x : ByteArray) : AtO (w.alloc (.cells #[.int .i64 (k : Int), .string x] 68)) (some ⟨w.heap.size, 0, none⟩) [(k, x)] := by
  refine .inr ⟨w.heap.size, 0, rfl, fun j k' x' hx => ?_⟩
  cases j with
  | succ j => simp at hx
  | zero =>
    simp at hx
    obtain ⟨rfl, rfl⟩ := hx
    exact ⟨World.cell?_alloc_at _ _ _ _ rfl, World.cell?_alloc_at _ _ _ _ rfl⟩

def ReadiedPost (e d : Bool) (v1 v2 : Value) (r : Bool) (outs : List (Nat × ByteArray)) (w : World) (z : Ending) (w' : World) : Prop :=
  ∃ a c, z = .returned (.tuple #[.agg #[.bool e, .bool r, .bool d, v1, v2], .slice a outs.length c]) ∧ AtO w' a outs ∧ (∀ ad, a = some ad → w.heap.size ≤ ad.block) ∧ Below w.heap.size w w'
theorem info72 : (Try.prog.info? 68).map (fun i => (i.zero, i.size, i.bytes)) = some (some (.agg #[.int .i64 0, .string ⟨#[]⟩]), 2, 24) := by kernel_rfl

set_option maxHeartbeats 4000000 in
set_option maxRecDepth 100000 in
theorem readied_any (e r d : Bool) (a1 a2 : Option Addr) (m1 m2 c1 c2 : Nat) (x : ByteArray) (en : Bool) (w : World) :
    Calls Try.prog 48 #[.agg #[.bool e, .bool r, .bool d, .slice a1 m1 c1, .slice a2 m2 c2], .string x, .bool en] w
      (ReadiedPost e d (.slice a1 m1 c1) (.slice a2 m2 c2) (r || en) (if r || !en then [] else [(3, x)]) w) := by
  cases r with
  | true =>
    have B0 : Aside (∀ o o', Below w.heap.size w ((w.alloc o).alloc o')) := fun o o' => ((Below.refl _ w).alloc (Nat.le_refl _) o).alloc (by simp) o'
    have R : Aside (∀ w', Below w.heap.size w w' → ReadiedPost e d (.slice a1 m1 c1) (.slice a2 m2 c2) (true || en) (if true || !en then [] else [(3, x)]) w (.returned (.tuple #[.agg #[.bool e, .bool true, .bool d, .slice a1 m1 c1, .slice a2 m2 c2], .slice none 0 0])) w') := fun w' hb => ⟨none, 0, rfl, .inl rfl, (fun _ h => nomatch h), hb⟩
    generalize ReadiedPost e d (.slice a1 m1 c1) (.slice a2 m2 c2) (true || en) (if true || !en then [] else [(3, x)]) w = Q at R ⊢
    go_enter Try.func48, Try.ntmps48
    go_wp2
    refine ⟨rfl, _, ?_, R.out _ (B0.out _ _)⟩
    simp [results, Try.results48, go_sem]
  | false =>
    cases en with
    | false =>
      have B0 : Aside (∀ o o', Below w.heap.size w ((w.alloc o).alloc o')) := fun o o' => ((Below.refl _ w).alloc (Nat.le_refl _) o).alloc (by simp) o'
      have R : Aside (∀ w', Below w.heap.size w w' → ReadiedPost e d (.slice a1 m1 c1) (.slice a2 m2 c2) (false || false) (if false || !false then [] else [(3, x)]) w (.returned (.tuple #[.agg #[.bool e, .bool false, .bool d, .slice a1 m1 c1, .slice a2 m2 c2], .slice none 0 0])) w') := fun w' hb => ⟨none, 0, rfl, .inl rfl, (fun _ h => nomatch h), hb⟩
      generalize ReadiedPost e d (.slice a1 m1 c1) (.slice a2 m2 c2) (false || false) (if false || !false then [] else [(3, x)]) w = Q at R ⊢
      go_enter Try.func48, Try.ntmps48
      go_wp2
      refine ⟨rfl, _, ?_, R.out _ (B0.out _ _)⟩
      simp [results, Try.results48, go_sem]
    | true =>
      have B0 : Aside (∀ o o' o'', Below w.heap.size w (((w.alloc o).alloc o').alloc o'')) := fun o o' o'' => (((Below.refl _ w).alloc (Nat.le_refl _) o).alloc (by simp) o').alloc (by simp; omega) o''
      have R : Aside (∀ w' a c, AtO w' a [(3, x)] → (∀ ad, a = some ad → w.heap.size ≤ ad.block) → Below w.heap.size w w' → ReadiedPost e d (.slice a1 m1 c1) (.slice a2 m2 c2) (false || true) (if false || !true then [] else [(3, x)]) w (.returned (.tuple #[.agg #[.bool e, .bool true, .bool d, .slice a1 m1 c1, .slice a2 m2 c2], .slice a 1 c])) w') := fun w' a c ha hf hb => ⟨a, c, rfl, ha, hf, hb⟩
      generalize ReadiedPost e d (.slice a1 m1 c1) (.slice a2 m2 c2) (false || true) (if false || !true then [] else [(3, x)]) w = Q at R ⊢
      go_enter Try.func48, Try.ntmps48
      go_wp2
      refine ⟨rfl, _, ?_, R.out _ (some ⟨w.heap.size + 2, 0, none⟩) 1 ?_ (fun ad h => by obtain rfl := Option.some.inj h; exact Nat.le_add_right _ _) (B0.out _ _ _)⟩
      · simp [results, Try.results48, go_sem]
      · have := atO_one ((w.alloc (.cells #[.bool e, .bool true, .bool d, .slice a1 m1 c1, .slice a2 m2 c2] 48)).alloc (.cells #[.bool e, .bool true, .bool d, .slice a1 m1 c1, .slice a2 m2 c2] 48)) 3 x
        simpa using this
end Go.Proofs.Ytmhjmeedoajkjaa
