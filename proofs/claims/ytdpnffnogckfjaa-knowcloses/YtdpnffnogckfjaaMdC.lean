/- What learn gives. -/
import Derived.Test.YtdpnffnogckfjaaMdB
import Derived.Maps.AppendAt
namespace Go.Proofs.Ytdpnffnogckfjaa
open Go.RowKit Go.Maps

/-- What learning gives. -/
def LearnPost (ω : Tag) (pm bv bk : Nat) (w : World) (σ : St) (e : Ending) (w' : World) : Prop :=
  e = .returned (.tuple #[]) ∧ ∃ ω', Kn ω' w' pm bv bk σ ∧ Ext w ω ω' ∧ Fix ω w w'

theorem set_mind {w : World} {pm bv bk : Nat} {fs v : Value} (h : w.heap[pm]? = some (.cells #[.map (some bv), .map (some bk), fs] 61 (0, 0))) :
    (w.setCell ⟨pm, 2, none⟩ v).heap[pm]? = some (.cells #[.map (some bv), .map (some bk), v] 61 (0, 0)) := by
  unfold World.setCell
  simp only
  rw [Array.getElem?_modify, if_pos rfl, h]
  rfl

theorem kset_snoc {K : List (List UInt8)} {t : List UInt8} (s : List UInt8) : upd (kset K) t (.agg #[]) s = kset (K ++ [t]) s := by
  unfold upd kset
  by_cases h : s = t
  · simp [h]
  · simp [h]

/-- A store into a map, by its run. -/
theorem wpList_put {P : Program} (w : World) {ops : Array Oper} {rest : List Oper} {o : Oper} {a : Act} {Q : Exit → Act → World → Prop}
    (hg : o.guard = none) (m x v : Operand) (t : TypeId) (hop : o.op = Op.mapUpdate t m x v) (mv key val : Value) (hm : a.eval m = mv) (hx : a.eval x = key) (hv : a.eval v = val) (w' : World)
    (hrun : (Instr.mapUpdate t mv key val).run P w = .ok () w') (hK : wpList P ops Q rest (a.put o.dst undef) w') : wpList P ops Q (o :: rest) a w := by
  refine wpList_plain hg fun K' hK' => ?_
  unfold Oper.wp
  simp [execOp, hop, hm, hx, hv, hrun, Result.andThen]
  exact hK' _ _ hK

theorem bd58 (w : World) : (Instr.build 58 #[]).run Try.prog w = .ok (.agg #[]) w := run_build w 58 #[] #[] (by kernel_rfl)

set_option maxHeartbeats 4000000 in
theorem learn_any (ω : Tag) (pm bv bk : Nat) (σ : St) (t : List UInt8) (w : World) (h : Kn ω w pm bv bk σ) (ht : t.length ≤ 2000) (hk : σ.1.length ≤ 9000000) (hf : σ.2.length ≤ 9000000) :
    Calls Try.prog 40 #[.pointer (some ⟨pm, 0, none⟩), str t] w (LearnPost ω pm bv bk w (lrn σ t)) := by
  have hK := knows_any ω pm bv bk σ t w h ht
  by_cases hin : t ∈ σ.1
  · rw [decide_eq_true hin] at hK
    have Q1 : Aside (∀ w', w.grownBy w' none → LearnPost ω pm bv bk w (lrn σ t) (.returned (.tuple #[])) w') := by
      intro w' hg
      refine ⟨rfl, ω, ?_, Ext.refl _ _, Fix.grown hg (fun _ h => by cases h)⟩
      unfold lrn; rw [if_pos hin]
      exact h.grown hg (fun _ h => by cases h)
    generalize LearnPost ω pm bv bk w (lrn σ t) = Q at Q1 ⊢
    clear h
    generalize str t = x at *
    go_enter Try.func40, Try.ntmps40
    go_wp2_with fail
    refine hK.mono ?_
    rintro e w1 ⟨rfl, hg⟩
    have Q2 := Q1.out w1 hg
    clear hK hg Q1
    go_wp2
    exact ⟨rfl, .tuple #[], results_none rfl _ _ _, Q2⟩
  · rw [decide_eq_false hin] at hK
    have Q1 : Aside (∀ ω' w', Kn ω' w' pm bv bk (σ.1 ++ [t], σ.2 ++ [t]) → Ext w ω ω' → Fix ω w w' → LearnPost ω pm bv bk w (lrn σ t) (.returned (.tuple #[])) w') := by
      intro ω' w' h1 h2 h3
      refine ⟨rfl, ω', ?_, h2, h3⟩
      unfold lrn; rw [if_neg hin]; exact h1
    generalize LearnPost ω pm bv bk w (lrn σ t) = Q at Q1 ⊢
    have H : Aside (Kn ω w pm bv bk σ) := h
    have LB : Aside (σ.1.length ≤ 9000000 ∧ σ.2.length ≤ 9000000) := ⟨hk, hf⟩
    clear h hk hf
    obtain ⟨i0, hi, hz0, hz1, hz2⟩ := info_parts info22
    have I : Aside (Try.prog.info? 23 = some i0 ∧ i0.zero = some (.string ⟨#[]⟩) ∧ i0.size = 1 ∧ i0.bytes = 16) := ⟨hi, hz0, hz1, hz2⟩
    clear hi hz0 hz1 hz2
    have bd := bd58
    have ST : Aside (∀ W b n g, MapAt W b n g → n < 1000000000 → ∃ W', (Instr.mapUpdate 57 (.map (some b)) (str t) (.agg #[])).run Try.prog W = .ok () W' ∧ MapAt W' b (n + 1) (upd g t (.agg #[])) ∧ W.grownBy W' (some b)) :=
      fun W b n g hm hn => hm.store (t := 57) Try.underlying57 hn ht (.agg #[])
    have TX : Hid (strs σ.2 ++ [str t] = strs (σ.2 ++ [t])) := by show _ = _; rw [strs_append]; rfl
    have TL : Hid (σ.2.length + 1 = (σ.2 ++ [t]).length ∧ σ.1.length + 1 = (σ.1 ++ [t]).length) := by show _ ∧ _; simp
    obtain ⟨x, hx⟩ : ∃ x, str t = .string x := ⟨_, rfl⟩
    rw [hx] at hK ST TX ⊢
    clear hx
    go_enter Try.func40, Try.ntmps40
    go_wp2_with fail
    refine hK.mono ?_
    rintro e w1 ⟨rfl, hg⟩
    have H1 : Aside (Kn ω w1 pm bv bk σ ∧ w.grownBy w1 none) := ⟨H.out.grown hg (fun _ h => by cases h), hg⟩
    clear hK hg H
    obtain ⟨_, a1⟩ := H1.out.1.cells
    obtain ⟨fs, b1, b2, b3, b4, b5, b6⟩ := H1.out.1
    obtain ⟨w2, hr2, hm2, hg2⟩ := ST.out w1 bk _ _ b4 (by have := LB.out; omega)
    have hne : some pm ≠ some bk := by
      intro e
      cases e
      obtain ⟨D, ⟨es, cl, hb, _⟩, _⟩ := b4
      rw [b1] at hb; cases hb
    have lpm : pm < w1.heap.size := (Array.getElem?_eq_some_iff.1 b1).1
    have p2 : w2.heap[pm]? = some (.cells #[.map (some bv), .map (some bk), fs] 61 (0, 0)) := (hg2.block pm lpm hne).trans b1
    have nbk : fs.ownBlock ≠ some bk := by
      intro e
      obtain ⟨cur, hc⟩ := row_block b5 e
      obtain ⟨D, ⟨es, cl, hb, _⟩, _⟩ := b4
      rw [hc] at hb; cases hb
    have o2 : w2.ownsRow 0 23 1 fs σ.2.length (strs σ.2) := b5.kept hg2 (.inr nbk)
    have npm : fs.ownBlock ≠ some pm := by
      intro e
      obtain ⟨cur, hc⟩ := row_block b5 e
      rw [b1] at hc; cases hc
    have c2 : w2.cell? ⟨pm, 2, none⟩ = some fs := by rw [cell_of_row w2 pm 2 _ _ _ p2]; rfl
    have K2 : Aside (w2.heap[pm]? = some (.cells #[.map (some bv), .map (some bk), fs] 61 (0, 0)) ∧ MapAt w2 bk (σ.1.length + 1) (upd (kset σ.1) t (.agg #[])) ∧ w1.grownBy w2 (some bk) ∧ w2.ownsRow 0 23 1 fs σ.2.length (strs σ.2) ∧ fs.ownBlock ≠ some pm ∧ fs.ownBlock ≠ some bk ∧ (∀ j, fs.ownBlock = some j → ω j = some none)) := ⟨p2, hm2, hg2, o2, npm, nbk, b6⟩
    have hfs : Aside (∃ a c, fs = .slice a σ.2.length c) := by
      obtain ⟨a, c, e, _⟩ := owns_strs b5
      exact ⟨a, c, e⟩
    clear b1 b4 b5 b6 hm2 hg2 o2 npm nbk p2 lpm hne
    obtain ⟨fa, fc, rfl⟩ := hfs.out
    go_wp2_with (first | (at_mapUpdate; refine wpList_put _ rfl _ _ _ 57 rfl _ _ _ rfl rfl rfl _ hr2 ?_) | (at_builtin; refine wpList_append_own_at _ rfl _ _ 22 rfl 0 23 i0 (.string ⟨#[]⟩) 1 16 Try.underlying22 I.out.1 I.out.2.1 I.out.2.2.1 I.out.2.2.2 rfl (by decide) _ _ _ rfl (K2.out.2.2.2.1.alloc _) ⟨w2.heap.size, 0, none⟩ 1 1 [.string x] rfl rfl ?c1 ?c2 ?c3 ?c4 ?c5 ?_))
    case c1 => exact cell_new1 _ _ _
    case c2 => intro u hu; simp at hu; subst hu; rfl
    case c3 => unfold maxLen; have := LB.out; omega
    case c4 => have := LB.out; omega
    case c5 => omega
    intro v3 w3 hown3 hgrow3 _ hat3
    obtain ⟨k1, k2, k3, k4, k5, k6, k7⟩ := K2.out
    have lpm : pm < w2.heap.size := (Array.getElem?_eq_some_iff.1 k1).1
    have lbk : bk < w2.heap.size := k2.lt
    have p3 : w3.heap[pm]? = some (.cells #[.map (some bv), .map (some bk), .slice fa σ.2.length fc] 61 (0, 0)) := by
      rw [hgrow3.block pm (by simp; omega) (fun e => k5 e.symm), Below.heap_alloc _ _ _ lpm]; exact k1
    have z3 : w3.frozen? ⟨pm, 2, none⟩ = false := by simp [World.frozen?, p3]
    have c3 : w3.cell? ⟨pm, 2, none⟩ = some (.slice fa σ.2.length fc) := by rw [cell_of_row w3 pm 2 _ _ _ p3]; rfl
    have hv3 : Aside (∃ a c, v3 = .slice a (σ.2.length + 1) c) := by
      rw [TX.out, TL.out.1] at hown3
      obtain ⟨a, c, e, _⟩ := owns_strs hown3
      exact ⟨a, c, by rw [e, TL.out.1]⟩
    obtain ⟨va, vc, rfl⟩ := hv3.out
    have nb3 : ∀ j, Value.ownBlock (.slice va (σ.2.length + 1) vc) = some j → j ≠ pm ∧ j ≠ bk := by
      intro j hj
      rcases hat3 with e | e
      · rw [hj] at e
        exact ⟨fun h => k5 (by rw [← e, h]), fun h => k6 (by rw [← e, h])⟩
      · rw [hj] at e
        have : j = w2.heap.size + 1 := by simpa using e
        omega
    have F : Aside (Q (.returned (.tuple #[])) (w3.setCell ⟨pm, 2, none⟩ (.slice va (σ.2.length + 1) vc))) := by
      refine Q1.out (fun j => if j < w1.heap.size then ω j else some none) _ ⟨.slice va (σ.2.length + 1) vc, set_mind p3, ?_, ?_, ?_, ?_, ?_⟩ ?_ ?_
      · show (if pm < w1.heap.size then ω pm else _) = _; split <;> simp [b2]
      · show (if bk < w1.heap.size then ω bk else _) = _; split <;> simp [b3]
      · have e : (w3.setCell ⟨pm, 2, none⟩ (.slice va (σ.2.length + 1) vc)).heap[bk]? = w2.heap[bk]? := by
          rw [Below.heap_setCell _ _ _ _ (fun e => by have e : bk = pm := e; subst e; obtain ⟨D, ⟨es, cl, hb, _⟩, _⟩ := k2; rw [k1] at hb; cases hb), hgrow3.block bk (by simp; omega) (fun e => k6 e.symm), Below.heap_alloc _ _ _ lbk]
        have := (k2.congr (kset_snoc)).kept e
        rw [TL.out.2] at this
        exact this
      · have hm : w3.ownsRow 0 23 1 (.slice va (σ.2.length + 1) vc) (σ.2 ++ [t]).length (strs (σ.2 ++ [t])) := by rw [← TX.out, ← TL.out.1]; exact hown3
        exact row_kept hm (fun j hj => Below.heap_setCell _ _ _ _ (nb3 j hj).1)
      · intro j hj
        show (if j < w1.heap.size then ω j else _) = _
        rcases hat3 with e | e
        · rw [e] at hj; split
          · exact k7 j hj
          · rfl
        · rw [hj] at e
          have : j = w2.heap.size + 1 := by simpa using e
          have := k3.size
          rw [if_neg (by omega)]
      · intro j hj
        show (if j < w1.heap.size then ω j else _) = _
        have := H1.out.2.size
        rw [if_pos (by omega)]
      · refine (Fix.grown (ω := ω) H1.out.2 (fun _ h => by cases h)).trans (Ext.refl _ _) ?_
        refine (Fix.grown (ω := ω) k3 (fun j e _ => by cases e; exact b3)).trans (Ext.refl _ _) ?_
        refine (Fix.alloc ω w2 (.cells #[.string x] 23)).trans (Ext.refl _ _) ?_
        refine (Fix.grown (ω := ω) hgrow3 (fun j e _ => k7 j e)).trans (Ext.refl _ _) ?_
        exact Fix.grown (grown_setCell _ _ _) (fun j e _ => by cases e; exact b2)
    clear hr2 hown3 hgrow3 hat3 nb3 k1 k2 k3 k4 k5 k6 k7 Q1 K2 H1 p3
    go_wp2
    exact ⟨rfl, .tuple #[], results_none rfl _ _ _, F.out⟩

end Go.Proofs.Ytdpnffnogckfjaa
