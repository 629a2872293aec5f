/- The document's box under the program's type. -/
import Derived.Test.YtfjdopmjcddnlaaBtT
import Derived.Deep.RegionLaw
import Derived.Maps.AppendAt
set_option linter.unusedVariables false
namespace Go.Proofs.Ytfjdopmjcddnlaa
open Go.RowKit Cn Rl Bt

/-- A box that is being gathered. -/
structure TT (w W : World) (v : Int) (s : Nat) (l : List Ct) (g : Option Addr) (k q : Nat) : Prop where
  own : W.ownsRow (w.heap.size + 1 + 1 + 1) 44 3 (.slice g k q) k (rowC (l.take k))
  out : X3 W (w.heap.size + 1 + 1) 37 (.int .i64 v) (.int .u16 (s : Int)) (.slice g k q)
  res : X3 W (w.heap.size + 1) 37 (.int .i64 0) (.int .u16 0) (.slice none 0 0)
  below : Below w.heap.size w W
  size : w.heap.size + 1 + 1 + 1 ≤ W.heap.size
theorem TT.later {w W W' : World} {v : Int} {s : Nat} {l : List Ct} {g : Option Addr} {k q : Nat} (h : TT w W v s l g k q) (hb : Below W.heap.size W W') : TT w W' v s l g k q :=
  ⟨own_later h.own hb, h.out.later hb, h.res.later hb, below_step h.below hb, Nat.le_trans h.size hb.size⟩
theorem tt_append {w W : World} {v : Int} {s : Nat} {l : List Ct} {g : Option Addr} {k q : Nat} {e : Ct} (h : TT w W v s l g k q) (hx : l[k]? = some e) (hk : k < 1000) : ∃ g' q' wn, (Builtin.append_ #[35, 35] 35 #[.slice g k q, .slice (some ⟨W.heap.size, 0, none⟩) 1 1]).run Try.prog (W.alloc (.cells #[.int .u8 (e.1 : Int), .bool e.2.1, .int .u8 (e.2.2 : Int)] 44)) = .ok (.slice g' (k + 1) q') wn ∧
    wn.cell? ⟨w.heap.size + 1 + 1, 2, none⟩ = some (.slice g k q) ∧ wn.frozen? ⟨w.heap.size + 1 + 1, 2, none⟩ = false ∧ Aside (TT w (wn.setCell ⟨w.heap.size + 1 + 1, 2, none⟩ (.slice g' (k + 1) q')) v s l g' (k + 1) q') := by
  obtain ⟨i0, hi, hz, hs, hby⟩ := info_parts info44
  obtain ⟨v', wn, hr, h2, h3, h4, h5⟩ := run_append_own_at (P := Try.prog) (W.alloc (.cells #[.int .u8 (e.1 : Int), .bool e.2.1, .int .u8 (e.2.2 : Int)] 44)) (w.heap.size + 1 + 1 + 1) 35 35 44 i0 (.agg #[.int .u8 0, .bool false, .int .u8 0]) 3 3 Try.underlying35 hi hz hs hby rfl (by decide) _ _ _ (h.own.alloc _) ⟨W.heap.size, 0, none⟩ 1 1 (encC e) rfl (fun j u hu => cell_three W _ _ _ 44 j u hu) (encC_one e) (by unfold maxLen; omega) (by omega) (by have := h.size; simp; omega)
  obtain ⟨g', q', rfl⟩ : ∃ g3 q3, v' = .slice g3 (k + 1) q3 := by
    rcases h2.2 with ⟨_, h0⟩ | ⟨g', cap, cur, hv, _⟩
    · omega
    · exact ⟨_, _, hv⟩
  have e1 : rowC (l.take k) ++ encC e = rowC (l.take (k + 1)) := by
    rw [List.take_add_one, hx, Option.toList, rowC_append]; simp [rowC]
  rw [e1] at h2
  have KB : ∀ bq, bq < w.heap.size + 1 + 1 + 1 → (Value.slice g k q).ownBlock ≠ some bq := fun bq hb e => by have := (h.own.lt bq e).1; omega
  have hO : X3 wn (w.heap.size + 1 + 1) 37 (.int .i64 v) (.int .u16 (s : Int)) (.slice g k q) := (h.out.alloc _).grown h3 (KB _ (by omega))
  have hR : X3 wn (w.heap.size + 1) 37 (.int .i64 0) (.int .u16 0) (.slice none 0 0) := (h.res.alloc _).grown h3 (KB _ (by omega))
  have hb : Below w.heap.size w wn := (h.below.alloc h.below.size _).grown h3 (by have := h.below.size; simp; omega) (fun j hj => by have := (h.own.lt j hj).1; omega)
  have hsz : w.heap.size + 1 + 1 + 1 ≤ wn.heap.size := by have h6 := h3.size; have h7 := h.size; simp at h6; omega
  exact ⟨g', q', wn, hr, hO.cells.2.2, hO.frozen 2, ⟨own_off h2 (by omega) _, hO.set2 _, hR.far (by omega) _, below_set1 hb (by omega) _, by simpa using hsz⟩⟩
/-- At a step of a region that draws: the append's run is known. -/
theorem step_append35 {w w' : World} {ops : Array Oper} {o : Oper} {a : Act} {K : Act → World → Prop} {Q : Exit → Act → World → Prop} {E : Prop} {v y v' : Value} (hgd : o.guard = none) (s x : Operand)
    (hop : o.op = .call { callee := .builtin .append, args := #[s, x], argTypes := #[35, 35] }) (hty : o.type = 35) (hs : a.eval s = v) (hx : a.eval x = y) (hr : (Builtin.append_ #[35, 35] 35 #[v, y]).run Try.prog w = .ok v' w') (hK : K (a.put o.dst v') w') :
    if Region.wanted o (yielded ops a.tmps) = true then Oper.wp Try.prog o a w K Q else E := by
  have hw : Region.wanted o (yielded ops a.tmps) = true := by simp [Region.wanted, hgd]
  rw [if_pos hw]
  unfold Oper.wp execOp
  simp only [hop, resolve, invoke, builtin, Sem.run_bind, Sem.run_pure, Result.andThen_ok, List.map_toArray, List.map_cons, List.map_nil, hs, hx, hty, hr]
  exact hK
/-- A box made anew under the program's type. -/
def MadeT (w : World) (v : Int) (s : Nat) (l : List Ct) (e : Ending) (w' : World) : Prop := ∃ a c, e = .returned (.agg #[.int .i64 v, .int .u16 (s : Int), .slice a l.length c]) ∧ AtC w' a l ∧ Below w.heap.size w w'

set_option maxHeartbeats 8000000 in
set_option maxRecDepth 100000 in
/-- What Theirs gives. -/
theorem theirsB_any (v : Int) (s : Nat) (a : Option Addr) (c : Nat) (l : List Ct) (w : World) (hl : AtC w a l) (hn : l.length ≤ 100) :
    Calls Try.prog 10 #[boxV v s (.slice a l.length c)] w (MadeT w v s l) := by
  have C11 : Aside (∀ (z : Ct) (W : World), _) := theirs_box
  obtain ⟨n, en⟩ : ∃ n, n = l.length := ⟨_, rfl⟩
  have RT : Aside (∀ (g : Option Addr) (q : Nat) (W : World), W.ownsRow (w.heap.size + 1 + 1 + 1) 44 3 (.slice g n q) n (rowC (l.take n)) → Below w.heap.size w W → MadeT w v s l (.returned (.agg #[.int .i64 v, .int .u16 (s : Int), .slice g n q])) W) := fun g q W ho hb => by
    rw [List.take_of_length_le (by omega)] at ho
    obtain ⟨a', c', e, hat, _, _⟩ := own_slice ho
    cases e
    rw [en]
    exact ⟨g, q, rfl, hat, hb⟩
  generalize MadeT w v s l = Q at RT ⊢
  rw [← en] at hn ⊢
  have HA : Aside (AtC w a l ∧ n = l.length) := ⟨hl, en⟩
  clear hl en
  obtain ⟨V, hV⟩ : ∃ V, V = ((w.alloc (.cells #[.int .i64 v, .int .u16 (s : Int), .slice a n c] 28)).alloc (.cells #[.int .i64 0, .int .u16 0, .slice none 0 0] 37)).alloc (.cells #[.int .i64 v, .int .u16 (s : Int), .slice none 0 0] 37) := ⟨_, rfl⟩
  have X : Aside (TT w V v s l none 0 0) := by
    rw [hV]; exact ⟨World.ownsRow_nil _ _ _ _, X3.new2 w _ _ _ _ _ _, (X3.new1 w _ _ _ _ _).alloc _, ((below_one w _).alloc (by simp) _).alloc (by simp; omega) _, by simp⟩
  unfold boxV
  go_enter Try.func10, Try.ntmps10
  go_wp2_with fail
  rw [← hV]
  clear hV
  go_loopw [12] (fun i wr => ∃ k g q, k ≤ n ∧ i = .int .i64 (k : Nat) ∧ Aside (TT w wr v s l g k q)) (fun i _ => n - (intOf i).toNat)
  case atStart => exact ⟨0, none, 0, Nat.zero_le _, rfl, X.out⟩
  case round =>
    obtain ⟨k, g, q, hk, rfl, HC⟩ := hrel
    by_cases hlt : k < n
    · have t1 : (k : Int) < (n : Int) := by omega
      have t0 : (0 : Int) ≤ (k : Int) := by omega
      obtain ⟨e, hke⟩ : ∃ e, l[k]? = some e := ⟨_, List.getElem?_eq_getElem (by have := HA.out.2; omega)⟩
      obtain ⟨b, off, rfl, y0, y1, y2⟩ := AtC.get (HA.out.1.later HC.out.below) hke
      have AP : Aside (∀ W5, TT w W5 v s l g k q → _) := fun W5 h => tt_append h hke (by omega)
      clear hke
      go_wp2_with fail
      clear y0 y1 y2
      obtain ⟨U, hU⟩ : ∃ U, U = wr.alloc (.cells #[.int .u8 (e.1 : Int), .bool e.2.1, .int .u8 (e.2.2 : Int)] 32) := ⟨_, rfl⟩
      rw [← hU]
      have HU : Aside (TT w U v s l g k q) := by rw [hU]; exact HC.out.later (below_one _ _)
      have CX : Aside (X3 U wr.heap.size 32 (.int .u8 (e.1 : Int)) (.bool e.2.1) (.int .u8 (e.2.2 : Int))) := by rw [hU]; exact X3.new wr _ _ _ _
      clear hU HC
      have BQ : Aside (Below U.heap.size U U.drew) := (Below.refl _ U).drew
      have o2 := HU.out.out.cells.2.2
      obtain ⟨d0, d1, d2⟩ := CX.out.cells
      go_region_law (first
        | (go_simp; go_at_call 11; (with_reducible refine (C11.out e U.drew).mono ?_); rintro e' w5 ⟨rfl, hb⟩; have Z5 : Aside (TT w w5 v s l g k q) := (HU.out.later BQ.out).later hb; have Z6 : Aside (X3 w5 wr.heap.size 32 (.int .u8 (e.1 : Int)) (.bool e.2.1) (.int .u8 (e.2.2 : Int))) := (CX.out.later BQ.out).later hb; clear hb o2 d0 d1 d2; have o2 := Z5.out.out.cells.2.2; have o3 := fun o => cell_later (below_one w5 o) o2; obtain ⟨d0, d1, d2⟩ := Z6.out.cells; have n5 : w.heap.size + 1 + 1 ≠ w5.heap.size := Nat.ne_of_lt Z5.out.out.lt; obtain ⟨g', q', wn, hr, p2, z2, NX⟩ := AP.out w5 Z5.out; clear Z5 Z6)
        | (refine step_append35 (by rfl) _ _ (by rfl) (by rfl) (by rfl) (by rfl) hr ?_))
      all_goals
        go_wp2_with fail
        go_roundw
        case rel => exact ⟨k + 1, g', q', by omega, by go_num, NX.out⟩
        case measure => simp [intOf]; omega
    · obtain rfl : k = n := by omega
      obtain ⟨z0, z1, z2⟩ := HC.out.res.cells
      obtain ⟨x0, x1, x2⟩ := HC.out.out.cells
      have h0 := HC.out.res.frozen 0; have h1 := HC.out.res.frozen 1; have h2 := HC.out.res.frozen 2
      have Q1 : Aside (Q (.returned (.agg #[.int .i64 v, .int .u16 (s : Int), .slice g k q])) (((wr.setCell ⟨w.heap.size + 1, 0, none⟩ (.int .i64 v)).setCell ⟨w.heap.size + 1, 1, none⟩ (.int .u16 (s : Int))).setCell ⟨w.heap.size + 1, 2, none⟩ (.slice g k q))) :=
        RT.out g q _ (own_off (own_off (own_off HC.out.own (by omega) _) (by omega) _) (by omega) _) (below_set3 HC.out.below (by omega) _ _ _)
      clear RT
      go_wp2_with fail
      exact bodyPost_ret (results_one rfl rfl (Try.isAgg37 _) (Try.sizeOf37 _) (load_three (HC.out.res.set _ _ _))) rfl Q1.out
end Go.Proofs.Ytfjdopmjcddnlaa
