/- Tables loaded and stored whole in plain regions; why a vote on a name is not taken (refused). -/
import Derived.Test.YtmhjmeedoajkjaaTbL
import Derived.Test.YtmhjmeedoajkjaaTbF
set_option linter.unusedVariables false
namespace Go.Proofs.Ytmhjmeedoajkjaa
open Go.RowKit Go.Shelf

/-- A load of a plain region as one step, guarded or not. -/
theorem wpList_loadw {P : Program} {w : World} {ops : Array Oper} {rest : List Oper} {o : Oper} {a : Act} {Q : Exit → Act → World → Prop} (T k : Nat) (p : Operand) (ho : o.op = .load T p)
    (aE : ∀ w, (isAgg T).run P w = .ok true w) (zE : ∀ w, (Go.sizeOf T).run P w = .ok k w) (cs : List Value) (hk : cs.length = k) (b off : Nat) (hc : ∀ j v, cs[j]? = some v → w.cell? ⟨b, off + j, none⟩ = some v)
    (hp : a.eval p = .pointer (some ⟨b, off, none⟩)) (hw : Region.wanted o (yielded ops a.tmps) = true)
    (h : wpList P ops Q rest (a.put o.dst (.agg cs.toArray)) w) : wpList P ops Q (o :: rest) a w := by
  unfold wpList
  rw [if_pos hw]
  left
  unfold Oper.wp
  rw [exec_load T k aE zE cs hk b off w hc a o p ho hp]
  exact h
theorem wpList_tab {w : World} {ops : Array Oper} {rest : List Oper} {o : Oper} {a : Act} {Q : Exit → Act → World → Prop} {b : Nat} {v : Int} {ms : Nat} {bs : Nat → Nat} {s : Value} (h : X19 w b 30 v ms bs s) (hg : o.guard = none) (p : Operand) (ho : o.op = .load 30 p)
    (hp : a.eval p = .pointer (some ⟨b, 0, none⟩)) (hn : wpList Try.prog ops Q rest (a.put o.dst (.agg (tabL v ms bs s))) w) : wpList Try.prog ops Q (o :: rest) a w := by
  refine wpList_loadw 30 19 p ho Try.isAgg30 Try.sizeOf30 (tabL v ms bs s).toList rfl b 0 (tabL_cells h) hp (by simp [Region.wanted, hg]) (by simpa using hn)
theorem wpList_store {P : Program} {w : World} {ops : Array Oper} {rest : List Oper} {o : Oper} {a : Act} {Q : Exit → Act → World → Prop} (hg : o.guard = none) (T k : Nat) (p x : Operand) (ho : o.op = .store T p x)
    (zE : (Go.sizeOf T).run P w = .ok k w) (cs : List Value) (hk : cs.length = k) (b off : Nat) (hp : a.eval p = .pointer (some ⟨b, off, none⟩)) (hx : a.eval x = .agg cs.toArray)
    (hc : ∀ j, j < cs.length → (w.cell? ⟨b, off + j, none⟩).isSome = true) (hf : ∀ j, j < cs.length → w.frozen? ⟨b, off + j, none⟩ = false) (h1 : ∀ v ∈ cs, v.oneCell' = true)
    (h : wpList P ops Q rest (a.put o.dst undef) (w.setCells b off cs)) : wpList P ops Q (o :: rest) a w := by
  refine wpList_plain hg fun K hK => ?_
  have hst := run_storeCells_cells (P := P) b off cs 0 w (by simpa using hc) (by simpa using hf) h1
  simp only [Nat.add_zero] at hst
  unfold Oper.wp
  have : (execOp a.eval o).run P w = .ok .skip (w.setCells b off cs) := by
    generalize a.eval = ev at hp hx ⊢
    simp [execOp, ho, hp, hx, Instr.storeAt, Instr.sureAddr, storeVar, zE, hk, hst, go_sem]
  rw [this]
  exact hK _ _ h
theorem below_cells {B b : Nat} : ∀ (vs : List Value) (o : Nat) {w w' : World}, Below B w w' → B ≤ b → Below B w (w'.setCells b o vs)
  | [], _, _, _, h, _ => h
  | v :: r, o, w, w', h, hb => below_cells r (o + 1) (h.setCell (p := ⟨b, o, none⟩) hb v) hb
theorem row_whole {t : TypeId} {b : Nat} {w : World} {cur cs : Array Value} (h : w.heap[b]? = some (.cells cur t (0, 0))) (hs : cs.size = cur.size) : (w.setCells b 0 cs.toList).heap[b]? = some (.cells cs t (0, 0)) := by
  obtain ⟨cur', h1, h2⟩ := row_cells cs.toList 0 w cur h (by simp [hs])
  have : cur' = cs := by
    apply Array.toList_inj.1
    rw [h2]
    unfold splice
    rw [List.take_zero, List.nil_append, Nat.zero_add, List.drop_of_length_le (by simp [hs]), List.append_nil]
  rw [this] at h1; exact h1
theorem X19.whole {w : World} {b : Nat} {t : TypeId} {v v' : Int} {ms ms' : Nat} {bs bs' : Nat → Nat} {s s' : Value} (h : X19 w b t v ms bs s) : X19 (w.setCells b 0 (tabL v' ms' bs' s').toList) b t v' ms' bs' s' := row_whole h rfl
theorem tabL_one (v : Int) (ms : Nat) (bs : Nat → Nat) (s : Value) (hs : s.oneCell' = true) : ∀ u ∈ (tabL v ms bs s).toList, u.oneCell' = true := by
  intro u hu
  simp only [tabL, List.mem_cons, List.not_mem_nil, or_false] at hu
  rcases hu with rfl | rfl | rfl | rfl | rfl | rfl | rfl | rfl | rfl | rfl | rfl | rfl | rfl | rfl | rfl | rfl | rfl | rfl | rfl
  all_goals first | rfl | exact hs
theorem wpList_tab_store {w : World} {ops : Array Oper} {rest : List Oper} {o : Oper} {a : Act} {Q : Exit → Act → World → Prop} {b : Nat} {v v' : Int} {ms ms' : Nat} {bs bs' : Nat → Nat} {s : Value} {sa : Option Addr} {sl sc : Nat} (h : X19 w b 30 v ms bs s) (hg : o.guard = none) (p y : Operand) (ho : o.op = .store 30 p y)
    (hp : a.eval p = .pointer (some ⟨b, 0, none⟩)) (hx : a.eval y = .agg (tabL v' ms' bs' (.slice sa sl sc))) (hn : wpList Try.prog ops Q rest (a.put o.dst undef) (w.setCells b 0 (tabL v' ms' bs' (.slice sa sl sc)).toList)) : wpList Try.prog ops Q (o :: rest) a w := by
  refine wpList_store hg 30 19 p y ho (Try.sizeOf30 w) (tabL v' ms' bs' (.slice sa sl sc)).toList rfl b 0 hp (by simpa using hx) (fun j hj => ?_) (fun j _ => h.frozen _) (tabL_one v' ms' bs' _ rfl) hn
  have hj : j < 19 := hj
  rw [Nat.zero_add, cell_of_row w b j _ 30 _ h, Array.getElem?_eq_getElem (show j < (tabL v ms bs s).size from hj)]; rfl

/-- What refused tells. -/
def RfPost (t : Tb.Tab) (nv : Int) (nf : Nat) (ns : Int) (w : World) (e : Ending) (w' : World) : Prop :=
  ∃ k : Nat, e = .returned (.int .i64 (k : Int)) ∧ (Tb.Rt t → k = Tb.may t nv nf ns) ∧ (¬ Tb.Rt t → k = 2) ∧ Below w.heap.size w w'
set_option maxHeartbeats 40000000 in
set_option maxRecDepth 100000 in
theorem refused_any (v : Int) (ms : Nat) (bs : Nat → Nat) (a : Option Addr) (c : Nat) (l : List En) (nv : Int) (nf : Nat) (ns : Int) (w : World) (hr : AtR w a l) (he : ∀ e ∈ l, EnAt w e) (hn : l.length ≤ 500) (hms : ms < 65536) (hb16 : ∀ i, i < 16 → bs i < 65536) (hnf : nf < 256) :
    Calls Try.prog 19 #[.agg (tabL v ms bs (.slice a l.length c)), .agg #[.int .i64 nv, .int .u8 (nf : Int), .int .i64 ns]] w (RfPost ⟨v, ms, bs, ops l⟩ nv nf ns w) := by
  obtain ⟨T, hT⟩ : ∃ T : Tb.Tab, T = ⟨v, ms, bs, ops l⟩ := ⟨_, rfl⟩
  rw [← hT]
  have MZ : Aside (∀ k w', Tb.Rt T → k = Tb.may T nv nf ns → Below w.heap.size w w' → RfPost T nv nf ns w (.returned (.int .i64 (k : Int))) w') := fun k w' h1 h2 hb => ⟨k, rfl, fun _ => h2, fun h => absurd h1 h, hb⟩
  have RZ : Aside (∀ w', ¬ Tb.Rt T → Below w.heap.size w w' → RfPost T nv nf ns w (.returned (.int .i64 2)) w') := fun w' h1 hb => ⟨2, rfl, fun h => absurd h h1, fun _ => rfl, hb⟩
  generalize RfPost T nv nf ns w = Q at MZ RZ ⊢
  have CH : Aside (∀ (W : World), Calls Try.prog 30 #[.int .u16 (ms : Nat), .int .u8 (nf : Nat)] W fun z w' => z = .returned (.bool (Cn.hasS ms nf)) ∧ w' = W) := fun W => has_any ms nf W hms
  obtain ⟨V, hV⟩ : ∃ V, V = (w.alloc (.cells (tabL v ms bs (.slice a l.length c)) 30)).alloc (.cells #[.int .i64 nv, .int .u8 (nf : Int), .int .i64 ns] 33) := ⟨_, rfl⟩
  have XV : Aside (X19 V w.heap.size 30 v ms bs (.slice a l.length c) ∧ V.heap[w.heap.size + 1]? = some (.cells #[.int .i64 nv, .int .u8 (nf : Int), .int .i64 ns] 33 (0, 0)) ∧ Below w.heap.size w V) := by
    rw [hV]
    refine ⟨(X19.new w 30 v ms bs _).alloc _, ?_, ((Below.refl _ w).alloc (Nat.le_refl _) _).alloc (by simp) _⟩
    have := heap_alloc_new (w.alloc (.cells (tabL v ms bs (.slice a l.length c)) 30)) (.cells #[.int .i64 nv, .int .u8 (nf : Int), .int .i64 ns] 33)
    rwa [World.size_alloc] at this
  have HR := right8_any v ms bs a c l V (hr.later XV.out.2.2) (fun e h => (he e h).later XV.out.2.2) hn hms hb16
  rw [← hT] at HR
  have HB : Aside (∀ i, i < 16 → bs i < 65536) := hb16
  have X0 : Aside (X19 ((w.alloc (.cells (tabL v ms bs (.slice a l.length c)) 30)).alloc (.cells #[.int .i64 nv, .int .u8 (nf : Int), .int .i64 ns] 33)) w.heap.size 30 v ms bs (.slice a l.length c)) := by rw [← hV]; exact XV.out.1
  generalize l.length = N at HR XV X0 hV ⊢
  have HT : Aside (T.view = v ∧ T.ms = ms ∧ T.base = bs) := by rw [hT]; exact ⟨rfl, rfl, rfl⟩
  clear hr he hb16 hT
  unfold OpPost at HR
  go_enter Try.func19, Try.ntmps19
  go_wp2_with (with_reducible refine wpList_tab X0.out rfl _ rfl rfl ?_)
  rw [← hV]
  clear hV X0
  refine HR.mono ?_
  rintro e w1 ⟨bo, rfl, hbo, hb1⟩
  have X1 : Aside (X19 w1 w.heap.size 30 v ms bs (.slice a N c)) := XV.out.1.later hb1
  have N1 : w1.heap[w.heap.size + 1]? = some (.cells #[.int .i64 nv, .int .u8 (nf : Int), .int .i64 ns] 33 (0, 0)) := (hb1.block _ (Array.getElem?_eq_some_iff.1 XV.out.2.1).1).trans XV.out.2.1
  have B1 : Aside (Below w.heap.size w w1) := below_step XV.out.2.2 hb1
  obtain ⟨x0, x1, -⟩ := X1.out.cells
  have n0 := cell_of_row w1 _ 0 _ 33 _ N1
  have n1 := cell_of_row w1 _ 1 _ 33 _ N1
  have n2 := cell_of_row w1 _ 2 _ 33 _ N1
  simp at n0 n1 n2
  clear HR XV hb1 N1
  cases bo with
  | false =>
    have Q1 : Aside (Q (.returned (.int .i64 2)) w1) := RZ.out w1 (fun h => by have := hbo.2 h; cases this) B1.out
    clear hbo
    clear MZ RZ
    go_wp2_with (first
      | (go_at_call 30; refine (CH.out _).mono ?_; rintro z w' ⟨rfl, hw⟩; replace hw := hw.symm; subst hw))
    
    exact Q1.out
  | true =>
    have RT : Aside (Tb.Rt T) := hbo.1 rfl
    clear hbo
    by_cases c1 : nv = v
    · subst c1
      cases hh : Cn.hasS ms nf with
      | false =>
        rw [hh] at CH
        have Q1 : Aside (Q (.returned (.int .i64 10)) w1) := MZ.out 10 w1 RT.out (by unfold Tb.may; rw [if_neg (by rw [HT.out.1]; simp), if_pos (by rw [HT.out.2.1]; exact hh)]) B1.out
        clear hh
        clear MZ RZ
        go_wp2_with (first
          | (go_at_call 30; refine (CH.out _).mono ?_; rintro z w' ⟨rfl, hw⟩; replace hw := hw.symm; subst hw))
        
        exact Q1.out
      | true =>
        rw [hh] at CH
        have hf := Tb.has_lt hh
        have MY : Aside (Tb.may T nv nf ns = if ns < 0 ∨ 1000 ≤ ns then 2 else if ns < (bs nf : Int) then 6 else if (bs nf : Int) + 8 ≤ ns then 7 else 0) := by
          show Tb.may T nv nf ns = _
          unfold Tb.may; rw [if_neg (by rw [HT.out.1]; simp), if_neg (by rw [HT.out.2.1, hh]; decide), HT.out.2.2]
        have xb := X1.out.base hf
        have hbf := HB.out nf hf
        obtain ⟨B, hB⟩ : ∃ B, B = bs nf := ⟨_, rfl⟩
        rw [← hB] at xb hbf MY
        have f1 : (0 : Int) ≤ (nf : Int) := by omega
        have f2 : (nf : Int) < 16 := by omega
        have wB : wrap64 (B : Int) = (B : Int) := by unfold wrap64; omega
        have w8 : wrap64 ((B : Int) + 8) = (B : Int) + 8 := by unfold wrap64; omega
        clear hh hB
        by_cases c2 : ns < 0
        · have Q1 : Aside (Q (.returned (.int .i64 2)) w1) := MZ.out 2 w1 RT.out (by rw [MY.out, if_pos (.inl c2)]) B1.out
          clear MY
          clear MZ RZ
          go_wp2_with (first
            | (go_at_call 30; refine (CH.out _).mono ?_; rintro z w' ⟨rfl, hw⟩; replace hw := hw.symm; subst hw))
          
          exact Q1.out
        by_cases c3 : 1000 ≤ ns
        · have Q1 : Aside (Q (.returned (.int .i64 2)) w1) := MZ.out 2 w1 RT.out (by rw [MY.out, if_pos (.inr c3)]) B1.out
          clear MY
          clear MZ RZ
          go_wp2_with (first
            | (go_at_call 30; refine (CH.out _).mono ?_; rintro z w' ⟨rfl, hw⟩; replace hw := hw.symm; subst hw))
          
          exact Q1.out
        by_cases c4 : ns < (B : Int)
        · have Q1 : Aside (Q (.returned (.int .i64 6)) w1) := MZ.out 6 w1 RT.out (by rw [MY.out, if_neg (by omega), if_pos c4]) B1.out
          clear MY
          clear MZ RZ
          go_wp2_with (first
            | (go_at_call 30; refine (CH.out _).mono ?_; rintro z w' ⟨rfl, hw⟩; replace hw := hw.symm; subst hw))
          
          exact Q1.out
        by_cases c5 : (B : Int) + 8 ≤ ns
        · have Q1 : Aside (Q (.returned (.int .i64 7)) w1) := MZ.out 7 w1 RT.out (by rw [MY.out, if_neg (by omega), if_neg c4, if_pos c5]) B1.out
          clear MY
          clear MZ RZ
          go_wp2_with (first
            | (go_at_call 30; refine (CH.out _).mono ?_; rintro z w' ⟨rfl, hw⟩; replace hw := hw.symm; subst hw))
          
          exact Q1.out
        have Q1 : Aside (Q (.returned (.int .i64 0)) w1) := MZ.out 0 w1 RT.out (by rw [MY.out, if_neg (by omega), if_neg c4, if_neg c5]) B1.out
        clear MY
        clear MZ RZ
        go_wp2_with (first
          | (go_at_call 30; refine (CH.out _).mono ?_; rintro z w' ⟨rfl, hw⟩; replace hw := hw.symm; subst hw))
        
        exact Q1.out
    · have hne : (nv != v) = true := by simpa using c1
      have Q1 : Aside (Q (.returned (.int .i64 11)) w1) := MZ.out 11 w1 RT.out (by unfold Tb.may; rw [if_pos (by rw [HT.out.1]; exact c1)]) B1.out
      clear MZ RZ
      go_wp2_with (first
        | (go_at_call 30; refine (CH.out _).mono ?_; rintro z w' ⟨rfl, hw⟩; replace hw := hw.symm; subst hw))
      
      exact Q1.out
end Go.Proofs.Ytmhjmeedoajkjaa
