/- What Decode gives, of any text: the body whose bytes it is, or the error. -/
import Derived.Test.YtkphpdejcmkdeaaPsL
import Derived.Test.YtkphpdejcmkdeaaDec
set_option linter.unusedVariables false
namespace Go.Proofs.Ytkphpdejcmkdeaa
open Go.RowKit Go.Shelf
namespace Ps

theorem bdA_upd (x : Bd) {k : Nat} (n : Nat) (hk : k < 16) : (bdA x).setIfInBounds (1 + k) (.int .u16 (n : Int)) = bdA ⟨x.kind, upd x.past k n, x.text⟩ := by
  have : k = 0 ∨ k = 1 ∨ k = 2 ∨ k = 3 ∨ k = 4 ∨ k = 5 ∨ k = 6 ∨ k = 7 ∨ k = 8 ∨ k = 9 ∨ k = 10 ∨ k = 11 ∨ k = 12 ∨ k = 13 ∨ k = 14 ∨ k = 15 := by omega
  rcases this with rfl | rfl | rfl | rfl | rfl | rfl | rfl | rfl | rfl | rfl | rfl | rfl | rfl | rfl | rfl | rfl <;> rfl
theorem B18.set {w : World} {b k : Nat} {t : TypeId} {x : Bd} (h : B18 w b t x) (n : Nat) (hk : k < 16) : B18 (w.setCell ⟨b, 1 + k, none⟩ (.int .u16 (n : Int))) b t ⟨x.kind, upd x.past k n, x.text⟩ := by
  have := row_set h (j := 1 + k) (.int .u16 (n : Int))
  rw [bdA_upd x n hk] at this; exact this
/-- A body under way: its numbers as far as the k-th. -/
def stage (q : Int) (T : ByteArray) (f : Nat → Nat) (k : Nat) : Bd := ⟨q, fun i => if i < k then f i else 0, T⟩
theorem stage_next (q : Int) (T : ByteArray) (f : Nat → Nat) (k n : Nat) (hn : n = f k) : (⟨q, upd (stage q T f k).past k n, T⟩ : Bd) = stage q T f (k + 1) := by
  unfold stage
  congr 1
  funext i
  show upd (fun i => if i < k then f i else 0) k n i = _
  unfold upd
  by_cases h : i = k
  · subst h; rw [if_pos rfl, if_pos (by omega), hn]
  · rw [if_neg h]
    show (if i < k then f i else 0) = _
    by_cases h2 : i < k
    · rw [if_pos h2, if_pos (by omega)]
    · rw [if_neg h2, if_neg (by omega)]
def zeroB : Bd := ⟨0, fun _ => 0, ⟨#[]⟩⟩
def decB (bs : List UInt8) : Bd := (dec bs).getD zeroB
def decK (bs : List UInt8) : Nat := if (dec bs).isSome = true then 0 else 4
theorem B18.zero (w : World) (t : TypeId) : B18 (w.alloc (.cells #[.int .i64 0, .int .u16 0, .int .u16 0, .int .u16 0, .int .u16 0, .int .u16 0, .int .u16 0, .int .u16 0, .int .u16 0, .int .u16 0, .int .u16 0, .int .u16 0, .int .u16 0, .int .u16 0, .int .u16 0, .int .u16 0, .int .u16 0, .string ⟨#[]⟩] t)) w.heap.size t zeroB := B18.new w t zeroB
theorem wpList_bdZ35 {w : World} {ops : Array Oper} {rest : List Oper} {o : Oper} {a : Act} {Q : Exit → Act → World → Prop} {b : Nat} {t : TypeId} {x : Bd} (h : B18 w b t x) (hg : o.guard = none) (p y : Operand) (ho : o.op = .store 35 p y)
    (hp : a.eval p = .pointer (some ⟨b, 0, none⟩)) (hx : a.eval y = .agg #[.int .i64 0, .int .u16 0, .int .u16 0, .int .u16 0, .int .u16 0, .int .u16 0, .int .u16 0, .int .u16 0, .int .u16 0, .int .u16 0, .int .u16 0, .int .u16 0, .int .u16 0, .int .u16 0, .int .u16 0, .int .u16 0, .int .u16 0, .string ⟨#[]⟩]) (hn : wpList Try.prog ops Q rest (a.put o.dst undef) (w.setCells b 0 (bdA zeroB).toList)) : wpList Try.prog ops Q (o :: rest) a w := by
  refine wpList_store hg 35 18 p y ho (Try.sizeOf35 w) (bdA zeroB).toList rfl b 0 hp hx (fun j hj => ?_) (fun j _ => h.frozen _) (bdA_one zeroB) hn
  have hj : j < 18 := hj
  rw [Nat.zero_add, cell_of_row w b j _ t _ h, Array.getElem?_eq_getElem (show j < (bdA x).size from hj)]; rfl
theorem wpList_bd_store35 {w : World} {ops : Array Oper} {rest : List Oper} {o : Oper} {a : Act} {Q : Exit → Act → World → Prop} {b : Nat} {t : TypeId} {x z : Bd} (h : B18 w b t x) (hg : o.guard = none) (p y : Operand) (ho : o.op = .store 35 p y)
    (hp : a.eval p = .pointer (some ⟨b, 0, none⟩)) (hx : a.eval y = .agg (bdA z)) (hn : wpList Try.prog ops Q rest (a.put o.dst undef) (w.setCells b 0 (bdA z).toList)) : wpList Try.prog ops Q (o :: rest) a w := by
  refine wpList_store hg 35 18 p y ho (Try.sizeOf35 w) (bdA z).toList rfl b 0 hp (by simpa using hx) (fun j hj => ?_) (fun j _ => h.frozen _) (bdA_one z) hn
  have hj : j < 18 := hj
  rw [Nat.zero_add, cell_of_row w b j _ t _ h, Array.getElem?_eq_getElem (show j < (bdA x).size from hj)]; rfl
theorem conv_txt (w : World) (s : ByteArray) : ∃ gc W', (convert 9 54 (.string s)).run Try.prog w = .ok (.slice (some ⟨w.heap.size, 0, none⟩) s.size gc) W' ∧ Below w.heap.size w W' ∧ s.size ≤ gc ∧ AtB W' (some ⟨w.heap.size, 0, none⟩) s.data.toList := by
  refine ⟨_, _, run_bytes_of_string w 9 54 5 s Try.underlying9 Try.underlying54 Try.underlying5, (Below.drew (Below.refl _ w)).alloc (Nat.le_refl _) _, grownCap_ge _ _ _ _, .inr ⟨w.heap.size, 0, rfl, fun j hj => ?_⟩⟩
  rw [Nat.zero_add, cell_of_row _ w.heap.size j _ 5 _ (heap_alloc_new w.drew _)]
  unfold bytesRow
  rw [Array.getElem?_append_left (by simpa using hj)]
  have hj2 : j < s.data.size := by simpa using hj
  simp
  exact ⟨_, Array.getElem?_eq_getElem hj2, rfl⟩

/-- What Decode is to give. -/
def DecP (bs : List UInt8) (w : World) (e : Ending) (w' : World) : Prop := e = .returned (.tuple #[.agg (bdA (decB bs)), .int .i64 (decK bs : Nat)]) ∧ Below w.heap.size w w'
theorem decP_err {bs : List UInt8} {w w' : World} (h : dec bs = none) (hb : Below w.heap.size w w') : DecP bs w (.returned (.tuple #[.agg (bdA zeroB), .int .i64 4])) w' := by
  unfold DecP decB decK; rw [h]; exact ⟨rfl, hb⟩
theorem decP_ok {bs : List UInt8} {w w' : World} {b : Bd} (h : dec bs = some b) (hb : Below w.heap.size w w') : DecP bs w (.returned (.tuple #[.agg (bdA b), .int .i64 0])) w' := by
  unfold DecP decB decK; rw [h]; exact ⟨rfl, hb⟩
theorem fits_no {l : List Pk.Fld} (h : isB l kinds = false) : fits l = false := by
  unfold fits
  rw [show decide (l.map (·.kind) = kinds) = isB l kinds from rfl, h]; rfl
theorem fits_great {l : List Pk.Fld} (h : l.all (fun f => decide (f.num.toNat ≤ 1000)) = false) : fits l = false := by
  unfold fits; rw [h, Bool.and_false, Bool.false_and]
theorem fits_may {l : List Pk.Fld} (h : isB l kinds = true) (h2 : l.all (fun f => decide (f.num.toNat ≤ 1000)) = true) : fits l = may (ofF l) := by
  unfold fits
  rw [show decide (l.map (·.kind) = kinds) = isB l kinds from rfl, h, h2]; rfl

set_option maxHeartbeats 8000000 in
set_option maxRecDepth 100000 in
theorem decode_bd (s : ByteArray) (w : World) : Calls Try.prog 16 #[.string s] w (DecP s.data.toList w) := by
  have PE : Aside (∀ w', dec s.data.toList = none → Below w.heap.size w w' → _) := fun w' h hb => decP_err h hb
  have PO : Aside (∀ w' b, dec s.data.toList = some b → Below w.heap.size w w' → _) := fun w' b h hb => decP_ok h hb
  generalize DecP s.data.toList w = Q at PE PO ⊢
  have CK : Aside (∀ W, Calls Try.prog 29 #[] W fun e w' => ∃ a cap, e = .returned (.slice a 18 cap) ∧ AtI w' a kinds ∧ Below W.heap.size W w') := fun W => kinds_any W
  have X0 : Aside (B18 (w.alloc (.cells #[.int .i64 0, .int .u16 0, .int .u16 0, .int .u16 0, .int .u16 0, .int .u16 0, .int .u16 0, .int .u16 0, .int .u16 0, .int .u16 0, .int .u16 0, .int .u16 0, .int .u16 0, .int .u16 0, .int .u16 0, .int .u16 0, .int .u16 0, .string ⟨#[]⟩] 35)) w.heap.size 35 zeroB ∧ Below w.heap.size w (w.alloc (.cells #[.int .i64 0, .int .u16 0, .int .u16 0, .int .u16 0, .int .u16 0, .int .u16 0, .int .u16 0, .int .u16 0, .int .u16 0, .int .u16 0, .int .u16 0, .int .u16 0, .int .u16 0, .int .u16 0, .int .u16 0, .int .u16 0, .int .u16 0, .string ⟨#[]⟩] 35))) := ⟨B18.zero w 35, (Below.refl _ w).alloc (Nat.le_refl _) _⟩
  obtain ⟨gc, W1, hrun, hb1, hgc, hat⟩ := conv_txt (w.alloc (.cells #[.int .i64 0, .int .u16 0, .int .u16 0, .int .u16 0, .int .u16 0, .int .u16 0, .int .u16 0, .int .u16 0, .int .u16 0, .int .u16 0, .int .u16 0, .int .u16 0, .int .u16 0, .int .u16 0, .int .u16 0, .int .u16 0, .int .u16 0, .string ⟨#[]⟩] 35)) s
  have X1 : Aside (B18 W1 w.heap.size 35 zeroB ∧ Below w.heap.size w W1) := ⟨X0.out.1.later hb1, step_below X0.out.2 hb1⟩
  rw [World.size_alloc] at hrun hat
  have hD := decode_all (some ⟨w.heap.size + 1, 0, none⟩) s.size gc s.data.toList W1 (by simp) hgc hat
  clear hb1 hgc hat X0
  unfold DecPost at hD
  go_enter Try.func16, Try.ntmps16
  go_wp2_with fail
  refine hD.mono ?_
  rintro e w2 ⟨hp, hb2⟩
  have X2 : Aside (B18 w2 w.heap.size 35 zeroB ∧ Below w.heap.size w w2) := ⟨X1.out.1.later hb2, step_below X1.out.2 hb2⟩
  clear hD hrun hb2 X1
  rcases hd : Pk.decP s.data.toList with _ | l
  · rw [hd] at hp
    subst hp
    have dn : Aside (dec s.data.toList = none) := dec_none hd
    clear hd
    have Q1 : Aside (∀ w', Below w.heap.size w w' → _) := fun w' hb => PE.out w' dn.out hb
    have HB : Aside (B18 w2 w.heap.size 35 zeroB ∧ Below w.heap.size w w2) := ⟨X2.out.1, X2.out.2⟩
    clear PE PO
    go_wp2_with (with_reducible refine wpList_bdZ35 HB.out.1 rfl _ _ rfl rfl rfl ?_)
    exact bodyPost_ret (results_cell2 rfl rfl (Try.isAgg35 _) (Try.sizeOf35 _) (load_bd (HB.out.1.whole zeroB))) rfl (Q1.out _ (below_cells _ _ HB.out.2 (Nat.le_refl _)))
  · rw [hd] at hp
    obtain ⟨v, rfl, hown⟩ := hp
    have DF := dec_fits hd
    obtain ⟨la, lcap, rfl, hll, hla⟩ := owns_fields hown
    have LA : Aside (AtP w2 la l ∧ (∀ ad, la = some ad → ad.block < w2.heap.size ∨ l = [])) := ⟨hla, fun ad e => by
      rcases hla with h | ⟨b, off, h, hc⟩
      · exact .inr h
      · rw [h] at e; cases e
        rcases hq : l with _ | ⟨f, r⟩
        · exact .inr rfl
        · exact .inl (World.block_lt_of_cell? w2 _ (hc 0 f (by rw [hq]; rfl)).1)⟩
    have hz := (Pk.encE_zero.1 (Pk.decP_some hd).1).2.1
    clear hown hla hll
    go_wp2_with fail
    refine (CK.out w2).mono ?_
    rintro e w3 ⟨ka, kcap, rfl, hka, hb3⟩
    have hI := is_any la ka l.length 18 lcap kcap l kinds w3 (by omega) rfl rfl (atP_later hb3 LA.out.1) hka
    have X3 : Aside (B18 w3 w.heap.size 35 zeroB ∧ Below w.heap.size w w3 ∧ Below w2.heap.size w2 w3) := ⟨X2.out.1.later hb3, step_below X2.out.2 hb3, hb3⟩
    clear hka hb3 CK
    generalize hN : l.length = N at hI hz ⊢
    have HN : Hid (l.length = N) := hN
    clear hN
    rcases hk : isB l kinds with _ | _
    · rw [hk] at hI
      go_wp2_with fail
      refine hI.mono ?_
      rintro e w4 ⟨rfl, hb4⟩
      rw [if_neg (by rw [fits_no hk]; decide)] at DF
      have dn : Aside (dec s.data.toList = none) := DF
      have X4 : Aside (B18 w4 w.heap.size 35 zeroB ∧ Below w.heap.size w w4) := ⟨X3.out.1.later hb4, step_below X3.out.2.1 hb4⟩
      clear hI hb4 DF hk hd
      have Q1 : Aside (∀ w', Below w.heap.size w w' → _) := fun w' hb => PE.out w' dn.out hb
      have HB : Aside (B18 w4 w.heap.size 35 zeroB ∧ Below w.heap.size w w4) := ⟨X4.out.1, X4.out.2⟩
      clear PE PO
      go_wp2_with (with_reducible refine wpList_bdZ35 HB.out.1 rfl _ _ rfl rfl rfl ?_)
      exact bodyPost_ret (results_cell2 rfl rfl (Try.isAgg35 _) (Try.sizeOf35 _) (load_bd (HB.out.1.whole zeroB))) rfl (Q1.out _ (below_cells _ _ HB.out.2 (Nat.le_refl _)))
    · rw [hk] at hI
      obtain rfl : N = 18 := by
        have h := of_decide_eq_true hk
        have h2 := congrArg List.length h
        rw [← HN.out]
        simpa [kindsOf, kinds] using h2
      go_wp2_with fail
      refine hI.mono ?_
      rintro e w4 ⟨rfl, hb4⟩
      have X4 : Aside (B18 w4 w.heap.size 35 zeroB ∧ Below w.heap.size w w4 ∧ Below w2.heap.size w2 w4) := ⟨X3.out.1.later hb4, step_below X3.out.2.1 hb4, step_below X3.out.2.2 hb4⟩
      have hC := contains_any la 18 lcap l w4 (by omega) HN (atP_later X4.out.2.2 LA.out.1) _ rfl
      clear hI hb4
      go_wp2_with fail
      refine hC.mono ?_
      rintro e w5 ⟨rfl, hb5⟩
      have X5 : Aside (B18 w5 w.heap.size 35 zeroB ∧ Below w.heap.size w w5 ∧ Below w2.heap.size w2 w5) := ⟨X4.out.1.later hb5, step_below X4.out.2.1 hb5, step_below X4.out.2.2 hb5⟩
      clear hC hb5
      rcases hg : l.all (fun f => decide (f.num.toNat ≤ 1000)) with _ | _
      · rw [if_neg (by rw [fits_great hg]; decide)] at DF
        have dn : Aside (dec s.data.toList = none) := DF
        clear DF hk hd hg
        have Q1 : Aside (∀ w', Below w.heap.size w w' → _) := fun w' hb => PE.out w' dn.out hb
        have HB : Aside (B18 w5 w.heap.size 35 zeroB ∧ Below w.heap.size w w5) := ⟨X5.out.1, X5.out.2.1⟩
        clear PE PO
        go_wp2_with (with_reducible refine wpList_bdZ35 HB.out.1 rfl _ _ rfl rfl rfl ?_)
        exact bodyPost_ret (results_cell2 rfl rfl (Try.isAgg35 _) (Try.sizeOf35 _) (load_bd (HB.out.1.whole zeroB))) rfl (Q1.out _ (below_cells _ _ HB.out.2 (Nat.le_refl _)))
      · rw [fits_may hk hg] at DF
        have DD : Aside (_ = _) := DF
        have GR : Aside (_ = _) := hg
        clear DF hd hk hg
        have hl18 : l.length = 18 := HN.out
        rcases LA.out.1 with he | ⟨b, off, rfl, hcs⟩
        · exfalso; rw [he] at hl18; simp at hl18
        have hbl : b < w2.heap.size := by
          rcases LA.out.2 _ rfl with h | h
          · exact h
          · exfalso; rw [h] at hl18; simp at hl18
        have B25 := X5.out.2.2
        obtain ⟨-, c1, -, -⟩ := fldAt_later B25 rfl (hcs 0 l[0] (List.getElem?_eq_getElem (by omega)))
        obtain ⟨-, -, c2, -⟩ := fldAt_later B25 rfl (hcs 17 l[17] (List.getElem?_eq_getElem (by omega)))
        have hq0 : l[0].num.toNat ≤ 1000 := of_decide_eq_true (List.all_eq_true.1 GR.out _ (List.getElem_mem _))
        have K0 : Aside ((ofF l).kind = ((l[0].num.toNat : Nat) : Int)) := by
          show (((l[0]?.map fun f => f.num.toNat).getD 0 : Nat) : Int) = _
          rw [List.getElem?_eq_getElem (by omega)]; rfl
        have K1 : Aside ((ofF l).text = l[17].text) := by
          show ((l[17]?.map fun f => f.text).getD ⟨#[]⟩) = _
          rw [List.getElem?_eq_getElem (by omega)]; rfl
        generalize l[0].num.toNat = q0 at c1 hq0 K0
        generalize l[17].text = T at c2 K1
        have hwq : wrap64 (q0 : Int) = (q0 : Int) := by unfold wrap64; omega
        simp only [Nat.zero_mul, Nat.add_zero, Nat.reduceMul] at c1 c2
        have c3 : ∀ o, (w5.alloc o).cell? ⟨b, off + 1, none⟩ = some (.int .u64 (q0 : Int)) := fun o => by
          rw [World.cell?_alloc_past _ _ _ (World.block_lt_of_cell? w5 _ c1)]; exact c1
        have c4 : ∀ o, (w5.alloc o).cell? ⟨b, off + 68 + 2, none⟩ = some (.string T) := fun o => by
          rw [World.cell?_alloc_past _ _ _ (World.block_lt_of_cell? w5 _ c2)]; exact c2
        have H2 : Aside (_) := hcs
        clear hcs
        go_wp2_with fail
        go_region
        have Z0 : B18 (w5.alloc (.cells #[.int .i64 (q0 : Int), .int .u16 0, .int .u16 0, .int .u16 0, .int .u16 0, .int .u16 0, .int .u16 0, .int .u16 0, .int .u16 0, .int .u16 0, .int .u16 0, .int .u16 0, .int .u16 0, .int .u16 0, .int .u16 0, .int .u16 0, .int .u16 0, .string T] 35)).drew w5.heap.size 35 (stage (q0 : Int) T (ofF l).past 0) := B18.new w5 35 ⟨(q0 : Int), fun _ => 0, T⟩
        have Z1 : Below w5.heap.size w5 (w5.alloc (.cells #[.int .i64 (q0 : Int), .int .u16 0, .int .u16 0, .int .u16 0, .int .u16 0, .int .u16 0, .int .u16 0, .int .u16 0, .int .u16 0, .int .u16 0, .int .u16 0, .int .u16 0, .int .u16 0, .int .u16 0, .int .u16 0, .int .u16 0, .int .u16 0, .string T] 35)).drew := ((Below.refl _ w5).alloc (Nat.le_refl _) _).drew
        refine (?REST : ∀ V, B18 V w5.heap.size 35 (stage (q0 : Int) T (ofF l).past 0) ∧ Below w5.heap.size w5 V → Exit.then _ _ _ _ V) _ ⟨Z0, Z1⟩
        intro V hV
        have XV : Aside (_ ∧ _) := hV
        clear hV c1 c2 c3 c4 hwq Z0 Z1
        go_wp2_with fail
        go_loopw [7, 37] (fun _ i wr => ∃ k : Nat, k ≤ 16 ∧ i = .int .i64 k ∧ B18 wr w5.heap.size 35 (stage (q0 : Int) T (ofF l).past k) ∧ Below w5.heap.size w5 wr) (fun _ i _ => 16 - (intOf i).toNat)
        case atStart => exact ⟨0, by omega, rfl, XV.out⟩
        case round =>
          obtain ⟨k, hk, rfl, hbx, hbe⟩ := hrel
          have W : Aside (B18 wr w5.heap.size 35 (stage (q0 : Int) T (ofF l).past k) ∧ Below w5.heap.size w5 wr) := ⟨hbx, hbe⟩
          clear hbx hbe XV
          by_cases hlt : k < 16
          · obtain ⟨-, c1, -, -⟩ := fldAt_later (step_below B25 W.out.2) rfl (H2.out (1 + k) l[1 + k] (List.getElem?_eq_getElem (by omega)))
            have hqk : l[1 + k].num.toNat ≤ 1000 := of_decide_eq_true (List.all_eq_true.1 GR.out _ (List.getElem_mem _))
            have EK : Aside (l[1 + k].num.toNat = (ofF l).past k) := by
              show _ = (l[1 + k]?.map fun f => f.num.toNat).getD 0
              rw [List.getElem?_eq_getElem (by omega)]; rfl
            have d1 := W.out.1.past hlt
            have z1 := W.out.1.frozen (1 + k)
            generalize l[1 + k].num.toNat = qk at c1 hqk EK
            generalize (stage (q0 : Int) T (ofF l).past k).past k = old at d1
            have hwk : IntKind.u16.wrap (qk : Int) = (qk : Int) := by rw [IntKind.wrap_u16]; omega
            have t0 : (0 : Int) ≤ (k : Int) := by omega
            have t1 : (k : Int) < 16 := by omega
            have t2 : ((1 : Int) + (k : Int)).toNat = 1 + k := by omega
            have t3 : (1 : Int) + (k : Int) < 18 := by omega
            go_wp2
            go_roundw
            case rel =>
              refine ⟨k + 1, by omega, by go_num, ?_, W.out.2.setCell (Nat.le_refl _) _⟩
              have := W.out.1.set qk hlt
              rw [← stage_next (q0 : Int) T (ofF l).past k qk EK.out]
              exact this
            case measure => simp [intOf]; omega
          · obtain rfl : k = 16 := by omega
            have AL : Alike (stage (q0 : Int) T (ofF l).past 16) (ofF l) := ⟨K0.out.symm, fun i hi => by show (if i < 16 then (ofF l).past i else 0) = _; rw [if_pos hi], K1.out.symm⟩
            have ba := bdA_alike AL
            have W2 : Aside (B18 wr w5.heap.size 35 (ofF l)) := by
              have := W.out.1
              unfold B18 at this
              rw [ba] at this; exact this
            have WB : Aside (Below w5.heap.size w5 wr) := W.out.2
            have CM : Aside (∀ W, Calls Try.prog 20 #[.agg (bdA (ofF l))] W fun e w' => e = .returned (.bool (may (ofF l))) ∧ Below W.heap.size W w') := fun W => mayBe_any (ofF l) W
            clear W AL ba K0 K1 H2 LA GR
            rcases hm : may (ofF l) with _ | _
            · rw [hm] at CM
              have dn : Aside (dec s.data.toList = none) := by
                have := DD.out
                rw [if_neg (by rw [hm]; decide)] at this; exact this
              clear DD hm
              go_wp2_with (first
                | (with_reducible refine wpList_bd35 W2.out rfl _ rfl rfl ?_)
                | (go_at_call 20; refine (CM.out _).mono ?_; rintro e w7 ⟨rfl, hb7⟩; have B7 : Aside (Below w5.heap.size w5 w7) := step_below WB.out hb7; clear hb7)
                | (with_reducible refine wpList_bdZ35 (X5.out.1.later B7.out) rfl _ _ rfl rfl rfl ?_))
              exact bodyPost_ret (results_cell2 rfl rfl (Try.isAgg35 _) (Try.sizeOf35 _) (load_bd ((X5.out.1.later B7.out).whole zeroB))) rfl (PE.out _ dn.out (below_cells _ _ (step_below X5.out.2.1 B7.out) (Nat.le_refl _)))
            · rw [hm] at CM
              have dn : Aside (dec s.data.toList = some (ofF l)) := by
                have := DD.out
                rw [if_pos hm] at this; exact this
              clear DD hm
              go_wp2_with (first
                | (with_reducible refine wpList_bd35 W2.out rfl _ rfl rfl ?_)
                | (go_at_call 20; refine (CM.out _).mono ?_; rintro e w7 ⟨rfl, hb7⟩; have B7 : Aside (Below w5.heap.size w5 w7) := step_below WB.out hb7; have W3 : Aside (B18 w7 w5.heap.size 35 (ofF l)) := W2.out.later hb7; clear hb7 W2)
                | (with_reducible refine wpList_bd35 W3.out rfl _ rfl rfl ?_)
                | (with_reducible refine wpList_bd_store35 (X5.out.1.later B7.out) rfl _ _ rfl rfl rfl ?_))
              exact bodyPost_ret (results_cell2 rfl rfl (Try.isAgg35 _) (Try.sizeOf35 _) (load_bd ((X5.out.1.later B7.out).whole (ofF l)))) rfl (PO.out _ _ dn.out (below_cells _ _ (step_below X5.out.2.1 B7.out) (Nat.le_refl _)))
end Ps
end Go.Proofs.Ytkphpdejcmkdeaa
