/- What is old is let go of: DeleteFunc with the closure of tell, walked. -/
import Derived.Test.YtbacnjkookakcaaHdL
set_option linter.unusedVariables false
namespace Go.Proofs.Ytbacnjkookakcaa
open Go.RowKit
namespace Hd
open Ps

theorem slice_from {g n c i : Nat} (hi : i ≤ n) (hc : i < c) (W : World) : (Instr.slice 34 (.slice (some ⟨g, 0, none⟩) n c) (some (.int .i64 (i : Int))) none none).run Try.prog W = .ok (.slice (some ⟨g, i * 20, none⟩) (n - i) (c - i)) W := by
  rw [run_slice_l (P := Try.prog) (w := W) 34 (some ⟨g, 0, none⟩) n c Try.underlying34 .i64 (i : Int) (by omega) (by omega)]
  have hz : (Go.sizeOf (Try.prog.elem 34)).run Try.prog W = .ok 20 W := Try.sizeOf43 W
  rw [hz]
  show Result.ok (sliced (some ⟨g, 0, none⟩) (i : Int).toNat n c 20) W = _
  unfold sliced
  rw [if_neg (by simp; omega)]
  simp [Addr.add]
  omega
theorem slice_to {g n c i : Nat} (hc : i ≤ c) (W : World) : (Instr.slice 34 (.slice (some ⟨g, 0, none⟩) n c) none (some (.int .i64 (i : Int))) none).run Try.prog W = .ok (.slice (some ⟨g, 0, none⟩) i c) W := by
  rw [run_slice_h (P := Try.prog) (w := W) 34 (some ⟨g, 0, none⟩) n c Try.underlying34 .i64 (i : Int) (by omega) (by omega)]
  have hz : (Go.sizeOf (Try.prog.elem 34)).run Try.prog W = .ok 20 W := Try.sizeOf43 W
  rw [hz]
  show Result.ok (sliced (some ⟨g, 0, none⟩) 0 (i : Int).toNat c 20) W = _
  unfold sliced
  split <;> simp [Addr.add]
theorem sliceAt_ (x : Value) (lo hi mx : Option Value) (W : World) : (Instr.sliceAt 34 x lo hi mx).run Try.prog W = (Instr.slice 34 x lo hi mx).run Try.prog W := by simp [Instr.sliceAt, run_underlying Try.underlying34]
theorem own_cells20 {w : World} {B g n c : Nat} {l : List It} (h : w.ownsRow B 43 20 (.slice (some ⟨g, 0, none⟩) n c) n (rowI l)) : (∀ j, j < n * 20 → (w.cell? ⟨g, j, none⟩).isSome = true) ∧ (∀ j, w.frozen? ⟨g, j, none⟩ = false) ∧ g < w.heap.size ∧ n ≤ c ∧ c ≤ maxLen := by
  rcases h.2 with ⟨e, _⟩ | ⟨g', cap, cur, e, hge, hh, hcap, hmax, hsz, ht⟩
  · cases e
  · cases e
    refine ⟨fun j hj => ?_, fun j => frozen_of_row w g j _ 43 hh, (Array.getElem?_eq_some_iff.1 hh).1, hcap, hmax⟩
    rw [cell_of_row w g j _ 43 _ hh, Array.getElem?_eq_getElem (by rw [hsz]; omega)]; rfl
theorem wpList_row_store {w : World} {ops : Array Oper} {rest : List Oper} {o : Oper} {a : Act} {Q : Exit → Act → World → Prop} {g off : Nat} {y : It} (h : (∀ j, j < 20 → (w.cell? ⟨g, off + j, none⟩).isSome = true) ∧ (∀ j, w.frozen? ⟨g, j, none⟩ = false)) (hg : o.guard = none) (p z : Operand) (ho : o.op = .store 43 p z)
    (hp : a.eval p = .pointer (some ⟨g, off, none⟩)) (hx : a.eval z = .agg (itA y)) (hn : wpList Try.prog ops Q rest (a.put o.dst undef) (w.setCells g off (itA y).toList)) : wpList Try.prog ops Q (o :: rest) a w :=
  wpList_store hg 43 20 p z ho (Try.sizeOf43 w) (itA y).toList rfl g off hp (by simpa using hx) (fun j hj => h.1 j hj) (fun j _ => h.2 _) (itA_one y) hn
theorem del_start {w w1 : World} {f : Nat → Nat} {hb : Nat} {s : Value} {B g n c : Nat} {l : List It} (hl : l.length = n) (hH : H17 w hb 36 f s) (hown : w.ownsRow B 43 20 (.slice (some ⟨g, 0, none⟩) n c) n (rowI l)) (hb1 : Below w.heap.size w w1) (hi : l.findIdx (oldI f) < l.length) :
    DelS w w1 f hb s B g n c l l (l.findIdx (oldI f)) (l.findIdx (oldI f) + 1) := by
  have ho := List.findIdx_getElem (w := hi) (p := oldI f) (xs := l)
  have hk : ∀ y ∈ l.take (l.findIdx (oldI f)), keep f y = true := fun y hy => by
    obtain ⟨i, h1, h2⟩ := List.mem_iff_getElem.1 hy
    rw [List.length_take] at h1
    have h3 := List.not_of_lt_findIdx (p := oldI f) (xs := l) (i := i) (by omega)
    rw [List.getElem_take] at h2
    rw [h2] at h3
    simpa [keep] using h3
  have e : (l.take (l.findIdx (oldI f) + 1)).filter (keep f) = l.take (l.findIdx (oldI f)) := by
    rw [List.take_succ_eq_append_getElem hi, List.filter_append, List.filter_eq_self.2 hk]
    simp [keep, ho]
  exact ⟨hl, by omega, by rw [e, List.length_take]; omega, e.symm, rfl, own_later20 hown hb1, hH.later hb1, below_grown hb1⟩

set_option maxHeartbeats 8000000 in
set_option maxRecDepth 100000 in
theorem delete_any (f : Nat → Nat) (hb : Nat) (s : Value) (B g n c : Nat) (l : List It) (w : World) (hl : l.length = n) (hn : n ≤ 1000) (hH : H17 w hb 36 f s) (hown : w.ownsRow B 43 20 (.slice (some ⟨g, 0, none⟩) n c) n (rowI l)) (hg : g ≠ hb) (hf : ∀ x ∈ l, x.frm < 16) (hv : ∀ i, i < 16 → f i < 65536) :
    Calls Try.prog 40 #[.slice (some ⟨g, 0, none⟩) n c, .func (.func 41) #[] #[.pointer (some ⟨hb, 0, none⟩)]] w fun e w' => ∃ k, e = .returned (.slice (some ⟨g, 0, none⟩) k c) ∧ k = (l.filter (keep f)).length ∧ w'.ownsRow B 43 20 (.slice (some ⟨g, 0, none⟩) k c) k (rowI (l.filter (keep f))) ∧ w.grownBy w' (some g) := by
  have hown' : w.ownsRow B 43 20 (.slice (some ⟨g, 0, none⟩) n c) l.length (rowI l) := by rw [hl]; exact hown
  have IX : Aside (Calls Try.prog 45 #[.slice (some ⟨g, 0, none⟩) n c, .func (.func 41) #[] #[.pointer (some ⟨hb, 0, none⟩)]] w fun e w' => e = .returned (.int .i64 (ixO f l)) ∧ Below w.heap.size w w') := by
    have := index_any f hb s (some ⟨g, 0, none⟩) c l w hH (own_at hown').2.1 hf hv (by omega)
    rw [hl] at this
    exact this
  have CD : Aside (∀ x, x ∈ l → ∀ W, H17 W hb 36 f s → Calls Try.prog 41 #[.agg (itA x), .pointer (some ⟨hb, 0, none⟩)] W fun e w' => e = .returned (.bool (oldI f x)) ∧ Below W.heap.size W w') := fun x hx W h => del_any f hb s x W h (hf x hx) (hv _ (hf x hx))
  have HL : Aside (l.length = n) := hl
  have GN : Aside (g ≠ hb) := hg
  by_cases hold : l.findIdx (oldI f) < l.length
  · have D0 : Aside (∀ w1, Below w.heap.size w w1 → DelS w w1 f hb s B g n c l l (l.findIdx (oldI f)) (l.findIdx (oldI f) + 1)) := fun w1 h => del_start hl hH hown h hold
    have hix : ixO f l = ((l.findIdx (oldI f) : Nat) : Int) := by unfold ixO; rw [if_pos hold]
    rw [hix] at IX
    have hin : l.findIdx (oldI f) < n := by omega
    clear hH hown hown' hf hv hg hold hix hl
    generalize l.findIdx (oldI f) = i0 at D0 IX hin
    have hi1 : ((i0 : Int) == -1) = false := by
      simp
    have hi2 : (i0 : Int) < 1000 := by omega
    have hi3 : (0 : Int) ≤ (i0 : Int) := by omega
    go_enter Try.func40, Try.ntmps40
    go_wp2_with fail
    refine IX.out.mono ?_
    rintro e w1 ⟨rfl, b1⟩
    have D1 : Aside (DelS w w1 f hb s B g n c l l i0 (i0 + 1)) := D0.out w1 b1
    clear b1 IX D0
    go_wp2_with fail
    go_loopw [5, 6] (fun i j wr => ∃ (p q : Nat) (M : List It), q ≤ n ∧ i = .int .i64 (p : Int) ∧ j = .int .i64 (q : Int) ∧ Aside (DelS w wr f hb s B g n c l M p q)) (fun _ j _ => n - (intOf j).toNat)
    case atStart => exact ⟨i0, i0 + 1, l, by omega, rfl, by go_num, D1.out⟩
    case round =>
      obtain ⟨p, q, M, hq, rfl, rfl, hD⟩ := hrel
      have DD : Aside (DelS w wr f hb s B g n c l M p q) := hD
      have hpq := hD.out.lt
      obtain ⟨oc, ofz, ogs, onc, omx⟩ := own_cells20 hD.out.own
      clear hD
      have OC : Aside ((∀ j, j < n * 20 → (wr.cell? ⟨g, j, none⟩).isSome = true) ∧ (∀ j, wr.frozen? ⟨g, j, none⟩ = false) ∧ g < wr.heap.size ∧ n ≤ c ∧ c ≤ maxLen) := ⟨oc, ofz, ogs, onc, omx⟩
      clear oc ofz ogs onc omx
      have t0 : (0 : Int) ≤ (q : Int) := by omega
      have p0 : (0 : Int) ≤ (p : Int) := by omega
      have p1 : (p : Int) < (n : Int) := by omega
      by_cases hlt : q < n
      · have t1 : (q : Int) < (n : Int) := by omega
        obtain ⟨x, hx, hm, hcs⟩ := DD.out.get hlt HL.out
        have HC : Aside (∀ i u, (itA x)[i]? = some u → wr.cell? ⟨g, q * 20 + i, none⟩ = some u) := fun i u h => by have := hcs i u h; rwa [Nat.zero_add] at this
        have X2 : Aside (I20 (wr.alloc (.cells #[.int .u8 0, .int .i64 0, .int .i64 0, .int .u16 0, .int .u16 0, .int .u16 0, .int .u16 0, .int .u16 0, .int .u16 0, .int .u16 0, .int .u16 0, .int .u16 0, .int .u16 0, .int .u16 0, .int .u16 0, .int .u16 0, .int .u16 0, .int .u16 0, .int .u16 0, .string ⟨#[]⟩] 43)) wr.heap.size 43 ⟨0, 0, ⟨0, fun _ => 0, ⟨#[]⟩⟩⟩) := I20.zeroT wr 43
        obtain ⟨V, hV⟩ : ∃ V, V = (wr.alloc (.cells #[.int .u8 0, .int .i64 0, .int .i64 0, .int .u16 0, .int .u16 0, .int .u16 0, .int .u16 0, .int .u16 0, .int .u16 0, .int .u16 0, .int .u16 0, .int .u16 0, .int .u16 0, .int .u16 0, .int .u16 0, .int .u16 0, .int .u16 0, .int .u16 0, .int .u16 0, .string ⟨#[]⟩] 43)).setCells wr.heap.size 0 (itA x).toList := ⟨_, rfl⟩
        have X3 : Aside (I20 V wr.heap.size 43 x ∧ Below wr.heap.size wr V) := by
          rw [hV]; exact ⟨X2.out.whole x, below_cells _ _ ((Below.refl _ wr).alloc (Nat.le_refl _) _) (Nat.le_refl _)⟩
        have HV : Aside (V = (wr.alloc (.cells #[.int .u8 0, .int .i64 0, .int .i64 0, .int .u16 0, .int .u16 0, .int .u16 0, .int .u16 0, .int .u16 0, .int .u16 0, .int .u16 0, .int .u16 0, .int .u16 0, .int .u16 0, .int .u16 0, .int .u16 0, .int .u16 0, .int .u16 0, .int .u16 0, .int .u16 0, .string ⟨#[]⟩] 43)).setCells wr.heap.size 0 (itA x).toList) := hV
        have HX : Aside (l[q]? = some x) := hx
        have C1 := CD.out x (List.mem_of_getElem? hx) V (DD.out.later X3.out.2).hH
        obtain ⟨r, hr⟩ : ∃ r, r = oldI f x := ⟨_, rfl⟩
        rw [← hr] at C1
        have HR : Aside (r = oldI f x) := hr
        have C2 : Aside (Calls Try.prog 41 #[.agg (itA x), .pointer (some ⟨hb, 0, none⟩)] V fun e w' => e = .returned (.bool r) ∧ Below V.heap.size V w') := C1
        clear hV hr hx hm hcs C1
        go_wp2_with (first
          | (with_reducible refine wpList_row43 HC.out rfl _ rfl rfl ?_)
          | (with_reducible refine wpList_it_store X2.out rfl _ _ rfl rfl rfl ?_; rw [← HV.out])
          | (with_reducible refine wpList_it43 X3.out.1 rfl _ rfl rfl ?_))
        refine C2.out.mono ?_
        rintro e w4 ⟨rfl, hb4⟩
        obtain ⟨pb, hpb⟩ : ∃ pb, pb = wr.heap.size := ⟨_, rfl⟩
        have X4 : Aside (I20 w4 pb 43 x ∧ DelS w w4 f hb s B g n c l M p q) := ⟨by rw [hpb]; exact X3.out.1.later hb4, (DD.out.later X3.out.2).later hb4⟩
        rw [← hpb]
        clear hpb hb4 C2 X2 X3 HV HC
        cases r with
        | true =>
          have D5 : Aside (DelS w w4 f hb s B g n c l M p (q + 1)) := X4.out.2.skip HX.out HR.out.symm
          go_wp2_with fail
          go_roundw
          case rel => exact ⟨p, q + 1, M, by omega, rfl, by go_num, D5.out⟩
          case measure => simp [intOf]; omega
        | false =>
          have D5 : Aside (DelS w (w4.setCells g (p * 20) (itA x).toList) f hb s B g n c l (M.set p x) (p + 1) (q + 1)) := X4.out.2.take HL.out GN.out HX.out HR.out.symm
          obtain ⟨oc, ofz, _⟩ := own_cells20 X4.out.2.own
          have O4 : Aside ((∀ j, j < 20 → (w4.cell? ⟨g, p * 20 + j, none⟩).isSome = true) ∧ (∀ j, w4.frozen? ⟨g, j, none⟩ = false)) := ⟨fun j hj => oc _ (by omega), ofz⟩
          clear oc ofz
          go_wp2_with (first
            | (with_reducible refine wpList_it43 X4.out.1 rfl _ rfl rfl ?_)
            | (with_reducible refine wpList_row_store O4.out rfl _ _ rfl rfl rfl ?_))
          go_roundw
          case rel => exact ⟨p + 1, q + 1, M.set p x, by omega, by go_num, by go_num, D5.out⟩
          case measure => simp [intOf]; omega
      · obtain rfl : q = n := by omega
        have hle : l.take q = l := List.take_of_length_le (by rw [HL.out]; exact Nat.le_refl _)
        have hi_ := DD.out.i_
        have htk := DD.out.tk
        rw [hle] at hi_ htk
        obtain ⟨zs, z1, z2⟩ : ∃ zs : List Value, zs.length = (q - p) * 20 ∧ ∀ ty, (Builtin.clear_ #[34] ty #[.slice (some ⟨g, p * 20, none⟩) (q - p) (c - p)]).run Try.prog wr = .ok (.tuple #[]) (wr.setCells g (p * 20) zs) := by
          obtain ⟨zs, z1, z2⟩ := run_clear20 wr 0 g (p * 20) (q - p) (c - p) (fun j hj => OC.out.1 _ (by omega)) (fun j _ => OC.out.2.1 _) (by omega)
          exact ⟨zs, z1, fun ty => z2⟩
        have FIN : Aside (p = (l.filter (keep f)).length ∧ (wr.setCells g (p * 20) zs).ownsRow B 43 20 (.slice (some ⟨g, 0, none⟩) p c) p (rowI (l.filter (keep f))) ∧ w.grownBy (wr.setCells g (p * 20) zs) (some g)) := by
          refine ⟨hi_, ?_, grown_cells _ _ DD.out.gr⟩
          rw [← htk]
          exact own_cut DD.out.own (by omega) (by rw [z1]; omega)
        have onc := OC.out.2.2.2.1
        have S1 := slice_from (g := g) (n := q) (c := c) (i := p) (by omega) (by omega) wr
        have S1' := (sliceAt_ (.slice (some ⟨g, 0, none⟩) q c) (some (.int .i64 (p : Int))) none none wr).trans S1
        have S2 := slice_to (g := g) (n := q) (c := c) (i := p) (by omega) (wr.setCells g (p * 20) zs)
        have S2' := (sliceAt_ (.slice (some ⟨g, 0, none⟩) q c) none (some (.int .i64 (p : Int))) none (wr.setCells g (p * 20) zs)).trans S2
        clear hle hi_ htk z1 onc
        generalize wr.setCells g (p * 20) zs = W2 at z2 FIN S2 S2'
        go_wp2_with fail
        go_ret
        exact ⟨p, rfl, FIN.out⟩
  · have hix : ixO f l = -1 := by unfold ixO; rw [if_neg hold]
    rw [hix] at IX
    have e : l.filter (keep f) = l := List.filter_eq_self.2 fun y hy => by
      obtain ⟨i, h1, h2⟩ := List.mem_iff_getElem.1 hy
      have h3 := List.not_of_lt_findIdx (p := oldI f) (xs := l) (i := i) (by omega)
      rw [h2] at h3
      simpa [keep] using h3
    have FIN : Aside (∀ w1, Below w.heap.size w w1 → n = (l.filter (keep f)).length ∧ w1.ownsRow B 43 20 (.slice (some ⟨g, 0, none⟩) n c) n (rowI (l.filter (keep f))) ∧ w.grownBy w1 (some g)) := fun w1 h => by
      rw [e]; exact ⟨hl.symm, own_later20 hown h, below_grown h⟩
    clear hH hown hown' hf hv hg hold hix hl e
    go_enter Try.func40, Try.ntmps40
    go_wp2_with fail
    refine IX.out.mono ?_
    rintro e w1 ⟨rfl, b1⟩
    have F1 : Aside (n = (l.filter (keep f)).length ∧ w1.ownsRow B 43 20 (.slice (some ⟨g, 0, none⟩) n c) n (rowI (l.filter (keep f))) ∧ w.grownBy w1 (some g)) := FIN.out w1 b1
    clear b1 IX FIN
    go_wp2_with fail
    go_ret
    exact ⟨n, rfl, F1.out⟩
end Hd
end Go.Proofs.Ytbacnjkookakcaa
