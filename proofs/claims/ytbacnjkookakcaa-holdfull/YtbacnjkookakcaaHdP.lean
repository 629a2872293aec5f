/- What tell gives: what is told, one behind the other, and what waits still. -/
import Derived.Test.YtbacnjkookakcaaHdO
set_option linter.unusedVariables false
namespace Go.Proofs.Ytbacnjkookakcaa
open Go.RowKit
namespace Hd
open Ps

theorem cell_same {w w' : World} {b i : Nat} (h : w'.heap[b]? = w.heap[b]?) : w'.cell? ⟨b, i, none⟩ = w.cell? ⟨b, i, none⟩ := by unfold World.cell?; rw [h]
theorem own_keep {w w' : World} {B s n : Nat} {t : TypeId} {v : Value} {xs : List Value} (h : w.ownsRow B t s v n xs) (hk : ∀ j, B ≤ j → j < w.heap.size → w'.heap[j]? = w.heap[j]?) : w'.ownsRow B t s v n xs := by
  refine ⟨h.1, ?_⟩
  rcases h.2 with h | ⟨g, gc, cur, hv, hge, hh, rest⟩
  · exact .inl h
  · exact .inr ⟨g, gc, cur, hv, hge, by rw [hk g hge (Array.getElem?_eq_some_iff.1 hh).1]; exact hh, rest⟩
theorem own_same {w w' : World} {B s n c g : Nat} {t : TypeId} {xs : List Value} (h : w.ownsRow B t s (.slice (some ⟨g, 0, none⟩) n c) n xs) (hk : w'.heap[g]? = w.heap[g]?) : w'.ownsRow B t s (.slice (some ⟨g, 0, none⟩) n c) n xs := by
  refine ⟨h.1, ?_⟩
  rcases h.2 with ⟨e, _⟩ | ⟨g', gc, cur, hv, hge, hh, rest⟩
  · cases e
  · cases hv
    exact .inr ⟨_, _, cur, rfl, hge, by rw [hk]; exact hh, rest⟩
theorem grown_far {a b : World} {r : Option Nat} {j i : Nat} (h : a.grownBy b r) (hj : a.heap.size ≤ j) (u : Value) : a.grownBy (b.setCell ⟨j, i, none⟩ u) r :=
  ⟨h.os, h.tape, h.output, by rw [World.size_setCell]; exact h.size, fun k hk hne => (Below.heap_setCell _ _ _ k (by simp; omega)).trans (h.block k hk hne)⟩
theorem grown_fars {a : World} {r : Option Nat} {j : Nat} : ∀ (vs : List Value) (o : Nat) {b : World}, a.grownBy b r → a.heap.size ≤ j → a.grownBy (b.setCells j o vs) r
  | [], o, b, h, hj => h
  | v :: vs, o, b, h, hj => grown_fars vs (o + 1) (grown_far h hj v) hj
/-- Where tell is, ahead of each look for what is ready. -/
structure TS (w wr : World) (f fk : Nat → Nat) (l : List It) (g n c b : Nat) (g2 : Option Addr) (m q : Nat) (done : List It) : Prop where
  hH : H17 wr w.heap.size 36 fk (.slice (some ⟨g, 0, none⟩) n c)
  hR : H17 wr (w.heap.size + 2) 36 (fun _ => 0) (.slice none 0 0)
  hm : wr.cell? ⟨w.heap.size + 1, 0, none⟩ = some (.map (some b))
  below : Below w.heap.size w wr
  own : wr.ownsRow (w.heap.size + 3) 43 20 (.slice g2 m q) m (rowI done)
  len : done.length = m
  vec : ∀ i, i < 16 → fk i ≤ 1001
  tel : tellT f l = ((tellT fk l).1, done ++ (tellT fk l).2)
  cnt : m + left fk l ≤ l.length
theorem TS.later {w wr wr' : World} {f fk : Nat → Nat} {l : List It} {g n c b : Nat} {g2 : Option Addr} {m q : Nat} {done : List It} (h : TS w wr f fk l g n c b g2 m q done) (hb : Below wr.heap.size wr wr') : TS w wr' f fk l g n c b g2 m q done :=
  ⟨h.hH.later hb, h.hR.later hb, cell_later hb h.hm, step_below h.below hb, own_later20 h.own hb, h.len, h.vec, h.tel, h.cnt⟩
theorem may_seq {x : It} (h : mayI x = true) : x.seq ≤ 1000 ∧ x.frm < 16 := by
  unfold mayI rightB at h
  simp only [Bool.and_eq_true, decide_eq_true_eq] at h
  have h1 := (may_iff.1 h.1.1).2.2.1 x.frm h.1.2
  have h2 := h.2
  exact ⟨by omega, h.1.2⟩
theorem bump_le {fk : Nat → Nat} {x : It} (h : ∀ i, i < 16 → fk i ≤ 1001) (hr : readyI fk x = true) : fk x.frm ≤ 1000 ∧ ∀ i, i < 16 → bump fk x.frm i ≤ 1001 := by
  obtain ⟨h1, h2⟩ := ready_seq hr
  have h3 := (may_seq h1).1
  have h4 : fk x.frm ≤ 1000 := by omega
  refine ⟨h4, fun i hi => ?_⟩
  unfold bump upd
  split
  · omega
  · exact h i hi

set_option maxHeartbeats 16000000 in
set_option maxRecDepth 100000 in
theorem tell_any (f : Nat → Nat) (B g n c b : Nat) (l : List It) (w : World) (hl : l.length = n) (hn : n ≤ 1000) (hown : w.ownsRow B 43 20 (.slice (some ⟨g, 0, none⟩) n c) n (rowI l)) (hM : MapH w b n (wtK l n)) (hf : ∀ x ∈ l, Fit x) (hr : ∀ x ∈ l, x.frm < 16) (hv : ∀ i, i < 16 → f i ≤ 1001)
    (hap : ∀ i j x y, i < j → j < l.length → l[i]? = some x → l[j]? = some y → ¬ sameK x y) :
    Calls Try.prog 30 #[.agg (holdA f (.slice (some ⟨g, 0, none⟩) n c)), .map (some b)] w fun e w' => ∃ k g2 q, e = .returned (.tuple #[.agg (holdA (tellT f l).1 (.slice (some ⟨g, 0, none⟩) k c)), .slice g2 (tellT f l).2.length q]) ∧
      k = (l.filter (keep (tellT f l).1)).length ∧ w'.ownsRow B 43 20 (.slice (some ⟨g, 0, none⟩) k c) k (rowI (l.filter (keep (tellT f l).1))) ∧ w'.ownsRow (w.heap.size + 3) 43 20 (.slice g2 (tellT f l).2.length q) (tellT f l).2.length (rowI (tellT f l).2) ∧ w.grownBy w' (some g) := by
  have hg : g < w.heap.size := (own_cells20 hown).2.2.1
  obtain ⟨i0, hi, hz0, hz1, hz2⟩ := info_parts info43
  have I : Aside (Try.prog.info? 43 = some i0 ∧ i0.zero = some (.agg #[.int .u8 0, .int .i64 0, .int .i64 0, .int .u16 0, .int .u16 0, .int .u16 0, .int .u16 0, .int .u16 0, .int .u16 0, .int .u16 0, .int .u16 0, .int .u16 0, .int .u16 0, .int .u16 0, .int .u16 0, .int .u16 0, .int .u16 0, .int .u16 0, .int .u16 0, .string ⟨#[]⟩]) ∧ i0.size = 20 ∧ i0.bytes = 72) := ⟨hi, hz0, hz1, hz2⟩
  clear hi hz0 hz1 hz2
  have GN : Aside (g < w.heap.size) := hg
  have FIRST : Aside (∀ fk wr g2 m q done, TS w wr f fk l g n c b g2 m q done → Calls Try.prog 39 #[.pointer (some ⟨w.heap.size, 0, none⟩), .pointer (some ⟨w.heap.size + 1, 0, none⟩)] wr fun e w' => e = .returned (.int .i64 ((fstR fk l : Nat) : Int)) ∧ Below wr.heap.size wr w') := fun fk wr g2 m q done h => by
    refine first_any w.heap.size (w.heap.size + 1) b fk (some ⟨g, 0, none⟩) c l wr (by rw [hl]; exact h.hH) h.hm ?_ ?_ hf (fun i hi => by have := h.vec i hi; omega) (by omega) hap
    · rw [hl]; exact hM.kept (h.below.block b hM.lt)
    · exact (own_at (by rw [hl]; exact hown)).2.1.later h.below
  have HA : Aside (∀ wr, Below w.heap.size w wr → AtI wr (some ⟨g, 0, none⟩) l ∧ wr.ownsRow B 43 20 (.slice (some ⟨g, 0, none⟩) n c) n (rowI l)) := fun wr h => ⟨(own_at (by rw [hl]; exact hown)).2.1.later h, own_later20 hown h⟩
  have DEL : Aside (∀ fk wr g2 m q done, TS w wr f fk l g n c b g2 m q done → Calls Try.prog 40 #[.slice (some ⟨g, 0, none⟩) n c, .func (.func 41) #[] #[.pointer (some ⟨w.heap.size, 0, none⟩)]] wr fun e w' => ∃ k, e = .returned (.slice (some ⟨g, 0, none⟩) k c) ∧ k = (l.filter (keep fk)).length ∧ w'.ownsRow B 43 20 (.slice (some ⟨g, 0, none⟩) k c) k (rowI (l.filter (keep fk))) ∧ wr.grownBy w' (some g)) := fun fk wr g2 m q done h =>
    delete_any fk w.heap.size _ B g n c l wr hl hn h.hH (own_later20 hown h.below) (Nat.ne_of_lt hg) hr (fun i hi => by have := h.vec i hi; omega)
  have HL : Aside (l.length = n ∧ n ≤ 1000 ∧ (∀ x ∈ l, x.frm < 16)) := ⟨hl, hn, hr⟩
  obtain ⟨V, hV⟩ : ∃ V, V = ((w.alloc (.cells (holdA f (.slice (some ⟨g, 0, none⟩) n c)) 36)).alloc (.cells #[.map (some b)] 66)).alloc (.cells #[.int .u16 0, .int .u16 0, .int .u16 0, .int .u16 0, .int .u16 0, .int .u16 0, .int .u16 0, .int .u16 0, .int .u16 0, .int .u16 0, .int .u16 0, .int .u16 0, .int .u16 0, .int .u16 0, .int .u16 0, .int .u16 0, .slice none 0 0] 36) := ⟨_, rfl⟩
  have T0 : Aside (TS w V f f l g n c b none 0 0 []) := by
    have hR : H17 V (w.heap.size + 2) 36 (fun _ => 0) (.slice none 0 0) := by
      have := H17.zero ((w.alloc (.cells (holdA f (.slice (some ⟨g, 0, none⟩) n c)) 36)).alloc (.cells #[.map (some b)] 66))
      rw [World.size_alloc, World.size_alloc] at this
      rw [hV]; exact this
    have hm : V.cell? ⟨w.heap.size + 1, 0, none⟩ = some (.map (some b)) := by
      have h1 : (((w.alloc (.cells (holdA f (.slice (some ⟨g, 0, none⟩) n c)) 36)).alloc (.cells #[.map (some b)] 66))).heap[w.heap.size + 1]? = some (.cells #[.map (some b)] 66 (0, 0)) := by
        have := heap_alloc_new (w.alloc (.cells (holdA f (.slice (some ⟨g, 0, none⟩) n c)) 36)) (.cells #[.map (some b)] 66)
        rwa [World.size_alloc] at this
      have h2 := cell_of_row _ (w.heap.size + 1) 0 _ 66 _ h1
      rw [hV]
      exact cell_later ((Below.refl _ _).alloc (Nat.le_refl _) _) h2
    refine ⟨by rw [hV]; exact ((H17.new w 36 f _).alloc _).alloc _, hR, hm, by rw [hV]; exact (((Below.refl _ w).alloc (Nat.le_refl _) _).alloc (by simp) _).alloc (by simp; omega) _, World.ownsRow_nil _ _ _ _, rfl, hv, rfl, by rw [Nat.zero_add]; exact left_le f l⟩
  clear hown hM hf hr hv hap hl hg
  go_enter Try.func30, Try.ntmps30
  go_wp2_with fail
  rw [← hV]
  clear hV
  refine (FIRST.out f V none 0 0 [] T0.out).mono ?_
  rintro e w1 ⟨rfl, hb1⟩
  have T1 : Aside (TS w w1 f f l g n c b none 0 0 []) := T0.out.later hb1
  clear hb1 T0
  go_wp2_with fail
  go_loopw [7, 8, 9] (fun out i _ wr => ∃ fk g2 m q done, m ≤ n ∧ i = .int .i64 ((fstR fk l : Nat) : Int) ∧ out = .slice g2 m q ∧ Aside (TS w wr f fk l g n c b g2 m q done)) (fun out _ _ _ => n - lenOf out)
  case atStart => exact ⟨f, none, 0, 0, [], Nat.zero_le _, rfl, rfl, T1⟩
  case round =>
    obtain ⟨fk, g2, m, q, done, hm, rfl, rfl, TK⟩ := hrel
    have c16 := TK.out.hH.wait
    by_cases hlt : fstR fk l < n
    · have t1 : ((fstR fk l : Nat) : Int) < (n : Int) := by omega
      have t0 : (0 : Int) ≤ ((fstR fk l : Nat) : Int) := by omega
      obtain ⟨b9, off9, x, e9, hx, hcs⟩ := (HA.out wr TK.out.below).1.get (j := fstR fk l) (by rw [HL.out.1]; exact hlt)
      cases e9
      have RX : Aside (readyI fk x = true) := fstR_ready hx
      have hxl := List.mem_of_getElem? hx
      have X16 := HL.out.2.2 x hxl
      have BL : Aside (fk x.frm ≤ 1000 ∧ ∀ i, i < 16 → bump fk x.frm i ≤ 1001) := bump_le TK.out.vec RX.out
      have TG : Aside (tellT fk l = ((tellT (bump fk x.frm) l).1, x :: (tellT (bump fk x.frm) l).2) ∧ left (bump fk x.frm) l + 1 ≤ left fk l) := ⟨tellT_go hx, left_step hxl RX.out⟩
      have HC : Aside (∀ i u, (itA x)[i]? = some u → wr.cell? ⟨g, fstR fk l * 20 + i, none⟩ = some u) := fun i u hu => by have := hcs i u hu; rwa [Nat.zero_add] at this
      have HC2 : Aside (∀ i u, (itA x)[i]? = some u → (wr.alloc (.cells #[.int .u8 0, .int .i64 0, .int .i64 0, .int .u16 0, .int .u16 0, .int .u16 0, .int .u16 0, .int .u16 0, .int .u16 0, .int .u16 0, .int .u16 0, .int .u16 0, .int .u16 0, .int .u16 0, .int .u16 0, .int .u16 0, .int .u16 0, .int .u16 0, .int .u16 0, .string ⟨#[]⟩] 43)).cell? ⟨g, fstR fk l * 20 + i, none⟩ = some u) := fun i u hu => cell_later ((Below.refl _ wr).alloc (Nat.le_refl _) _) (HC.out i u hu)
      have ZB : Aside (I20 (wr.alloc (.cells #[.int .u8 0, .int .i64 0, .int .i64 0, .int .u16 0, .int .u16 0, .int .u16 0, .int .u16 0, .int .u16 0, .int .u16 0, .int .u16 0, .int .u16 0, .int .u16 0, .int .u16 0, .int .u16 0, .int .u16 0, .int .u16 0, .int .u16 0, .int .u16 0, .int .u16 0, .string ⟨#[]⟩] 43)) wr.heap.size 43 ⟨0, 0, ⟨0, fun _ => 0, ⟨#[]⟩⟩⟩) := I20.zeroT wr 43
      obtain ⟨W2, hW2⟩ : ∃ W2, W2 = (wr.alloc (.cells #[.int .u8 0, .int .i64 0, .int .i64 0, .int .u16 0, .int .u16 0, .int .u16 0, .int .u16 0, .int .u16 0, .int .u16 0, .int .u16 0, .int .u16 0, .int .u16 0, .int .u16 0, .int .u16 0, .int .u16 0, .int .u16 0, .int .u16 0, .int .u16 0, .int .u16 0, .string ⟨#[]⟩] 43)).setCells wr.heap.size 0 (itA x).toList := ⟨_, rfl⟩
      have S2 : Aside (I20 W2 wr.heap.size 43 x ∧ TS w W2 f fk l g n c b g2 m q done ∧ w.heap.size < wr.heap.size) := by
        have hb : Below wr.heap.size wr W2 := by rw [hW2]; exact below_cells _ _ ((Below.refl _ wr).alloc (Nat.le_refl _) _) (Nat.le_refl _)
        exact ⟨by rw [hW2]; exact ZB.out.whole x, TK.out.later hb, TK.out.hH.lt⟩
      obtain ⟨r, hr⟩ : ∃ r, r = fk x.frm + 1 := ⟨_, rfl⟩
      have u16 : IntKind.u16.wrap (((fk x.frm : Nat) : Int) + 1) = (r : Int) := by have := BL.out.1; rw [IntKind.wrap_u16]; omega
      have HR : Aside (bump fk x.frm = upd fk x.frm r) := by rw [hr]; rfl
      have d0 := S2.out.1.frm
      have d1 := S2.out.2.1.hH.at_ X16
      have z1 := S2.out.2.1.hH.frozen x.frm
      have i1 : (0 : Int) ≤ (x.frm : Int) := by omega
      have i2 : (x.frm : Int) < 16 := by omega
      have X3 : Aside (I20 (W2.setCell ⟨w.heap.size, x.frm, none⟩ (.int .u16 (r : Int))) wr.heap.size 43 x) := S2.out.1.far (Nat.ne_of_gt S2.out.2.2) _
      have T3 : Aside (H17 (W2.setCell ⟨w.heap.size, x.frm, none⟩ (.int .u16 (r : Int))) w.heap.size 36 (bump fk x.frm) (.slice (some ⟨g, 0, none⟩) n c) ∧ H17 (W2.setCell ⟨w.heap.size, x.frm, none⟩ (.int .u16 (r : Int))) (w.heap.size + 2) 36 (fun _ => 0) (.slice none 0 0) ∧ (W2.setCell ⟨w.heap.size, x.frm, none⟩ (.int .u16 (r : Int))).cell? ⟨w.heap.size + 1, 0, none⟩ = some (.map (some b)) ∧ Below w.heap.size w (W2.setCell ⟨w.heap.size, x.frm, none⟩ (.int .u16 (r : Int))) ∧ (W2.setCell ⟨w.heap.size, x.frm, none⟩ (.int .u16 (r : Int))).ownsRow (w.heap.size + 3) 43 20 (.slice g2 m q) m (rowI done)) := by
        have h0 := S2.out.2.1
        refine ⟨by rw [HR.out]; exact h0.hH.setv r X16, h0.hR.far (by omega) _, ?_, h0.below.setCell (p := ⟨w.heap.size, x.frm, none⟩) (Nat.le_refl _) _, ownsRow_setCell_below h0.own (a := ⟨w.heap.size, x.frm, none⟩) (show w.heap.size < w.heap.size + 3 by omega) _⟩
        rw [cell_same (Below.heap_setCell _ _ _ (w.heap.size + 1) (by simp))]
        exact h0.hm
      have DN : Aside (done.length = m ∧ tellT f l = ((tellT fk l).1, done ++ (tellT fk l).2) ∧ m + left fk l ≤ l.length) := ⟨TK.out.len, TK.out.tel, TK.out.cnt⟩
      have hm1 : m + 1 ≤ n := by have h1 := TK.out.cnt; have h2 := TG.out.2; have h3 := HL.out.1; omega
      clear hr hxl hx hcs TK
      generalize fk x.frm = qf at d1 u16
      go_wp2_with (first
        | (with_reducible refine wpList_row43 HC.out rfl _ rfl rfl ?_)
        | (with_reducible refine wpList_row43 HC2.out rfl _ rfl rfl ?_)
        | ((with_reducible refine wpList_it_store ZB.out rfl _ _ rfl rfl rfl ?_); rw [← hW2]; clear hW2 ZB HC HC2)
        | (with_reducible refine wpList_it43 X3.out rfl _ rfl rfl ?_)
        | (with_reducible refine wpList_bs20 x rfl _ rfl rfl ?_)
        | (at_builtin; refine wpList_append_own_at _ rfl _ _ 34 rfl (w.heap.size + 3) 43 i0 (.agg #[.int .u8 0, .int .i64 0, .int .i64 0, .int .u16 0, .int .u16 0, .int .u16 0, .int .u16 0, .int .u16 0, .int .u16 0, .int .u16 0, .int .u16 0, .int .u16 0, .int .u16 0, .int .u16 0, .int .u16 0, .int .u16 0, .int .u16 0, .int .u16 0, .int .u16 0, .string ⟨#[]⟩]) 20 72 Try.underlying34 I.out.1 I.out.2.1 I.out.2.2.1 I.out.2.2.2 rfl (by decide) _ _ _ rfl (T3.out.2.2.2.2.alloc _) ⟨(W2.setCell ⟨w.heap.size, x.frm, none⟩ (.int .u16 (r : Int))).heap.size, 0, none⟩ 1 1 (itA x).toList rfl rfl ?c1 ?c2 ?c3 ?c4 ?c5 ?_))
      case c1 =>
        intro j u hu
        have h1 := heap_alloc_new (W2.setCell ⟨w.heap.size, x.frm, none⟩ (.int .u16 (r : Int))) (.cells (itA x) 43)
        rw [Addr.add_lit, Nat.zero_add, cell_of_row _ _ j _ 43 _ h1]
        simpa using hu
      case c2 => exact itA_one x
      case c3 => have := HL.out.2.1; unfold maxLen; omega
      case c4 => have := HL.out.2.1; omega
      case c5 => have := T3.out.2.1.lt; simp at this ⊢; omega
      intro v' wn hown hgrow _ hat
      have NX0 : ∃ g3 q3, v' = .slice g3 (m + 1) q3 ∧ TS w wn f (bump fk x.frm) l g n c b g3 (m + 1) q3 (done ++ [x]) := by
        have e1 : rowI done ++ (itA x).toList = rowI (done ++ [x]) := by rw [rowI_append]; show _ = rowI done ++ ((itA x).toList ++ []); rw [List.append_nil]
        rw [e1] at hown
        obtain ⟨g3, q3, rfl⟩ : ∃ g3 q3, v' = .slice g3 (m + 1) q3 := by
          rcases hown.2 with ⟨_, h0⟩ | ⟨g', cap, cur, hv, _⟩
          · omega
          · exact ⟨_, _, hv⟩
        refine ⟨g3, q3, rfl, ?_⟩
        have lt1 : ∀ j, (Value.slice g2 m q).ownBlock = some j → w.heap.size + 3 ≤ j := fun j hj => (T3.out.2.2.2.2.lt j hj).1
        have bl := T3.out.2.2.2.1.alloc T3.out.2.2.2.1.size (.cells (itA x) 43)
        have hbk : ∀ k, k < w.heap.size + 3 → k < W2.heap.size → wn.heap[k]? = (W2.setCell ⟨w.heap.size, x.frm, none⟩ (.int .u16 (r : Int))).heap[k]? := fun k hk hk2 => by
          rw [hgrow.block k (by simp; omega) (fun e => by have := lt1 _ e.symm; omega)]
          exact ((Below.refl _ _).alloc (Nat.le_refl _) _).block k (by simpa using hk2)
        have lt2 := T3.out.2.1.lt
        simp at lt2
        refine ⟨?_, ?_, ?_, bl.grown hgrow (by simp; omega) (fun j hj => by have := lt1 j hj; omega), hown, by rw [List.length_append, DN.out.1]; rfl, BL.out.2, ?_, by have := DN.out.2.2; have := TG.out.2; omega⟩
        · exact (hbk _ (by omega) (by omega)).trans T3.out.1
        · exact (hbk _ (by omega) (by omega)).trans T3.out.2.1
        · rw [cell_same (hbk _ (by omega) (by omega))]; exact T3.out.2.2.1
        · rw [DN.out.2.1, TG.out.1, List.append_assoc]; rfl
      obtain ⟨g3, q3, rfl, NX1⟩ := NX0
      have NX : Aside (TS w wn f (bump fk x.frm) l g n c b g3 (m + 1) q3 (done ++ [x])) := NX1
      clear NX1 hown hgrow hat T3 X3 S2 d0 d1 z1 u16 c16
      go_wp2_with (go_at_call 39; (with_reducible refine (FIRST.out _ wn _ _ _ _ NX.out).mono ?_); rintro e w4 ⟨rfl, hb4⟩; have N4 : Aside (TS w w4 f (bump fk x.frm) l g n c b g3 (m + 1) q3 (done ++ [x])) := NX.out.later hb4; clear hb4)
      go_roundw
      case rel => exact ⟨bump fk x.frm, g3, m + 1, q3, done ++ [x], hm1, rfl, rfl, N4⟩
      case measure => simp [lenOf]; omega
    · have t1 : ¬ ((fstR fk l : Nat) : Int) < (n : Int) := by omega
      have TT : Aside (tellT f l = (fk, done)) := by
        have h1 := TK.out.tel
        rw [tellT_stop (f := fk) (l := l) (by rw [HL.out.1]; exact hlt), List.append_nil] at h1
        exact h1
      go_wp2_with (first
        | (go_at_call 40; (with_reducible refine (DEL.out fk wr g2 m q done TK.out).mono ?_); rintro e w5 ⟨k, rfl, ek, how, hgr⟩; have D5 : Aside (H17 w5 w.heap.size 36 fk (.slice (some ⟨g, 0, none⟩) n c) ∧ H17 w5 (w.heap.size + 2) 36 (fun _ => 0) (.slice none 0 0) ∧ w5.ownsRow B 43 20 (.slice (some ⟨g, 0, none⟩) k c) k (rowI (l.filter (keep fk))) ∧ w5.ownsRow (w.heap.size + 3) 43 20 (.slice g2 m q) m (rowI done) ∧ w.grownBy w5 (some g) ∧ k = (l.filter (keep fk)).length) := ⟨(hgr.block _ TK.out.hH.lt (by simp; have := GN.out; omega)).trans TK.out.hH, (hgr.block _ TK.out.hR.lt (by simp; have := GN.out; omega)).trans TK.out.hR, how, own_keep TK.out.own (fun j hj hj2 => hgr.block j hj2 (by simp; have := GN.out; omega)), grown_step (below_grown TK.out.below) hgr, ek⟩; clear ek how hgr c16; have d16 := D5.out.1.wait; have z16 := D5.out.1.frozen 16; have H6 : Aside (H17 (w5.setCell ⟨w.heap.size, 16, none⟩ (.slice (some ⟨g, 0, none⟩) k c)) w.heap.size 36 fk (.slice (some ⟨g, 0, none⟩) k c) ∧ H17 (w5.setCell ⟨w.heap.size, 16, none⟩ (.slice (some ⟨g, 0, none⟩) k c)) (w.heap.size + 2) 36 (fun _ => 0) (.slice none 0 0)) := ⟨D5.out.1.setw _, D5.out.2.1.far (by omega) _⟩)
        | (with_reducible refine wpList_hold36 H6.out.1 rfl _ rfl rfl ?_)
        | (with_reducible refine wpList_hold_store H6.out.2 rfl _ _ rfl rfl rfl ?_))
      have e1 : (tellT f l).1 = fk := by rw [TT.out]
      have e2 : (tellT f l).2 = done := by rw [TT.out]
      rw [e1, e2]
      have em := TK.out.len
      refine bodyPost_ret (results_cell2 rfl rfl (Try.isAgg36 _) (Try.sizeOf36 _) (load_hold (H6.out.2.whole (g := fk) (s' := .slice (some ⟨g, 0, none⟩) k c)))) rfl ⟨k, g2, q, by rw [em]; rfl, D5.out.2.2.2.2.2, ?_, ?_, grown_fars _ _ (grown_far D5.out.2.2.2.2.1 (Nat.le_refl _) _) (by omega)⟩
      · exact own_same D5.out.2.2.1 ((heap_cells_far _ _ _ (by have := GN.out; omega)).trans (Below.heap_setCell _ _ _ g (by simp; have := GN.out; omega)))
      · have h1 := own_keep D5.out.2.2.2.1 (w' := (w5.setCell ⟨w.heap.size, 16, none⟩ (.slice (some ⟨g, 0, none⟩) k c)).setCells (w.heap.size + 2) 0 (holdA fk (.slice (some ⟨g, 0, none⟩) k c)).toList) (fun j hj _ => (heap_cells_far _ _ _ (by omega)).trans (Below.heap_setCell _ _ _ j (by simp; omega)))
        rw [← em] at h1
        exact h1
end Hd
end Go.Proofs.Ytbacnjkookakcaa
