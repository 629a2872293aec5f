/- What Put gives: the way with no error. -/
import Derived.Test.YtbacnjkookakcaaHdR
set_option linter.unusedVariables false
namespace Go.Proofs.Ytbacnjkookakcaa
open Go.RowKit
namespace Hd
open Ps

theorem PS.grown {w W W' : World} {f : Nat → Nat} {g : Option Addr} {n q bm : Nat} {x : It} {l : List It} (h : PS w W f g n q x l) (hg : W.grownBy W' (some bm)) (hb : w.heap.size + 3 ≤ bm) (hlt : ∀ j, (Value.slice g n q).ownBlock = some j → j < bm) : PS w W' f g n q x l := by
  have keep : ∀ k, k < W.heap.size → k ≠ bm → W'.heap[k]? = W.heap[k]? := fun k hk hne => hg.block k hk (by simp; omega)
  refine ⟨(keep _ h.hH.lt (by omega)).trans h.hH, (keep _ h.hX.lt (by omega)).trans h.hX, (keep _ h.hR.lt (by omega)).trans h.hR, ?_, below_of_grown h.below hg h.below.size (fun k hk => by have := Option.some.inj hk; omega)⟩
  refine ⟨h.own.1, ?_⟩
  rcases h.own.2 with e | ⟨g', gc, cur, hv, hge, hh, rest⟩
  · exact .inl e
  · refine .inr ⟨g', gc, cur, hv, hge, ?_, rest⟩
    have h1 := hlt g' (by rw [hv]; rfl)
    rw [keep g' (Array.getElem?_eq_some_iff.1 hh).1 (by omega)]; exact hh
theorem own_some {w : World} {B s n : Nat} {t : TypeId} {v : Value} {xs : List Value} (h : w.ownsRow B t s v (n + 1) xs) : ∃ g q, v = .slice (some ⟨g, 0, none⟩) (n + 1) q ∧ B ≤ g ∧ g < w.heap.size := by
  rcases h.2 with ⟨_, h0⟩ | ⟨g, cap, cur, hv, hge, hh, _⟩
  · omega
  · exact ⟨g, cap, hv, hge, (Array.getElem?_eq_some_iff.1 hh).1⟩
theorem own_base {w : World} {B B' s n : Nat} {t : TypeId} {v : Value} {xs : List Value} (h : w.ownsRow B t s v n xs) (hb : B' ≤ B) : w.ownsRow B' t s v n xs := by
  refine ⟨h.1, ?_⟩
  rcases h.2 with h | ⟨g, gc, cur, hv, hge, rest⟩
  · exact .inl h
  · exact .inr ⟨g, gc, cur, hv, by omega, rest⟩
theorem own_keep2 {w w7 : World} {s n : Nat} {t : TypeId} {v : Value} {xs vs us : List Value} {o : Obj} (h : w7.ownsRow (w.heap.size + 3) t s v n xs) (hlt : w.heap.size + 2 < w7.heap.size) : (((w7.alloc o).setCells w7.heap.size 0 vs).setCells (w.heap.size + 2) 0 us).ownsRow (w.heap.size + 3) t s v n xs :=
  own_keep h fun j hj hj2 => by
    rw [heap_cells_far _ _ _ (by omega), heap_cells_far _ _ _ (by omega)]
    exact ((Below.refl _ w7).alloc (Nat.le_refl _) o).block j hj2


set_option maxHeartbeats 16000000 in
set_option maxRecDepth 100000 in
theorem put_o1 (f : Nat → Nat) (a : Option Addr) (c : Nat) (l : List It) (x : It) (w : World) (ha : AtI w a l) (hf : ∀ y ∈ l, Fit y) (hx : Fit x) (hv : ∀ i, i < 16 → f i < 65536) (hn : l.length ≤ 1000) (h1 : rightH f l = true) (h2 : mayI x = true) (h3 : wtK l l.length x.frm x.seq = none) (h4 : oldI f x = false) (h6 : l.length ≠ 64) :
    Calls Try.prog 11 #[.agg (holdA f (.slice a l.length c)), .agg (itA x)] w (PutP w (putF f l x) (putL f l x) (putO f l x) (putE f l x)) := by
  obtain ⟨V, hV⟩ : ∃ V, V = ((w.alloc (.cells (holdA f (.slice a l.length c)) 36)).alloc (.cells (itA x) 43)).alloc (.cells #[.int .u16 0, .int .u16 0, .int .u16 0, .int .u16 0, .int .u16 0, .int .u16 0, .int .u16 0, .int .u16 0, .int .u16 0, .int .u16 0, .int .u16 0, .int .u16 0, .int .u16 0, .int .u16 0, .int .u16 0, .int .u16 0, .slice none 0 0] 36) := ⟨_, rfl⟩
  have X0 : Aside (H17 V w.heap.size 36 f (.slice a l.length c) ∧ I20 V (w.heap.size + 1) 43 x ∧ H17 V (w.heap.size + 2) 36 (fun _ => 0) (.slice none 0 0) ∧ Below w.heap.size w V ∧ V.heap.size = w.heap.size + 3) := by
    have hR : H17 V (w.heap.size + 2) 36 (fun _ => 0) (.slice none 0 0) := by
      have := H17.zero ((w.alloc (.cells (holdA f (.slice a l.length c)) 36)).alloc (.cells (itA x) 43))
      rw [World.size_alloc, World.size_alloc] at this
      rw [hV]; exact this
    have hX : I20 V (w.heap.size + 1) 43 x := by
      have := I20.new (w.alloc (.cells (holdA f (.slice a l.length c)) 36)) 43 x
      rw [World.size_alloc] at this
      rw [hV]; exact this.alloc _
    refine ⟨by rw [hV]; exact ((H17.new w 36 f _).alloc _).alloc _, hX, hR, by rw [hV]; exact (((Below.refl _ w).alloc (Nat.le_refl _) _).alloc (by simp) _).alloc (by simp; omega) _, by rw [hV, World.size_alloc, World.size_alloc, World.size_alloc]⟩
  have C26 : Aside (Calls Try.prog 26 #[.slice a l.length c] V fun e w' => ∃ v', e = .returned v' ∧ w'.ownsRow V.heap.size 43 20 v' l.length (rowI l) ∧ Below V.heap.size V w') := clone20_any a c l V (ha.later X0.out.2.2.2.1) hn
  have C17 : Aside (∀ W g q, AtI W g l → Calls Try.prog 17 #[.agg (holdA f (.slice g l.length q))] W fun e w' => e = .returned (.bool (rightH f l)) ∧ Below W.heap.size W w') := fun W g q h => right17_any f g q l W h hf hv hn
  have C27 : Aside (∀ W, Calls Try.prog 27 #[.agg (itA x)] W fun e w' => e = .returned (.bool (mayI x)) ∧ Below W.heap.size W w') := fun W => may27_any x W hx.2.2.2
  have C28 : Aside (∀ W g q, AtI W g l → Calls Try.prog 28 #[.slice g l.length q] W fun e w' => ∃ b, e = .returned (.map (some b)) ∧ MapH w' b (wtN l l.length) (wtK l l.length) ∧ Below W.heap.size W w' ∧ W.heap.size ≤ b) := fun W g q h => waiting_any g q l W h hf hn
  have C15 : Aside (∀ W, Calls Try.prog 15 #[.agg (vecA f), .agg (itA x)] W fun e w' => e = .returned (.bool (readyI f x)) ∧ Below W.heap.size W w') := fun W => ready15_any f x W hv hx.2.2.2
  have IK : Aside (InK x.frm x.seq) := ⟨hx.1, hx.2.1, hx.2.2.1⟩
  have QB : Aside (∀ E : Nat, putE f l x = E → E ≠ 0 → ∀ W g q, PS w W f g l.length q x l → PutP w (putF f l x) (putL f l x) (putO f l x) (putE f l x) (.returned (.tuple #[.agg (holdA f (.slice g l.length q)), .slice none 0 0, .int .i64 (E : Int)])) (W.setCells (w.heap.size + 2) 0 (holdA f (.slice g l.length q)).toList)) := fun E hE h0 W g q h => put_bad h rfl hE h0
  obtain ⟨i0, hi, hz0, hz1, hz2⟩ := info_parts info43
  have I : Aside (Try.prog.info? 43 = some i0 ∧ i0.zero = some (.agg #[.int .u8 0, .int .i64 0, .int .i64 0, .int .u16 0, .int .u16 0, .int .u16 0, .int .u16 0, .int .u16 0, .int .u16 0, .int .u16 0, .int .u16 0, .int .u16 0, .int .u16 0, .int .u16 0, .int .u16 0, .int .u16 0, .int .u16 0, .int .u16 0, .int .u16 0, .string ⟨#[]⟩]) ∧ i0.size = 20 ∧ i0.bytes = 72) := ⟨hi, hz0, hz1, hz2⟩
  clear hi hz0 hz1 hz2
  obtain ⟨r1, r2, r3, r4, r5⟩ := right_facts h1
  have h5 : ¬ (l.length = 64 ∧ readyI f x = false) := fun h => h6 h.1
  have hE : putE f l x = 0 := by unfold putE; rw [if_pos ⟨h1, h2⟩, if_neg (fun h => by rw [h3, h4] at h; simp at h), if_neg h5]
  have QG : Aside (∀ a c a2 c2 w', AtI w' a ((l ++ [x]).filter (keep (tellT f (l ++ [x])).1)) → AtI w' a2 (tellT f (l ++ [x])).2 → Below w.heap.size w w' → PutP w (putF f l x) (putL f l x) (putO f l x) (putE f l x) (.returned (.tuple #[.agg (holdA (tellT f (l ++ [x])).1 (.slice a ((l ++ [x]).filter (keep (tellT f (l ++ [x])).1)).length c)), .slice a2 (tellT f (l ++ [x])).2.length c2, .int .i64 0])) w') := fun a c a2 c2 w' q1 q2 q3 => by
    have e1 : putF f l x = (tellT f (l ++ [x])).1 := by unfold putF; rw [if_pos hE]
    have e2 : putL f l x = (l ++ [x]).filter (keep (tellT f (l ++ [x])).1) := by unfold putL; rw [if_pos hE]
    have e3 : putO f l x = (tellT f (l ++ [x])).2 := by unfold putO; rw [if_pos hE]
    rw [e1, e2, e3, hE]
    exact ⟨a, c, a2, c2, rfl, q1, q2, q3⟩
  have TL : Aside (∀ g q b W, W.ownsRow (w.heap.size + 3) 43 20 (.slice (some ⟨g, 0, none⟩) (l.length + 1) q) (l.length + 1) (rowI (l ++ [x])) → MapH W b (l.length + 1) (wtK (l ++ [x]) (l.length + 1)) → Calls Try.prog 30 #[.agg (holdA f (.slice (some ⟨g, 0, none⟩) (l.length + 1) q)), .map (some b)] W fun e w' => ∃ k g2 q', e = .returned (.tuple #[.agg (holdA (tellT f (l ++ [x])).1 (.slice (some ⟨g, 0, none⟩) k q)), .slice g2 (tellT f (l ++ [x])).2.length q']) ∧
        k = ((l ++ [x]).filter (keep (tellT f (l ++ [x])).1)).length ∧ w'.ownsRow (w.heap.size + 3) 43 20 (.slice (some ⟨g, 0, none⟩) k q) k (rowI ((l ++ [x]).filter (keep (tellT f (l ++ [x])).1))) ∧ w'.ownsRow (W.heap.size + 3) 43 20 (.slice g2 (tellT f (l ++ [x])).2.length q') (tellT f (l ++ [x])).2.length (rowI (tellT f (l ++ [x])).2) ∧ W.grownBy w' (some g)) := fun g q b W q1 q2 =>
    tell_any f (w.heap.size + 3) g (l.length + 1) q b (l ++ [x]) W (by simp) (by omega) q1 q2 (fun y hy => by rcases List.mem_append.1 hy with hy | hy; exact hf y hy; simp at hy; subst hy; exact hx) (fun y hy => by rcases List.mem_append.1 hy with hy | hy; exact (may_seq (r3 y hy).1).2; simp at hy; subst hy; exact (may_seq h2).2) (fun i hi => by have := r1 i hi; omega) (apart_more r5 h3)
  rw [h1] at C17
  rw [h2] at C27
  have C29 : Aside (∀ W, Calls Try.prog 29 #[.agg (vecA f), .agg (itA x)] W fun e w' => e = .returned (.bool (oldI f x)) ∧ Below W.heap.size W w') := fun W => old_any f x W (hv _ (may_seq h2).2) (may_seq h2).2
  rw [h4] at C29
  generalize PutP w (putF f l x) (putL f l x) (putO f l x) (putE f l x) = Q at QB QG ⊢
  obtain ⟨n, en⟩ : ∃ n, n = l.length := ⟨_, rfl⟩
  have HL : Aside (l.length = n) := en.symm
  rw [← en] at C26 C17 C28 X0 TL hV ⊢
  have KS : Aside (wtK l n x.frm x.seq = none) := by rw [en]; exact h3
  have NU : Aside (wtN l n = n ∧ n ≤ 64) := by rw [en]; exact ⟨r4, r2⟩
  have WL : Aside (updH (wtK l n) x.frm x.seq (n : Int) = wtK (l ++ [x]) (n + 1)) := by rw [en]; exact (wtK_last l x).symm
  have e64 : ((n : Int) == 64) = false := by rw [beq_eq_false_iff_ne, en]; omega
  clear en hE QB ha hf hx hv h3 r1 r2 r3 r4 r5
  have C0 : Aside ((((w.alloc (.cells (holdA f (.slice a n c)) 36)).alloc (.cells (itA x) 43)).alloc (.cells #[.int .u16 0, .int .u16 0, .int .u16 0, .int .u16 0, .int .u16 0, .int .u16 0, .int .u16 0, .int .u16 0, .int .u16 0, .int .u16 0, .int .u16 0, .int .u16 0, .int .u16 0, .int .u16 0, .int .u16 0, .int .u16 0, .slice none 0 0] 36)).cell? ⟨w.heap.size, 16, none⟩ = some (.slice a n c)) := by rw [← hV]; exact X0.out.1.wait
  go_enter Try.func11, Try.ntmps11
  go_wp2_with (first
    | (go_at_call 26; (with_reducible refine C26.out.mono ?_); rintro e w1 ⟨v', rfl, hown, hb1⟩; obtain ⟨g, q, rfl⟩ := own_slice hown; rw [X0.out.2.2.2.2] at hown; have H1 : Aside (H17 w1 w.heap.size 36 f (.slice a n c)) := X0.out.1.later hb1; have SS : Aside (PS w (w1.setCell ⟨w.heap.size, 16, none⟩ (.slice g n q)) f g n q x l) := PS.put H1.out (X0.out.2.1.later hb1) (X0.out.2.2.1.later hb1) hown (step_below X0.out.2.2.2.1 hb1); clear hown hb1; have c1 := H1.out.wait; have z1 := H1.out.frozen 16; have c16 := SS.out.hH.wait; have d0 := SS.out.hX.frm; have d1 := SS.out.hX.seq)
    | (go_at_call 17; (with_reducible refine (C17.out _ g q (SS.out.at_ HL.out)).mono ?_); rintro e w17 ⟨rfl, hb⟩; replace SS : Aside (PS w w17 f g n q x l) := SS.out.later hb; clear c16 d0 d1; clear hb; have c16 := SS.out.hH.wait; have d0 := SS.out.hX.frm; have d1 := SS.out.hX.seq)
    | (go_at_call 27; (with_reducible refine (C27.out _).mono ?_); rintro e w27 ⟨rfl, hb⟩; replace SS : Aside (PS w w27 f g n q x l) := SS.out.later hb; clear c16 d0 d1; clear hb; have c16 := SS.out.hH.wait; have d0 := SS.out.hX.frm; have d1 := SS.out.hX.seq)
    | (go_at_call 28; (with_reducible refine (C28.out _ g q (SS.out.at_ HL.out)).mono ?_); rintro e w28 ⟨bm, rfl, hM, hb, hbm⟩; have MM : Aside (MapH w28 bm (wtN l n) (wtK l n) ∧ w.heap.size + 3 ≤ bm ∧ ∀ j, (Value.slice g n q).ownBlock = some j → j < bm) := ⟨hM, by have := SS.out.hR.lt; omega, fun j hj => by have := (own_lt SS.out.own j hj).2; omega⟩; replace SS : Aside (PS w w28 f g n q x l) := SS.out.later hb; clear c16 d0 d1; clear hb hM hbm; have c16 := SS.out.hH.wait; have d0 := SS.out.hX.frm; have d1 := SS.out.hX.seq; have MB : Aside (∀ j, (Value.slice g n q).ownBlock = some j → j < bm) := MM.out.2.2; have lk := MM.out.1.look IK.out; rw [KS.out] at lk)
    | (with_reducible refine wpList_build2 rfl 70 _ _ rfl _ _ (keyV x.frm x.seq) (build70 x.frm x.seq _) rfl rfl ?_)
    | (go_at_call 29; (with_reducible refine (C29.out _).mono ?_); rintro e w29 ⟨rfl, hb⟩; replace SS : Aside (PS w w29 f g n q x l) := SS.out.later hb; replace MM : Aside (MapH w29 bm (wtN l n) (wtK l n) ∧ w.heap.size + 3 ≤ bm ∧ ∀ j, (Value.slice g n q).ownBlock = some j → j < bm) := ⟨MM.out.1.kept (hb.block _ MM.out.1.lt), MM.out.2⟩; clear c16 d0 d1; clear hb; have c16 := SS.out.hH.wait; have d0 := SS.out.hX.frm; have d1 := SS.out.hX.seq; obtain ⟨wm, hrm, hmm, hgm⟩ := MM.out.1.store (f := x.frm) (s := x.seq) IK.out (by have := NU.out.1; have := NU.out.2; omega) (n : Int); have RM : Aside _ := hrm; have SM : Aside (PS w wm f g n q x l ∧ MapH wm bm (n + 1) (wtK (l ++ [x]) (n + 1)) ∧ w.heap.size + 3 ≤ bm) := ⟨SS.out.grown hgm MM.out.2.1 MM.out.2.2, by rw [KS.out] at hmm; rw [← WL.out]; have e := NU.out.1; rw [e] at hmm; exact hmm, MM.out.2.1⟩; clear hrm hmm hgm; have m16 := SM.out.1.hH.wait)
    | ((with_reducible refine wpList_cell34 C0.out rfl _ rfl rfl ?_); rw [← hV]; clear hV C0)
    | (with_reducible refine wpList_hold36 SS.out.hH rfl _ rfl rfl ?_)
    | (with_reducible refine wpList_it43 SS.out.hX rfl _ rfl rfl ?_)
    | (with_reducible refine wpList_told SS.out.hH rfl _ rfl rfl ?_)
    | (with_reducible refine wpList_hold_store SS.out.hR rfl _ _ rfl rfl rfl ?_)
    | ((with_reducible refine wpList_loadg 43 20 _ rfl (Try.isAgg43 _) (Try.sizeOf43 _) _ _ rfl (load_it SS.out.hX) ?_ ?_); (focus (go_simp; done)))
    | ((with_reducible refine wpList_loadg 24 16 _ rfl (Try.isAgg24 _) (Try.sizeOf24 _) _ _ rfl (load_told SS.out.hH) ?_ ?_); (focus (go_simp; done)))
    | (with_reducible refine wpList_put rfl _ _ _ 66 rfl _ _ _ wm RM.out rfl rfl rfl ?_)
    | (with_reducible refine wpList_it43 SM.out.1.hX rfl _ rfl rfl ?_)
    | (with_reducible refine wpList_bs20 x rfl _ rfl rfl ?_)
    | (at_builtin; refine wpList_append_own_at _ rfl _ _ 34 rfl (w.heap.size + 3) 43 i0 (.agg #[.int .u8 0, .int .i64 0, .int .i64 0, .int .u16 0, .int .u16 0, .int .u16 0, .int .u16 0, .int .u16 0, .int .u16 0, .int .u16 0, .int .u16 0, .int .u16 0, .int .u16 0, .int .u16 0, .int .u16 0, .int .u16 0, .int .u16 0, .int .u16 0, .int .u16 0, .string ⟨#[]⟩]) 20 72 Try.underlying34 I.out.1 I.out.2.1 I.out.2.2.1 I.out.2.2.2 rfl (by decide) _ _ _ rfl (SM.out.1.own.alloc _) ⟨wm.heap.size, 0, none⟩ 1 1 (itA x).toList rfl rfl ?c1 ?c2 ?c3 ?c4 ?c5 ?_))
  case c1 =>
    intro j u hu
    have h1 := heap_alloc_new wm (.cells (itA x) 43)
    rw [Addr.add_lit, Nat.zero_add, cell_of_row _ _ j _ 43 _ h1]
    simpa using hu
  case c2 => exact itA_one x
  case c3 => have := NU.out.2; unfold maxLen; omega
  case c4 => have := NU.out.2; omega
  case c5 => have := SM.out.1.hR.lt; simp; omega
  intro v' wn hown hgrow _ hat
  have NX0 : ∃ g' q', v' = .slice (some ⟨g', 0, none⟩) (n + 1) q' ∧ w.heap.size + 3 ≤ g' ∧ g' < wn.heap.size ∧ H17 wn w.heap.size 36 f (.slice g n q) ∧ I20 wn (w.heap.size + 1) 43 x ∧ H17 wn (w.heap.size + 2) 36 (fun _ => 0) (.slice none 0 0) ∧ wn.ownsRow (w.heap.size + 3) 43 20 (.slice (some ⟨g', 0, none⟩) (n + 1) q') (n + 1) (rowI (l ++ [x])) ∧ Below w.heap.size w wn ∧ MapH wn bm (n + 1) (wtK (l ++ [x]) (n + 1)) := by
    have e1 : rowI l ++ (itA x).toList = rowI (l ++ [x]) := by rw [rowI_append]; show _ = rowI l ++ ((itA x).toList ++ []); rw [List.append_nil]
    rw [e1] at hown
    obtain ⟨g', q', rfl, hge, hlt'⟩ := own_some hown
    have lt1 : ∀ j, (Value.slice g n q).ownBlock = some j → w.heap.size + 3 ≤ j ∧ j < bm := fun j hj => ⟨(own_lt SM.out.1.own j hj).1, MB.out j hj⟩
    have hbk : ∀ k, (k < w.heap.size + 3 ∨ k = bm) → k < wm.heap.size → wn.heap[k]? = wm.heap[k]? := fun k hk hk2 => by
      rw [hgrow.block k (by simp; omega) (fun e => by have := lt1 _ e.symm; omega)]
      exact ((Below.refl _ _).alloc (Nat.le_refl _) _).block k hk2
    have b1 := SM.out.1.hH.lt
    have b2 := SM.out.1.hX.lt
    have b3 := SM.out.1.hR.lt
    have b4 := SM.out.2.1.lt
    have bl := SM.out.1.below.alloc SM.out.1.below.size (.cells (itA x) 43)
    exact ⟨g', q', rfl, hge, hlt', (hbk _ (.inl (by omega)) b1).trans SM.out.1.hH, (hbk _ (.inl (by omega)) b2).trans SM.out.1.hX, (hbk _ (.inl (by omega)) b3).trans SM.out.1.hR, hown, bl.grown hgrow (by have := SM.out.1.below.size; simp; omega) (fun j hj => by have := lt1 j hj; omega), SM.out.2.1.kept (hbk _ (.inr rfl) b4)⟩
  obtain ⟨g', q', rfl, k1, k2, k3, k4, k5, k6, k7, k8⟩ := NX0
  have S6 : Aside (PS w (wn.setCell ⟨w.heap.size, 16, none⟩ (.slice (some ⟨g', 0, none⟩) (n + 1) q')) f (some ⟨g', 0, none⟩) (n + 1) q' x (l ++ [x]) ∧ MapH (wn.setCell ⟨w.heap.size, 16, none⟩ (.slice (some ⟨g', 0, none⟩) (n + 1) q')) bm (n + 1) (wtK (l ++ [x]) (n + 1)) ∧ w.heap.size + 3 ≤ g' ∧ g' < wn.heap.size) := ⟨PS.put k3 k4 k5 k6 k7, k8.kept (Below.heap_setCell _ _ _ bm (by have := SM.out.2.2; simp; omega)), k1, k2⟩
  have n16 := k3.wait
  have nz16 := k3.frozen 16
  clear SS SM MM RM hown hgrow hat k1 k2 k3 k4 k5 k6 k7 k8 m16 c16 d0 d1 lk
  go_wp2_with (first
    | (with_reducible refine wpList_hold36 S6.out.1.hH rfl _ rfl rfl ?_)
    | (go_at_call 30; (with_reducible refine (TL.out g' q' bm _ S6.out.1.own S6.out.2.1).mono ?_); rintro e w7 ⟨k, g2, q2, rfl, ek, how, hto, hgr⟩; have D7 : Aside (H17 w7 (w.heap.size + 2) 36 (fun _ => 0) (.slice none 0 0) ∧ w7.ownsRow (w.heap.size + 3) 43 20 (.slice (some ⟨g', 0, none⟩) k q') k (rowI ((l ++ [x]).filter (keep (tellT f (l ++ [x])).1))) ∧ w7.ownsRow (w.heap.size + 3) 43 20 (.slice g2 (tellT f (l ++ [x])).2.length q2) (tellT f (l ++ [x])).2.length (rowI (tellT f (l ++ [x])).2) ∧ Below w.heap.size w w7 ∧ k = ((l ++ [x]).filter (keep (tellT f (l ++ [x])).1)).length) := ⟨(hgr.block _ S6.out.1.hR.lt (by have := S6.out.2.2.1; simp; omega)).trans S6.out.1.hR, how, own_base hto (by have := S6.out.1.hR.lt; omega), below_of_grown S6.out.1.below hgr S6.out.1.below.size (fun j hj => by have := Option.some.inj hj; have := S6.out.2.2.1; omega), ek⟩; clear ek how hto hgr; have Z7 : Aside (H17 (w7.alloc (.cells #[.int .u16 0, .int .u16 0, .int .u16 0, .int .u16 0, .int .u16 0, .int .u16 0, .int .u16 0, .int .u16 0, .int .u16 0, .int .u16 0, .int .u16 0, .int .u16 0, .int .u16 0, .int .u16 0, .int .u16 0, .int .u16 0, .slice none 0 0] 36)) w7.heap.size 36 (fun _ => 0) (.slice none 0 0)) := H17.zero w7; have Y7 : Aside (H17 ((w7.alloc (.cells #[.int .u16 0, .int .u16 0, .int .u16 0, .int .u16 0, .int .u16 0, .int .u16 0, .int .u16 0, .int .u16 0, .int .u16 0, .int .u16 0, .int .u16 0, .int .u16 0, .int .u16 0, .int .u16 0, .int .u16 0, .int .u16 0, .slice none 0 0] 36)).setCells w7.heap.size 0 (holdA (tellT f (l ++ [x])).1 (.slice (some ⟨g', 0, none⟩) k q')).toList) w7.heap.size 36 (tellT f (l ++ [x])).1 (.slice (some ⟨g', 0, none⟩) k q') ∧ H17 ((w7.alloc (.cells #[.int .u16 0, .int .u16 0, .int .u16 0, .int .u16 0, .int .u16 0, .int .u16 0, .int .u16 0, .int .u16 0, .int .u16 0, .int .u16 0, .int .u16 0, .int .u16 0, .int .u16 0, .int .u16 0, .int .u16 0, .int .u16 0, .slice none 0 0] 36)).setCells w7.heap.size 0 (holdA (tellT f (l ++ [x])).1 (.slice (some ⟨g', 0, none⟩) k q')).toList) (w.heap.size + 2) 36 (fun _ => 0) (.slice none 0 0)) := ⟨Z7.out.whole, (heap_cells_far _ _ _ (Nat.ne_of_lt D7.out.1.lt)).trans (D7.out.1.alloc _)⟩)
    | (with_reducible refine wpList_hold_store Z7.out rfl _ _ rfl rfl rfl ?_)
    | (with_reducible refine wpList_hold36 Y7.out.1 rfl _ rfl rfl ?_)
    | (with_reducible refine wpList_hold_store Y7.out.2 rfl _ _ rfl rfl rfl ?_))
  have em := D7.out.2.2.2.2
  subst em
  exact bodyPost_ret (results_cell3 rfl rfl (Try.isAgg36 _) (Try.sizeOf36 _) (load_hold (Y7.out.2.whole (g := (tellT f (l ++ [x])).1) (s' := .slice (some ⟨g', 0, none⟩) _ q')))) rfl (QG.out _ _ _ _ _ (own_at (own_keep2 D7.out.2.1 D7.out.1.lt)).2.1 (own_at (own_keep2 D7.out.2.2.1 D7.out.1.lt)).2.1 (below_cells _ _ (below_cells _ _ (D7.out.2.2.2.1.alloc D7.out.2.2.2.1.size _) D7.out.2.2.2.1.size) (by omega)))



set_option maxHeartbeats 16000000 in
set_option maxRecDepth 100000 in
theorem put_o2 (f : Nat → Nat) (a : Option Addr) (c : Nat) (l : List It) (x : It) (w : World) (ha : AtI w a l) (hf : ∀ y ∈ l, Fit y) (hx : Fit x) (hv : ∀ i, i < 16 → f i < 65536) (hn : l.length ≤ 1000) (h1 : rightH f l = true) (h2 : mayI x = true) (h3 : wtK l l.length x.frm x.seq = none) (h4 : oldI f x = false) (h6 : l.length = 64) (h7 : readyI f x = true) :
    Calls Try.prog 11 #[.agg (holdA f (.slice a l.length c)), .agg (itA x)] w (PutP w (putF f l x) (putL f l x) (putO f l x) (putE f l x)) := by
  obtain ⟨V, hV⟩ : ∃ V, V = ((w.alloc (.cells (holdA f (.slice a l.length c)) 36)).alloc (.cells (itA x) 43)).alloc (.cells #[.int .u16 0, .int .u16 0, .int .u16 0, .int .u16 0, .int .u16 0, .int .u16 0, .int .u16 0, .int .u16 0, .int .u16 0, .int .u16 0, .int .u16 0, .int .u16 0, .int .u16 0, .int .u16 0, .int .u16 0, .int .u16 0, .slice none 0 0] 36) := ⟨_, rfl⟩
  have X0 : Aside (H17 V w.heap.size 36 f (.slice a l.length c) ∧ I20 V (w.heap.size + 1) 43 x ∧ H17 V (w.heap.size + 2) 36 (fun _ => 0) (.slice none 0 0) ∧ Below w.heap.size w V ∧ V.heap.size = w.heap.size + 3) := by
    have hR : H17 V (w.heap.size + 2) 36 (fun _ => 0) (.slice none 0 0) := by
      have := H17.zero ((w.alloc (.cells (holdA f (.slice a l.length c)) 36)).alloc (.cells (itA x) 43))
      rw [World.size_alloc, World.size_alloc] at this
      rw [hV]; exact this
    have hX : I20 V (w.heap.size + 1) 43 x := by
      have := I20.new (w.alloc (.cells (holdA f (.slice a l.length c)) 36)) 43 x
      rw [World.size_alloc] at this
      rw [hV]; exact this.alloc _
    refine ⟨by rw [hV]; exact ((H17.new w 36 f _).alloc _).alloc _, hX, hR, by rw [hV]; exact (((Below.refl _ w).alloc (Nat.le_refl _) _).alloc (by simp) _).alloc (by simp; omega) _, by rw [hV, World.size_alloc, World.size_alloc, World.size_alloc]⟩
  have C26 : Aside (Calls Try.prog 26 #[.slice a l.length c] V fun e w' => ∃ v', e = .returned v' ∧ w'.ownsRow V.heap.size 43 20 v' l.length (rowI l) ∧ Below V.heap.size V w') := clone20_any a c l V (ha.later X0.out.2.2.2.1) hn
  have C17 : Aside (∀ W g q, AtI W g l → Calls Try.prog 17 #[.agg (holdA f (.slice g l.length q))] W fun e w' => e = .returned (.bool (rightH f l)) ∧ Below W.heap.size W w') := fun W g q h => right17_any f g q l W h hf hv hn
  have C27 : Aside (∀ W, Calls Try.prog 27 #[.agg (itA x)] W fun e w' => e = .returned (.bool (mayI x)) ∧ Below W.heap.size W w') := fun W => may27_any x W hx.2.2.2
  have C28 : Aside (∀ W g q, AtI W g l → Calls Try.prog 28 #[.slice g l.length q] W fun e w' => ∃ b, e = .returned (.map (some b)) ∧ MapH w' b (wtN l l.length) (wtK l l.length) ∧ Below W.heap.size W w' ∧ W.heap.size ≤ b) := fun W g q h => waiting_any g q l W h hf hn
  have C15 : Aside (∀ W, Calls Try.prog 15 #[.agg (vecA f), .agg (itA x)] W fun e w' => e = .returned (.bool (readyI f x)) ∧ Below W.heap.size W w') := fun W => ready15_any f x W hv hx.2.2.2
  have IK : Aside (InK x.frm x.seq) := ⟨hx.1, hx.2.1, hx.2.2.1⟩
  have QB : Aside (∀ E : Nat, putE f l x = E → E ≠ 0 → ∀ W g q, PS w W f g l.length q x l → PutP w (putF f l x) (putL f l x) (putO f l x) (putE f l x) (.returned (.tuple #[.agg (holdA f (.slice g l.length q)), .slice none 0 0, .int .i64 (E : Int)])) (W.setCells (w.heap.size + 2) 0 (holdA f (.slice g l.length q)).toList)) := fun E hE h0 W g q h => put_bad h rfl hE h0
  obtain ⟨i0, hi, hz0, hz1, hz2⟩ := info_parts info43
  have I : Aside (Try.prog.info? 43 = some i0 ∧ i0.zero = some (.agg #[.int .u8 0, .int .i64 0, .int .i64 0, .int .u16 0, .int .u16 0, .int .u16 0, .int .u16 0, .int .u16 0, .int .u16 0, .int .u16 0, .int .u16 0, .int .u16 0, .int .u16 0, .int .u16 0, .int .u16 0, .int .u16 0, .int .u16 0, .int .u16 0, .int .u16 0, .string ⟨#[]⟩]) ∧ i0.size = 20 ∧ i0.bytes = 72) := ⟨hi, hz0, hz1, hz2⟩
  clear hi hz0 hz1 hz2
  obtain ⟨r1, r2, r3, r4, r5⟩ := right_facts h1
  have h5 : ¬ (l.length = 64 ∧ readyI f x = false) := fun h => by rw [h7] at h; exact absurd h.2 (by decide)
  have hE : putE f l x = 0 := by unfold putE; rw [if_pos ⟨h1, h2⟩, if_neg (fun h => by rw [h3, h4] at h; simp at h), if_neg h5]
  have QG : Aside (∀ a c a2 c2 w', AtI w' a ((l ++ [x]).filter (keep (tellT f (l ++ [x])).1)) → AtI w' a2 (tellT f (l ++ [x])).2 → Below w.heap.size w w' → PutP w (putF f l x) (putL f l x) (putO f l x) (putE f l x) (.returned (.tuple #[.agg (holdA (tellT f (l ++ [x])).1 (.slice a ((l ++ [x]).filter (keep (tellT f (l ++ [x])).1)).length c)), .slice a2 (tellT f (l ++ [x])).2.length c2, .int .i64 0])) w') := fun a c a2 c2 w' q1 q2 q3 => by
    have e1 : putF f l x = (tellT f (l ++ [x])).1 := by unfold putF; rw [if_pos hE]
    have e2 : putL f l x = (l ++ [x]).filter (keep (tellT f (l ++ [x])).1) := by unfold putL; rw [if_pos hE]
    have e3 : putO f l x = (tellT f (l ++ [x])).2 := by unfold putO; rw [if_pos hE]
    rw [e1, e2, e3, hE]
    exact ⟨a, c, a2, c2, rfl, q1, q2, q3⟩
  have TL : Aside (∀ g q b W, W.ownsRow (w.heap.size + 3) 43 20 (.slice (some ⟨g, 0, none⟩) (l.length + 1) q) (l.length + 1) (rowI (l ++ [x])) → MapH W b (l.length + 1) (wtK (l ++ [x]) (l.length + 1)) → Calls Try.prog 30 #[.agg (holdA f (.slice (some ⟨g, 0, none⟩) (l.length + 1) q)), .map (some b)] W fun e w' => ∃ k g2 q', e = .returned (.tuple #[.agg (holdA (tellT f (l ++ [x])).1 (.slice (some ⟨g, 0, none⟩) k q)), .slice g2 (tellT f (l ++ [x])).2.length q']) ∧
        k = ((l ++ [x]).filter (keep (tellT f (l ++ [x])).1)).length ∧ w'.ownsRow (w.heap.size + 3) 43 20 (.slice (some ⟨g, 0, none⟩) k q) k (rowI ((l ++ [x]).filter (keep (tellT f (l ++ [x])).1))) ∧ w'.ownsRow (W.heap.size + 3) 43 20 (.slice g2 (tellT f (l ++ [x])).2.length q') (tellT f (l ++ [x])).2.length (rowI (tellT f (l ++ [x])).2) ∧ W.grownBy w' (some g)) := fun g q b W q1 q2 =>
    tell_any f (w.heap.size + 3) g (l.length + 1) q b (l ++ [x]) W (by simp) (by omega) q1 q2 (fun y hy => by rcases List.mem_append.1 hy with hy | hy; exact hf y hy; simp at hy; subst hy; exact hx) (fun y hy => by rcases List.mem_append.1 hy with hy | hy; exact (may_seq (r3 y hy).1).2; simp at hy; subst hy; exact (may_seq h2).2) (fun i hi => by have := r1 i hi; omega) (apart_more r5 h3)
  rw [h1] at C17
  rw [h2] at C27
  have C29 : Aside (∀ W, Calls Try.prog 29 #[.agg (vecA f), .agg (itA x)] W fun e w' => e = .returned (.bool (oldI f x)) ∧ Below W.heap.size W w') := fun W => old_any f x W (hv _ (may_seq h2).2) (may_seq h2).2
  rw [h4] at C29
  rw [h7] at C15
  generalize PutP w (putF f l x) (putL f l x) (putO f l x) (putE f l x) = Q at QB QG ⊢
  obtain ⟨n, en⟩ : ∃ n, n = l.length := ⟨_, rfl⟩
  have HL : Aside (l.length = n) := en.symm
  rw [← en] at C26 C17 C28 X0 TL hV ⊢
  have KS : Aside (wtK l n x.frm x.seq = none) := by rw [en]; exact h3
  have NU : Aside (wtN l n = n ∧ n ≤ 64) := by rw [en]; exact ⟨r4, r2⟩
  have WL : Aside (updH (wtK l n) x.frm x.seq (n : Int) = wtK (l ++ [x]) (n + 1)) := by rw [en]; exact (wtK_last l x).symm
  have e64 : ((n : Int) == 64) = true := by rw [en, h6]; rfl
  clear en hE QB ha hf hx hv h3 r1 r2 r3 r4 r5
  have C0 : Aside ((((w.alloc (.cells (holdA f (.slice a n c)) 36)).alloc (.cells (itA x) 43)).alloc (.cells #[.int .u16 0, .int .u16 0, .int .u16 0, .int .u16 0, .int .u16 0, .int .u16 0, .int .u16 0, .int .u16 0, .int .u16 0, .int .u16 0, .int .u16 0, .int .u16 0, .int .u16 0, .int .u16 0, .int .u16 0, .int .u16 0, .slice none 0 0] 36)).cell? ⟨w.heap.size, 16, none⟩ = some (.slice a n c)) := by rw [← hV]; exact X0.out.1.wait
  go_enter Try.func11, Try.ntmps11
  go_wp2_with (first
    | (go_at_call 26; (with_reducible refine C26.out.mono ?_); rintro e w1 ⟨v', rfl, hown, hb1⟩; obtain ⟨g, q, rfl⟩ := own_slice hown; rw [X0.out.2.2.2.2] at hown; have H1 : Aside (H17 w1 w.heap.size 36 f (.slice a n c)) := X0.out.1.later hb1; have SS : Aside (PS w (w1.setCell ⟨w.heap.size, 16, none⟩ (.slice g n q)) f g n q x l) := PS.put H1.out (X0.out.2.1.later hb1) (X0.out.2.2.1.later hb1) hown (step_below X0.out.2.2.2.1 hb1); clear hown hb1; have c1 := H1.out.wait; have z1 := H1.out.frozen 16; have c16 := SS.out.hH.wait; have d0 := SS.out.hX.frm; have d1 := SS.out.hX.seq)
    | (go_at_call 17; (with_reducible refine (C17.out _ g q (SS.out.at_ HL.out)).mono ?_); rintro e w17 ⟨rfl, hb⟩; replace SS : Aside (PS w w17 f g n q x l) := SS.out.later hb; clear c16 d0 d1; clear hb; have c16 := SS.out.hH.wait; have d0 := SS.out.hX.frm; have d1 := SS.out.hX.seq)
    | (go_at_call 27; (with_reducible refine (C27.out _).mono ?_); rintro e w27 ⟨rfl, hb⟩; replace SS : Aside (PS w w27 f g n q x l) := SS.out.later hb; clear c16 d0 d1; clear hb; have c16 := SS.out.hH.wait; have d0 := SS.out.hX.frm; have d1 := SS.out.hX.seq)
    | (go_at_call 28; (with_reducible refine (C28.out _ g q (SS.out.at_ HL.out)).mono ?_); rintro e w28 ⟨bm, rfl, hM, hb, hbm⟩; have MM : Aside (MapH w28 bm (wtN l n) (wtK l n) ∧ w.heap.size + 3 ≤ bm ∧ ∀ j, (Value.slice g n q).ownBlock = some j → j < bm) := ⟨hM, by have := SS.out.hR.lt; omega, fun j hj => by have := (own_lt SS.out.own j hj).2; omega⟩; replace SS : Aside (PS w w28 f g n q x l) := SS.out.later hb; clear c16 d0 d1; clear hb hM hbm; have c16 := SS.out.hH.wait; have d0 := SS.out.hX.frm; have d1 := SS.out.hX.seq; have MB : Aside (∀ j, (Value.slice g n q).ownBlock = some j → j < bm) := MM.out.2.2; have lk := MM.out.1.look IK.out; rw [KS.out] at lk)
    | (with_reducible refine wpList_build2 rfl 70 _ _ rfl _ _ (keyV x.frm x.seq) (build70 x.frm x.seq _) rfl rfl ?_)
    | (go_at_call 29; (with_reducible refine (C29.out _).mono ?_); rintro e w29 ⟨rfl, hb⟩; replace SS : Aside (PS w w29 f g n q x l) := SS.out.later hb; replace MM : Aside (MapH w29 bm (wtN l n) (wtK l n) ∧ w.heap.size + 3 ≤ bm ∧ ∀ j, (Value.slice g n q).ownBlock = some j → j < bm) := ⟨MM.out.1.kept (hb.block _ MM.out.1.lt), MM.out.2⟩; clear c16 d0 d1; clear hb; have c16 := SS.out.hH.wait; have d0 := SS.out.hX.frm; have d1 := SS.out.hX.seq)
    | (go_at_call 15; (with_reducible refine (C15.out _).mono ?_); rintro e w15 ⟨rfl, hb⟩; replace SS : Aside (PS w w15 f g n q x l) := SS.out.later hb; replace MM : Aside (MapH w15 bm (wtN l n) (wtK l n) ∧ w.heap.size + 3 ≤ bm ∧ ∀ j, (Value.slice g n q).ownBlock = some j → j < bm) := ⟨MM.out.1.kept (hb.block _ MM.out.1.lt), MM.out.2⟩; clear c16 d0 d1; clear hb; have c16 := SS.out.hH.wait; have d0 := SS.out.hX.frm; have d1 := SS.out.hX.seq; obtain ⟨wm, hrm, hmm, hgm⟩ := MM.out.1.store (f := x.frm) (s := x.seq) IK.out (by have := NU.out.1; have := NU.out.2; omega) (n : Int); have RM : Aside _ := hrm; have SM : Aside (PS w wm f g n q x l ∧ MapH wm bm (n + 1) (wtK (l ++ [x]) (n + 1)) ∧ w.heap.size + 3 ≤ bm) := ⟨SS.out.grown hgm MM.out.2.1 MM.out.2.2, by rw [KS.out] at hmm; rw [← WL.out]; have e := NU.out.1; rw [e] at hmm; exact hmm, MM.out.2.1⟩; clear hrm hmm hgm; have m16 := SM.out.1.hH.wait)
    | ((with_reducible refine wpList_cell34 C0.out rfl _ rfl rfl ?_); rw [← hV]; clear hV C0)
    | (with_reducible refine wpList_hold36 SS.out.hH rfl _ rfl rfl ?_)
    | (with_reducible refine wpList_it43 SS.out.hX rfl _ rfl rfl ?_)
    | (with_reducible refine wpList_told SS.out.hH rfl _ rfl rfl ?_)
    | (with_reducible refine wpList_hold_store SS.out.hR rfl _ _ rfl rfl rfl ?_)
    | ((with_reducible refine wpList_loadg 43 20 _ rfl (Try.isAgg43 _) (Try.sizeOf43 _) _ _ rfl (load_it SS.out.hX) ?_ ?_); (focus (go_simp; done)))
    | ((with_reducible refine wpList_loadg 24 16 _ rfl (Try.isAgg24 _) (Try.sizeOf24 _) _ _ rfl (load_told SS.out.hH) ?_ ?_); (focus (go_simp; done)))
    | (with_reducible refine wpList_put rfl _ _ _ 66 rfl _ _ _ wm RM.out rfl rfl rfl ?_)
    | (with_reducible refine wpList_it43 SM.out.1.hX rfl _ rfl rfl ?_)
    | (with_reducible refine wpList_bs20 x rfl _ rfl rfl ?_)
    | (at_builtin; refine wpList_append_own_at _ rfl _ _ 34 rfl (w.heap.size + 3) 43 i0 (.agg #[.int .u8 0, .int .i64 0, .int .i64 0, .int .u16 0, .int .u16 0, .int .u16 0, .int .u16 0, .int .u16 0, .int .u16 0, .int .u16 0, .int .u16 0, .int .u16 0, .int .u16 0, .int .u16 0, .int .u16 0, .int .u16 0, .int .u16 0, .int .u16 0, .int .u16 0, .string ⟨#[]⟩]) 20 72 Try.underlying34 I.out.1 I.out.2.1 I.out.2.2.1 I.out.2.2.2 rfl (by decide) _ _ _ rfl (SM.out.1.own.alloc _) ⟨wm.heap.size, 0, none⟩ 1 1 (itA x).toList rfl rfl ?c1 ?c2 ?c3 ?c4 ?c5 ?_))
  case c1 =>
    intro j u hu
    have h1 := heap_alloc_new wm (.cells (itA x) 43)
    rw [Addr.add_lit, Nat.zero_add, cell_of_row _ _ j _ 43 _ h1]
    simpa using hu
  case c2 => exact itA_one x
  case c3 => have := NU.out.2; unfold maxLen; omega
  case c4 => have := NU.out.2; omega
  case c5 => have := SM.out.1.hR.lt; simp; omega
  intro v' wn hown hgrow _ hat
  have NX0 : ∃ g' q', v' = .slice (some ⟨g', 0, none⟩) (n + 1) q' ∧ w.heap.size + 3 ≤ g' ∧ g' < wn.heap.size ∧ H17 wn w.heap.size 36 f (.slice g n q) ∧ I20 wn (w.heap.size + 1) 43 x ∧ H17 wn (w.heap.size + 2) 36 (fun _ => 0) (.slice none 0 0) ∧ wn.ownsRow (w.heap.size + 3) 43 20 (.slice (some ⟨g', 0, none⟩) (n + 1) q') (n + 1) (rowI (l ++ [x])) ∧ Below w.heap.size w wn ∧ MapH wn bm (n + 1) (wtK (l ++ [x]) (n + 1)) := by
    have e1 : rowI l ++ (itA x).toList = rowI (l ++ [x]) := by rw [rowI_append]; show _ = rowI l ++ ((itA x).toList ++ []); rw [List.append_nil]
    rw [e1] at hown
    obtain ⟨g', q', rfl, hge, hlt'⟩ := own_some hown
    have lt1 : ∀ j, (Value.slice g n q).ownBlock = some j → w.heap.size + 3 ≤ j ∧ j < bm := fun j hj => ⟨(own_lt SM.out.1.own j hj).1, MB.out j hj⟩
    have hbk : ∀ k, (k < w.heap.size + 3 ∨ k = bm) → k < wm.heap.size → wn.heap[k]? = wm.heap[k]? := fun k hk hk2 => by
      rw [hgrow.block k (by simp; omega) (fun e => by have := lt1 _ e.symm; omega)]
      exact ((Below.refl _ _).alloc (Nat.le_refl _) _).block k hk2
    have b1 := SM.out.1.hH.lt
    have b2 := SM.out.1.hX.lt
    have b3 := SM.out.1.hR.lt
    have b4 := SM.out.2.1.lt
    have bl := SM.out.1.below.alloc SM.out.1.below.size (.cells (itA x) 43)
    exact ⟨g', q', rfl, hge, hlt', (hbk _ (.inl (by omega)) b1).trans SM.out.1.hH, (hbk _ (.inl (by omega)) b2).trans SM.out.1.hX, (hbk _ (.inl (by omega)) b3).trans SM.out.1.hR, hown, bl.grown hgrow (by have := SM.out.1.below.size; simp; omega) (fun j hj => by have := lt1 j hj; omega), SM.out.2.1.kept (hbk _ (.inr rfl) b4)⟩
  obtain ⟨g', q', rfl, k1, k2, k3, k4, k5, k6, k7, k8⟩ := NX0
  have S6 : Aside (PS w (wn.setCell ⟨w.heap.size, 16, none⟩ (.slice (some ⟨g', 0, none⟩) (n + 1) q')) f (some ⟨g', 0, none⟩) (n + 1) q' x (l ++ [x]) ∧ MapH (wn.setCell ⟨w.heap.size, 16, none⟩ (.slice (some ⟨g', 0, none⟩) (n + 1) q')) bm (n + 1) (wtK (l ++ [x]) (n + 1)) ∧ w.heap.size + 3 ≤ g' ∧ g' < wn.heap.size) := ⟨PS.put k3 k4 k5 k6 k7, k8.kept (Below.heap_setCell _ _ _ bm (by have := SM.out.2.2; simp; omega)), k1, k2⟩
  have n16 := k3.wait
  have nz16 := k3.frozen 16
  clear SS SM MM RM hown hgrow hat k1 k2 k3 k4 k5 k6 k7 k8 m16 c16 d0 d1 lk
  go_wp2_with (first
    | (with_reducible refine wpList_hold36 S6.out.1.hH rfl _ rfl rfl ?_)
    | (go_at_call 30; (with_reducible refine (TL.out g' q' bm _ S6.out.1.own S6.out.2.1).mono ?_); rintro e w7 ⟨k, g2, q2, rfl, ek, how, hto, hgr⟩; have D7 : Aside (H17 w7 (w.heap.size + 2) 36 (fun _ => 0) (.slice none 0 0) ∧ w7.ownsRow (w.heap.size + 3) 43 20 (.slice (some ⟨g', 0, none⟩) k q') k (rowI ((l ++ [x]).filter (keep (tellT f (l ++ [x])).1))) ∧ w7.ownsRow (w.heap.size + 3) 43 20 (.slice g2 (tellT f (l ++ [x])).2.length q2) (tellT f (l ++ [x])).2.length (rowI (tellT f (l ++ [x])).2) ∧ Below w.heap.size w w7 ∧ k = ((l ++ [x]).filter (keep (tellT f (l ++ [x])).1)).length) := ⟨(hgr.block _ S6.out.1.hR.lt (by have := S6.out.2.2.1; simp; omega)).trans S6.out.1.hR, how, own_base hto (by have := S6.out.1.hR.lt; omega), below_of_grown S6.out.1.below hgr S6.out.1.below.size (fun j hj => by have := Option.some.inj hj; have := S6.out.2.2.1; omega), ek⟩; clear ek how hto hgr; have Z7 : Aside (H17 (w7.alloc (.cells #[.int .u16 0, .int .u16 0, .int .u16 0, .int .u16 0, .int .u16 0, .int .u16 0, .int .u16 0, .int .u16 0, .int .u16 0, .int .u16 0, .int .u16 0, .int .u16 0, .int .u16 0, .int .u16 0, .int .u16 0, .int .u16 0, .slice none 0 0] 36)) w7.heap.size 36 (fun _ => 0) (.slice none 0 0)) := H17.zero w7; have Y7 : Aside (H17 ((w7.alloc (.cells #[.int .u16 0, .int .u16 0, .int .u16 0, .int .u16 0, .int .u16 0, .int .u16 0, .int .u16 0, .int .u16 0, .int .u16 0, .int .u16 0, .int .u16 0, .int .u16 0, .int .u16 0, .int .u16 0, .int .u16 0, .int .u16 0, .slice none 0 0] 36)).setCells w7.heap.size 0 (holdA (tellT f (l ++ [x])).1 (.slice (some ⟨g', 0, none⟩) k q')).toList) w7.heap.size 36 (tellT f (l ++ [x])).1 (.slice (some ⟨g', 0, none⟩) k q') ∧ H17 ((w7.alloc (.cells #[.int .u16 0, .int .u16 0, .int .u16 0, .int .u16 0, .int .u16 0, .int .u16 0, .int .u16 0, .int .u16 0, .int .u16 0, .int .u16 0, .int .u16 0, .int .u16 0, .int .u16 0, .int .u16 0, .int .u16 0, .int .u16 0, .slice none 0 0] 36)).setCells w7.heap.size 0 (holdA (tellT f (l ++ [x])).1 (.slice (some ⟨g', 0, none⟩) k q')).toList) (w.heap.size + 2) 36 (fun _ => 0) (.slice none 0 0)) := ⟨Z7.out.whole, (heap_cells_far _ _ _ (Nat.ne_of_lt D7.out.1.lt)).trans (D7.out.1.alloc _)⟩)
    | (with_reducible refine wpList_hold_store Z7.out rfl _ _ rfl rfl rfl ?_)
    | (with_reducible refine wpList_hold36 Y7.out.1 rfl _ rfl rfl ?_)
    | (with_reducible refine wpList_hold_store Y7.out.2 rfl _ _ rfl rfl rfl ?_))
  have em := D7.out.2.2.2.2
  subst em
  exact bodyPost_ret (results_cell3 rfl rfl (Try.isAgg36 _) (Try.sizeOf36 _) (load_hold (Y7.out.2.whole (g := (tellT f (l ++ [x])).1) (s' := .slice (some ⟨g', 0, none⟩) _ q')))) rfl (QG.out _ _ _ _ _ (own_at (own_keep2 D7.out.2.1 D7.out.1.lt)).2.1 (own_at (own_keep2 D7.out.2.2.1 D7.out.1.lt)).2.1 (below_cells _ _ (below_cells _ _ (D7.out.2.2.2.1.alloc D7.out.2.2.2.1.size _) D7.out.2.2.2.1.size) (by omega)))

end Hd
end Go.Proofs.Ytbacnjkookakcaa
