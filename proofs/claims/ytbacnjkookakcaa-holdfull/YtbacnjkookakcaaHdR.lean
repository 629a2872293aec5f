/- What Put gives: the ways with an error. -/
import Derived.Test.YtbacnjkookakcaaHdQ
set_option linter.unusedVariables false
namespace Go.Proofs.Ytbacnjkookakcaa
open Go.RowKit
namespace Hd
open Ps

theorem own_slice {w : World} {B s n : Nat} {t : TypeId} {v : Value} {xs : List Value} (h : w.ownsRow B t s v n xs) : ∃ g q, v = .slice g n q := by
  rcases h.2 with ⟨rfl, h0⟩ | ⟨g', cap, cur, hv, _⟩
  · subst h0; exact ⟨_, _, rfl⟩
  · exact ⟨_, _, hv⟩
theorem exec_cell34 {w : World} {ad : Addr} {v : Value} (h : w.cell? ad = some v) (ac : Act) (o : Oper) (p : Operand) (ho : o.op = .load 34 p) (hp : ac.eval p = .pointer (some ad)) : (execOp ac.eval o).run Try.prog w = .ok (.value v) w := by
  generalize ac.eval = ev at hp ⊢
  simp [execOp, ho, hp, Try.isAgg34, h, go_sem]
theorem wpList_cell34 {w : World} {ops : Array Oper} {rest : List Oper} {o : Oper} {a : Act} {Q : Exit → Act → World → Prop} {ad : Addr} {v : Value} (h : w.cell? ad = some v) (hg : o.guard = none) (p : Operand) (ho : o.op = .load 34 p)
    (hp : a.eval p = .pointer (some ad)) (hn : wpList Try.prog ops Q rest (a.put o.dst v) w) : wpList Try.prog ops Q (o :: rest) a w := by
  refine wpList_plain hg fun K hK => ?_
  unfold Oper.wp
  rw [exec_cell34 h a o p ho hp]
  exact hK _ _ hn
theorem own_lt {w : World} {B s n q : Nat} {t : TypeId} {g : Option Addr} {xs : List Value} (h : w.ownsRow B t s (.slice g n q) n xs) : ∀ j, (Value.slice g n q).ownBlock = some j → B ≤ j ∧ j < w.heap.size := fun j hj => h.lt j hj


set_option maxHeartbeats 16000000 in
set_option maxRecDepth 100000 in
theorem put_e1 (f : Nat → Nat) (a : Option Addr) (c : Nat) (l : List It) (x : It) (w : World) (ha : AtI w a l) (hf : ∀ y ∈ l, Fit y) (hx : Fit x) (hv : ∀ i, i < 16 → f i < 65536) (hn : l.length ≤ 1000) (h1 : rightH f l = false) :
    Calls Try.prog 11 #[.agg (holdA f (.slice a l.length c)), .agg (itA x)] w (PutP w (putF f l x) (putL f l x) (putO f l x) (putE f l x)) := by
  obtain ⟨V, hV⟩ : ∃ V, V = ((w.alloc (.cells (holdA f (.slice a l.length c)) 36)).alloc (.cells (itA x) 43)).alloc (.cells #[.int .u16 0, .int .u16 0, .int .u16 0, .int .u16 0, .int .u16 0, .int .u16 0, .int .u16 0, .int .u16 0, .int .u16 0, .int .u16 0, .int .u16 0, .int .u16 0, .int .u16 0, .int .u16 0, .int .u16 0, .int .u16 0, .slice none 0 0] 36) := ⟨_, rfl⟩
  have X0 : Aside (H17 V w.heap.size 36 f (.slice a l.length c) ∧ I20 V (w.heap.size + 1) 43 x ∧ H17 V (w.heap.size + 2) 36 (fun _ => 0) (.slice none 0 0) ∧ Below w.heap.size w V ∧ V.heap.size = w.heap.size + 3) := by
    have hR : H17 V (w.heap.size + 2) 36 (fun _ => 0) (.slice none 0 0) := by
      have := H17.zero ((w.alloc (.cells (holdA f (.slice a l.length c)) 36)).alloc (.cells (itA x) 43))
      rw [World.size_alloc, World.size_alloc] at this
      rw [hV]; exact this
    have hX : I20 V (w.heap.size + 1) 43 x := by
      have := I20.new (w.alloc (.cells (holdA f (.slice a l.length c)) 36)) 43 x
      rw [World.size_alloc] at this
      rw [hV]; exact this.alloc _
    refine ⟨by rw [hV]; exact ((H17.new w 36 f _).alloc _).alloc _, hX, hR, by rw [hV]; exact (((Below.refl _ w).alloc (Nat.le_refl _) _).alloc (by simp) _).alloc (by simp; omega) _, by rw [hV, World.size_alloc, World.size_alloc, World.size_alloc]⟩
  have C26 : Aside (Calls Try.prog 26 #[.slice a l.length c] V fun e w' => ∃ v', e = .returned v' ∧ w'.ownsRow V.heap.size 43 20 v' l.length (rowI l) ∧ Below V.heap.size V w') := clone20_any a c l V (ha.later X0.out.2.2.2.1) hn
  have C17 : Aside (∀ W g q, AtI W g l → Calls Try.prog 17 #[.agg (holdA f (.slice g l.length q))] W fun e w' => e = .returned (.bool (rightH f l)) ∧ Below W.heap.size W w') := fun W g q h => right17_any f g q l W h hf hv hn
  have C27 : Aside (∀ W, Calls Try.prog 27 #[.agg (itA x)] W fun e w' => e = .returned (.bool (mayI x)) ∧ Below W.heap.size W w') := fun W => may27_any x W hx.2.2.2
  have C28 : Aside (∀ W g q, AtI W g l → Calls Try.prog 28 #[.slice g l.length q] W fun e w' => ∃ b, e = .returned (.map (some b)) ∧ MapH w' b (wtN l l.length) (wtK l l.length) ∧ Below W.heap.size W w' ∧ W.heap.size ≤ b) := fun W g q h => waiting_any g q l W h hf hn
  have C15 : Aside (∀ W, Calls Try.prog 15 #[.agg (vecA f), .agg (itA x)] W fun e w' => e = .returned (.bool (readyI f x)) ∧ Below W.heap.size W w') := fun W => ready15_any f x W hv hx.2.2.2
  have IK : Aside (InK x.frm x.seq) := ⟨hx.1, hx.2.1, hx.2.2.1⟩
  have QB : Aside (∀ E : Nat, putE f l x = E → E ≠ 0 → ∀ W g q, PS w W f g l.length q x l → PutP w (putF f l x) (putL f l x) (putO f l x) (putE f l x) (.returned (.tuple #[.agg (holdA f (.slice g l.length q)), .slice none 0 0, .int .i64 (E : Int)])) (W.setCells (w.heap.size + 2) 0 (holdA f (.slice g l.length q)).toList)) := fun E hE h0 W g q h => put_bad h rfl hE h0
  have hE : putE f l x = 2 := by unfold putE; rw [if_neg (fun h => by rw [h1] at h; exact absurd h.1 (by decide))]
  rw [h1] at C17
  generalize PutP w (putF f l x) (putL f l x) (putO f l x) (putE f l x) = Q at QB ⊢
  obtain ⟨n, en⟩ : ∃ n, n = l.length := ⟨_, rfl⟩
  have HL : Aside (l.length = n) := en.symm
  rw [← en] at C26 C17 C28 X0 QB hV ⊢
  have QE : Aside (∀ W g q, PS w W f g n q x l → Q (.returned (.tuple #[.agg (holdA f (.slice g n q)), .slice none 0 0, .int .i64 ((2 : Nat) : Int)])) (W.setCells (w.heap.size + 2) 0 (holdA f (.slice g n q)).toList)) := QB.out 2 hE (by decide)
  clear en hE QB ha hf hx hv
  have C0 : Aside ((((w.alloc (.cells (holdA f (.slice a n c)) 36)).alloc (.cells (itA x) 43)).alloc (.cells #[.int .u16 0, .int .u16 0, .int .u16 0, .int .u16 0, .int .u16 0, .int .u16 0, .int .u16 0, .int .u16 0, .int .u16 0, .int .u16 0, .int .u16 0, .int .u16 0, .int .u16 0, .int .u16 0, .int .u16 0, .int .u16 0, .slice none 0 0] 36)).cell? ⟨w.heap.size, 16, none⟩ = some (.slice a n c)) := by rw [← hV]; exact X0.out.1.wait
  go_enter Try.func11, Try.ntmps11
  go_wp2_with (first
    | (go_at_call 26; (with_reducible refine C26.out.mono ?_); rintro e w1 ⟨v', rfl, hown, hb1⟩; obtain ⟨g, q, rfl⟩ := own_slice hown; rw [X0.out.2.2.2.2] at hown; have H1 : Aside (H17 w1 w.heap.size 36 f (.slice a n c)) := X0.out.1.later hb1; have SS : Aside (PS w (w1.setCell ⟨w.heap.size, 16, none⟩ (.slice g n q)) f g n q x l) := PS.put H1.out (X0.out.2.1.later hb1) (X0.out.2.2.1.later hb1) hown (step_below X0.out.2.2.2.1 hb1); clear hown hb1; have c1 := H1.out.wait; have z1 := H1.out.frozen 16; have c16 := SS.out.hH.wait; have d0 := SS.out.hX.frm; have d1 := SS.out.hX.seq)
    | (go_at_call 17; (with_reducible refine (C17.out _ g q (SS.out.at_ HL.out)).mono ?_); rintro e w17 ⟨rfl, hb⟩; replace SS : Aside (PS w w17 f g n q x l) := SS.out.later hb; clear c16 d0 d1; clear hb; have c16 := SS.out.hH.wait; have d0 := SS.out.hX.frm; have d1 := SS.out.hX.seq)
    | ((with_reducible refine wpList_cell34 C0.out rfl _ rfl rfl ?_); rw [← hV]; clear hV C0)
    | (with_reducible refine wpList_hold36 SS.out.hH rfl _ rfl rfl ?_)
    | (with_reducible refine wpList_it43 SS.out.hX rfl _ rfl rfl ?_)
    | (with_reducible refine wpList_told SS.out.hH rfl _ rfl rfl ?_)
    | (with_reducible refine wpList_hold_store SS.out.hR rfl _ _ rfl rfl rfl ?_)
    | ((with_reducible refine wpList_loadg 43 20 _ rfl (Try.isAgg43 _) (Try.sizeOf43 _) _ _ rfl (load_it SS.out.hX) ?_ ?_); (focus (go_simp; done)))
    | ((with_reducible refine wpList_loadg 24 16 _ rfl (Try.isAgg24 _) (Try.sizeOf24 _) _ _ rfl (load_told SS.out.hH) ?_ ?_); (focus (go_simp; done))))
  exact bodyPost_ret (results_cell3 rfl rfl (Try.isAgg36 _) (Try.sizeOf36 _) (load_hold (SS.out.hR.whole (g := f) (s' := .slice g n q)))) rfl (QE.out _ g q SS.out)


set_option maxHeartbeats 16000000 in
set_option maxRecDepth 100000 in
theorem put_e2 (f : Nat → Nat) (a : Option Addr) (c : Nat) (l : List It) (x : It) (w : World) (ha : AtI w a l) (hf : ∀ y ∈ l, Fit y) (hx : Fit x) (hv : ∀ i, i < 16 → f i < 65536) (hn : l.length ≤ 1000) (h1 : rightH f l = true) (h2 : mayI x = false) :
    Calls Try.prog 11 #[.agg (holdA f (.slice a l.length c)), .agg (itA x)] w (PutP w (putF f l x) (putL f l x) (putO f l x) (putE f l x)) := by
  obtain ⟨V, hV⟩ : ∃ V, V = ((w.alloc (.cells (holdA f (.slice a l.length c)) 36)).alloc (.cells (itA x) 43)).alloc (.cells #[.int .u16 0, .int .u16 0, .int .u16 0, .int .u16 0, .int .u16 0, .int .u16 0, .int .u16 0, .int .u16 0, .int .u16 0, .int .u16 0, .int .u16 0, .int .u16 0, .int .u16 0, .int .u16 0, .int .u16 0, .int .u16 0, .slice none 0 0] 36) := ⟨_, rfl⟩
  have X0 : Aside (H17 V w.heap.size 36 f (.slice a l.length c) ∧ I20 V (w.heap.size + 1) 43 x ∧ H17 V (w.heap.size + 2) 36 (fun _ => 0) (.slice none 0 0) ∧ Below w.heap.size w V ∧ V.heap.size = w.heap.size + 3) := by
    have hR : H17 V (w.heap.size + 2) 36 (fun _ => 0) (.slice none 0 0) := by
      have := H17.zero ((w.alloc (.cells (holdA f (.slice a l.length c)) 36)).alloc (.cells (itA x) 43))
      rw [World.size_alloc, World.size_alloc] at this
      rw [hV]; exact this
    have hX : I20 V (w.heap.size + 1) 43 x := by
      have := I20.new (w.alloc (.cells (holdA f (.slice a l.length c)) 36)) 43 x
      rw [World.size_alloc] at this
      rw [hV]; exact this.alloc _
    refine ⟨by rw [hV]; exact ((H17.new w 36 f _).alloc _).alloc _, hX, hR, by rw [hV]; exact (((Below.refl _ w).alloc (Nat.le_refl _) _).alloc (by simp) _).alloc (by simp; omega) _, by rw [hV, World.size_alloc, World.size_alloc, World.size_alloc]⟩
  have C26 : Aside (Calls Try.prog 26 #[.slice a l.length c] V fun e w' => ∃ v', e = .returned v' ∧ w'.ownsRow V.heap.size 43 20 v' l.length (rowI l) ∧ Below V.heap.size V w') := clone20_any a c l V (ha.later X0.out.2.2.2.1) hn
  have C17 : Aside (∀ W g q, AtI W g l → Calls Try.prog 17 #[.agg (holdA f (.slice g l.length q))] W fun e w' => e = .returned (.bool (rightH f l)) ∧ Below W.heap.size W w') := fun W g q h => right17_any f g q l W h hf hv hn
  have C27 : Aside (∀ W, Calls Try.prog 27 #[.agg (itA x)] W fun e w' => e = .returned (.bool (mayI x)) ∧ Below W.heap.size W w') := fun W => may27_any x W hx.2.2.2
  have C28 : Aside (∀ W g q, AtI W g l → Calls Try.prog 28 #[.slice g l.length q] W fun e w' => ∃ b, e = .returned (.map (some b)) ∧ MapH w' b (wtN l l.length) (wtK l l.length) ∧ Below W.heap.size W w' ∧ W.heap.size ≤ b) := fun W g q h => waiting_any g q l W h hf hn
  have C15 : Aside (∀ W, Calls Try.prog 15 #[.agg (vecA f), .agg (itA x)] W fun e w' => e = .returned (.bool (readyI f x)) ∧ Below W.heap.size W w') := fun W => ready15_any f x W hv hx.2.2.2
  have IK : Aside (InK x.frm x.seq) := ⟨hx.1, hx.2.1, hx.2.2.1⟩
  have QB : Aside (∀ E : Nat, putE f l x = E → E ≠ 0 → ∀ W g q, PS w W f g l.length q x l → PutP w (putF f l x) (putL f l x) (putO f l x) (putE f l x) (.returned (.tuple #[.agg (holdA f (.slice g l.length q)), .slice none 0 0, .int .i64 (E : Int)])) (W.setCells (w.heap.size + 2) 0 (holdA f (.slice g l.length q)).toList)) := fun E hE h0 W g q h => put_bad h rfl hE h0
  have hE : putE f l x = 2 := by unfold putE; rw [if_neg (fun h => by rw [h2] at h; exact absurd h.2 (by decide))]
  rw [h1] at C17
  rw [h2] at C27
  generalize PutP w (putF f l x) (putL f l x) (putO f l x) (putE f l x) = Q at QB ⊢
  obtain ⟨n, en⟩ : ∃ n, n = l.length := ⟨_, rfl⟩
  have HL : Aside (l.length = n) := en.symm
  rw [← en] at C26 C17 C28 X0 QB hV ⊢
  have QE : Aside (∀ W g q, PS w W f g n q x l → Q (.returned (.tuple #[.agg (holdA f (.slice g n q)), .slice none 0 0, .int .i64 ((2 : Nat) : Int)])) (W.setCells (w.heap.size + 2) 0 (holdA f (.slice g n q)).toList)) := QB.out 2 hE (by decide)
  clear en hE QB ha hf hx hv
  have C0 : Aside ((((w.alloc (.cells (holdA f (.slice a n c)) 36)).alloc (.cells (itA x) 43)).alloc (.cells #[.int .u16 0, .int .u16 0, .int .u16 0, .int .u16 0, .int .u16 0, .int .u16 0, .int .u16 0, .int .u16 0, .int .u16 0, .int .u16 0, .int .u16 0, .int .u16 0, .int .u16 0, .int .u16 0, .int .u16 0, .int .u16 0, .slice none 0 0] 36)).cell? ⟨w.heap.size, 16, none⟩ = some (.slice a n c)) := by rw [← hV]; exact X0.out.1.wait
  go_enter Try.func11, Try.ntmps11
  go_wp2_with (first
    | (go_at_call 26; (with_reducible refine C26.out.mono ?_); rintro e w1 ⟨v', rfl, hown, hb1⟩; obtain ⟨g, q, rfl⟩ := own_slice hown; rw [X0.out.2.2.2.2] at hown; have H1 : Aside (H17 w1 w.heap.size 36 f (.slice a n c)) := X0.out.1.later hb1; have SS : Aside (PS w (w1.setCell ⟨w.heap.size, 16, none⟩ (.slice g n q)) f g n q x l) := PS.put H1.out (X0.out.2.1.later hb1) (X0.out.2.2.1.later hb1) hown (step_below X0.out.2.2.2.1 hb1); clear hown hb1; have c1 := H1.out.wait; have z1 := H1.out.frozen 16; have c16 := SS.out.hH.wait; have d0 := SS.out.hX.frm; have d1 := SS.out.hX.seq)
    | (go_at_call 17; (with_reducible refine (C17.out _ g q (SS.out.at_ HL.out)).mono ?_); rintro e w17 ⟨rfl, hb⟩; replace SS : Aside (PS w w17 f g n q x l) := SS.out.later hb; clear c16 d0 d1; clear hb; have c16 := SS.out.hH.wait; have d0 := SS.out.hX.frm; have d1 := SS.out.hX.seq)
    | (go_at_call 27; (with_reducible refine (C27.out _).mono ?_); rintro e w27 ⟨rfl, hb⟩; replace SS : Aside (PS w w27 f g n q x l) := SS.out.later hb; clear c16 d0 d1; clear hb; have c16 := SS.out.hH.wait; have d0 := SS.out.hX.frm; have d1 := SS.out.hX.seq)
    | ((with_reducible refine wpList_cell34 C0.out rfl _ rfl rfl ?_); rw [← hV]; clear hV C0)
    | (with_reducible refine wpList_hold36 SS.out.hH rfl _ rfl rfl ?_)
    | (with_reducible refine wpList_it43 SS.out.hX rfl _ rfl rfl ?_)
    | (with_reducible refine wpList_told SS.out.hH rfl _ rfl rfl ?_)
    | (with_reducible refine wpList_hold_store SS.out.hR rfl _ _ rfl rfl rfl ?_)
    | ((with_reducible refine wpList_loadg 43 20 _ rfl (Try.isAgg43 _) (Try.sizeOf43 _) _ _ rfl (load_it SS.out.hX) ?_ ?_); (focus (go_simp; done)))
    | ((with_reducible refine wpList_loadg 24 16 _ rfl (Try.isAgg24 _) (Try.sizeOf24 _) _ _ rfl (load_told SS.out.hH) ?_ ?_); (focus (go_simp; done))))
  exact bodyPost_ret (results_cell3 rfl rfl (Try.isAgg36 _) (Try.sizeOf36 _) (load_hold (SS.out.hR.whole (g := f) (s' := .slice g n q)))) rfl (QE.out _ g q SS.out)


set_option maxHeartbeats 16000000 in
set_option maxRecDepth 100000 in
theorem put_e3 (f : Nat → Nat) (a : Option Addr) (c : Nat) (l : List It) (x : It) (w : World) (ha : AtI w a l) (hf : ∀ y ∈ l, Fit y) (hx : Fit x) (hv : ∀ i, i < 16 → f i < 65536) (hn : l.length ≤ 1000) (h1 : rightH f l = true) (h2 : mayI x = true) (h3 : (wtK l l.length x.frm x.seq).isSome = true) :
    Calls Try.prog 11 #[.agg (holdA f (.slice a l.length c)), .agg (itA x)] w (PutP w (putF f l x) (putL f l x) (putO f l x) (putE f l x)) := by
  obtain ⟨V, hV⟩ : ∃ V, V = ((w.alloc (.cells (holdA f (.slice a l.length c)) 36)).alloc (.cells (itA x) 43)).alloc (.cells #[.int .u16 0, .int .u16 0, .int .u16 0, .int .u16 0, .int .u16 0, .int .u16 0, .int .u16 0, .int .u16 0, .int .u16 0, .int .u16 0, .int .u16 0, .int .u16 0, .int .u16 0, .int .u16 0, .int .u16 0, .int .u16 0, .slice none 0 0] 36) := ⟨_, rfl⟩
  have X0 : Aside (H17 V w.heap.size 36 f (.slice a l.length c) ∧ I20 V (w.heap.size + 1) 43 x ∧ H17 V (w.heap.size + 2) 36 (fun _ => 0) (.slice none 0 0) ∧ Below w.heap.size w V ∧ V.heap.size = w.heap.size + 3) := by
    have hR : H17 V (w.heap.size + 2) 36 (fun _ => 0) (.slice none 0 0) := by
      have := H17.zero ((w.alloc (.cells (holdA f (.slice a l.length c)) 36)).alloc (.cells (itA x) 43))
      rw [World.size_alloc, World.size_alloc] at this
      rw [hV]; exact this
    have hX : I20 V (w.heap.size + 1) 43 x := by
      have := I20.new (w.alloc (.cells (holdA f (.slice a l.length c)) 36)) 43 x
      rw [World.size_alloc] at this
      rw [hV]; exact this.alloc _
    refine ⟨by rw [hV]; exact ((H17.new w 36 f _).alloc _).alloc _, hX, hR, by rw [hV]; exact (((Below.refl _ w).alloc (Nat.le_refl _) _).alloc (by simp) _).alloc (by simp; omega) _, by rw [hV, World.size_alloc, World.size_alloc, World.size_alloc]⟩
  have C26 : Aside (Calls Try.prog 26 #[.slice a l.length c] V fun e w' => ∃ v', e = .returned v' ∧ w'.ownsRow V.heap.size 43 20 v' l.length (rowI l) ∧ Below V.heap.size V w') := clone20_any a c l V (ha.later X0.out.2.2.2.1) hn
  have C17 : Aside (∀ W g q, AtI W g l → Calls Try.prog 17 #[.agg (holdA f (.slice g l.length q))] W fun e w' => e = .returned (.bool (rightH f l)) ∧ Below W.heap.size W w') := fun W g q h => right17_any f g q l W h hf hv hn
  have C27 : Aside (∀ W, Calls Try.prog 27 #[.agg (itA x)] W fun e w' => e = .returned (.bool (mayI x)) ∧ Below W.heap.size W w') := fun W => may27_any x W hx.2.2.2
  have C28 : Aside (∀ W g q, AtI W g l → Calls Try.prog 28 #[.slice g l.length q] W fun e w' => ∃ b, e = .returned (.map (some b)) ∧ MapH w' b (wtN l l.length) (wtK l l.length) ∧ Below W.heap.size W w' ∧ W.heap.size ≤ b) := fun W g q h => waiting_any g q l W h hf hn
  have C15 : Aside (∀ W, Calls Try.prog 15 #[.agg (vecA f), .agg (itA x)] W fun e w' => e = .returned (.bool (readyI f x)) ∧ Below W.heap.size W w') := fun W => ready15_any f x W hv hx.2.2.2
  have IK : Aside (InK x.frm x.seq) := ⟨hx.1, hx.2.1, hx.2.2.1⟩
  have QB : Aside (∀ E : Nat, putE f l x = E → E ≠ 0 → ∀ W g q, PS w W f g l.length q x l → PutP w (putF f l x) (putL f l x) (putO f l x) (putE f l x) (.returned (.tuple #[.agg (holdA f (.slice g l.length q)), .slice none 0 0, .int .i64 (E : Int)])) (W.setCells (w.heap.size + 2) 0 (holdA f (.slice g l.length q)).toList)) := fun E hE h0 W g q h => put_bad h rfl hE h0
  have hE : putE f l x = 6 := by unfold putE; rw [if_pos ⟨h1, h2⟩, if_pos (.inl h3)]
  rw [h1] at C17
  rw [h2] at C27
  generalize PutP w (putF f l x) (putL f l x) (putO f l x) (putE f l x) = Q at QB ⊢
  obtain ⟨n, en⟩ : ∃ n, n = l.length := ⟨_, rfl⟩
  have HL : Aside (l.length = n) := en.symm
  rw [← en] at C26 C17 C28 X0 QB hV ⊢
  have QE : Aside (∀ W g q, PS w W f g n q x l → Q (.returned (.tuple #[.agg (holdA f (.slice g n q)), .slice none 0 0, .int .i64 ((6 : Nat) : Int)])) (W.setCells (w.heap.size + 2) 0 (holdA f (.slice g n q)).toList)) := QB.out 6 hE (by decide)
  have KS : Aside ((wtK l n x.frm x.seq).isSome = true) := by rw [en]; exact h3
  clear en hE QB h3 ha hf hx hv
  have C0 : Aside ((((w.alloc (.cells (holdA f (.slice a n c)) 36)).alloc (.cells (itA x) 43)).alloc (.cells #[.int .u16 0, .int .u16 0, .int .u16 0, .int .u16 0, .int .u16 0, .int .u16 0, .int .u16 0, .int .u16 0, .int .u16 0, .int .u16 0, .int .u16 0, .int .u16 0, .int .u16 0, .int .u16 0, .int .u16 0, .int .u16 0, .slice none 0 0] 36)).cell? ⟨w.heap.size, 16, none⟩ = some (.slice a n c)) := by rw [← hV]; exact X0.out.1.wait
  go_enter Try.func11, Try.ntmps11
  go_wp2_with (first
    | (go_at_call 26; (with_reducible refine C26.out.mono ?_); rintro e w1 ⟨v', rfl, hown, hb1⟩; obtain ⟨g, q, rfl⟩ := own_slice hown; rw [X0.out.2.2.2.2] at hown; have H1 : Aside (H17 w1 w.heap.size 36 f (.slice a n c)) := X0.out.1.later hb1; have SS : Aside (PS w (w1.setCell ⟨w.heap.size, 16, none⟩ (.slice g n q)) f g n q x l) := PS.put H1.out (X0.out.2.1.later hb1) (X0.out.2.2.1.later hb1) hown (step_below X0.out.2.2.2.1 hb1); clear hown hb1; have c1 := H1.out.wait; have z1 := H1.out.frozen 16; have c16 := SS.out.hH.wait; have d0 := SS.out.hX.frm; have d1 := SS.out.hX.seq)
    | (go_at_call 17; (with_reducible refine (C17.out _ g q (SS.out.at_ HL.out)).mono ?_); rintro e w17 ⟨rfl, hb⟩; replace SS : Aside (PS w w17 f g n q x l) := SS.out.later hb; clear c16 d0 d1; clear hb; have c16 := SS.out.hH.wait; have d0 := SS.out.hX.frm; have d1 := SS.out.hX.seq)
    | (go_at_call 27; (with_reducible refine (C27.out _).mono ?_); rintro e w27 ⟨rfl, hb⟩; replace SS : Aside (PS w w27 f g n q x l) := SS.out.later hb; clear c16 d0 d1; clear hb; have c16 := SS.out.hH.wait; have d0 := SS.out.hX.frm; have d1 := SS.out.hX.seq)
    | (go_at_call 28; (with_reducible refine (C28.out _ g q (SS.out.at_ HL.out)).mono ?_); rintro e w28 ⟨bm, rfl, hM, hb, hbm⟩; have MM : Aside (MapH w28 bm (wtN l n) (wtK l n) ∧ w.heap.size + 3 ≤ bm ∧ ∀ j, (Value.slice g n q).ownBlock = some j → j < bm) := ⟨hM, by have := SS.out.hR.lt; omega, fun j hj => by have := (own_lt SS.out.own j hj).2; omega⟩; replace SS : Aside (PS w w28 f g n q x l) := SS.out.later hb; clear c16 d0 d1; clear hb hM hbm; have c16 := SS.out.hH.wait; have d0 := SS.out.hX.frm; have d1 := SS.out.hX.seq; have lk := MM.out.1.look IK.out; rw [KS.out] at lk)
    | (with_reducible refine wpList_build2 rfl 70 _ _ rfl _ _ (keyV x.frm x.seq) (build70 x.frm x.seq _) rfl rfl ?_)
    | ((with_reducible refine wpList_cell34 C0.out rfl _ rfl rfl ?_); rw [← hV]; clear hV C0)
    | (with_reducible refine wpList_hold36 SS.out.hH rfl _ rfl rfl ?_)
    | (with_reducible refine wpList_it43 SS.out.hX rfl _ rfl rfl ?_)
    | (with_reducible refine wpList_told SS.out.hH rfl _ rfl rfl ?_)
    | (with_reducible refine wpList_hold_store SS.out.hR rfl _ _ rfl rfl rfl ?_)
    | ((with_reducible refine wpList_loadg 43 20 _ rfl (Try.isAgg43 _) (Try.sizeOf43 _) _ _ rfl (load_it SS.out.hX) ?_ ?_); (focus (go_simp; done)))
    | ((with_reducible refine wpList_loadg 24 16 _ rfl (Try.isAgg24 _) (Try.sizeOf24 _) _ _ rfl (load_told SS.out.hH) ?_ ?_); (focus (go_simp; done))))
  exact bodyPost_ret (results_cell3 rfl rfl (Try.isAgg36 _) (Try.sizeOf36 _) (load_hold (SS.out.hR.whole (g := f) (s' := .slice g n q)))) rfl (QE.out _ g q SS.out)


set_option maxHeartbeats 16000000 in
set_option maxRecDepth 100000 in
theorem put_e4 (f : Nat → Nat) (a : Option Addr) (c : Nat) (l : List It) (x : It) (w : World) (ha : AtI w a l) (hf : ∀ y ∈ l, Fit y) (hx : Fit x) (hv : ∀ i, i < 16 → f i < 65536) (hn : l.length ≤ 1000) (h1 : rightH f l = true) (h2 : mayI x = true) (h3 : wtK l l.length x.frm x.seq = none) (h4 : oldI f x = true) :
    Calls Try.prog 11 #[.agg (holdA f (.slice a l.length c)), .agg (itA x)] w (PutP w (putF f l x) (putL f l x) (putO f l x) (putE f l x)) := by
  obtain ⟨V, hV⟩ : ∃ V, V = ((w.alloc (.cells (holdA f (.slice a l.length c)) 36)).alloc (.cells (itA x) 43)).alloc (.cells #[.int .u16 0, .int .u16 0, .int .u16 0, .int .u16 0, .int .u16 0, .int .u16 0, .int .u16 0, .int .u16 0, .int .u16 0, .int .u16 0, .int .u16 0, .int .u16 0, .int .u16 0, .int .u16 0, .int .u16 0, .int .u16 0, .slice none 0 0] 36) := ⟨_, rfl⟩
  have X0 : Aside (H17 V w.heap.size 36 f (.slice a l.length c) ∧ I20 V (w.heap.size + 1) 43 x ∧ H17 V (w.heap.size + 2) 36 (fun _ => 0) (.slice none 0 0) ∧ Below w.heap.size w V ∧ V.heap.size = w.heap.size + 3) := by
    have hR : H17 V (w.heap.size + 2) 36 (fun _ => 0) (.slice none 0 0) := by
      have := H17.zero ((w.alloc (.cells (holdA f (.slice a l.length c)) 36)).alloc (.cells (itA x) 43))
      rw [World.size_alloc, World.size_alloc] at this
      rw [hV]; exact this
    have hX : I20 V (w.heap.size + 1) 43 x := by
      have := I20.new (w.alloc (.cells (holdA f (.slice a l.length c)) 36)) 43 x
      rw [World.size_alloc] at this
      rw [hV]; exact this.alloc _
    refine ⟨by rw [hV]; exact ((H17.new w 36 f _).alloc _).alloc _, hX, hR, by rw [hV]; exact (((Below.refl _ w).alloc (Nat.le_refl _) _).alloc (by simp) _).alloc (by simp; omega) _, by rw [hV, World.size_alloc, World.size_alloc, World.size_alloc]⟩
  have C26 : Aside (Calls Try.prog 26 #[.slice a l.length c] V fun e w' => ∃ v', e = .returned v' ∧ w'.ownsRow V.heap.size 43 20 v' l.length (rowI l) ∧ Below V.heap.size V w') := clone20_any a c l V (ha.later X0.out.2.2.2.1) hn
  have C17 : Aside (∀ W g q, AtI W g l → Calls Try.prog 17 #[.agg (holdA f (.slice g l.length q))] W fun e w' => e = .returned (.bool (rightH f l)) ∧ Below W.heap.size W w') := fun W g q h => right17_any f g q l W h hf hv hn
  have C27 : Aside (∀ W, Calls Try.prog 27 #[.agg (itA x)] W fun e w' => e = .returned (.bool (mayI x)) ∧ Below W.heap.size W w') := fun W => may27_any x W hx.2.2.2
  have C28 : Aside (∀ W g q, AtI W g l → Calls Try.prog 28 #[.slice g l.length q] W fun e w' => ∃ b, e = .returned (.map (some b)) ∧ MapH w' b (wtN l l.length) (wtK l l.length) ∧ Below W.heap.size W w' ∧ W.heap.size ≤ b) := fun W g q h => waiting_any g q l W h hf hn
  have C15 : Aside (∀ W, Calls Try.prog 15 #[.agg (vecA f), .agg (itA x)] W fun e w' => e = .returned (.bool (readyI f x)) ∧ Below W.heap.size W w') := fun W => ready15_any f x W hv hx.2.2.2
  have IK : Aside (InK x.frm x.seq) := ⟨hx.1, hx.2.1, hx.2.2.1⟩
  have QB : Aside (∀ E : Nat, putE f l x = E → E ≠ 0 → ∀ W g q, PS w W f g l.length q x l → PutP w (putF f l x) (putL f l x) (putO f l x) (putE f l x) (.returned (.tuple #[.agg (holdA f (.slice g l.length q)), .slice none 0 0, .int .i64 (E : Int)])) (W.setCells (w.heap.size + 2) 0 (holdA f (.slice g l.length q)).toList)) := fun E hE h0 W g q h => put_bad h rfl hE h0
  have hE : putE f l x = 6 := by unfold putE; rw [if_pos ⟨h1, h2⟩, if_pos (.inr h4)]
  rw [h1] at C17
  rw [h2] at C27
  have C29 : Aside (∀ W, Calls Try.prog 29 #[.agg (vecA f), .agg (itA x)] W fun e w' => e = .returned (.bool (oldI f x)) ∧ Below W.heap.size W w') := fun W => old_any f x W (hv _ (may_seq h2).2) (may_seq h2).2
  rw [h4] at C29
  generalize PutP w (putF f l x) (putL f l x) (putO f l x) (putE f l x) = Q at QB ⊢
  obtain ⟨n, en⟩ : ∃ n, n = l.length := ⟨_, rfl⟩
  have HL : Aside (l.length = n) := en.symm
  rw [← en] at C26 C17 C28 X0 QB hV ⊢
  have QE : Aside (∀ W g q, PS w W f g n q x l → Q (.returned (.tuple #[.agg (holdA f (.slice g n q)), .slice none 0 0, .int .i64 ((6 : Nat) : Int)])) (W.setCells (w.heap.size + 2) 0 (holdA f (.slice g n q)).toList)) := QB.out 6 hE (by decide)
  have KS : Aside (wtK l n x.frm x.seq = none) := by rw [en]; exact h3
  clear en hE QB h3 ha hf hx hv
  have C0 : Aside ((((w.alloc (.cells (holdA f (.slice a n c)) 36)).alloc (.cells (itA x) 43)).alloc (.cells #[.int .u16 0, .int .u16 0, .int .u16 0, .int .u16 0, .int .u16 0, .int .u16 0, .int .u16 0, .int .u16 0, .int .u16 0, .int .u16 0, .int .u16 0, .int .u16 0, .int .u16 0, .int .u16 0, .int .u16 0, .int .u16 0, .slice none 0 0] 36)).cell? ⟨w.heap.size, 16, none⟩ = some (.slice a n c)) := by rw [← hV]; exact X0.out.1.wait
  go_enter Try.func11, Try.ntmps11
  go_wp2_with (first
    | (go_at_call 26; (with_reducible refine C26.out.mono ?_); rintro e w1 ⟨v', rfl, hown, hb1⟩; obtain ⟨g, q, rfl⟩ := own_slice hown; rw [X0.out.2.2.2.2] at hown; have H1 : Aside (H17 w1 w.heap.size 36 f (.slice a n c)) := X0.out.1.later hb1; have SS : Aside (PS w (w1.setCell ⟨w.heap.size, 16, none⟩ (.slice g n q)) f g n q x l) := PS.put H1.out (X0.out.2.1.later hb1) (X0.out.2.2.1.later hb1) hown (step_below X0.out.2.2.2.1 hb1); clear hown hb1; have c1 := H1.out.wait; have z1 := H1.out.frozen 16; have c16 := SS.out.hH.wait; have d0 := SS.out.hX.frm; have d1 := SS.out.hX.seq)
    | (go_at_call 17; (with_reducible refine (C17.out _ g q (SS.out.at_ HL.out)).mono ?_); rintro e w17 ⟨rfl, hb⟩; replace SS : Aside (PS w w17 f g n q x l) := SS.out.later hb; clear c16 d0 d1; clear hb; have c16 := SS.out.hH.wait; have d0 := SS.out.hX.frm; have d1 := SS.out.hX.seq)
    | (go_at_call 27; (with_reducible refine (C27.out _).mono ?_); rintro e w27 ⟨rfl, hb⟩; replace SS : Aside (PS w w27 f g n q x l) := SS.out.later hb; clear c16 d0 d1; clear hb; have c16 := SS.out.hH.wait; have d0 := SS.out.hX.frm; have d1 := SS.out.hX.seq)
    | (go_at_call 28; (with_reducible refine (C28.out _ g q (SS.out.at_ HL.out)).mono ?_); rintro e w28 ⟨bm, rfl, hM, hb, hbm⟩; have MM : Aside (MapH w28 bm (wtN l n) (wtK l n) ∧ w.heap.size + 3 ≤ bm ∧ ∀ j, (Value.slice g n q).ownBlock = some j → j < bm) := ⟨hM, by have := SS.out.hR.lt; omega, fun j hj => by have := (own_lt SS.out.own j hj).2; omega⟩; replace SS : Aside (PS w w28 f g n q x l) := SS.out.later hb; clear c16 d0 d1; clear hb hM hbm; have c16 := SS.out.hH.wait; have d0 := SS.out.hX.frm; have d1 := SS.out.hX.seq; have lk := MM.out.1.look IK.out; rw [KS.out] at lk)
    | (with_reducible refine wpList_build2 rfl 70 _ _ rfl _ _ (keyV x.frm x.seq) (build70 x.frm x.seq _) rfl rfl ?_)
    | (go_at_call 29; (with_reducible refine (C29.out _).mono ?_); rintro e w29 ⟨rfl, hb⟩; replace SS : Aside (PS w w29 f g n q x l) := SS.out.later hb; replace MM : Aside (MapH w29 bm (wtN l n) (wtK l n) ∧ w.heap.size + 3 ≤ bm ∧ ∀ j, (Value.slice g n q).ownBlock = some j → j < bm) := ⟨MM.out.1.kept (hb.block _ MM.out.1.lt), MM.out.2⟩; clear c16 d0 d1; clear hb; have c16 := SS.out.hH.wait; have d0 := SS.out.hX.frm; have d1 := SS.out.hX.seq)
    | ((with_reducible refine wpList_cell34 C0.out rfl _ rfl rfl ?_); rw [← hV]; clear hV C0)
    | (with_reducible refine wpList_hold36 SS.out.hH rfl _ rfl rfl ?_)
    | (with_reducible refine wpList_it43 SS.out.hX rfl _ rfl rfl ?_)
    | (with_reducible refine wpList_told SS.out.hH rfl _ rfl rfl ?_)
    | (with_reducible refine wpList_hold_store SS.out.hR rfl _ _ rfl rfl rfl ?_)
    | ((with_reducible refine wpList_loadg 43 20 _ rfl (Try.isAgg43 _) (Try.sizeOf43 _) _ _ rfl (load_it SS.out.hX) ?_ ?_); (focus (go_simp; done)))
    | ((with_reducible refine wpList_loadg 24 16 _ rfl (Try.isAgg24 _) (Try.sizeOf24 _) _ _ rfl (load_told SS.out.hH) ?_ ?_); (focus (go_simp; done))))
  exact bodyPost_ret (results_cell3 rfl rfl (Try.isAgg36 _) (Try.sizeOf36 _) (load_hold (SS.out.hR.whole (g := f) (s' := .slice g n q)))) rfl (QE.out _ g q SS.out)


set_option maxHeartbeats 16000000 in
set_option maxRecDepth 100000 in
theorem put_e5 (f : Nat → Nat) (a : Option Addr) (c : Nat) (l : List It) (x : It) (w : World) (ha : AtI w a l) (hf : ∀ y ∈ l, Fit y) (hx : Fit x) (hv : ∀ i, i < 16 → f i < 65536) (hn : l.length ≤ 1000) (h1 : rightH f l = true) (h2 : mayI x = true) (h3 : wtK l l.length x.frm x.seq = none) (h4 : oldI f x = false) (h5 : l.length = 64) (h6 : readyI f x = false) :
    Calls Try.prog 11 #[.agg (holdA f (.slice a l.length c)), .agg (itA x)] w (PutP w (putF f l x) (putL f l x) (putO f l x) (putE f l x)) := by
  obtain ⟨V, hV⟩ : ∃ V, V = ((w.alloc (.cells (holdA f (.slice a l.length c)) 36)).alloc (.cells (itA x) 43)).alloc (.cells #[.int .u16 0, .int .u16 0, .int .u16 0, .int .u16 0, .int .u16 0, .int .u16 0, .int .u16 0, .int .u16 0, .int .u16 0, .int .u16 0, .int .u16 0, .int .u16 0, .int .u16 0, .int .u16 0, .int .u16 0, .int .u16 0, .slice none 0 0] 36) := ⟨_, rfl⟩
  have X0 : Aside (H17 V w.heap.size 36 f (.slice a l.length c) ∧ I20 V (w.heap.size + 1) 43 x ∧ H17 V (w.heap.size + 2) 36 (fun _ => 0) (.slice none 0 0) ∧ Below w.heap.size w V ∧ V.heap.size = w.heap.size + 3) := by
    have hR : H17 V (w.heap.size + 2) 36 (fun _ => 0) (.slice none 0 0) := by
      have := H17.zero ((w.alloc (.cells (holdA f (.slice a l.length c)) 36)).alloc (.cells (itA x) 43))
      rw [World.size_alloc, World.size_alloc] at this
      rw [hV]; exact this
    have hX : I20 V (w.heap.size + 1) 43 x := by
      have := I20.new (w.alloc (.cells (holdA f (.slice a l.length c)) 36)) 43 x
      rw [World.size_alloc] at this
      rw [hV]; exact this.alloc _
    refine ⟨by rw [hV]; exact ((H17.new w 36 f _).alloc _).alloc _, hX, hR, by rw [hV]; exact (((Below.refl _ w).alloc (Nat.le_refl _) _).alloc (by simp) _).alloc (by simp; omega) _, by rw [hV, World.size_alloc, World.size_alloc, World.size_alloc]⟩
  have C26 : Aside (Calls Try.prog 26 #[.slice a l.length c] V fun e w' => ∃ v', e = .returned v' ∧ w'.ownsRow V.heap.size 43 20 v' l.length (rowI l) ∧ Below V.heap.size V w') := clone20_any a c l V (ha.later X0.out.2.2.2.1) hn
  have C17 : Aside (∀ W g q, AtI W g l → Calls Try.prog 17 #[.agg (holdA f (.slice g l.length q))] W fun e w' => e = .returned (.bool (rightH f l)) ∧ Below W.heap.size W w') := fun W g q h => right17_any f g q l W h hf hv hn
  have C27 : Aside (∀ W, Calls Try.prog 27 #[.agg (itA x)] W fun e w' => e = .returned (.bool (mayI x)) ∧ Below W.heap.size W w') := fun W => may27_any x W hx.2.2.2
  have C28 : Aside (∀ W g q, AtI W g l → Calls Try.prog 28 #[.slice g l.length q] W fun e w' => ∃ b, e = .returned (.map (some b)) ∧ MapH w' b (wtN l l.length) (wtK l l.length) ∧ Below W.heap.size W w' ∧ W.heap.size ≤ b) := fun W g q h => waiting_any g q l W h hf hn
  have C15 : Aside (∀ W, Calls Try.prog 15 #[.agg (vecA f), .agg (itA x)] W fun e w' => e = .returned (.bool (readyI f x)) ∧ Below W.heap.size W w') := fun W => ready15_any f x W hv hx.2.2.2
  have IK : Aside (InK x.frm x.seq) := ⟨hx.1, hx.2.1, hx.2.2.1⟩
  have QB : Aside (∀ E : Nat, putE f l x = E → E ≠ 0 → ∀ W g q, PS w W f g l.length q x l → PutP w (putF f l x) (putL f l x) (putO f l x) (putE f l x) (.returned (.tuple #[.agg (holdA f (.slice g l.length q)), .slice none 0 0, .int .i64 (E : Int)])) (W.setCells (w.heap.size + 2) 0 (holdA f (.slice g l.length q)).toList)) := fun E hE h0 W g q h => put_bad h rfl hE h0
  have hE : putE f l x = 7 := by unfold putE; rw [if_pos ⟨h1, h2⟩, if_neg (fun h => by rw [h3, h4] at h; simp at h), if_pos ⟨h5, h6⟩]
  rw [h1] at C17
  rw [h2] at C27
  have C29 : Aside (∀ W, Calls Try.prog 29 #[.agg (vecA f), .agg (itA x)] W fun e w' => e = .returned (.bool (oldI f x)) ∧ Below W.heap.size W w') := fun W => old_any f x W (hv _ (may_seq h2).2) (may_seq h2).2
  rw [h4] at C29
  rw [h6] at C15
  generalize PutP w (putF f l x) (putL f l x) (putO f l x) (putE f l x) = Q at QB ⊢
  obtain ⟨n, en⟩ : ∃ n, n = l.length := ⟨_, rfl⟩
  have HL : Aside (l.length = n) := en.symm
  rw [← en] at C26 C17 C28 X0 QB hV ⊢
  have QE : Aside (∀ W g q, PS w W f g n q x l → Q (.returned (.tuple #[.agg (holdA f (.slice g n q)), .slice none 0 0, .int .i64 ((7 : Nat) : Int)])) (W.setCells (w.heap.size + 2) 0 (holdA f (.slice g n q)).toList)) := QB.out 7 hE (by decide)
  have e64 : ((n : Int) == 64) = true := by rw [en, h5]; rfl
  have KS : Aside (wtK l n x.frm x.seq = none) := by rw [en]; exact h3
  clear en hE QB h3 ha hf hx hv
  have C0 : Aside ((((w.alloc (.cells (holdA f (.slice a n c)) 36)).alloc (.cells (itA x) 43)).alloc (.cells #[.int .u16 0, .int .u16 0, .int .u16 0, .int .u16 0, .int .u16 0, .int .u16 0, .int .u16 0, .int .u16 0, .int .u16 0, .int .u16 0, .int .u16 0, .int .u16 0, .int .u16 0, .int .u16 0, .int .u16 0, .int .u16 0, .slice none 0 0] 36)).cell? ⟨w.heap.size, 16, none⟩ = some (.slice a n c)) := by rw [← hV]; exact X0.out.1.wait
  go_enter Try.func11, Try.ntmps11
  go_wp2_with (first
    | (go_at_call 26; (with_reducible refine C26.out.mono ?_); rintro e w1 ⟨v', rfl, hown, hb1⟩; obtain ⟨g, q, rfl⟩ := own_slice hown; rw [X0.out.2.2.2.2] at hown; have H1 : Aside (H17 w1 w.heap.size 36 f (.slice a n c)) := X0.out.1.later hb1; have SS : Aside (PS w (w1.setCell ⟨w.heap.size, 16, none⟩ (.slice g n q)) f g n q x l) := PS.put H1.out (X0.out.2.1.later hb1) (X0.out.2.2.1.later hb1) hown (step_below X0.out.2.2.2.1 hb1); clear hown hb1; have c1 := H1.out.wait; have z1 := H1.out.frozen 16; have c16 := SS.out.hH.wait; have d0 := SS.out.hX.frm; have d1 := SS.out.hX.seq)
    | (go_at_call 17; (with_reducible refine (C17.out _ g q (SS.out.at_ HL.out)).mono ?_); rintro e w17 ⟨rfl, hb⟩; replace SS : Aside (PS w w17 f g n q x l) := SS.out.later hb; clear c16 d0 d1; clear hb; have c16 := SS.out.hH.wait; have d0 := SS.out.hX.frm; have d1 := SS.out.hX.seq)
    | (go_at_call 27; (with_reducible refine (C27.out _).mono ?_); rintro e w27 ⟨rfl, hb⟩; replace SS : Aside (PS w w27 f g n q x l) := SS.out.later hb; clear c16 d0 d1; clear hb; have c16 := SS.out.hH.wait; have d0 := SS.out.hX.frm; have d1 := SS.out.hX.seq)
    | (go_at_call 28; (with_reducible refine (C28.out _ g q (SS.out.at_ HL.out)).mono ?_); rintro e w28 ⟨bm, rfl, hM, hb, hbm⟩; have MM : Aside (MapH w28 bm (wtN l n) (wtK l n) ∧ w.heap.size + 3 ≤ bm ∧ ∀ j, (Value.slice g n q).ownBlock = some j → j < bm) := ⟨hM, by have := SS.out.hR.lt; omega, fun j hj => by have := (own_lt SS.out.own j hj).2; omega⟩; replace SS : Aside (PS w w28 f g n q x l) := SS.out.later hb; clear c16 d0 d1; clear hb hM hbm; have c16 := SS.out.hH.wait; have d0 := SS.out.hX.frm; have d1 := SS.out.hX.seq; have lk := MM.out.1.look IK.out; rw [KS.out] at lk)
    | (with_reducible refine wpList_build2 rfl 70 _ _ rfl _ _ (keyV x.frm x.seq) (build70 x.frm x.seq _) rfl rfl ?_)
    | (go_at_call 29; (with_reducible refine (C29.out _).mono ?_); rintro e w29 ⟨rfl, hb⟩; replace SS : Aside (PS w w29 f g n q x l) := SS.out.later hb; replace MM : Aside (MapH w29 bm (wtN l n) (wtK l n) ∧ w.heap.size + 3 ≤ bm ∧ ∀ j, (Value.slice g n q).ownBlock = some j → j < bm) := ⟨MM.out.1.kept (hb.block _ MM.out.1.lt), MM.out.2⟩; clear c16 d0 d1; clear hb; have c16 := SS.out.hH.wait; have d0 := SS.out.hX.frm; have d1 := SS.out.hX.seq)
    | (go_at_call 15; (with_reducible refine (C15.out _).mono ?_); rintro e w15 ⟨rfl, hb⟩; replace SS : Aside (PS w w15 f g n q x l) := SS.out.later hb; replace MM : Aside (MapH w15 bm (wtN l n) (wtK l n) ∧ w.heap.size + 3 ≤ bm ∧ ∀ j, (Value.slice g n q).ownBlock = some j → j < bm) := ⟨MM.out.1.kept (hb.block _ MM.out.1.lt), MM.out.2⟩; clear c16 d0 d1; clear hb; have c16 := SS.out.hH.wait; have d0 := SS.out.hX.frm; have d1 := SS.out.hX.seq)
    | ((with_reducible refine wpList_cell34 C0.out rfl _ rfl rfl ?_); rw [← hV]; clear hV C0)
    | (with_reducible refine wpList_hold36 SS.out.hH rfl _ rfl rfl ?_)
    | (with_reducible refine wpList_it43 SS.out.hX rfl _ rfl rfl ?_)
    | (with_reducible refine wpList_told SS.out.hH rfl _ rfl rfl ?_)
    | (with_reducible refine wpList_hold_store SS.out.hR rfl _ _ rfl rfl rfl ?_)
    | ((with_reducible refine wpList_loadg 43 20 _ rfl (Try.isAgg43 _) (Try.sizeOf43 _) _ _ rfl (load_it SS.out.hX) ?_ ?_); (focus (go_simp; done)))
    | ((with_reducible refine wpList_loadg 24 16 _ rfl (Try.isAgg24 _) (Try.sizeOf24 _) _ _ rfl (load_told SS.out.hH) ?_ ?_); (focus (go_simp; done))))
  exact bodyPost_ret (results_cell3 rfl rfl (Try.isAgg36 _) (Try.sizeOf36 _) (load_hold (SS.out.hR.whole (g := f) (s' := .slice g n q)))) rfl (QE.out _ g q SS.out)

end Hd
end Go.Proofs.Ytbacnjkookakcaa
