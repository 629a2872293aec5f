/- Paths of views: what Path gives. -/
import Derived.Test.YtnheikkpnffinaaDoorPrB
import Derived.Test.YtnheikkpnffinaaDoorRlI
set_option linter.unusedVariables false
namespace Go.Proofs.YtnheikkpnffinaaDoor
open Go.RowKit
namespace Rl
open Cn

/-- The views behind one, and those from one on. -/
def pathC (v : Int) (s : Nat) : List (Bool × Nat) → List (Int × Nat)
  | [] => []
  | c :: l => if appE v s c.1 c.2 = 0 then (v + 1, chS s c.1 c.2) :: pathC (v + 1) (chS s c.1 c.2) l else []
def pathR (v : Int) (s : Nat) (l : List (Bool × Nat)) : List (Int × Nat) := if rightB v s = true then (v, s) :: pathC v s l else []
theorem pathC_stop {v : Int} {s : Nat} {l : List (Bool × Nat)} {k : Nat} {c : Bool × Nat} (h : l[k]? = some c) (he : ¬ appE v s c.1 c.2 = 0) : pathC v s (l.drop k) = [] := by
  have hk := (List.getElem?_eq_some_iff.1 h).1
  rw [List.drop_eq_getElem_cons hk, (List.getElem?_eq_some_iff.1 h).2]
  unfold pathC; rw [if_neg he]
theorem pathC_go {v : Int} {s : Nat} {l : List (Bool × Nat)} {k : Nat} {c : Bool × Nat} (h : l[k]? = some c) (he : appE v s c.1 c.2 = 0) : pathC v s (l.drop k) = (v + 1, chS s c.1 c.2) :: pathC (v + 1) (chS s c.1 c.2) (l.drop (k + 1)) := by
  have hk := (List.getElem?_eq_some_iff.1 h).1
  rw [List.drop_eq_getElem_cons hk, (List.getElem?_eq_some_iff.1 h).2]
  rw [pathC, if_pos he]
theorem own_two {B : Nat} (w : World) (x y : Value) (t : TypeId) (h : B ≤ w.heap.size) : (w.alloc (.cells #[x, y] t)).ownsRow B t 2 (.slice (some ⟨w.heap.size, 0, none⟩) 1 1) 1 [x, y] :=
  ⟨rfl, .inr ⟨w.heap.size, 1, #[x, y], rfl, h, heap_alloc_new w _, Nat.le_refl _, by unfold maxLen; omega, rfl, rfl⟩⟩
theorem own_put2 {w : World} {B n b : Nat} {t : TypeId} {v : Value} {xs : List Value} (h : w.ownsRow B t 2 v n xs) (hb : b < B) (x y : Value) : ((w.setCell ⟨b, 0, none⟩ x).setCell ⟨b, 1, none⟩ y).ownsRow B t 2 v n xs :=
  ownsRow_setCell_below (ownsRow_setCell_below h (a := ⟨b, 0, none⟩) hb x) (a := ⟨b, 1, none⟩) hb y
theorem P2.grown {w w' : World} {b : Nat} {t : TypeId} {x y : Value} {row : Option Nat} (h : P2 w b t x y) (hg : w.grownBy w' row) (hne : row ≠ some b) : P2 w' b t x y := (hg.block b h.lt (by first | exact hne | exact fun e => hne e.symm)).trans h

set_option maxHeartbeats 8000000 in
set_option maxRecDepth 100000 in
/-- What Path gives. -/
theorem path_any (v : Int) (s : Nat) (a : Option Addr) (c : Nat) (l : List (Bool × Nat)) (w : World) (hs : s < 65536) (h : At2 w a (l.map chP)) (h8 : ∀ x ∈ l, x.2 < 256) (hn : l.length ≤ 100) :
    Calls Tryd.prog 18 #[rollV v s, .slice a l.length c] w (Made w ((pathR v s l).map roP)) := by
  obtain ⟨i0, hi, hz0, hz1, hz2⟩ := info_parts info29
  have I : Aside (Tryd.prog.info? 29 = some i0 ∧ i0.zero = some (.agg #[.int .i64 0, .int .u16 0]) ∧ i0.size = 2 ∧ i0.bytes = 16) := ⟨hi, hz0, hz1, hz2⟩
  clear hi hz0 hz1 hz2
  have HA : Aside (At2 w a (l.map chP) ∧ ∀ x ∈ l, x.2 < 256) := ⟨h, h8⟩
  have CR : Aside (∀ W, Calls Tryd.prog 12 #[.agg #[.int .i64 v, .int .u16 (s : Int)]] W fun e w' => e = .returned (.bool (rightB v s)) ∧ Below W.heap.size W w') := fun W => right_any v s W
  have CA : Aside (∀ (v : Int) (s : Nat) (a : Bool) (i : Nat) (W : World), s < 65536 → i < 256 → Calls Tryd.prog 10 #[.agg #[.int .i64 v, .int .u16 (s : Int)], .agg #[.bool a, .int .u8 (i : Int)]] W fun e w' => e = .returned (.tuple #[.agg #[.int .i64 (appV v s a i), .int .u16 (appS v s a i : Nat)], .int .i64 (appE v s a i : Nat)]) ∧ Below W.heap.size W w') := fun v s a i W hs h8 => apply_any v s a i W hs
  obtain ⟨n, hn'⟩ : ∃ n : Nat, n = l.length := ⟨_, rfl⟩
  rw [← hn'] at hn ⊢
  have HN : Aside (n = l.length) := hn'
  clear hn' h h8
  have RT : Aside (∀ v1 m B w', w'.ownsRow B 29 2 v1 m (c2 ((pathR v s l).map roP)) → Below w.heap.size w w' → Made w ((pathR v s l).map roP) (.returned v1) w') := fun v1 m B w' h1 h2 => made_of h1 h2
  have RN : Aside (rightB v s = false → ∀ w', Below w.heap.size w w' → Made w ((pathR v s l).map roP) (.returned (.slice none 0 0)) w') := fun hr w' hb => by
    have e : pathR v s l = [] := by unfold pathR; rw [hr]; rfl
    rw [e]
    exact ⟨none, 0, rfl, .inl rfl, hb, Nat.le_refl _⟩
  have RY : Aside (rightB v s = true → pathR v s l = [(v, s)] ++ pathC v s (l.drop 0)) := fun hr => by unfold pathR; rw [if_pos hr]; rfl
  generalize pathR v s l = pl at RT RN RY ⊢
  generalize Made w (pl.map roP) = Q at RT RN ⊢
  obtain ⟨V, hV⟩ : ∃ V, V = w.alloc (.cells #[.int .i64 v, .int .u16 (s : Int)] 29) := ⟨_, rfl⟩
  have X : Aside (P2 V w.heap.size 29 (.int .i64 v) (.int .u16 (s : Int)) ∧ Below w.heap.size w V ∧ w.heap.size < V.heap.size) := by
    rw [hV]
    exact ⟨P2.new w _ _ _, below_one w _, by simp⟩
  have HS : Aside (s < 65536) := hs
  clear hs
  unfold rollV
  cases hr : rightB v s with
  | false =>
    have R1 := RN.out hr
    rw [hr] at CR
    clear RT RN RY hr HS
    go_enter Tryd.func18, Tryd.ntmps18
    go_wp2_with fail
    rw [← hV]
    clear hV
    obtain ⟨c0, c1⟩ := X.out.1.cells
    go_wp2_with (go_at_call 12; refine (CR.out _).mono ?_; rintro e w1 ⟨rfl, hb1⟩; have R2 : Aside (Q (.returned (.slice none 0 0)) w1) := R1 _ (below_step X.out.2.1 hb1); clear hb1 R1 c0 c1)
    exact R2.out
  | true =>
    have PY : Aside _ := RY.out hr
    rw [hr] at CR
    clear RN RY hr
    go_enter Tryd.func18, Tryd.ntmps18
    go_wp2_with fail
    rw [← hV]
    clear hV
    obtain ⟨c0, c1⟩ := X.out.1.cells
    go_wp2_with (go_at_call 12; refine (CR.out _).mono ?_; rintro e w1 ⟨rfl, hb1⟩; have Y : Aside (P2 (w1.alloc (.cells #[.int .i64 v, .int .u16 (s : Int)] 29)) w.heap.size 29 (.int .i64 v) (.int .u16 (s : Int)) ∧ Below w.heap.size w (w1.alloc (.cells #[.int .i64 v, .int .u16 (s : Int)] 29)) ∧ (w1.alloc (.cells #[.int .i64 v, .int .u16 (s : Int)] 29)).ownsRow (w.heap.size + 1) 29 2 (.slice (some ⟨w1.heap.size, 0, none⟩) 1 1) 1 (c2 ([(v, s)].map roP))) := ⟨(X.out.1.later hb1).alloc _, (below_step X.out.2.1 hb1).alloc (below_step X.out.2.1 hb1).size _, own_two w1 (.int .i64 v) (.int .u16 (s : Int)) 29 (Nat.le_trans X.out.2.2 hb1.size)⟩; have D := X.out.1.later hb1; clear hb1 c0 c1; obtain ⟨c0, c1⟩ := D.cells; clear D)
    go_loopw [5, 7, 8, 9, 17] (fun p _ _ _ i wr => ∃ k v1 s1 g q acc, k ≤ n ∧ i = .int .i64 (k : Nat) ∧ p = .slice g (k + 1) q ∧ Aside (wr.ownsRow (w.heap.size + 1) 29 2 (.slice g (k + 1) q) (k + 1) (c2 (acc.map roP)) ∧ P2 wr w.heap.size 29 (.int .i64 v1) (.int .u16 ((s1 : Nat) : Int)) ∧ Below w.heap.size w wr ∧ s1 < 65536 ∧ pl = acc ++ pathC v1 s1 (l.drop k))) (fun _ _ _ _ i _ => n - (intOf i).toNat)
    case atStart => exact ⟨0, v, s, _, _, [(v, s)], Nat.zero_le _, rfl, rfl, Y.out.2.2, Y.out.1, Y.out.2.1, HS.out, PY.out⟩
    case round =>
      obtain ⟨k, v1, s1, g, q, acc, hk, rfl, rfl, HC⟩ := hrel
      by_cases hlt : k < n
      · have t1 : (k : Int) < (n : Int) := by omega
        have t2 : (0 : Int) ≤ (k : Int) := by omega
        obtain ⟨bb, hbb⟩ : ∃ bb, l[k]? = some bb := ⟨_, List.getElem?_eq_getElem (HN.out ▸ hlt)⟩
        obtain ⟨ca, ci⟩ := bb
        have H8 : Aside (ci < 256) := HA.out.2 _ (List.mem_of_getElem? hbb)
        obtain ⟨gb, of, rfl, o0, o1⟩ := (HA.out.1.later HC.out.2.2.1).cell (k := k) (x := .bool ca) (y := .int .u8 (ci : Int)) (by rw [List.getElem?_map, hbb]; rfl)
        have ol := World.block_lt_of_cell? _ _ o0
        dsimp only at ol
        have hwz : w.heap.size < wr.heap.size := HC.out.2.1.lt
        have CB : Aside (∀ W, _) := fun W => CA.out v1 s1 ca ci W HC.out.2.2.2.1 H8.out
        have n0 := (HC.out.2.1.alloc (.cells #[.bool ca, .int .u8 (ci : Int)] 33)).cells.1
        have n1 := (HC.out.2.1.alloc (.cells #[.bool ca, .int .u8 (ci : Int)] 33)).cells.2
        by_cases he : appE v1 s1 ca ci = 0
        · have E1 : appV v1 s1 ca ci = v1 + 1 := by unfold appV; rw [if_pos he]
          have E2 : appS v1 s1 ca ci = chS s1 ca ci := by unfold appS; rw [if_pos he]
          have PG : Aside (pl = (acc ++ [(v1 + 1, chS s1 ca ci)]) ++ pathC (v1 + 1) (chS s1 ca ci) (l.drop (k + 1)) ∧ chS s1 ca ci < 65536) := ⟨by rw [HC.out.2.2.2.2, pathC_go hbb he, List.append_assoc]; rfl, chS_small _ _ HC.out.2.2.2.1⟩
          have ST : Aside (∀ v2 s2, c2 (acc.map roP) ++ [.int .i64 v2, .int .u16 ((s2 : Nat) : Int)] = c2 ((acc ++ [(v2, s2)]).map roP)) := fun v2 s2 => by rw [List.map_append, c2_append]; rfl
          rw [E1, E2, he] at CB
          clear E1 E2 he hbb
          generalize v1 + 1 = v2 at CB PG
          generalize chS s1 ca ci = s2 at CB PG
          go_wp2_with (first
            | (go_at_call 10; refine (CB.out _).mono ?_; rintro e w2 ⟨rfl, hb1⟩; clear n0 n1 o0 o1; have Z : Aside (P2 (w2.alloc (.cells #[.int .i64 v2, .int .u16 (s2 : Int)] 29)) w2.heap.size 29 (.int .i64 v2) (.int .u16 (s2 : Int)) ∧ P2 w2 w.heap.size 29 _ _ ∧ Below w.heap.size w w2 ∧ Below wr.heap.size wr w2) := ⟨P2.new _ _ _ _, (HC.out.2.1.alloc _).later hb1, below_step (HC.out.2.2.1.alloc HC.out.2.2.1.size _) hb1, below_step (below_one wr _) hb1⟩; clear hb1; obtain ⟨n0, n1⟩ := Z.out.1.cells)
            | (at_builtin; refine wpList_append_own_at _ rfl _ _ 47 rfl (w.heap.size + 1) 29 i0 (.agg #[.int .i64 0, .int .u16 0]) 2 16 Tryd.underlying47 I.out.1 I.out.2.1 I.out.2.2.1 I.out.2.2.2 rfl (by decide) _ _ _ rfl (((owns_later Z.out.2.2.2 HC.out.1).alloc _).alloc _) ⟨w2.heap.size + 1, 0, none⟩ 1 1 [.int .i64 v2, .int .u16 (s2 : Int)] rfl rfl ?c1 ?c2 ?c3 ?c4 ?c5 ?_))
          case c1 => have := cell_two (w2.alloc (.cells #[.int .i64 v2, .int .u16 (s2 : Int)] 29)) (.int .i64 v2) (.int .u16 (s2 : Int)) 29; rw [World.size_alloc] at this; exact this
          case c2 => intro u hu; simp at hu; rcases hu with rfl | rfl <;> rfl
          case c3 => unfold maxLen; omega
          case c4 => omega
          case c5 => have := HC.out.2.1.lt; have := Z.out.2.2.2.size; simp; omega
          intro v' wn hown hgrow _ _
          rw [ST.out] at hown
          obtain ⟨g2, q2, rfl, -, -⟩ := own_at2 hown
          have NX : Aside (wn.ownsRow (w.heap.size + 1) 29 2 (.slice g2 (k + 1 + 1) q2) (k + 1 + 1) (c2 ((acc ++ [(v2, s2)]).map roP)) ∧ P2 wn w2.heap.size 29 (.int .i64 v2) (.int .u16 (s2 : Int)) ∧ P2 wn w.heap.size 29 (.int .i64 v1) (.int .u16 (s1 : Int)) ∧ Below w.heap.size w wn) := by
            have bl : Below w.heap.size w ((w2.alloc (.cells #[.int .i64 v2, .int .u16 (s2 : Int)] 29)).alloc (.cells #[.int .i64 v2, .int .u16 (s2 : Int)] 29)) := (Z.out.2.2.1.alloc Z.out.2.2.1.size _).alloc (by have := Z.out.2.2.1.size; simp; omega) _
            have lt1 : ∀ j, (Value.slice g (k + 1) q).ownBlock = some j → w.heap.size + 1 ≤ j ∧ j < wr.heap.size := fun j hj => HC.out.1.lt j hj
            have zs := Z.out.2.2.2.size
            refine ⟨hown, ?_, ?_, bl.grown hgrow (by have := Z.out.2.2.1.size; simp; omega) (fun j hj => by have := (lt1 j hj).1; omega)⟩
            · exact (Z.out.1.alloc _).grown hgrow (fun e => by have := (lt1 _ e).2; omega)
            · exact ((Z.out.2.1.alloc _).alloc _).grown hgrow (fun e => by have := (lt1 _ e).1; omega)
          clear hown hgrow n0 n1
          obtain ⟨n0, n1⟩ := NX.out.2.1.cells
          obtain ⟨d0, d1⟩ := NX.out.2.2.1.cells
          have z0 := NX.out.2.2.1.frozen 0
          have z1 := NX.out.2.2.1.frozen 1
          go_wp2
          go_roundw
          case rel => exact ⟨k + 1, v2, s2, g2, q2, acc ++ [(v2, s2)], by omega, by go_num, rfl, own_put2 NX.out.1 (by omega) _ _, NX.out.2.2.1.put _ _, below_put NX.out.2.2.2 (Nat.le_refl _) _ _, PG.out.2, PG.out.1⟩
          case measure => simp [intOf]; omega
        · have hne : (((appE v1 s1 ca ci : Nat) : Int) != 0) = true := by rw [bne_iff_ne]; omega
          have R1 : Aside (∀ w', Below wr.heap.size wr w' → Q (.returned (.slice g (k + 1) q)) w') := fun w' hb => by
            have e : pl = acc := by rw [HC.out.2.2.2.2, pathC_stop hbb he, List.append_nil]
            exact RT.out _ _ _ w' (by rw [e]; exact owns_later hb HC.out.1) (below_step HC.out.2.2.1 hb)
          clear he hbb RT
          generalize appV v1 s1 ca ci = v2 at CB
          generalize appS v1 s1 ca ci = s2 at CB
          generalize appE v1 s1 ca ci = e2 at CB hne
          go_wp2_with (go_at_call 10; refine (CB.out _).mono ?_; rintro e w2 ⟨rfl, hb1⟩; clear n0 n1 o0 o1; have R2 : Aside (Q (.returned (.slice g (k + 1) q)) (w2.alloc (.cells #[.int .i64 v2, .int .u16 (s2 : Int)] 29))) := R1.out _ ((below_step (below_one wr _) hb1).alloc (below_step (below_one wr _) hb1).size _); clear hb1)
          exact R2.out
      · obtain rfl : k = n := by omega
        have R1 : Aside (Q (.returned (.slice g (k + 1) q)) wr) := by
          have e : pl = acc := by
            have := HC.out.2.2.2.2
            rw [List.drop_of_length_le (Nat.le_of_eq HN.out.symm)] at this
            rw [this]; exact List.append_nil _
          exact RT.out _ _ _ wr (by rw [e]; exact HC.out.1) HC.out.2.2.1
        clear RT
        go_wp2
        exact R1.out
end Rl
end Go.Proofs.YtnheikkpnffinaaDoor
