/- Paths of views: what the document's Path gives: the same. -/
import Derived.Test.YtnheikkpnffinaaDoorPrC
import Derived.Deep.RegionHeld3
import Derived.OneCell
set_option linter.unusedVariables false
namespace Go.Proofs.YtnheikkpnffinaaDoor
open Go.RowKit
namespace Rl
open Cn

set_option maxHeartbeats 8000000 in
set_option maxRecDepth 100000 in
/-- What the document's Path gives. -/
theorem rpath_any (v : Int) (s : Nat) (a : Option Addr) (c : Nat) (l : List (Bool × Nat)) (w : World) (hs : s < 65536) (h : At2 w a (l.map chP)) (h8 : ∀ x ∈ l, x.2 < 256) (hn : l.length ≤ 100) :
    Calls Tryd.prog 20 #[rollV v s, .slice a l.length c] w (Made w ((pathR v s l).map roP)) := by
  obtain ⟨i0, hi, hz0, hz1, hz2⟩ := info_parts info25
  have I : Aside (Tryd.prog.info? 25 = some i0 ∧ i0.zero = some (.agg #[.int .i64 0, .int .u16 0]) ∧ i0.size = 2 ∧ i0.bytes = 16) := ⟨hi, hz0, hz1, hz2⟩
  clear hi hz0 hz1 hz2
  have HA : Aside (At2 w a (l.map chP) ∧ ∀ x ∈ l, x.2 < 256) := ⟨h, h8⟩
  have CR : Aside (∀ W, Calls Tryd.prog 13 #[.agg #[.int .i64 v, .int .u16 (s : Int)]] W fun e w' => e = .returned (.bool (rightB v s)) ∧ Below W.heap.size W w') := fun W => rright_any v s W
  have CA : Aside (∀ (v : Int) (s : Nat) (a : Bool) (i : Nat) (W : World), s < 65536 → i < 256 → Calls Tryd.prog 11 #[.agg #[.int .i64 v, .int .u16 (s : Int)], .agg #[.bool a, .int .u8 (i : Int)]] W fun e w' => e = .returned (.tuple #[.agg #[.int .i64 (appV v s a i), .int .u16 (appS v s a i : Nat)], .int .i64 (appE v s a i : Nat)]) ∧ Below W.heap.size W w') := fun v s a i W hs h8 => rapply_any v s a i W hs h8
  obtain ⟨n, hn'⟩ : ∃ n : Nat, n = l.length := ⟨_, rfl⟩
  rw [← hn'] at hn ⊢
  have HN : Aside (n = l.length) := hn'
  clear hn' h h8
  have RT : Aside (∀ v1 m B w', w'.ownsRow B 25 2 v1 m (c2 ((pathR v s l).map roP)) → Below w.heap.size w w' → Made w ((pathR v s l).map roP) (.returned v1) w') := fun v1 m B w' h1 h2 => made_of h1 h2
  have RN : Aside (rightB v s = false → ∀ w', Below w.heap.size w w' → Made w ((pathR v s l).map roP) (.returned (.slice none 0 0)) w') := fun hr w' hb => by
    have e : pathR v s l = [] := by unfold pathR; rw [hr]; rfl
    rw [e]
    exact ⟨none, 0, rfl, .inl rfl, hb, Nat.le_refl _⟩
  have RY : Aside (rightB v s = true → pathR v s l = [(v, s)] ++ pathC v s (l.drop 0)) := fun hr => by unfold pathR; rw [if_pos hr]; rfl
  generalize pathR v s l = pl at RT RN RY ⊢
  generalize Made w (pl.map roP) = Q at RT RN ⊢
  obtain ⟨V, hV⟩ : ∃ V, V = w.alloc (.cells #[.int .i64 v, .int .u16 (s : Int)] 25) := ⟨_, rfl⟩
  have X : Aside (P2 V w.heap.size 25 (.int .i64 v) (.int .u16 (s : Int)) ∧ Below w.heap.size w V ∧ w.heap.size < V.heap.size) := by
    rw [hV]
    exact ⟨P2.new w _ _ _, below_one w _, by simp⟩
  have HS : Aside (s < 65536) := hs
  clear hs
  unfold rollV
  cases hr : rightB v s with
  | false =>
    have R1 := RN.out hr
    rw [hr] at CR
    clear RT RN RY hr HS
    go_enter Tryd.func20, Tryd.ntmps20
    go_wp2_with fail
    rw [← hV]
    clear hV
    obtain ⟨c0, c1⟩ := X.out.1.cells
    go_wp2_with (go_at_call 13; refine (CR.out _).mono ?_; rintro e w1 ⟨rfl, hb1⟩; have R2 : Aside (Q (.returned (.slice none 0 0)) w1) := R1 _ (below_step X.out.2.1 hb1); clear hb1 R1 c0 c1)
    exact R2.out
  | true =>
    have PY : Aside _ := RY.out hr
    rw [hr] at CR
    clear RN RY hr
    go_enter Tryd.func20, Tryd.ntmps20
    go_wp2_with fail
    rw [← hV]
    clear hV
    obtain ⟨c0, c1⟩ := X.out.1.cells
    go_wp2_with (first
      | (go_at_call 13; refine (CR.out _).mono ?_; rintro e w1 ⟨rfl, hb1⟩; have Y : Aside (P2 w1 w.heap.size 25 (.int .i64 v) (.int .u16 (s : Int)) ∧ Below w.heap.size w w1 ∧ w.heap.size < w1.heap.size) := ⟨X.out.1.later hb1, below_step X.out.2.1 hb1, Nat.lt_of_lt_of_le X.out.2.2 hb1.size⟩; clear hb1 c0 c1; obtain ⟨c0, c1⟩ := Y.out.1.cells)
      | (at_builtin; refine wpList_append_own_at _ rfl _ _ 51 rfl (w.heap.size + 1) 25 i0 (.agg #[.int .i64 0, .int .u16 0]) 2 16 Tryd.underlying51 I.out.1 I.out.2.1 I.out.2.2.1 I.out.2.2.2 rfl (by decide) _ _ _ rfl (World.ownsRow_nil _ _ _ _) ⟨w1.heap.size, 0, none⟩ 1 1 [.int .i64 v, .int .u16 (s : Int)] rfl rfl ?c1 ?c2 ?c3 ?c4 ?c5 ?_))
    case c1 => exact cell_two w1 (.int .i64 v) (.int .u16 (s : Int)) 25
    case c2 => intro u hu; simp at hu; rcases hu with rfl | rfl <;> rfl
    case c3 => unfold maxLen; omega
    case c4 => omega
    case c5 => have := Y.out.2.2; simp; omega
    intro v0 w0 hown hgrow _ _
    obtain ⟨g0, q0, rfl, -, -⟩ := own_at2 (l := [roP (v, s)]) hown
    have NX : Aside (w0.ownsRow (w.heap.size + 1) 25 2 (.slice g0 1 q0) 1 (c2 ([(v, s)].map roP)) ∧ P2 w0 w.heap.size 25 (.int .i64 v) (.int .u16 (s : Int)) ∧ Below w.heap.size w w0) :=
      ⟨hown, (Y.out.1.alloc _).grown hgrow (fun e => by cases e), (Y.out.2.1.alloc Y.out.2.1.size _).grown hgrow (by have := Y.out.2.2; simp; omega) (fun j hj => by cases hj)⟩
    clear hown hgrow c0 c1
    go_wp2_with fail
    go_loopw [5, 6, 7, 8] (fun p i _ _ wr => ∃ k v1 s1 g q acc, k ≤ n ∧ i = .int .i64 (k : Nat) ∧ p = .slice g (k + 1) q ∧ Aside (wr.ownsRow (w.heap.size + 1) 25 2 (.slice g (k + 1) q) (k + 1) (c2 (acc.map roP)) ∧ P2 wr w.heap.size 25 (.int .i64 v1) (.int .u16 ((s1 : Nat) : Int)) ∧ Below w.heap.size w wr ∧ s1 < 65536 ∧ pl = acc ++ pathC v1 s1 (l.drop k))) (fun _ i _ _ _ => n - (intOf i).toNat)
    case atStart => exact ⟨0, v, s, _, _, [(v, s)], Nat.zero_le _, rfl, rfl, NX.out.1, NX.out.2.1, NX.out.2.2, HS.out, PY.out⟩
    case round =>
      obtain ⟨k, v1, s1, g, q, acc, hk, rfl, rfl, HC⟩ := hrel
      by_cases hlt : k < n
      · have t1 : (k : Int) < (n : Int) := by omega
        have t2 : (0 : Int) ≤ (k : Int) := by omega
        obtain ⟨bb, hbb⟩ : ∃ bb, l[k]? = some bb := ⟨_, List.getElem?_eq_getElem (HN.out ▸ hlt)⟩
        obtain ⟨ca, ci⟩ := bb
        have H8 : Aside (ci < 256) := HA.out.2 _ (List.mem_of_getElem? hbb)
        obtain ⟨gb, of, rfl, o0, o1⟩ := (HA.out.1.later HC.out.2.2.1).cell (k := k) (x := .bool ca) (y := .int .u8 (ci : Int)) (by rw [List.getElem?_map, hbb]; rfl)
        have ol := World.block_lt_of_cell? _ _ o0
        dsimp only at ol
        have hwz : w.heap.size < wr.heap.size := HC.out.2.1.lt
        have CB : Aside (∀ W, _) := fun W => CA.out v1 s1 ca ci W HC.out.2.2.2.1 H8.out
        obtain ⟨n0, n1⟩ := HC.out.2.1.cells
        by_cases he : appE v1 s1 ca ci = 0
        · have E1 : appV v1 s1 ca ci = v1 + 1 := by unfold appV; rw [if_pos he]
          have E2 : appS v1 s1 ca ci = chS s1 ca ci := by unfold appS; rw [if_pos he]
          have PG : Aside (pl = (acc ++ [(v1 + 1, chS s1 ca ci)]) ++ pathC (v1 + 1) (chS s1 ca ci) (l.drop (k + 1)) ∧ chS s1 ca ci < 65536) := ⟨by rw [HC.out.2.2.2.2, pathC_go hbb he, List.append_assoc]; rfl, chS_small _ _ HC.out.2.2.2.1⟩
          have ST : Aside (∀ v2 s2, c2 (acc.map roP) ++ [.int .i64 v2, .int .u16 ((s2 : Nat) : Int)] = c2 ((acc ++ [(v2, s2)]).map roP)) := fun v2 s2 => by rw [List.map_append, c2_append]; rfl
          rw [E1, E2, he] at CB
          clear E1 E2 he hbb
          generalize v1 + 1 = v2 at CB PG
          generalize chS s1 ca ci = s2 at CB PG
          have BD : Aside (Below wr.heap.size wr wr.drew) := (Below.refl _ wr).drew
          have BA : Aside (Below wr.heap.size wr (wr.alloc (.cells #[.int .i64 0, .int .u16 0] 25)).drew) := ((Below.refl _ wr).alloc (Nat.le_refl _) _).drew
          have OO : Aside (_ ∧ _) := ⟨o0, o1⟩
          go_wp2_with fail
          go_region_held3 (fun w' => w'.cell? ⟨w.heap.size, 0, none⟩ = some (.int .i64 v1) ∧ w'.cell? ⟨w.heap.size, 1, none⟩ = some (.int .u16 (s1 : Int)) ∧ w'.cell? ⟨gb, of + k * 2, none⟩ = some (.bool ca) ∧ w'.cell? ⟨gb, of + k * 2 + 1, none⟩ = some (.int .u8 (ci : Int)))
            (first | go_keep)
            (first
              | (go_at_call 11; (with_reducible refine (CB.out wr.drew).mono ?_); rintro e w2 ⟨rfl, hb1⟩; have Z : Aside (P2 w2 w.heap.size 25 (.int .i64 v1) (.int .u16 (s1 : Int)) ∧ Below wr.heap.size wr w2) := ⟨HC.out.2.1.later (below_step BD.out hb1), below_step BD.out hb1⟩; clear hb1 n0 n1 o0 o1; obtain ⟨n0, n1⟩ := Z.out.1.cells; have o0 := cell_later Z.out.2 OO.out.1; have o1 := cell_later Z.out.2 OO.out.2)
              | (go_at_call 11; (with_reducible refine (CB.out (wr.alloc (.cells #[.int .i64 0, .int .u16 0] 25)).drew).mono ?_); rintro e w2 ⟨rfl, hb1⟩; have Z : Aside (P2 w2 w.heap.size 25 (.int .i64 v1) (.int .u16 (s1 : Int)) ∧ Below wr.heap.size wr w2 ∧ P2 w2 wr.heap.size 25 (.int .i64 0) (.int .u16 0)) := ⟨HC.out.2.1.later (below_step BA.out hb1), below_step BA.out hb1, ((P2.new wr 25 (.int .i64 0) (.int .u16 0)).later (Below.refl _ _).drew).later hb1⟩; clear hb1 n0 n1 o0 o1; obtain ⟨n0, n1⟩ := Z.out.1.cells; have o0 := cell_later Z.out.2.1 OO.out.1; have o1 := cell_later Z.out.2.1 OO.out.2; obtain ⟨d0, d1⟩ := Z.out.2.2.cells; have z0 := Z.out.2.2.frozen 0; have z1 := Z.out.2.2.frozen 1; have y0 : w.heap.size ≠ wr.heap.size := Nat.ne_of_lt hwz; have y1 : gb ≠ wr.heap.size := Nat.ne_of_lt ol; have y2 : wr.heap.size ≠ w.heap.size := fun h => y0 h.symm; have y3 : wr.heap.size ≠ gb := fun h => y1 h.symm)
              | fail)
          · have hF : ∀ W nb, (P2 W nb 25 (.int .i64 v2) (.int .u16 (s2 : Int)) ∧ P2 W w.heap.size 25 (.int .i64 v1) (.int .u16 (s1 : Int)) ∧ Below w.heap.size w W ∧ W.ownsRow (w.heap.size + 1) 25 2 (.slice g (k + 1) q) (k + 1) (c2 (acc.map roP))) → Aside (P2 W nb 25 (.int .i64 v2) (.int .u16 (s2 : Int)) ∧ P2 W w.heap.size 25 (.int .i64 v1) (.int .u16 (s1 : Int)) ∧ Below w.heap.size w W ∧ W.ownsRow (w.heap.size + 1) 25 2 (.slice g (k + 1) q) (k + 1) (c2 (acc.map roP))) := fun _ _ h => h
            refine (?_ : ∀ W, (P2 W w2.heap.size 25 (.int .i64 v2) (.int .u16 (s2 : Int)) ∧ P2 W w.heap.size 25 (.int .i64 v1) (.int .u16 (s1 : Int)) ∧ Below w.heap.size w W ∧ W.ownsRow (w.heap.size + 1) 25 2 (.slice g (k + 1) q) (k + 1) (c2 (acc.map roP))) → Exit.then _ _ _ _ W) _ ⟨P2.new _ _ _ _, Z.out.1.alloc _, (below_step HC.out.2.2.1 Z.out.2).alloc (below_step HC.out.2.2.1 Z.out.2).size _, (owns_later Z.out.2 HC.out.1).alloc _⟩
            intro W hW
            generalize w2.heap.size = nb at hW ⊢
            have FW := hF W nb hW
            clear hW hF Z n0 n1 o0 o1 BD BA OO CB
            obtain ⟨n0, n1⟩ := FW.out.1.cells
            obtain ⟨d0, d1⟩ := FW.out.2.1.cells
            have z0 := FW.out.2.1.frozen 0
            have z1 := FW.out.2.1.frozen 1
            obtain ⟨e0, e1⟩ := (FW.out.2.1.put (.int .i64 v2) (.int .u16 (s2 : Int))).cells
            go_wp2_with (at_builtin; refine wpList_append_own_at _ rfl _ _ 51 rfl (w.heap.size + 1) 25 i0 (.agg #[.int .i64 0, .int .u16 0]) 2 16 Tryd.underlying51 I.out.1 I.out.2.1 I.out.2.2.1 I.out.2.2.2 rfl (by decide) _ _ _ rfl ((own_put2 FW.out.2.2.2 (Nat.lt_succ_self _) (.int .i64 v2) (.int .u16 (s2 : Int))).alloc _) ⟨W.heap.size, 0, none⟩ 1 1 [.int .i64 v2, .int .u16 (s2 : Int)] rfl rfl ?c1 ?c2 ?c3 ?c4 ?c5 ?_)
            case c1 => have := cell_two ((W.setCell ⟨w.heap.size, 0, none⟩ (.int .i64 v2)).setCell ⟨w.heap.size, 1, none⟩ (.int .u16 (s2 : Int))) (.int .i64 v2) (.int .u16 (s2 : Int)) 25; rw [World.size_setCell, World.size_setCell] at this; exact this
            case c2 => intro u hu; simp at hu; rcases hu with rfl | rfl <;> rfl
            case c3 => unfold maxLen; omega
            case c4 => omega
            case c5 => have := FW.out.2.1.lt; simp; omega
            intro v' wn hown hgrow _ _
            rw [ST.out] at hown
            obtain ⟨g2, q2, rfl, -, -⟩ := own_at2 hown
            have NX : Aside (wn.ownsRow (w.heap.size + 1) 25 2 (.slice g2 (k + 1 + 1) q2) (k + 1 + 1) (c2 ((acc ++ [(v2, s2)]).map roP)) ∧ P2 wn w.heap.size 25 (.int .i64 v2) (.int .u16 (s2 : Int)) ∧ Below w.heap.size w wn) := by
              have b1 : Below w.heap.size w ((W.setCell ⟨w.heap.size, 0, none⟩ (.int .i64 v2)).setCell ⟨w.heap.size, 1, none⟩ (.int .u16 (s2 : Int))) := below_put FW.out.2.2.1 (Nat.le_refl _) _ _
              have lt1 : ∀ j, (Value.slice g (k + 1) q).ownBlock = some j → w.heap.size + 1 ≤ j := fun j hj => (FW.out.2.2.2.lt j hj).1
              refine ⟨hown, ?_, (b1.alloc b1.size _).grown hgrow (by have := b1.size; simp at this ⊢; omega) (fun j hj => by have := lt1 j hj; omega)⟩
              exact ((FW.out.2.1.put _ _).alloc _).grown hgrow (fun e => by have := lt1 _ e; omega)
            clear hown hgrow n0 n1 d0 d1 z0 z1 e0 e1
            go_wp2
            go_roundw
            case rel => exact ⟨k + 1, v2, s2, g2, q2, acc ++ [(v2, s2)], by omega, by go_num, rfl, NX.out.1, NX.out.2.1, NX.out.2.2, PG.out.2, PG.out.1⟩
            case measure => simp [intOf]; omega
          · have hF : ∀ W nb, (P2 W nb 25 (.int .i64 v2) (.int .u16 (s2 : Int)) ∧ P2 W w.heap.size 25 (.int .i64 v1) (.int .u16 (s1 : Int)) ∧ Below w.heap.size w W ∧ W.ownsRow (w.heap.size + 1) 25 2 (.slice g (k + 1) q) (k + 1) (c2 (acc.map roP))) → Aside (P2 W nb 25 (.int .i64 v2) (.int .u16 (s2 : Int)) ∧ P2 W w.heap.size 25 (.int .i64 v1) (.int .u16 (s1 : Int)) ∧ Below w.heap.size w W ∧ W.ownsRow (w.heap.size + 1) 25 2 (.slice g (k + 1) q) (k + 1) (c2 (acc.map roP))) := fun _ _ h => h
            refine (?_ : ∀ W, (P2 W wr.heap.size 25 (.int .i64 v2) (.int .u16 (s2 : Int)) ∧ P2 W w.heap.size 25 (.int .i64 v1) (.int .u16 (s1 : Int)) ∧ Below w.heap.size w W ∧ W.ownsRow (w.heap.size + 1) 25 2 (.slice g (k + 1) q) (k + 1) (c2 (acc.map roP))) → Exit.then _ _ _ _ W) _ ⟨Z.out.2.2.put _ _, (Z.out.1.far y0 _).far y0 _, below_put (below_step HC.out.2.2.1 Z.out.2.1) (Nat.le_of_lt hwz) _ _, ownsRow_setCell_other (ownsRow_setCell_other (owns_later Z.out.2.1 HC.out.1) (a := ⟨wr.heap.size, 0, none⟩) (fun e => Nat.lt_irrefl _ (HC.out.1.lt _ e).2) _) (a := ⟨wr.heap.size, 1, none⟩) (fun e => Nat.lt_irrefl _ (HC.out.1.lt _ e).2) _⟩
            intro W hW
            generalize wr.heap.size = nb at hW ⊢
            have FW := hF W nb hW
            clear hW hF Z n0 n1 o0 o1 BD BA OO CB
            obtain ⟨n0, n1⟩ := FW.out.1.cells
            obtain ⟨d0, d1⟩ := FW.out.2.1.cells
            have z0 := FW.out.2.1.frozen 0
            have z1 := FW.out.2.1.frozen 1
            obtain ⟨e0, e1⟩ := (FW.out.2.1.put (.int .i64 v2) (.int .u16 (s2 : Int))).cells
            go_wp2_with (at_builtin; refine wpList_append_own_at _ rfl _ _ 51 rfl (w.heap.size + 1) 25 i0 (.agg #[.int .i64 0, .int .u16 0]) 2 16 Tryd.underlying51 I.out.1 I.out.2.1 I.out.2.2.1 I.out.2.2.2 rfl (by decide) _ _ _ rfl ((own_put2 FW.out.2.2.2 (Nat.lt_succ_self _) (.int .i64 v2) (.int .u16 (s2 : Int))).alloc _) ⟨W.heap.size, 0, none⟩ 1 1 [.int .i64 v2, .int .u16 (s2 : Int)] rfl rfl ?c1 ?c2 ?c3 ?c4 ?c5 ?_)
            case c1 => have := cell_two ((W.setCell ⟨w.heap.size, 0, none⟩ (.int .i64 v2)).setCell ⟨w.heap.size, 1, none⟩ (.int .u16 (s2 : Int))) (.int .i64 v2) (.int .u16 (s2 : Int)) 25; rw [World.size_setCell, World.size_setCell] at this; exact this
            case c2 => intro u hu; simp at hu; rcases hu with rfl | rfl <;> rfl
            case c3 => unfold maxLen; omega
            case c4 => omega
            case c5 => have := FW.out.2.1.lt; simp; omega
            intro v' wn hown hgrow _ _
            rw [ST.out] at hown
            obtain ⟨g2, q2, rfl, -, -⟩ := own_at2 hown
            have NX : Aside (wn.ownsRow (w.heap.size + 1) 25 2 (.slice g2 (k + 1 + 1) q2) (k + 1 + 1) (c2 ((acc ++ [(v2, s2)]).map roP)) ∧ P2 wn w.heap.size 25 (.int .i64 v2) (.int .u16 (s2 : Int)) ∧ Below w.heap.size w wn) := by
              have b1 : Below w.heap.size w ((W.setCell ⟨w.heap.size, 0, none⟩ (.int .i64 v2)).setCell ⟨w.heap.size, 1, none⟩ (.int .u16 (s2 : Int))) := below_put FW.out.2.2.1 (Nat.le_refl _) _ _
              have lt1 : ∀ j, (Value.slice g (k + 1) q).ownBlock = some j → w.heap.size + 1 ≤ j := fun j hj => (FW.out.2.2.2.lt j hj).1
              refine ⟨hown, ?_, (b1.alloc b1.size _).grown hgrow (by have := b1.size; simp at this ⊢; omega) (fun j hj => by have := lt1 j hj; omega)⟩
              exact ((FW.out.2.1.put _ _).alloc _).grown hgrow (fun e => by have := lt1 _ e; omega)
            clear hown hgrow n0 n1 d0 d1 z0 z1 e0 e1
            go_wp2
            go_roundw
            case rel => exact ⟨k + 1, v2, s2, g2, q2, acc ++ [(v2, s2)], by omega, by go_num, rfl, NX.out.1, NX.out.2.1, NX.out.2.2, PG.out.2, PG.out.1⟩
            case measure => simp [intOf]; omega
        · have hne : (((appE v1 s1 ca ci : Nat) : Int) != 0) = true := by rw [bne_iff_ne]; omega
          have RX : Aside (∀ w', w'.ownsRow (w.heap.size + 1) 25 2 (.slice g (k + 1) q) (k + 1) (c2 (acc.map roP)) → Below w.heap.size w w' → Q (.returned (.slice g (k + 1) q)) w') := fun w' ho hB => by
            have e : pl = acc := by rw [HC.out.2.2.2.2, pathC_stop hbb he, List.append_nil]
            exact RT.out _ _ _ w' (by rw [e]; exact ho) hB
          clear he hbb RT
          generalize appV v1 s1 ca ci = v2 at CB
          generalize appS v1 s1 ca ci = s2 at CB
          generalize appE v1 s1 ca ci = e2 at CB hne
          have BD : Aside (Below wr.heap.size wr wr.drew) := (Below.refl _ wr).drew
          have BA : Aside (Below wr.heap.size wr (wr.alloc (.cells #[.int .i64 0, .int .u16 0] 25)).drew) := ((Below.refl _ wr).alloc (Nat.le_refl _) _).drew
          have OO : Aside (_ ∧ _) := ⟨o0, o1⟩
          go_wp2_with fail
          go_region_held3 (fun w' => w'.cell? ⟨w.heap.size, 0, none⟩ = some (.int .i64 v1) ∧ w'.cell? ⟨w.heap.size, 1, none⟩ = some (.int .u16 (s1 : Int)) ∧ w'.cell? ⟨gb, of + k * 2, none⟩ = some (.bool ca) ∧ w'.cell? ⟨gb, of + k * 2 + 1, none⟩ = some (.int .u8 (ci : Int)))
            (first | go_keep)
            (first
              | (go_at_call 11; (with_reducible refine (CB.out wr.drew).mono ?_); rintro e w2 ⟨rfl, hb1⟩; have Z : Aside (P2 w2 w.heap.size 25 (.int .i64 v1) (.int .u16 (s1 : Int)) ∧ Below wr.heap.size wr w2) := ⟨HC.out.2.1.later (below_step BD.out hb1), below_step BD.out hb1⟩; clear hb1 n0 n1 o0 o1; obtain ⟨n0, n1⟩ := Z.out.1.cells; have o0 := cell_later Z.out.2 OO.out.1; have o1 := cell_later Z.out.2 OO.out.2)
              | (go_at_call 11; (with_reducible refine (CB.out (wr.alloc (.cells #[.int .i64 0, .int .u16 0] 25)).drew).mono ?_); rintro e w2 ⟨rfl, hb1⟩; have Z : Aside (P2 w2 w.heap.size 25 (.int .i64 v1) (.int .u16 (s1 : Int)) ∧ Below wr.heap.size wr w2 ∧ P2 w2 wr.heap.size 25 (.int .i64 0) (.int .u16 0)) := ⟨HC.out.2.1.later (below_step BA.out hb1), below_step BA.out hb1, ((P2.new wr 25 (.int .i64 0) (.int .u16 0)).later (Below.refl _ _).drew).later hb1⟩; clear hb1 n0 n1 o0 o1; obtain ⟨n0, n1⟩ := Z.out.1.cells; have o0 := cell_later Z.out.2.1 OO.out.1; have o1 := cell_later Z.out.2.1 OO.out.2; obtain ⟨d0, d1⟩ := Z.out.2.2.cells; have z0 := Z.out.2.2.frozen 0; have z1 := Z.out.2.2.frozen 1; have y0 : w.heap.size ≠ wr.heap.size := Nat.ne_of_lt hwz; have y1 : gb ≠ wr.heap.size := Nat.ne_of_lt ol; have y2 : wr.heap.size ≠ w.heap.size := fun h => y0 h.symm; have y3 : wr.heap.size ≠ gb := fun h => y1 h.symm)
              | fail)
          · refine (?_ : ∀ W, Aside (Q (.returned (.slice g (k + 1) q)) W) → Exit.then _ _ _ _ W) _ (RX.out _ ((owns_later Z.out.2 HC.out.1).alloc _) ((below_step HC.out.2.2.1 Z.out.2).alloc (below_step HC.out.2.2.1 Z.out.2).size _))
            intro W R2
            clear Z n0 n1 o0 o1 BD BA OO CB RX
            go_wp2
            exact R2.out
          · refine (?_ : ∀ W, Aside (Q (.returned (.slice g (k + 1) q)) W) → Exit.then _ _ _ _ W) _ (RX.out _ (ownsRow_setCell_other (ownsRow_setCell_other (owns_later Z.out.2.1 HC.out.1) (a := ⟨wr.heap.size, 0, none⟩) (fun e => Nat.lt_irrefl _ (HC.out.1.lt _ e).2) _) (a := ⟨wr.heap.size, 1, none⟩) (fun e => Nat.lt_irrefl _ (HC.out.1.lt _ e).2) _) (below_put (below_step HC.out.2.2.1 Z.out.2.1) (Nat.le_of_lt hwz) _ _))
            intro W R2
            clear Z n0 n1 o0 o1 BD BA OO CB RX
            go_wp2
            exact R2.out
      · obtain rfl : k = n := by omega
        have R1 : Aside (Q (.returned (.slice g (k + 1) q)) wr) := by
          have e : pl = acc := by
            have := HC.out.2.2.2.2
            rw [List.drop_of_length_le (Nat.le_of_eq HN.out.symm)] at this
            rw [this]; exact List.append_nil _
          exact RT.out _ _ _ wr (by rw [e]; exact HC.out.1) HC.out.2.2.1
        clear RT
        go_wp2
        exact R1.out
end Rl
end Go.Proofs.YtnheikkpnffinaaDoor
