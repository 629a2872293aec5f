/- Changes handed over: the law's own changes gives the same ones. -/
import Derived.Test.YtnheikkpnffinaaDoorPrA
set_option linter.unusedVariables false
namespace Go.Proofs.YtnheikkpnffinaaDoor
open Go.RowKit
namespace Rl
open Cn

theorem made_of {w w' : World} {B : Nat} {v : Value} {n : Nat} {l : List (Value × Value)} {t : TypeId} (h : w'.ownsRow B t 2 v n (c2 l)) (hb : Below w.heap.size w w') : Made w l (.returned v) w' := by
  obtain ⟨a, c, rfl, hl, hat⟩ := own_at2 h
  have hc := own_cap h
  subst hl
  exact ⟨a, c, rfl, hat, hb, hc⟩
theorem owns_later {w w' : World} {B e s n : Nat} {v : Value} {xs : List Value} (hb : Below w.heap.size w w') (h : w.ownsRow B e s v n xs) : w'.ownsRow B e s v n xs := by
  refine ⟨h.1, ?_⟩
  rcases h.2 with h | ⟨g, gc, cur, hv, hge, hh, rest⟩
  · exact .inl h
  · exact .inr ⟨g, gc, cur, hv, hge, by rw [hb.block g (Array.getElem?_eq_some_iff.1 hh).1]; exact hh, rest⟩
theorem cell_two (w : World) (x y : Value) (t : TypeId) : ∀ j u, [x, y][j]? = some u → (w.alloc (.cells #[x, y] t)).cell? ((⟨w.heap.size, 0, none⟩ : Addr).add j) = some u := by
  intro j u hj
  obtain ⟨h0, h1⟩ := (P2.new w t x y).cells
  match j, hj with
  | 0, hj => simp at hj; subst hj; exact h0
  | 1, hj => simp at hj; subst hj; exact h1
  | j + 2, hj => simp at hj

set_option maxHeartbeats 8000000 in
set_option maxRecDepth 100000 in
theorem changes_any (a : Option Addr) (c : Nat) (l : List (Bool × Nat)) (w : World) (h : At2 w a (l.map chP)) (hn : l.length ≤ 100) :
    Calls Tryd.prog 19 #[.slice a l.length c] w (Made w (l.map chP)) := by
  obtain ⟨i0, hi, hz0, hz1, hz2⟩ := info_parts info33
  have I : Aside (Tryd.prog.info? 33 = some i0 ∧ i0.zero = some (.agg #[.bool false, .int .u8 0]) ∧ i0.size = 2 ∧ i0.bytes = 2) := ⟨hi, hz0, hz1, hz2⟩
  clear hi hz0 hz1 hz2
  have HA : Aside (At2 w a (l.map chP)) := h
  obtain ⟨n, hn'⟩ : ∃ n : Nat, n = l.length := ⟨_, rfl⟩
  rw [← hn'] at hn ⊢
  have HN : Aside (n = l.length) := hn'
  clear hn' h
  have RT : Aside (∀ v m w', w'.ownsRow w.heap.size 33 2 v m (c2 (l.map chP)) → Below w.heap.size w w' → Made w (l.map chP) (.returned v) w') := fun v m w' h1 h2 => made_of h1 h2
  generalize Made w (l.map chP) = Q at RT ⊢
  go_enter Tryd.func19, Tryd.ntmps19
  go_wp2_with fail
  go_loopw [3, 5, 8] (fun out _ i wr => ∃ k g q, k ≤ n ∧ i = .int .i64 (k : Nat) ∧ out = .slice g k q ∧ Aside (wr.ownsRow w.heap.size 33 2 (.slice g k q) k (c2 ((l.map chP).take k)) ∧ Below w.heap.size w wr)) (fun _ _ i _ => n - (intOf i).toNat)
  case atStart => exact ⟨0, none, 0, Nat.zero_le _, rfl, rfl, World.ownsRow_nil _ _ _ _, Below.refl _ w⟩
  case round =>
    obtain ⟨k, g, q, hk, rfl, rfl, hC⟩ := hrel
    have HB : Aside (Below w.heap.size w wr) := hC.out.2
    have OW : Aside (wr.ownsRow w.heap.size 33 2 (.slice g k q) k (c2 ((l.map chP).take k))) := hC.out.1
    clear hC
    by_cases hlt : k < n
    · have t1 : (k : Int) < (n : Int) := by omega
      have t2 : (0 : Int) ≤ (k : Int) := by omega
      obtain ⟨bb, hbb⟩ : ∃ bb, l[k]? = some bb := ⟨_, List.getElem?_eq_getElem (HN.out ▸ hlt)⟩
      obtain ⟨ca, ci⟩ := bb
      obtain ⟨gb, of, rfl, o0, o1⟩ := (HA.out.later HB.out).cell (k := k) (x := .bool ca) (y := .int .u8 (ci : Int)) (by rw [List.getElem?_map, hbb]; rfl)
      have ol := World.block_lt_of_cell? _ _ o0
      dsimp only at ol
      have ST : Aside (c2 ((l.map chP).take k) ++ [.bool ca, .int .u8 (ci : Int)] = c2 ((l.map chP).take (k + 1))) := by
        show _ = _
        rw [show (l.map chP).take (k + 1) = (l.map chP).take k ++ [(.bool ca, .int .u8 (ci : Int))] by rw [List.take_add_one, List.getElem?_map, hbb]; rfl, c2_append]; rfl
      clear hbb
      go_wp2_with (at_builtin; refine wpList_append_own _ rfl _ _ 49 rfl w.heap.size 33 i0 (.agg #[.bool false, .int .u8 0]) 2 2 Tryd.underlying49 I.out.1 I.out.2.1 I.out.2.2.1 I.out.2.2.2 rfl (by decide) _ _ _ rfl ((OW.out.alloc _).alloc _) ⟨wr.heap.size + 1, 0, none⟩ 1 1 [.bool ca, .int .u8 (ci : Int)] rfl rfl ?c1 ?c2 ?c3 ?c4 ?c5 ?_)
      case c1 => have := cell_two (wr.alloc (.cells #[.bool ca, .int .u8 (ci : Int)] 27)) (.bool ca) (.int .u8 (ci : Int)) 33; rw [World.size_alloc] at this; exact this
      case c2 => intro u hu; simp at hu; rcases hu with rfl | rfl <;> rfl
      case c3 => unfold maxLen; omega
      case c4 => omega
      case c5 => have := HB.out.size; simp; omega
      intro v' wn hown hgrow _
      rw [ST.out] at hown
      obtain ⟨g2, q2, rfl, -, -⟩ := own_at2 hown
      have NX : Aside (wn.ownsRow w.heap.size 33 2 (.slice g2 (k + 1) q2) (k + 1) (c2 ((l.map chP).take (k + 1))) ∧ Below w.heap.size w wn) := by
        have bl : Below w.heap.size w ((wr.alloc (.cells #[.bool ca, .int .u8 (ci : Int)] 27)).alloc (.cells #[.bool ca, .int .u8 (ci : Int)] 33)) := (HB.out.alloc HB.out.size _).alloc (by have := HB.out.size; simp; omega) _
        exact ⟨hown, bl.grown hgrow (by have := HB.out.size; simp; omega) (fun j hj => (OW.out.lt j hj).1)⟩
      clear hown hgrow OW
      go_wp2
      go_roundw
      case rel => exact ⟨k + 1, g2, q2, by omega, by go_num, rfl, NX.out.1, NX.out.2⟩
      case measure => simp [intOf]; omega
    · obtain rfl : k = n := by omega
      have R1 := RT.out _ _ _ (by have := OW.out; rw [List.take_of_length_le (by rw [List.length_map]; exact Nat.le_of_eq HN.out.symm)] at this; exact this) HB.out
      clear RT OW
      go_wp2
      exact R1
end Rl
end Go.Proofs.YtnheikkpnffinaaDoor
