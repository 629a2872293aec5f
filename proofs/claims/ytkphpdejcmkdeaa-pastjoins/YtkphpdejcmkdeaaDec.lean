/- What Decode gives, of any bytes: their fields, or the error. -/
import Derived.Test.YtkphpdejcmkdeaaRdE
import Derived.Test.YtkphpdejcmkdeaaCatch
namespace Go.Proofs.Ytkphpdejcmkdeaa
open Go.RowKit

/-- What Decode is to give. -/
def DecPost (bs : List UInt8) (w : World) (e : Ending) (w' : World) : Prop :=
  (match Pk.decP bs with
   | some l => ∃ v, e = .returned (.tuple #[v, .int .i64 0]) ∧ w'.ownsRow w.heap.size 51 4 v l.length (flatP l)
   | none => e = .returned (.tuple #[.slice none 0 0, .int .i64 4])) ∧ Below w.heap.size w w'

theorem decP_of (bs : List UInt8) (h : bs.length ≤ 8000) : Pk.decP bs = decQ bs := by
  unfold Pk.decP
  rw [if_neg (by omega)]
  cases bs <;> rfl

set_option maxHeartbeats 2000000 in
theorem decode_long (a : Option Addr) (n cap : Nat) (w : World) (hn : 8000 < n) :
    Calls Try.prog 27 #[.slice a n cap] w fun e w' => e = .returned (.tuple #[.slice none 0 0, .int .i64 4]) ∧ Below w.heap.size w w' := by
  have hmf : ∀ (fn : Fn) (first cap : Array Value) (w : World), (Instr.makeFunc fn first cap).run Try.prog w = .ok (.func fn first cap) w := fun _ _ _ _ => rfl
  have t1 : (8000 : Int) < (n : Int) := by omega
  go_enter_defers Try.func27, Try.ntmps27
  go_wp2
  refine leaves_cons (f := 38) (args := #[.pointer (some ⟨w.heap.size, 0, none⟩), .pointer (some ⟨w.heap.size + 1, 0, none⟩)]) (by simp) (by simp [go_sem]) ?_
  refine (catch_idle _ _ _).mono ?_
  rintro e u' w'' ⟨rfl, rfl, rfl⟩
  simp [Leaves, settle, results, Try.results27, go_sem]
  exact ((Below.refl _ w).alloc (Nat.le_refl _) _).alloc (by simp) _

/-- The world when the reader is made. -/
def W3 (w : World) (a : Option Addr) (n cap : Nat) : World := ((w.alloc (.cells #[.slice none 0 0] 53)).alloc (.cells #[.int .i64 0] 32)).alloc (.cells #[.slice a n cap] 79)

theorem w3_size (w : World) (a : Option Addr) (n cap : Nat) : (W3 w a n cap).heap.size = w.heap.size + 1 + 1 + 1 := by simp [W3]
theorem w3_below (w : World) (a : Option Addr) (n cap : Nat) : Below w.heap.size w (W3 w a n cap) :=
  (((Below.refl _ w).alloc (Nat.le_refl _) _).alloc (by simp) _).alloc (by simp; omega) _
theorem w3_cells {w w' : World} {a : Option Addr} {n cap : Nat} (hg : (W3 w a n cap).grownBy w' (some (w.heap.size + 1 + 1))) :
    w'.cell? ⟨w.heap.size, 0, none⟩ = some (.slice none 0 0) ∧ w'.cell? ⟨w.heap.size + 1, 0, none⟩ = some (.int .i64 0) ∧ w'.frozen? ⟨w.heap.size, 0, none⟩ = false ∧ w'.frozen? ⟨w.heap.size + 1, 0, none⟩ = false := by
  have e0 := hg.block w.heap.size (by rw [w3_size]; omega) (by simp; omega)
  have e1 := hg.block (w.heap.size + 1) (by rw [w3_size]; omega) (by simp)
  refine ⟨?_, ?_, ?_, ?_⟩
  · rw [World.cell?_of_block (w := W3 w a n cap) e0]; simp [W3, go_sem]
  · rw [World.cell?_of_block (w := W3 w a n cap) e1]; simp [W3, go_sem]
  · rw [World.frozen?_of_block (w := W3 w a n cap) e0]; simp [W3, go_sem]
  · rw [World.frozen?_of_block (w := W3 w a n cap) e1]; simp [W3, go_sem]
theorem w3_after {w w' : World} {a : Option Addr} {n cap : Nat} (hg : (W3 w a n cap).grownBy w' (some (w.heap.size + 1 + 1))) (x y : Value) :
    Below w.heap.size w ((w'.setCell ⟨w.heap.size, 0, none⟩ x).setCell ⟨w.heap.size + 1, 0, none⟩ y) := by
  have h : Below w.heap.size w w' := (w3_below w a n cap).grown hg (by rw [w3_size]; omega) (fun k hk => by simp at hk; omega)
  exact (h.setCell (Nat.le_refl _) _).setCell (show w.heap.size ≤ w.heap.size + 1 by omega) _

theorem two_cells (w : World) (g : Nat) (x y : Value) {u v : Value} (h0 : w.cell? ⟨g, 0, none⟩ = some u) (h1 : w.cell? ⟨g + 1, 0, none⟩ = some v) :
    (w.setCell ⟨g, 0, none⟩ x).cell? ⟨g + 1, 0, none⟩ = some v ∧ ((w.setCell ⟨g, 0, none⟩ x).setCell ⟨g + 1, 0, none⟩ y).cell? ⟨g, 0, none⟩ = some x ∧ ((w.setCell ⟨g, 0, none⟩ x).setCell ⟨g + 1, 0, none⟩ y).cell? ⟨g + 1, 0, none⟩ = some y := by
  have e : (w.setCell ⟨g, 0, none⟩ x).cell? ⟨g + 1, 0, none⟩ = some v := by
    rw [World.cell?_setCell_far _ _ _ _ (show g ≠ g + 1 by omega)]; exact h1
  refine ⟨e, ?_, World.cell?_setCell_same _ _ _ e⟩
  rw [World.cell?_setCell_far _ _ _ _ (show g + 1 ≠ g by omega)]
  exact World.cell?_setCell_same _ _ _ h0

set_option maxHeartbeats 2000000 in
theorem decode_bad (a : Option Addr) (n cap : Nat) (w : World) (hn : n ≤ 8000)
    (hF : Calls Try.prog 39 #[.pointer (some ⟨w.heap.size + 1 + 1, 0, none⟩)] (W3 w a n cap) fun e w' => e = .panicked gave ∧ (W3 w a n cap).grownBy w' (some (w.heap.size + 1 + 1))) :
    Calls Try.prog 27 #[.slice a n cap] w fun e w' => e = .returned (.tuple #[.slice none 0 0, .int .i64 4]) ∧ Below w.heap.size w w' := by
  have hmf : ∀ (fn : Fn) (first cap : Array Value) (w : World), (Instr.makeFunc fn first cap).run Try.prog w = .ok (.func fn first cap) w := fun _ _ _ _ => rfl
  have t1 : ¬ (8000 : Int) < (n : Int) := by omega
  go_enter_defers Try.func27, Try.ntmps27
  go_wp2_with fail
  refine hF.mono ?_
  rintro e w1 ⟨rfl, hg⟩
  obtain ⟨c0, c1, z0, z1⟩ := w3_cells hg
  have hb := w3_after hg (.slice none 0 0) (.int .i64 4)
  obtain ⟨_, d1, d2⟩ := two_cells w1 w.heap.size (.slice none 0 0) (.int .i64 4) c0 c1
  have D : Aside (_ ∧ _) := ⟨d1, d2⟩
  clear hF hg d1 d2
  go_wp2
  obtain ⟨d1, d2⟩ := D.out
  refine leaves_cons (f := 38) (args := #[.pointer (some ⟨w.heap.size, 0, none⟩), .pointer (some ⟨w.heap.size + 1, 0, none⟩)]) (by simp) (by simp [go_sem]) ?_
  refine (catch_panicking ⟨w.heap.size, 0, none⟩ ⟨w.heap.size + 1, 0, none⟩ _ _ 9 _ [] _ c0 z0 c1 z1 (by simp)).mono ?_
  rintro e u' w'' ⟨rfl, rfl, rfl⟩
  simp [Leaves, settle, results, Try.results27, go_sem, d1, d2]
  exact hb

set_option maxHeartbeats 2000000 in
theorem decode_ok (a : Option Addr) (n cap : Nat) (w : World) (hn : n ≤ 8000) (m : Nat) (xs : List Value)
    (hF : Calls Try.prog 39 #[.pointer (some ⟨w.heap.size + 1 + 1, 0, none⟩)] (W3 w a n cap) fun e w' => (∃ v, e = .returned v ∧ w'.ownsRow (W3 w a n cap).heap.size 51 4 v m xs) ∧ (W3 w a n cap).grownBy w' (some (w.heap.size + 1 + 1))) :
    Calls Try.prog 27 #[.slice a n cap] w fun e w' => (∃ v, e = .returned (.tuple #[v, .int .i64 0]) ∧ w'.ownsRow w.heap.size 51 4 v m xs) ∧ Below w.heap.size w w' := by
  have hmf : ∀ (fn : Fn) (first cap : Array Value) (w : World), (Instr.makeFunc fn first cap).run Try.prog w = .ok (.func fn first cap) w := fun _ _ _ _ => rfl
  have t1 : ¬ (8000 : Int) < (n : Int) := by omega
  go_enter_defers Try.func27, Try.ntmps27
  go_wp2_with fail
  refine hF.mono ?_
  rintro e w1 ⟨⟨v, rfl, hown⟩, hg⟩
  obtain ⟨p, q, r, rfl⟩ : ∃ p q r, v = .slice p q r := by
    rcases hown.2 with ⟨rfl, _⟩ | ⟨g, gc, cur, rfl, _⟩ <;> exact ⟨_, _, _, rfl⟩
  obtain ⟨c0, c1, z0, z1⟩ := w3_cells hg
  have hb := w3_after hg (.slice p q r) (.int .i64 0)
  obtain ⟨s1, d1, d2⟩ := two_cells w1 w.heap.size (.slice p q r) (.int .i64 0) c0 c1
  have hO : ((w1.setCell ⟨w.heap.size, 0, none⟩ (.slice p q r)).setCell ⟨w.heap.size + 1, 0, none⟩ (.int .i64 0)).ownsRow w.heap.size 51 4 (.slice p q r) m xs := by
    refine ⟨hown.1, ?_⟩
    rcases hown.2 with h | ⟨g, gc, cur, hv, hge, hh, rest⟩
    · exact .inl h
    · rw [w3_size] at hge
      exact .inr ⟨g, gc, cur, hv, by omega, by rw [Below.heap_setCell _ _ _ _ (show g ≠ w.heap.size + 1 by omega), Below.heap_setCell _ _ _ _ (show g ≠ w.heap.size by omega)]; exact hh, rest⟩
  have D : Aside (_ ∧ _) := ⟨d1, d2⟩
  have O : Aside (_ ∧ _) := ⟨hO, hb⟩
  clear hF hg d1 d2 hO hb hown
  go_wp2
  obtain ⟨d1, d2⟩ := D.out
  refine leaves_cons (f := 38) (args := #[.pointer (some ⟨w.heap.size, 0, none⟩), .pointer (some ⟨w.heap.size + 1, 0, none⟩)]) (by simp) (by simp [go_sem]) ?_
  refine (catch_idle _ _ _).mono ?_
  rintro e u' w'' ⟨rfl, rfl, rfl⟩
  refine ⟨.tuple #[.slice p q r, .int .i64 0], ?_, ⟨_, rfl, O.out.1⟩, O.out.2⟩
  simp [results, Try.results27, go_sem, d1, d2]

/-- Bytes lie behind an address that lies below the top. -/
theorem decode_all (a : Option Addr) (n cap : Nat) (bs : List UInt8) (w : World) (hn : n = bs.length) (hcap : n ≤ cap) (h : AtB w a bs) :
    Calls Try.prog 27 #[.slice a n cap] w (DecPost bs w) := by
  by_cases h8 : 8000 < n
  · refine (decode_long a n cap w h8).mono ?_
    rintro e w' ⟨rfl, hb⟩
    refine ⟨?_, hb⟩
    rw [show Pk.decP bs = none by unfold Pk.decP; rw [if_pos (by omega)]]
  · have hr : Rest (W3 w a n cap) (w.heap.size + 1 + 1) bs := by
      refine ⟨by simp [W3, go_sem], a, cap, by simp [W3, go_sem, hn], by omega, ?_⟩
      rcases h with rfl | ⟨b, off, rfl, hc⟩
      · exact .inl rfl
      · by_cases he : bs = []
        · exact .inl he
        · have hp : 0 < bs.length := List.length_pos_iff.2 he
          have hb := World.block_lt_of_cell? w _ (hc 0 hp)
          simp only at hb
          exact .inr ⟨b, off, rfl, by omega, fun j hj => cell_later (w3_below w _ _ _) (hc j hj)⟩
    have hf := fields_any (w.heap.size + 1 + 1) bs (W3 w a n cap) hr
    unfold FieldsPost at hf
    unfold DecPost
    rw [decP_of bs (by omega)]
    rcases hd : decQ bs with _ | l
    · rw [hd] at hf
      exact decode_bad a n cap w (by omega) hf
    · rw [hd] at hf
      exact decode_ok a n cap w (by omega) _ _ hf

end Go.Proofs.Ytkphpdejcmkdeaa
