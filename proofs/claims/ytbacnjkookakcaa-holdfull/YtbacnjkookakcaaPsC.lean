/- What Join, Below and most give. -/
import Derived.Test.YtbacnjkookakcaaPsB
set_option linter.unusedVariables false
namespace Go.Proofs.Ytbacnjkookakcaa
open Go.RowKit
namespace Ps

/-- What is joined as far as the k-th place. -/
def part (f g : Nat → Nat) (k : Nat) : Nat → Nat := fun i => if i < k then max (f i) (g i) else f i
theorem part_zero (f g : Nat → Nat) : part f g 0 = f := by funext i; simp [part]
theorem part_all (f g : Nat → Nat) : vecA (part f g 16) = vecA (joinV f g) := vecA_congr fun i hi => by simp [part, joinV, hi]
theorem part_upd (f g : Nat → Nat) (k n : Nat) (hn : n = max (f k) (g k)) : upd (part f g k) k n = part f g (k + 1) := by
  funext i
  unfold upd part
  by_cases h : i = k
  · subst h; rw [if_pos rfl, if_pos (by omega), hn]
  · rw [if_neg h]
    by_cases h2 : i < k
    · rw [if_pos h2, if_pos (by omega)]
    · rw [if_neg h2, if_neg (by omega)]

/-- The cells of a vector of noughts, as the program makes them. -/
def zeroV : Array Value := #[.int .u16 0, .int .u16 0, .int .u16 0, .int .u16 0, .int .u16 0, .int .u16 0, .int .u16 0, .int .u16 0, .int .u16 0, .int .u16 0, .int .u16 0, .int .u16 0, .int .u16 0, .int .u16 0, .int .u16 0, .int .u16 0]
theorem V16.zero (w : World) : V16 (w.alloc (.cells #[.int .u16 0, .int .u16 0, .int .u16 0, .int .u16 0, .int .u16 0, .int .u16 0, .int .u16 0, .int .u16 0, .int .u16 0, .int .u16 0, .int .u16 0, .int .u16 0, .int .u16 0, .int .u16 0, .int .u16 0, .int .u16 0] 24)) w.heap.size (fun _ => 0) := V16.new w fun _ => 0

theorem load_vec {w : World} {b : Nat} {f : Nat → Nat} (h : V16 w b f) : Sem.run Try.prog (loadCellsFrom ⟨b, 0, none⟩ 0 16 #[]) w = .ok (vecA f) w := by
  have := run_loadCellsFrom_list Try.prog w ⟨b, 0, none⟩ (vecA f).toList 16 rfl (fun j v hj => by
    rw [Addr.add_lit, Nat.zero_add, cell_of_row w b j _ 24 _ h]; simpa using hj)
  simpa using this

/-- A result that lies in memory. -/
theorem results_cell {P : Program} {fn : Func} {tmps : Array Value} {w : World} {a : Tmp} {t k b : Nat} {arr : Array Value} (h : fn.results = #[.cell a t]) (hp : tmps.getD a undef = .pointer (some ⟨b, 0, none⟩))
    (aE : (isAgg t).run P w = .ok true w) (zE : (Go.sizeOf t).run P w = .ok k w) (hl : Sem.run P (loadCellsFrom ⟨b, 0, none⟩ 0 k #[]) w = .ok arr w) : (results fn tmps).run P w = .ok (.agg arr) w := by
  have e : (loadVar t ⟨b, 0, none⟩).run P w = .ok (.agg arr) w := by simp [loadVar, aE, zE, loadCells, hl]
  generalize (⟨b, 0, none⟩ : Addr) = q at *
  have hp2 : tmps[a]?.getD undef = .pointer (some q) := by simpa using hp
  simp [results, h, hp2, asAddr, e]
theorem results_cell2 {P : Program} {fn : Func} {tmps : Array Value} {w : World} {a u : Tmp} {t k b : Nat} {arr : Array Value} (h : fn.results = #[.cell a t, .tmp u]) (hp : tmps.getD a undef = .pointer (some ⟨b, 0, none⟩))
    (aE : (isAgg t).run P w = .ok true w) (zE : (Go.sizeOf t).run P w = .ok k w) (hl : Sem.run P (loadCellsFrom ⟨b, 0, none⟩ 0 k #[]) w = .ok arr w) : (results fn tmps).run P w = .ok (.tuple #[.agg arr, tmps.getD u undef]) w := by
  have e : (loadVar t ⟨b, 0, none⟩).run P w = .ok (.agg arr) w := by simp [loadVar, aE, zE, loadCells, hl]
  generalize (⟨b, 0, none⟩ : Addr) = q at *
  have hp2 : tmps[a]?.getD undef = .pointer (some q) := by simpa using hp
  simp [results, h, hp2, asAddr, e]

set_option maxHeartbeats 2000000 in
set_option maxRecDepth 100000 in
theorem join_any (f g : Nat → Nat) (w : World) :
    Calls Try.prog 43 #[.agg (vecA f), .agg (vecA g)] w fun e w' => e = .returned (.agg (vecA (joinV f g))) ∧ Below w.heap.size w w' := by
  obtain ⟨V, hV⟩ : ∃ V, V = ((w.alloc (.cells (vecA f) 24)).alloc (.cells (vecA g) 24)).alloc (.cells #[.int .u16 0, .int .u16 0, .int .u16 0, .int .u16 0, .int .u16 0, .int .u16 0, .int .u16 0, .int .u16 0, .int .u16 0, .int .u16 0, .int .u16 0, .int .u16 0, .int .u16 0, .int .u16 0, .int .u16 0, .int .u16 0] 24) := ⟨_, rfl⟩
  have X2 : V16 (((w.alloc (.cells (vecA f) 24)).alloc (.cells (vecA g) 24)).alloc (.cells #[.int .u16 0, .int .u16 0, .int .u16 0, .int .u16 0, .int .u16 0, .int .u16 0, .int .u16 0, .int .u16 0, .int .u16 0, .int .u16 0, .int .u16 0, .int .u16 0, .int .u16 0, .int .u16 0, .int .u16 0, .int .u16 0] 24)) (w.heap.size + 1) g := by
    have := (V16.new (w.alloc (.cells (vecA f) 24)) g).alloc (.cells #[.int .u16 0, .int .u16 0, .int .u16 0, .int .u16 0, .int .u16 0, .int .u16 0, .int .u16 0, .int .u16 0, .int .u16 0, .int .u16 0, .int .u16 0, .int .u16 0, .int .u16 0, .int .u16 0, .int .u16 0, .int .u16 0] 24)
    rwa [World.size_alloc] at this
  have XV : Aside (V16 V w.heap.size (part f g 0) ∧ V16 V (w.heap.size + 1 + 1) (fun _ => 0) ∧ Below w.heap.size w V) := by
    rw [hV, part_zero]
    refine ⟨((V16.new w f).alloc _).alloc _, ?_, (((Below.refl _ w).alloc (Nat.le_refl _) _).alloc (by simp) _).alloc (by simp; omega) _⟩
    have := V16.zero ((w.alloc (.cells (vecA f) 24)).alloc (.cells (vecA g) 24))
    simpa only [World.size_alloc] using this
  have XL : Aside (V16 _ _ _) := X2
  clear X2
  go_enter Try.func43, Try.ntmps43
  go_wp2_with (with_reducible refine wpList_vec XL.out rfl _ rfl rfl ?_)
  rw [← hV]
  clear XL hV
  go_loopw [5, 6, 8] (fun _ _ i wr => ∃ k : Nat, k ≤ 16 ∧ i = .int .i64 k ∧ V16 wr w.heap.size (part f g k) ∧ V16 wr (w.heap.size + 1 + 1) (fun _ => 0) ∧ Below w.heap.size w wr) (fun _ _ i _ => 16 - (intOf i).toNat)
  case atStart => exact ⟨0, by omega, rfl, XV.out⟩
  case round =>
    obtain ⟨k, hk, rfl, X0, X3, hb⟩ := hrel
    by_cases hlt : k < 16
    · have ix := index_vec g hlt
      have c0 := X0.at_ hlt
      have e0 : part f g k k = f k := by simp [part]
      rw [e0] at c0
      have z0 := X0.frozen k
      have XX : Aside (V16 wr w.heap.size (part f g k) ∧ V16 wr (w.heap.size + 1 + 1) (fun _ => 0) ∧ Below w.heap.size w wr) := ⟨X0, X3, hb⟩
      clear X0 X3 hb
      go_wp2
      go_roundw
      case rel =>
        refine ⟨k + 1, by omega, by go_num, ?_, XX.out.2.1.far (by omega) _, XX.out.2.2.setCell (Nat.le_refl _) _⟩
        have := XX.out.1.set (max (f k) (g k)) hlt
        rw [part_upd f g k _ rfl] at this
        rw [show max ((f k : Nat) : Int) ((g k : Nat) : Int) = ((max (f k) (g k) : Nat) : Int) by omega]
        exact this
      case measure => simp [intOf]; omega
    · obtain rfl : k = 16 := by omega
      have XX : Aside (V16 wr w.heap.size (part f g 16) ∧ V16 wr (w.heap.size + 1 + 1) (fun _ => 0) ∧ Below w.heap.size w wr) := ⟨X0, X3, hb⟩
      clear X0 X3 hb
      go_wp2_with (first
        | (with_reducible refine wpList_vec XX.out.1 rfl _ rfl rfl ?_)
        | (with_reducible refine wpList_vec_store XX.out.2.1 rfl _ _ rfl rfl rfl ?_))
      have Z := XX.out.2.1.whole (part f g 16)
      rw [part_all] at Z ⊢
      exact bodyPost_ret (results_cell rfl rfl (Try.isAgg24 _) (Try.sizeOf24 _) (load_vec Z)) rfl ⟨rfl, below_cells _ _ XX.out.2.2 (by omega)⟩
end Ps
end Go.Proofs.Ytbacnjkookakcaa
