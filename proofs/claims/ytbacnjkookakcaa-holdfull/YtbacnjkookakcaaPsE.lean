/- What the document's own Join gives. -/
import Derived.Test.YtbacnjkookakcaaPsD
set_option linter.unusedVariables false
namespace Go.Proofs.Ytbacnjkookakcaa
open Go.RowKit
namespace Ps
theorem V16.drew {w : World} {b : Nat} {f : Nat → Nat} (h : V16 w b f) : V16 w.drew b f := h
set_option maxHeartbeats 4000000 in
set_option maxRecDepth 100000 in
theorem rjoin_any (f g : Nat → Nat) (w : World) :
    Calls Try.prog 37 #[.agg (vecA f), .agg (vecA g)] w fun e w' => e = .returned (.agg (vecA (joinV f g))) ∧ Below w.heap.size w w' := by
  obtain ⟨V, hV⟩ : ∃ V, V = ((w.alloc (.cells (vecA f) 24)).alloc (.cells (vecA g) 24)).alloc (.cells #[.int .u16 0, .int .u16 0, .int .u16 0, .int .u16 0, .int .u16 0, .int .u16 0, .int .u16 0, .int .u16 0, .int .u16 0, .int .u16 0, .int .u16 0, .int .u16 0, .int .u16 0, .int .u16 0, .int .u16 0, .int .u16 0] 24) := ⟨_, rfl⟩
  have XV : Aside (V16 V w.heap.size (part f g 0) ∧ V16 V (w.heap.size + 1) g ∧ V16 V (w.heap.size + 1 + 1) (fun _ => 0) ∧ Below w.heap.size w V) := by
    rw [hV, part_zero]
    refine ⟨((V16.new w f).alloc _).alloc _, ?_, ?_, (((Below.refl _ w).alloc (Nat.le_refl _) _).alloc (by simp) _).alloc (by simp; omega) _⟩
    · have := (V16.new (w.alloc (.cells (vecA f) 24)) g).alloc (.cells #[.int .u16 0, .int .u16 0, .int .u16 0, .int .u16 0, .int .u16 0, .int .u16 0, .int .u16 0, .int .u16 0, .int .u16 0, .int .u16 0, .int .u16 0, .int .u16 0, .int .u16 0, .int .u16 0, .int .u16 0, .int .u16 0] 24)
      rwa [World.size_alloc] at this
    · have := V16.zero ((w.alloc (.cells (vecA f) 24)).alloc (.cells (vecA g) 24))
      simpa only [World.size_alloc] using this
  go_enter Try.func37, Try.ntmps37
  go_wp2_with fail
  rw [← hV]
  clear hV
  go_loopw [5] (fun i wr => ∃ k : Nat, k ≤ 16 ∧ i = .int .i64 k ∧ V16 wr w.heap.size (part f g k) ∧ V16 wr (w.heap.size + 1) g ∧ V16 wr (w.heap.size + 1 + 1) (fun _ => 0) ∧ Below w.heap.size w wr) (fun i _ => 16 - (intOf i).toNat)
  case atStart => exact ⟨0, by omega, rfl, XV.out⟩
  case round =>
    obtain ⟨k, hk, rfl, X0, X1, X3, hb⟩ := hrel
    by_cases hlt : k < 16
    · have c0 := X0.at_ hlt
      have c1 := X1.at_ hlt
      have e0 : part f g k k = f k := by simp [part]
      rw [e0] at c0
      have z0 := X0.frozen k
      have XX : Aside (V16 wr w.heap.size (part f g k) ∧ V16 wr (w.heap.size + 1) g ∧ V16 wr (w.heap.size + 1 + 1) (fun _ => 0) ∧ Below w.heap.size w wr) := ⟨X0, X1, X3, hb⟩
      clear X0 X1 X3 hb
      go_wp2
      go_region
      go_wp2
      go_roundw
      case rel =>
        refine ⟨k + 1, by omega, by go_num, ?_, (XX.out.2.1.far (by omega) _).drew, (XX.out.2.2.1.far (by omega) _).drew, (XX.out.2.2.2.setCell (Nat.le_refl _) _).drew⟩
        have := XX.out.1.set (max (f k) (g k)) hlt
        rw [part_upd f g k _ rfl] at this
        rw [show max ((f k : Nat) : Int) ((g k : Nat) : Int) = ((max (f k) (g k) : Nat) : Int) by omega]
        exact this.drew
      case measure => simp [intOf]; omega
    · obtain rfl : k = 16 := by omega
      have XX : Aside (V16 wr w.heap.size (part f g 16) ∧ V16 wr (w.heap.size + 1 + 1) (fun _ => 0) ∧ Below w.heap.size w wr) := ⟨X0, X3, hb⟩
      clear X0 X1 X3 hb
      go_wp2_with (first
        | (with_reducible refine wpList_vec XX.out.1 rfl _ rfl rfl ?_)
        | (with_reducible refine wpList_vec_store XX.out.2.1 rfl _ _ rfl rfl rfl ?_))
      have Z := XX.out.2.1.whole (part f g 16)
      rw [part_all] at Z ⊢
      exact bodyPost_ret (results_cell rfl rfl (Try.isAgg24 _) (Try.sizeOf24 _) (load_vec Z)) rfl ⟨rfl, below_cells _ _ XX.out.2.2 (by omega)⟩
end Ps
end Go.Proofs.Ytbacnjkookakcaa
