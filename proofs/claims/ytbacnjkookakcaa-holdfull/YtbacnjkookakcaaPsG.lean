/- What the document's own May, number, N, T give. -/
import Derived.Test.YtbacnjkookakcaaPsF
set_option linter.unusedVariables false
namespace Go.Proofs.Ytbacnjkookakcaa
open Go.RowKit
namespace Ps

set_option maxHeartbeats 4000000 in
set_option maxRecDepth 100000 in
theorem rmay_any (b : Bd) (w : World) :
    Calls Try.prog 46 #[.agg (bdA b)] w fun e w' => e = .returned (.bool (may b)) ∧ Below w.heap.size w w' := by
  have R : Aside ((∀ i, i < 16 → b.past i ≤ 1000) → may b = (decide (1 ≤ b.kind) && decide (b.kind ≤ 3) && decide ((b.text.size : Int) ≤ 400))) := fun h => by
    rw [may_eq, show belowB b.past thou = true from belowB_iff.2 h, show decide ((b.text.size : Int) ≤ 400) = decide (b.text.size ≤ 400) by congr 1; simp; omega]
    simp
  have R2 : Aside (∀ i, i < 16 → ¬ b.past i ≤ 1000 → may b = false) := fun i hi h => by
    rcases hb : may b with _ | _
    · rfl
    · exact absurd ((may_iff.1 hb).2.2.1 i hi) h
  generalize may b = r at R R2 ⊢
  obtain ⟨V, hV⟩ : ∃ V, V = w.alloc (.cells (bdA b) 29) := ⟨_, rfl⟩
  have XV : Aside (B18 V w.heap.size 29 b ∧ Below w.heap.size w V) := by
    rw [hV]
    exact ⟨B18.new w 29 b, (Below.refl _ w).alloc (Nat.le_refl _) _⟩
  go_enter Try.func46, Try.ntmps46
  go_wp2_with fail
  rw [← hV]
  clear hV
  go_loop [3] (fun i => ∃ k : Nat, k ≤ 16 ∧ i = .int .i64 k ∧ (∀ j, j < k → b.past j ≤ 1000)) (fun i => 16 - (intOf i).toNat)
  case atStart => exact ⟨0, by omega, rfl, fun j h => by omega⟩
  case round =>
    obtain ⟨k, hk, rfl, hall⟩ := hrel
    have AL : Aside (∀ j, j < k → b.past j ≤ 1000) := hall
    clear hall
    by_cases hlt : k < 16
    · have c0 := XV.out.1.past hlt
      by_cases hc : b.past k ≤ 1000
      · have hc2 : ¬ (1000 : Int) < ((b.past k : Nat) : Int) := by omega
        go_wp2
        go_round
        case rel =>
          refine ⟨k + 1, by omega, by go_num, fun j hj => ?_⟩
          by_cases h : j = k
          · subst h; exact hc
          · exact AL.out j (by omega)
        case measure => simp [intOf]; omega
      · have hc2 : (1000 : Int) < ((b.past k : Nat) : Int) := by omega
        have rf : Aside (r = false) := R2.out k hlt hc
        go_wp2
        go_ret
        exact ⟨congrArg (fun z => Ending.returned (.bool z)) rf.out.symm, XV.out.2⟩
    · obtain rfl : k = 16 := by omega
      have rt := R.out AL.out
      have c0 := XV.out.1.kind
      have c1 := XV.out.1.text
      clear R R2 AL
      generalize b.kind = K at c0 rt
      generalize b.text = T at c1 rt
      by_cases h1 : 1 ≤ K
      · by_cases h2 : K ≤ 3
        · have ht : Aside (decide ((T.size : Int) ≤ 400) = r) := by show decide ((T.size : Int) ≤ 400) = r; rw [rt, decide_eq_true h1, decide_eq_true h2]; simp
          clear rt
          go_wp2
          go_ret
          exact ⟨congrArg (fun z => Ending.returned (.bool z)) ht.out, XV.out.2⟩
        · have ht : Aside (r = false) := by show r = false; rw [rt, decide_eq_true h1, decide_eq_false h2]; simp
          clear rt
          go_wp2
          go_ret
          exact ⟨congrArg (fun z => Ending.returned (.bool z)) ht.out.symm, XV.out.2⟩
      · have ht : Aside (r = false) := by show r = false; rw [rt, decide_eq_false h1]; simp
        clear rt
        go_wp2
        go_ret
        exact ⟨congrArg (fun z => Ending.returned (.bool z)) ht.out.symm, XV.out.2⟩

def numV (n : Nat) : Array Value := #[.int .i64 1, .int .u64 (n : Int), .string ⟨#[]⟩, .float .f64 0]
def numR (n : Nat) : Array Value := #[.int .i64 1, .int .u64 (n : Int), .string ⟨#[]⟩, .int .u64 0]
def txtR (s : ByteArray) : Array Value := #[.int .i64 2, .int .u64 0, .string s, .int .u64 0]
theorem load_four {P : Program} {w : World} {b : Nat} {t : TypeId} {v0 v1 v2 v3 : Value} (h : w.heap[b]? = some (.cells #[v0, v1, v2, v3] t (0, 0))) : Sem.run P (loadCellsFrom ⟨b, 0, none⟩ 0 4 #[]) w = .ok #[v0, v1, v2, v3] w := by
  have := run_loadCellsFrom_list P w ⟨b, 0, none⟩ [v0, v1, v2, v3] 4 rfl (fun j v hj => by
    rw [Addr.add_lit, Nat.zero_add, cell_of_row w b j _ t _ h]; simpa using hj)
  simpa using this
theorem wpList_store4 {P : Program} {w : World} {ops : Array Oper} {rest : List Oper} {o : Oper} {a : Act} {Q : Exit → Act → World → Prop} {b T : Nat} {z0 z1 z2 z3 v0 v1 v2 v3 : Value} (zE : (Go.sizeOf T).run P w = .ok 4 w)
    (h0 : w.heap[b]? = some (.cells #[z0, z1, z2, z3] T (0, 0))) (h1 : ∀ v ∈ [v0, v1, v2, v3], v.oneCell' = true) (hg : o.guard = none) (p x : Operand) (ho : o.op = .store T p x)
    (hp : a.eval p = .pointer (some ⟨b, 0, none⟩)) (hx : a.eval x = .agg #[v0, v1, v2, v3]) (hn : wpList P ops Q rest (a.put o.dst undef) (w.setCells b 0 [v0, v1, v2, v3])) : wpList P ops Q (o :: rest) a w := by
  refine wpList_store hg T 4 p x ho zE [v0, v1, v2, v3] rfl b 0 hp hx (fun j hj => ?_) (fun j _ => frozen_of_row _ _ _ _ T h0) h1 hn
  rw [Nat.zero_add, cell_of_row _ _ j _ T _ h0]
  have hj4 : j < 4 := hj
  have : j = 0 ∨ j = 1 ∨ j = 2 ∨ j = 3 := by omega
  rcases this with rfl | rfl | rfl | rfl <;> rfl
end Ps
end Go.Proofs.Ytbacnjkookakcaa
