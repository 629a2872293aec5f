/- The closure that recovers what a reader gave up with, in both modes of the frame below. -/
import Derived.Test.YtimeggbjmcnnoaaRdC
import Derived.Recover
import Derived.Defers
namespace Go.Proofs.Ytimeggbjmcnnoaa
open Go.RowKit

theorem slots37 (a x y : Value) : #[a] ++ ((Array.replicate 16 undef).setIfInBounds 3 x).setIfInBounds 0 y = #[a, y, undef, undef, x, undef, undef, undef, undef, undef, undef, undef, undef, undef, undef, undef, undef] := rfl

theorem assert64 (v : Value) (W : World) : (Instr.typeAssert (.iface 97 v) 20 97 true).run Try.prog W = .ok (.tuple #[v, .bool true]) W := by kernel_rfl

set_option maxHeartbeats 1000000 in
theorem catch_panicking (p : Addr) (x : Value) (n : Int) (older : List PanicEntry) (w : World) (hp : w.cell? p = some x) (hz : w.frozen? p = false) :
    CallsD Try.prog 52 #[.pointer (some p)] (.panicking ({ v := .iface 97 (.agg #[.int .i64 n]), recovered := false } :: older)) w fun e u' w' =>
      e = .returned (.tuple #[]) ∧ u' = .panicking ({ v := .iface 97 (.agg #[.int .i64 n]), recovered := true } :: older) ∧ w' = (w.alloc (.cells #[.int .i64 n] 97)).setCell p (.int .i64 n) := by
  have hlt := World.block_lt_of_cell? w _ hp
  have hp2 : (w.alloc (.cells #[.int .i64 n] 97)).cell? p = some x := by rw [World.cell?_alloc_old _ _ _ (by omega)]; exact hp
  have hz2 : (w.alloc (.cells #[.int .i64 n] 97)).frozen? p = false := by rw [World.frozen?_alloc_old _ _ _ (by omega)]; exact hz
  refine callsD_of_wpS Try.func52 rfl fun c₀ cs hu => ?_
  apply wpS_seq
  apply wpS_region
  simp [wpOpsS, go_sem, recoverD, hu, Try.ntmps52, Exit.thenS]
  refine wpS_of_wp ?_
  rw [slots37]
  clear hu
  generalize hQ : (fun (e : Exit) (a' : Act) (w' : World) => bodyPostS Try.prog Try.f52 c₀ cs _ e a' _ w') = Q
  have G : Aside (∀ tm, Q .normal { tmps := tm, defers := [] } ((w.alloc (.cells #[.int .i64 n] 97)).setCell p (.int .i64 n))) := by
    intro tm
    rw [← hQ]
    exact ⟨rfl, _, rfl, _, results_none rfl _ _ _, rfl, rfl, rfl⟩
  clear hQ hp hz
  have hA := fun v W => assert64 v W
  go_wp2
  exact G.out _

set_option maxHeartbeats 1000000 in
theorem catch_idle (p : Addr) (w : World) :
    CallsD Try.prog 52 #[.pointer (some p)] .returning w fun e u' w' => e = .returned (.tuple #[]) ∧ u' = .returning ∧ w' = w := by
  refine callsD_of_wpS Try.func52 rfl fun c₀ cs hu => ?_
  apply wpS_seq
  apply wpS_region
  simp [wpOpsS, go_sem, recoverD, hu, Try.ntmps52, Exit.thenS]
  refine wpS_of_wp ?_
  rw [slots37]
  generalize hQ : (fun (e : Exit) (a' : Act) (w' : World) => bodyPostS Try.prog Try.f52 c₀ cs _ e a' _ w') = Q
  have G : Aside (∀ tm, Q .ret { tmps := tm, defers := [] } w) := by
    intro tm
    rw [← hQ]
    refine ⟨rfl, .returning, ?_, _, results_none rfl _ _ _, rfl, rfl, rfl⟩
    cases c₀
    simp_all
  clear hQ hu
  go_wp2
  exact G.out _

end Go.Proofs.Ytimeggbjmcnnoaa
