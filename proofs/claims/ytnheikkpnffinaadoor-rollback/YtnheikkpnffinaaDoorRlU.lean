/- The walk of RollBack, whole. -/
import Derived.Test.YtnheikkpnffinaaDoorRlS
import Derived.Test.YtnheikkpnffinaaDoorRlT
set_option linter.unusedVariables false
namespace Go.Proofs.YtnheikkpnffinaaDoor
open Go.RowKit
namespace Rl
open Cn

theorem appE_last {s : Nat} {a : Bool} {i : Nat} {v : Int} (h : ¬ v < 1000) : ¬ appE v s a i = 0 := fun h0 => h (appE_zero h0).2.1

set_option maxHeartbeats 4000000 in
set_option maxRecDepth 100000 in
theorem back_walk (v : Int) (s : Nat) (a : Option Addr) (len cap : Nat) (l : List (Bool × Nat)) (w : World) (hs : s < 65536) (h : IsChs w a len l) :
    Calls Tryd.prog 6 #[rollV v s, .slice a len cap] w fun e w' => e = .returned (.bool true) ∧ Below w.heap.size w w' := by
  obtain ⟨rfl, hA, h8⟩ := h
  have C9 : Aside (∀ W, _) := alive_any
  have X : Aside (Below w.heap.size w (w.alloc (.cells #[.int .i64 v, .int .u16 (s : Int)] 25))) := below_one w _
  by_cases hsz : (100 : Int) < (l.length : Int)
  · generalize l.length = n at hsz ⊢
    unfold rollV
    go_enter Tryd.func6, Tryd.ntmps6
    go_wp2_with (go_at_call 9; refine (C9.out _).mono ?_; rintro e w1 ⟨rfl, hb1⟩; have B1 : Aside (Below w.heap.size w w1) := below_step X.out hb1; clear hb1)
    go_ret
    exact ⟨rfl, B1.out⟩
  · by_cases hz : l.length = 0
    · rw [hz]
      unfold rollV
      go_enter Tryd.func6, Tryd.ntmps6
      go_wp2_with (go_at_call 9; refine (C9.out _).mono ?_; rintro e w1 ⟨rfl, hb1⟩; have B1 : Aside (Below w.heap.size w w1) := below_step X.out hb1; clear hb1)
      go_ret
      exact ⟨rfl, B1.out⟩
    · have hn : l.length ≤ 100 := by omega
      obtain ⟨bb, hbb⟩ : ∃ bb, l[0]? = some bb := ⟨_, List.getElem?_eq_getElem (by omega)⟩
      obtain ⟨ca, ci⟩ := bb
      have hci : ci < 256 := h8 _ (List.mem_of_getElem? hbb)
      obtain ⟨gb, of, ha, o0, o1⟩ := hA.cell (k := 0) (x := .bool ca) (y := .int .u8 (ci : Int)) (by rw [List.getElem?_map, hbb]; rfl)
      have p0 : w.cell? ⟨gb, of, none⟩ = some (.bool ca) := by simpa using o0
      have p1 : w.cell? ⟨gb, of + 1, none⟩ = some (.int .u8 (ci : Int)) := by simpa using o1
      have C12 : Aside (∀ W, Calls Tryd.prog 12 #[.agg #[.int .i64 v, .int .u16 (s : Int)]] W fun e w' => e = .returned (.bool (rightB v s)) ∧ Below W.heap.size W w') := fun W => right_any v s W
      have C19 : Aside (∀ W, Below w.heap.size w W → Calls Tryd.prog 19 #[.slice a l.length cap] W (Made W (l.map chP))) := fun W hb => changes_any a cap l W (hA.later hb) hn
      have C18 : Aside (∀ W g c, At2 W g (l.map chP) → Calls Tryd.prog 18 #[.agg #[.int .i64 v, .int .u16 (s : Int)], .slice g l.length c] W (Made W ((pathR v s l).map roP))) := fun W g c hg => path_any v s g c l W hs hg h8 hn
      have hml : ((pathR v s l).map roP).length = (pathR v s l).length := List.length_map _
      have hcl : (l.map chP).length = l.length := List.length_map _
      unfold Made at C19 C18
      rw [hml] at C18
      rw [hcl] at C19
      have ST : Aside (Steps (pathR v s l) (pathR v s l).length) := steps_of v s l hs
      have hpl := pathR_len v s l
      have hzb : (decide ((pathR v s l).length = 0) == !(rightB v s)) = true := by
        unfold pathR
        cases rightB v s <;> simp
      have n1 : ((l.length : Int) == 0) = false := by rw [beq_eq_false_iff_ne]; omega
      have n2 : wrap64 ((l.length : Int) + 1) = (l.length : Int) + 1 := IntWalk.wrap64_in _ ⟨by omega, by omega⟩
      have n3 : (((pathR v s l).length : Int) == 0) = decide ((pathR v s l).length = 0) := by
        by_cases h0 : (pathR v s l).length = 0
        · rw [decide_eq_true h0, h0]; rfl
        · rw [decide_eq_false h0, beq_eq_false_iff_ne]; omega
      have n4 : ((pathR v s l).length : Int) ≤ (l.length : Int) + 1 := by omega
      have n5 : (pathR v s l).length ≤ 101 := by omega
      have n6 : (0 : Int) < (l.length : Int) := by omega
      have CA : Aside (∀ W, _) := fun W => apply_any v s ca ci W hs
      by_cases he : appE v s ca ci = 0
      · have E1 : appV v s ca ci = v + 1 := by unfold appV; rw [if_pos he]
        have E2 : appS v s ca ci = chS s ca ci := by unfold appS; rw [if_pos he]
        rw [E1, E2, he] at CA
        obtain ⟨k0, k1, hi, hh, hc, hs0⟩ := appE_zero he
        have CB : Aside (∀ W, _) := fun W => apply_any (v + 1) (chS s ca ci) (!ca) ci W (chS_small _ _ hs)
        by_cases hv : v < 999
        · have hb := ch_back hi hh
          have he2 : appE (v + 1) (chS s ca ci) (!ca) ci = 0 := appE_ok (by omega) (by omega) hi (by rw [ch_has hi]; cases ca <;> rfl) (by rw [hb]; exact hs0) hc
          have E3 : appV (v + 1) (chS s ca ci) (!ca) ci = v + 2 := by unfold appV; rw [if_pos he2]; omega
          have E4 : appS (v + 1) (chS s ca ci) (!ca) ci = s := by unfold appS; rw [if_pos he2, hb]
          rw [E3, E4, he2] at CB
          exact back2 v s a l.length cap _ (l.map chP) (pathR v s l) ca (rightB v s) _ ci w (v + 1) (chS s ca ci) gb of (IntWalk.wrap64_in _ ⟨by omega, by omega⟩) CB ha hsz n1 hz n6 n2 n3 hzb n4 n5 p0 p1 CA C12 C19 C18 ST
        · have he2 : ¬ appE (v + 1) (chS s ca ci) (!ca) ci = 0 := appE_last (by omega)
          exact back3 v s a l.length cap _ (l.map chP) (pathR v s l) ca (rightB v s) _ ci w (v + 1) (chS s ca ci) gb of _ _ _ (by rw [beq_eq_false_iff_ne]; omega) (by rw [bne_iff_ne]; omega) hv CB ha hsz n1 hz n6 n2 n3 hzb n4 n5 p0 p1 CA C12 C19 C18 ST
      · exact back1 v s a l.length cap _ (l.map chP) (pathR v s l) ca (rightB v s) _ ci w _ _ gb of _ (by rw [beq_eq_false_iff_ne]; omega) ha hsz n1 hz n6 n2 n3 hzb n4 n5 p0 p1 CA C12 C19 C18 ST
end Rl
end Go.Proofs.YtnheikkpnffinaaDoor
