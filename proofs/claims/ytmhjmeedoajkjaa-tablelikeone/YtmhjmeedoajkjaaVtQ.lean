/- Ballots compared, cases compared, casts compared; are ballots sound: contracts. -/
import Derived.Test.YtmhjmeedoajkjaaVtO
import Derived.Laws.StructEq
import Derived.BigQuiet
namespace Go.Proofs.Ytmhjmeedoajkjaa
open Go.RowKit Go.Shelf

theorem neq86 (x : ByteArray) (s : Nat) (w : World) :
    (binOp .neq 100 (.agg #[.string x, .int .u16 (s : Int)]) (.agg #[.string x, .int .u16 (s : Int)])).run Try.prog w = .ok (.bool false) w := by
  have u9 := Try.underlying9
  have a9 := Try.isAgg9
  have z9 := Try.sizeOf9
  have u26 := Try.underlying23
  have a26 := Try.isAgg23
  have z26 := Try.sizeOf23
  have hS : Try.prog.underlying 100 = some (.struct (Try.prog.fieldsOf 100)) := by kernel_rfl
  have hp : Try.prog.stoodInHeld 100 = false := by kernel_rfl
  rw [run_neq_struct, show (10000 : Nat) = 9999 + 1 from rfl, run_equalIn_agg w 9999 100 _ _ hS hp]
  simp only [Program.fieldsOf, Try.underlying100]
  go_simp
theorem guard86 (x y : Operand) (xs ys : Array Value) (w : World) : (eqGuard .neq 100 x y (.agg xs) (.agg ys)).run Try.prog w = .ok () w :=
  run_eqGuard_agg w .neq 100 x y xs ys (by kernel_rfl)
set_option maxHeartbeats 4000000 in
set_option maxRecDepth 100000 in
/-- Ballots that are alike. -/
theorem ballots_eq (a b : Option Addr) (c d : Nat) (l : Vt.Bal) (w : World) (h1 : Vt.At w a l) (h2 : Vt.At w b l) (hn : l.length ≤ 1000) :
    Calls Try.prog 42 #[.slice a l.length c, .slice b l.length d] w fun e w' => e = .returned (.bool true) ∧ Drew w w' := by
  have HA : Aside (Vt.At w a l ∧ Vt.At w b l) := ⟨h1, h2⟩
  have nq := neq86
  have gq := guard86
  clear h1 h2
  obtain ⟨n, hn'⟩ : ∃ n : Nat, n = l.length := ⟨_, rfl⟩
  rw [← hn'] at hn ⊢
  have HN : Aside (n = l.length) := hn'
  clear hn'
  go_enter Try.func42, Try.ntmps42
  go_wp2_with fail
  go_loopw [5] (fun i wr => ∃ k, k ≤ n ∧ i = .int .i64 (k : Nat) ∧ Aside (Drew w wr)) (fun i _ => n - (intOf i).toNat)
  case atStart => exact ⟨0, Nat.zero_le _, rfl, 0, rfl⟩
  case round =>
    obtain ⟨k, hk, rfl, hD⟩ := hrel
    by_cases hlt : k < n
    · have t1 : (k : Int) < (n : Int) := by omega
      have t2 : (0 : Int) ≤ (k : Int) := by omega
      obtain ⟨bb, hbb⟩ : ∃ bb, l[k]? = some bb := ⟨_, List.getElem?_eq_getElem (HN.out ▸ hlt)⟩
      obtain ⟨bx, bs⟩ := bb
      obtain ⟨g, of, rfl, o0, o1⟩ := at_cell (HA.out.1.later (drew_below hD.out)) hbb
      obtain ⟨g', of', rfl, o2, o3⟩ := at_cell (HA.out.2.later (drew_below hD.out)) hbb
      have DM : Aside (∀ q, Drew w (wr.drewN q)) := fun q => drew_more hD.out q
      clear hbb
      go_wp2_with fail
      go_quiet (fail)
      go_wp2
      go_roundw
      case rel => exact ⟨k + 1, by omega, by go_num, DM.out _⟩
      case measure => simp [intOf]; omega
    · obtain rfl : k = n := by omega
      go_wp2
      go_ret
      exact ⟨rfl, hD.out⟩

set_option maxHeartbeats 4000000 in
set_option maxRecDepth 100000 in
/-- Cases that are alike. -/
theorem same_eq (e r d : Bool) (a1 a2 b1 b2 : Option Addr) (c1 c2 d1 d2 : Nat) (l1 l2 : Vt.Bal) (w : World) (h1 : Vt.At w a1 l1) (h2 : Vt.At w a2 l2) (h3 : Vt.At w b1 l1) (h4 : Vt.At w b2 l2) (n1 : l1.length ≤ 900) (n2 : l2.length ≤ 900) :
    Calls Try.prog 23 #[.agg #[.bool e, .bool r, .bool d, .slice a1 l1.length c1, .slice a2 l2.length c2], .agg #[.bool e, .bool r, .bool d, .slice b1 l1.length d1, .slice b2 l2.length d2]] w fun z w' => z = .returned (.bool true) ∧ Below w.heap.size w w' := by
  have B0 : Aside (∀ o o', Below w.heap.size w ((w.alloc o).alloc o')) := fun o o' => ((Below.refl _ w).alloc (Nat.le_refl _) o).alloc (by simp) o'
  have K1 : Aside (∀ W, Below w.heap.size w W → Calls Try.prog 42 #[.slice a1 l1.length c1, .slice b1 l1.length d1] W fun e w' => e = .returned (.bool true) ∧ Drew W w') := fun W hb => ballots_eq a1 b1 c1 d1 l1 W (h1.later hb) (h3.later hb) (by omega)
  have K2 : Aside (∀ W, Below w.heap.size w W → Calls Try.prog 42 #[.slice a2 l2.length c2, .slice b2 l2.length d2] W fun e w' => e = .returned (.bool true) ∧ Drew W w') := fun W hb => ballots_eq a2 b2 c2 d2 l2 W (h2.later hb) (h4.later hb) (by omega)
  clear h1 h2 h3 h4 n1 n2
  generalize l1.length = m1 at *
  generalize l2.length = m2 at *
  go_enter Try.func23, Try.ntmps23
  go_wp2_with fail
  refine (K1.out _ (B0.out _ _)).mono ?_
  rintro z w1 ⟨rfl, hd⟩
  obtain ⟨q, rfl⟩ := hd
  have B1 : Aside (∀ o o', Below w.heap.size w (((w.alloc o).alloc o').drewN q)) := fun o o' => below_drew (B0.out o o') q
  clear K1
  have CL : ∀ (W : World) (a : Addr), (W.drewN q).cell? a = W.cell? a := fun _ _ => rfl
  go_wp2_with fail
  refine (K2.out _ (B1.out _ _)).mono ?_
  rintro z w2 ⟨rfl, hd⟩
  obtain ⟨q2, rfl⟩ := hd
  have B2 : Aside (∀ o o', Below w.heap.size w (((w.alloc o).alloc o').drewN (q + q2))) := fun o o' => below_drew (B0.out o o') (q + q2)
  clear K2 B1
  go_wp2
  go_ret
  exact ⟨rfl, B2.out _ _⟩

namespace Vt
/-- All members vote once at most, and each body stands once. -/
def SoundP (l : Bal) : Prop := ∀ (i k : Nat) (x y : ByteArray) (s t : Nat), k < i → l[i]? = some (x, s) → l[k]? = some (y, t) → x ≠ y ∧ s &&& t = 0
end Vt
def SoundPost (l : Vt.Bal) (w : World) (e : Ending) (w' : World) : Prop := ∃ b, e = .returned (.bool b) ∧ (Vt.SoundP l → b = true) ∧ Drew w w'

set_option maxHeartbeats 4000000 in
set_option maxRecDepth 100000 in
theorem sound_any (a : Option Addr) (c : Nat) (l : Vt.Bal) (w : World) (h1 : Vt.At w a l) (hs : Vt.Small l) (hn : l.length ≤ 1000) :
    Calls Try.prog 44 #[.slice a l.length c] w (SoundPost l w) := by
  have HA : Aside (Vt.At w a l ∧ Vt.Small l) := ⟨h1, hs⟩
  have RT : Aside (∀ w', Drew w w' → SoundPost l w (.returned (.bool true)) w') := fun w' hd => ⟨true, rfl, fun _ => rfl, hd⟩
  have RF : Aside (∀ w', ¬ Vt.SoundP l → Drew w w' → SoundPost l w (.returned (.bool false)) w') := fun w' hq hd => ⟨false, rfl, fun h => absurd h hq, hd⟩
  generalize SoundPost l w = Q at RT RF ⊢
  clear h1 hs
  obtain ⟨n, hn'⟩ : ∃ n : Nat, n = l.length := ⟨_, rfl⟩
  rw [← hn'] at hn ⊢
  have HN : Aside (n = l.length) := hn'
  clear hn'
  go_enter Try.func44, Try.ntmps44
  go_wp2_with fail
  go_loopw [3] (fun i wr => ∃ k, k ≤ n ∧ i = .int .i64 (k : Nat) ∧ Aside (Drew w wr)) (fun i _ => n - (intOf i).toNat)
  case atStart => exact ⟨0, Nat.zero_le _, rfl, 0, rfl⟩
  case round =>
    obtain ⟨i, hi, rfl, hD⟩ := hrel
    by_cases hlt : i < n
    · have t1 : (i : Int) < (n : Int) := by omega
      have t2 : (0 : Int) ≤ (i : Int) := by omega
      obtain ⟨bb, hbb⟩ : ∃ bb, l[i]? = some bb := ⟨_, List.getElem?_eq_getElem (HN.out ▸ hlt)⟩
      obtain ⟨bx, bs⟩ := bb
      have HB : Aside (l[i]? = some (bx, bs)) := hbb
      clear hbb
      go_wp2_with fail
      refine (?_ : ∀ V, Drew w V → Code.wp _ _ _ _ V) _ hD.out
      clear hD
      intro V hV
      have HV : Aside (Drew w V) := hV
      clear hV
      go_loopw [4] (fun j wr => ∃ k, k ≤ i ∧ j = .int .i64 (k : Nat) ∧ Aside (Drew w wr)) (fun j _ => i - (intOf j).toNat)
      case atStart => exact ⟨0, Nat.zero_le _, rfl, HV.out⟩
      case round =>
        obtain ⟨k, hk, rfl, hD⟩ := hrel
        by_cases hlk : k < i
        · have s1 : (k : Int) < (i : Int) := by omega
          have s2 : (0 : Int) ≤ (k : Int) := by omega
          have s3 : (k : Int) < (n : Int) := by omega
          obtain ⟨cc, hcc⟩ : ∃ cc, l[k]? = some cc := ⟨_, List.getElem?_eq_getElem (by have := HN.out; omega)⟩
          obtain ⟨cx, ct⟩ := cc
          obtain ⟨g, of, rfl, o0, o1⟩ := at_cell (HA.out.1.later (drew_below hD.out)) HB.out
          obtain ⟨g', of', e', o2, o3⟩ := at_cell (HA.out.1.later (drew_below hD.out)) hcc
          have e2 := Option.some.inj e'
          have e3 : g = g' := congrArg Addr.block e2
          have e4 : of = of' := congrArg Addr.off e2
          subst e3 e4
          clear e' e2
          have DM : Aside (∀ q, Drew w (wr.drewN q)) := fun q => drew_more hD.out q
          have hu := u16_and_nat bs ct (HA.out.2 _ (List.mem_of_getElem? HB.out)) (HA.out.2 _ (List.mem_of_getElem? hcc))
          have eb := eq_arr bx cx
          have SP : Aside (Vt.SoundP l → bx ≠ cx ∧ bs &&& ct = 0) := fun h => h i k bx cx bs ct hlk HB.out hcc
          clear hcc
          by_cases hx : bx = cx
          · rw [decide_eq_true hx] at eb
            have Q1 : Aside (∀ q, Q (.returned (.bool false)) (wr.drewN q)) := fun q => RF.out _ (fun h => (SP.out h).1 hx) (DM.out q)
            clear SP RF RT hx hu
            go_wp2_with fail
            go_quiet (fail)
            go_wp2
            exact Q1.out _
          · rw [decide_eq_false hx] at eb
            by_cases hz : bs &&& ct = 0
            · rw [hz] at hu
              clear hz hx SP
              go_wp2_with fail
              go_quiet (fail)
              go_wp2
              go_roundw
              case rel => exact ⟨k + 1, by omega, by go_num, DM.out _⟩
              case measure => simp [intOf]; omega
            · have Q1 : Aside (∀ q, Q (.returned (.bool false)) (wr.drewN q)) := fun q => RF.out _ (fun h => hz (SP.out h).2) (DM.out q)
              have hz' : (((bs &&& ct : Nat) : Int) != 0) = true := by
                have : ¬ ((bs &&& ct : Nat) : Int) = 0 := by omega
                simpa using this
              generalize ((bs &&& ct : Nat) : Int) = an at hu hz'
              clear SP RF RT hx hz
              go_wp2_with fail
              go_quiet (fail)
              go_wp2
              exact Q1.out _
        · obtain rfl : k = i := by omega
          go_wp2
          go_roundw
          case rel => exact ⟨k + 1, by omega, by go_num, hD.out⟩
          case measure => simp [intOf]; omega
    · obtain rfl : i = n := by omega
      have Q1 := RT.out _ hD.out
      clear RT RF
      go_wp2
      exact Q1
end Go.Proofs.Ytmhjmeedoajkjaa
