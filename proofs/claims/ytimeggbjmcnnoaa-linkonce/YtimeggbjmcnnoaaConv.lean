/- What the document's own Check gives, and what the two ways to a nonce and to a constant give. -/
import Derived.Test.YtimeggbjmcnnoaaRefC
import Derived.Laws.Concat
import Derived.Laws.BytesArg
namespace Go.Proofs.Ytimeggbjmcnnoaa
open Go.RowKit

set_option maxHeartbeats 2000000 in
theorem rcheck_any (s : ByteArray) (w : World) :
    Calls Try.prog 23 #[.string s] w fun e w' => e = .returned (.int .i64 (Tm.chk s.data.toList : Nat)) ∧ Below w.heap.size w w' := by
  have hl : s.data.toList.length = s.size := by simp
  by_cases h : 2000 < s.size
  · have e : Tm.chk s.data.toList = 3 := by unfold Tm.chk; rw [if_pos (by omega)]
    rw [e]
    have t1 : (2000 : Int) < (s.size : Int) := by omega
    clear hl e
    go_enter Try.func23, Try.ntmps23
    go_wp2
    go_ret
    exact ⟨rfl, Below.refl _ _⟩
  · have hE := end_any s 0 w (Nat.zero_le _) (by omega)
    rw [List.drop_zero] at hE
    have t1 : ¬ (2000 : Int) < (s.size : Int) := by omega
    rcases ht : Tm.tree s.data.toList with _ | t
    · have e : Tm.chk s.data.toList = 4 := by unfold Tm.chk; rw [if_neg (by omega), ht]
      have t2 : ((endI s.data.toList 0) != (s.size : Int)) = true := by
        have : ¬ endI s.data.toList 0 = (s.size : Int) := by
          unfold endI
          rcases hf : Tm.first s.data.toList with _ | u
          · simp only; omega
          · simp only
            rw [Tm.tree_of_first hf] at ht
            intro e2
            rw [if_pos (by omega)] at ht
            cases ht
        simpa using this
      rw [e]
      generalize endI s.data.toList 0 = z at *
      clear hl e ht
      go_enter Try.func23, Try.ntmps23
      go_wp2_with fail
      refine hE.mono ?_
      rintro e w1 ⟨rfl, hw⟩
      replace hw := hw.symm; subst hw
      go_wp2
      go_ret
      exact ⟨rfl, Below.refl _ _⟩
    · have hD := depth_any s t w (by omega) ht
      obtain ⟨hwf, htx⟩ := Tm.tree_some.1 ht
      have t2 : endI s.data.toList 0 = (s.size : Int) := by
        unfold endI
        rw [Tm.first_some.2 ⟨hwf, [], by rw [htx, List.append_nil]⟩]
        simp only
        rw [htx, hl, Nat.zero_add]
      rw [t2] at hE
      have e : Tm.chk s.data.toList = if 60 < Tm.depth t then 3 else 0 := by unfold Tm.chk; rw [if_neg (by omega), ht]
      rw [e]
      generalize Tm.depth t = d at *
      by_cases h6 : 60 < d
      · rw [if_pos h6]
        have t3 : (60 : Int) < (d : Int) := by omega
        clear hl e ht hwf htx t2
        go_enter Try.func23, Try.ntmps23
        go_wp2_with fail
        refine hE.mono ?_
        rintro e w1 ⟨rfl, hw⟩
        replace hw := hw.symm; subst hw
        go_wp2_with fail
        refine hD.mono ?_
        rintro e w1 ⟨rfl, hb⟩
        go_wp2
        go_ret
        exact ⟨rfl, hb⟩
      · rw [if_neg h6]
        have t3 : ¬ (60 : Int) < (d : Int) := by omega
        clear hl e ht hwf htx t2
        go_enter Try.func23, Try.ntmps23
        go_wp2_with fail
        refine hE.mono ?_
        rintro e w1 ⟨rfl, hw⟩
        replace hw := hw.symm; subst hw
        go_wp2_with fail
        refine hD.mono ?_
        rintro e w1 ⟨rfl, hb⟩
        go_wp2
        go_ret
        exact ⟨rfl, hb⟩

/-- Bytes lie behind an address. -/
def AtB (w : World) (a : Option Addr) (bs : List UInt8) : Prop :=
  bs = [] ∨ ∃ b off, a = some ⟨b, off, none⟩ ∧ ∀ j (h : j < bs.length), w.cell? ⟨b, off + j, none⟩ = some (.int .u8 (bs[j].toNat : Int))

theorem strOf_bytes (bs : List UInt8) : strOfNums (bs.map fun b => (b.toNat : Int)) = ⟨bs.toArray⟩ := by
  unfold strOfNums
  congr 2
  rw [List.map_map]
  conv => rhs; rw [← List.map_id bs]
  apply List.map_congr_left
  intro b _
  simp

theorem conv_bytes (w : World) (a : Option Addr) (bs : List UInt8) (cap : Nat) (h : AtB w a bs) :
    (convert 24 22 (.slice a bs.length cap)).run Try.prog w = .ok (str bs) w := by
  unfold str
  rcases h with rfl | ⟨b, off, rfl, hc⟩
  · rw [run_convert_bytes_string w 24 22 5 _ _ cap Try.underlying24 Try.underlying5 Try.underlying22]
    cases a with
    | none => simp [Conv.bytesToString]; rfl
    | some ad =>
      have hl : (loadCells ad 0).run Try.prog w = .ok (([] : List Int).map (Value.int .u8)).toArray w := by simpa using run_loadCells_list (P := Try.prog) w ad [] (by simp)
      exact run_bytesToString w ad 0 cap [] hl
  · rw [run_convert_bytes_arg w 24 5 Try.underlying24 Try.underlying5 b off bs.length cap (bs.map fun b => (b.toNat : Int)) (by simp) (fun i hi => by rw [hc i hi]; simp [hi]) 22 Try.underlying22, strOf_bytes]

theorem at_lit (w : World) (bs : List UInt8) (cs : Array Value) (h : cs.toList = bs.map fun b => Value.int .u8 (b.toNat : Int)) : AtB (w.alloc (.cells cs 5)) (some ⟨w.heap.size, 0, none⟩) bs := by
  refine .inr ⟨w.heap.size, 0, rfl, fun j hj => ?_⟩
  rw [Nat.zero_add, World.cell?_alloc_at _ _ _ _ rfl, ← Array.getElem?_toList, h]
  simp [hj]

theorem nonce_conv (n : Nat) (w : World) (hn : n < 65536) : (convert 24 22 (.slice (some ⟨w.heap.size, 0, none⟩) 3 3)).run Try.prog (w.alloc (.cells #[.int .u8 110, .int .u8 ((n : Int) / 256), .int .u8 ((n : Int) % 256)] 5)) = .ok (str (Tm.nonce n)) (w.alloc (.cells #[.int .u8 110, .int .u8 ((n : Int) / 256), .int .u8 ((n : Int) % 256)] 5)) := by
  refine conv_bytes _ _ (Tm.nonce n) 3 (at_lit w _ _ ?_)
  simp [Tm.nonce]
  omega

theorem const_conv (s : ByteArray) (w : World) (hs : s.size ≤ 40) : ∃ x : ByteArray, x.size = 2 ∧ (convert 24 22 (.slice (some ⟨w.heap.size, 0, none⟩) 2 2)).run Try.prog (w.alloc (.cells #[.int .u8 99, .int .u8 (s.size : Int)] 5)) = .ok (.string x) (w.alloc (.cells #[.int .u8 99, .int .u8 (s.size : Int)] 5)) ∧ .string (x ++ s) = str (Tm.const s.data.toList) := by
  have hl : s.data.toList.length = s.size := by simp
  refine ⟨⟨[99, UInt8.ofNat s.size].toArray⟩, rfl, ?_, ?_⟩
  · refine conv_bytes _ _ [99, UInt8.ofNat s.size] 2 (at_lit w _ _ ?_)
    simp
    omega
  · unfold str Tm.const
    rw [if_neg (by omega), hl]
    congr 1

set_option maxHeartbeats 1000000 in
theorem nonce_any (n : Nat) (w : World) (hn : n < 65536) :
    Calls Try.prog 22 #[.int .u16 (n : Int)] w fun e w' => e = .returned (str (Tm.nonce n)) ∧ Below w.heap.size w w' := by
  have hcv := nonce_conv n w hn
  have hb : Aside (Below w.heap.size w (w.alloc (.cells #[.int .u8 110, .int .u8 ((n : Int) / 256), .int .u8 ((n : Int) % 256)] 5))) := (Below.refl _ w).alloc (Nat.le_refl _) _
  generalize str (Tm.nonce n) = V at *
  go_enter Try.func22, Try.ntmps22
  go_wp2
  go_ret
  exact ⟨rfl, hb.out⟩

set_option maxHeartbeats 1000000 in
theorem const_any (s : ByteArray) (w : World) :
    Calls Try.prog 45 #[.string s] w fun e w' => e = .returned (.tuple #[str (Tm.const s.data.toList), .int .i64 (Tm.constE s.data.toList : Nat)]) ∧ Below w.heap.size w w' := by
  have hl : s.data.toList.length = s.size := by simp
  by_cases h4 : 40 < s.size
  · have e1 : Tm.const s.data.toList = [] := by unfold Tm.const; rw [if_pos (by omega)]
    have e2 : Tm.constE s.data.toList = 3 := by unfold Tm.constE; rw [if_pos (by omega)]
    rw [e1, e2]
    have t1 : (40 : Int) < (s.size : Int) := by omega
    clear hl e1 e2
    go_enter Try.func45, Try.ntmps45
    go_wp2
    go_ret2
    exact ⟨rfl, Below.refl _ _⟩
  · have e2 : Tm.constE s.data.toList = 0 := by unfold Tm.constE; rw [if_neg (by omega)]
    rw [e2]
    have t1 : ¬ (40 : Int) < (s.size : Int) := by omega
    obtain ⟨x, hx, hcv, hv⟩ := const_conv s w (by omega)
    rw [← hv]
    have hb : Aside (Below w.heap.size w (w.alloc (.cells #[.int .u8 99, .int .u8 (s.size : Int)] 5))) := (Below.refl _ w).alloc (Nat.le_refl _) _
    clear hl e2 hv
    go_enter Try.func45, Try.ntmps45
    go_wp2
    go_ret2
    exact ⟨rfl, hb.out⟩

set_option maxHeartbeats 1000000 in
theorem rconst_any (s : ByteArray) (w : World) :
    Calls Try.prog 29 #[.string s] w fun e w' => e = .returned (.tuple #[str (Tm.const s.data.toList), .int .i64 (Tm.constE s.data.toList : Nat)]) ∧ Below w.heap.size w w' := by
  have hl : s.data.toList.length = s.size := by simp
  by_cases h4 : 40 < s.size
  · have e1 : Tm.const s.data.toList = [] := by unfold Tm.const; rw [if_pos (by omega)]
    have e2 : Tm.constE s.data.toList = 3 := by unfold Tm.constE; rw [if_pos (by omega)]
    rw [e1, e2]
    have t1 : (40 : Int) < (s.size : Int) := by omega
    clear hl e1 e2
    go_enter Try.func29, Try.ntmps29
    go_wp2
    go_ret2
    exact ⟨rfl, Below.refl _ _⟩
  · have e2 : Tm.constE s.data.toList = 0 := by unfold Tm.constE; rw [if_neg (by omega)]
    rw [e2]
    have t1 : ¬ (40 : Int) < (s.size : Int) := by omega
    obtain ⟨x, hx, hcv, hv⟩ := const_conv s w (by omega)
    rw [← hv]
    have hb : Aside (Below w.heap.size w (w.alloc (.cells #[.int .u8 99, .int .u8 (s.size : Int)] 5))) := (Below.refl _ w).alloc (Nat.le_refl _) _
    clear hl e2 hv
    go_enter Try.func29, Try.ntmps29
    go_wp2
    go_ret2
    exact ⟨rfl, hb.out⟩

end Go.Proofs.Ytimeggbjmcnnoaa
