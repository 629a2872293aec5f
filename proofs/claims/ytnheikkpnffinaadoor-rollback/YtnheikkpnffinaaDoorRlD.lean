/- The texts of changes: what Text gives, the program's and the document's own. -/
import Derived.Test.YtnheikkpnffinaaDoorRlC
import Derived.Test.YtnheikkpnffinaaDoorLays
import Derived.Lib.AppendIntMem
set_option linter.unusedVariables false
namespace Go.Proofs.YtnheikkpnffinaaDoor
open Go.RowKit
namespace Rl
open Cn

/-- The table that the library reads where a number has three digits or more. -/
def pow : String := Rows.rollTextsRow.named.headD (String.join [])
def Tab (w : World) : Prop := Lib.TabIs Tryd.prog w pow .u64 Lib.pow10Tab
theorem itoa_nat (i : Nat) : Lib.itoa (i : Int) = Lib.decDigits i := by
  unfold Lib.itoa
  rw [if_neg (by omega), Int.toNat_natCast]
/-- The digits of a number below a thousand. -/
def dg (i : Nat) : List UInt8 := if i < 10 then [UInt8.ofNat (48 + i)] else if i < 100 then [UInt8.ofNat (48 + i / 10), UInt8.ofNat (48 + i % 10)] else [UInt8.ofNat (48 + i / 10 / 10), UInt8.ofNat (48 + i / 10 % 10), UInt8.ofNat (48 + i % 10)]
theorem digits {i : Nat} (h : i < 256) : Lib.decDigits i = dg i := by
  unfold dg
  rw [Lib.decDigits]
  split
  · rfl
  · rw [Lib.decDigits]
    split
    · rw [if_pos (by omega)]; rfl
    · rw [Lib.decDigits, dif_pos (by omega), if_neg (by omega)]; rfl
theorem dg_len (i : Nat) : (dg i).length ≤ 3 := by unfold dg; split; · simp
                                                   split <;> simp

theorem itoa_any (i : Nat) (w : World) (h8 : i < 256) (h : i < 100 ∨ Tab w) :
    Calls Tryd.prog 27 #[.int .i64 (i : Int)] w fun e w' => e = .returned (.string ⟨(dg i).toArray⟩) ∧ Below w.heap.size w w' := by
  rcases h with h | h
  · refine (Any.strconv_Itoa_small lay27s i h w).mono ?_
    rintro e w' ⟨rfl, rfl⟩
    rw [digits h8]
    exact ⟨rfl, Below.refl _ _⟩
  · refine (Any.strconv_Itoa lay27 (i : Int) (by omega) (by omega) w h).mono ?_
    rintro e w' ⟨rfl, k, os, rfl⟩
    rw [itoa_nat, digits h8]
    exact ⟨rfl, Lib.below_grow _ _ (Nat.le_refl _) _ _⟩

/-- The text of a change. -/
def txtL (a : Bool) (i : Nat) : List UInt8 := (if a then 43 else 45) :: dg i
def txt (a : Bool) (i : Nat) : ByteArray := ⟨(txtL a i).toArray⟩
theorem cat_one (x : UInt8) (l : List UInt8) : (⟨#[x]⟩ : ByteArray) ++ (⟨l.toArray⟩ : ByteArray) = ⟨(x :: l).toArray⟩ := by
  apply ByteArray.ext
  simp
theorem txt_inj0 : ∀ (i : Fin 256) (j : Fin 16) (a b : Bool), txtL a i.val = txtL b j.val → a = b ∧ i.val = j.val := by decide +kernel
theorem txt_inj {a b : Bool} {i j : Nat} (h8 : i < 256) (hj : j < 16) (h : txt a i = txt b j) : a = b ∧ i = j := by
  unfold txt at h
  have h1 : (txtL a i).toArray = (txtL b j).toArray := congrArg ByteArray.data h
  exact txt_inj0 ⟨i, h8⟩ ⟨j, hj⟩ a b (by simpa using h1)


set_option maxHeartbeats 2000000 in
set_option maxRecDepth 100000 in
/-- What Text gives. -/
theorem text_any (a : Bool) (i : Nat) (w : World) (h8 : i < 256) (h : i < 100 ∨ Tab w) :
    Calls Tryd.prog 16 #[chV a i] w fun e w' => e = .returned (.string (txt a i)) ∧ Below w.heap.size w w' := by
  obtain ⟨V, hV⟩ : ∃ V, V = w.alloc (.cells #[.bool a, .int .u8 (i : Int)] 33) := ⟨_, rfl⟩
  have X : Aside (P2 V w.heap.size 33 (.bool a) (.int .u8 (i : Int)) ∧ Below w.heap.size w V) := by
    rw [hV]
    exact ⟨P2.new w _ _ _, below_one w _⟩
  have C : Aside (Calls Tryd.prog 27 #[.int .i64 (i : Int)] V fun e w' => e = .returned (.string ⟨(dg i).toArray⟩) ∧ Below V.heap.size V w') :=
    itoa_any i V h8 (h.imp id fun h => by rw [hV]; exact Lib.tabIs_alloc h _)
  have hw : wrap64 (i : Int) = (i : Int) := IntWalk.wrap64_in _ ⟨by omega, by omega⟩
  have hl : ¬ 9223372036854775807 < 1 + (dg i).length := by have := dg_len i; omega
  unfold chV txt txtL
  generalize dg i = l at C hl ⊢
  clear h
  cases a with
  | true =>
    have hc := cat_one 43 l
    rw [show (if true = true then (43 : UInt8) else 45) = 43 from rfl, ← hc]
    clear hc
    go_enter Tryd.func16, Tryd.ntmps16
    go_wp2_with fail
    rw [← hV]
    clear hV
    obtain ⟨c0, c1⟩ := X.out.1.cells
    go_wp2_with (go_at_call 27; refine C.out.mono ?_; rintro e w1 ⟨rfl, hb1⟩; have Y : Aside (P2 w1 _ _ _ _ ∧ Below w.heap.size w w1) := ⟨X.out.1.later hb1, below_step X.out.2 hb1⟩; clear hb1 c0 c1; obtain ⟨c0, c1⟩ := Y.out.1.cells)
    go_ret
    exact ⟨rfl, Y.out.2⟩
  | false =>
    have hc := cat_one 45 l
    rw [show (if false = true then (43 : UInt8) else 45) = 45 from rfl, ← hc]
    clear hc
    go_enter Tryd.func16, Tryd.ntmps16
    go_wp2_with fail
    rw [← hV]
    clear hV
    obtain ⟨c0, c1⟩ := X.out.1.cells
    go_wp2_with (go_at_call 27; refine C.out.mono ?_; rintro e w1 ⟨rfl, hb1⟩; have Y : Aside (P2 w1 _ _ _ _ ∧ Below w.heap.size w w1) := ⟨X.out.1.later hb1, below_step X.out.2 hb1⟩; clear hb1 c0 c1; obtain ⟨c0, c1⟩ := Y.out.1.cells)
    go_ret
    exact ⟨rfl, Y.out.2⟩


set_option maxHeartbeats 2000000 in
set_option maxRecDepth 100000 in
/-- What the document's Text gives. -/
theorem rtext_any (a : Bool) (i : Nat) (w : World) (h8 : i < 256) (h : i < 100 ∨ Tab w) :
    Calls Tryd.prog 17 #[chV a i] w fun e w' => e = .returned (.string (txt a i)) ∧ Below w.heap.size w w' := by
  obtain ⟨V, hV⟩ : ∃ V, V = w.alloc (.cells #[.bool a, .int .u8 (i : Int)] 27) := ⟨_, rfl⟩
  have X : Aside (P2 V w.heap.size 27 (.bool a) (.int .u8 (i : Int)) ∧ Below w.heap.size w V) := by
    rw [hV]
    exact ⟨P2.new w _ _ _, below_one w _⟩
  have C : Aside (Calls Tryd.prog 27 #[.int .i64 (i : Int)] V fun e w' => e = .returned (.string ⟨(dg i).toArray⟩) ∧ Below V.heap.size V w') :=
    itoa_any i V h8 (h.imp id fun h => by rw [hV]; exact Lib.tabIs_alloc h _)
  have hw : wrap64 (i : Int) = (i : Int) := IntWalk.wrap64_in _ ⟨by omega, by omega⟩
  have hl : ¬ 9223372036854775807 < 1 + (dg i).length := by have := dg_len i; omega
  unfold chV txt txtL
  generalize dg i = l at C hl ⊢
  clear h
  cases a with
  | true =>
    have hc := cat_one 43 l
    rw [show (if true = true then (43 : UInt8) else 45) = 43 from rfl, ← hc]
    clear hc
    go_enter Tryd.func17, Tryd.ntmps17
    go_wp2_with fail
    rw [← hV]
    clear hV
    obtain ⟨c0, c1⟩ := X.out.1.cells
    go_wp2_with (go_at_call 27; refine C.out.mono ?_; rintro e w1 ⟨rfl, hb1⟩; have Y : Aside (P2 w1 _ _ _ _ ∧ Below w.heap.size w w1) := ⟨X.out.1.later hb1, below_step X.out.2 hb1⟩; clear hb1 c0 c1; obtain ⟨c0, c1⟩ := Y.out.1.cells)
    go_ret
    exact ⟨rfl, Y.out.2⟩
  | false =>
    have hc := cat_one 45 l
    rw [show (if false = true then (43 : UInt8) else 45) = 45 from rfl, ← hc]
    clear hc
    go_enter Tryd.func17, Tryd.ntmps17
    go_wp2_with fail
    rw [← hV]
    clear hV
    obtain ⟨c0, c1⟩ := X.out.1.cells
    go_wp2_with (go_at_call 27; refine C.out.mono ?_; rintro e w1 ⟨rfl, hb1⟩; have Y : Aside (P2 w1 _ _ _ _ ∧ Below w.heap.size w w1) := ⟨X.out.1.later hb1, below_step X.out.2 hb1⟩; clear hb1 c0 c1; obtain ⟨c0, c1⟩ := Y.out.1.cells)
    go_ret
    exact ⟨rfl, Y.out.2⟩

end Rl
end Go.Proofs.YtnheikkpnffinaaDoor
