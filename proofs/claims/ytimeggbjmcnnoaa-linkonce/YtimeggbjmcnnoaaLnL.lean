/- Ends and letters compared; alive: true, whatever the world. -/
import Derived.Test.YtimeggbjmcnnoaaLnK
import Derived.Laws.StructEq
namespace Go.Proofs.Ytimeggbjmcnnoaa
open Go.RowKit

/-- Are two ends the same? -/
def eqE (s s' : ByteArray) (n n' t t' c c' : Int) : Bool := decide (s = s') && decide (n = n') && decide (t = t') && decide (c = c')
theorem eqE_refl (s : ByteArray) (n t c : Int) : eqE s s n n t t c c = true := by simp [eqE]

theorem eql40 (s s' : ByteArray) (n n' t t' c c' : Int) (w : World) :
    (binOp .eql 40 (.agg #[.string s, .int .u32 n, .int .u32 t, .int .u64 c]) (.agg #[.string s', .int .u32 n', .int .u32 t', .int .u64 c'])).run Try.prog w = .ok (.bool (eqE s s' n n' t t' c c')) w := by
  have u22 := Try.underlying22
  have a22 := Try.isAgg22
  have z22 := Try.sizeOf22
  have u23 := Try.underlying23
  have a23 := Try.isAgg23
  have z23 := Try.sizeOf23
  have u38 := Try.underlying38
  have a38 := Try.isAgg38
  have z38 := Try.sizeOf38
  have hS : Try.prog.underlying 40 = some (.struct (Try.prog.fieldsOf 40)) := by kernel_rfl
  have hp : Try.prog.stoodInHeld 40 = false := by kernel_rfl
  have hs : (s.toList == s'.toList) = decide (s = s') := by
    rw [ByteArray.toList_eq, ByteArray.toList_eq]
    by_cases h : s = s'
    · subst h; simp
    · rw [decide_eq_false h]
      have : ¬ s.data.toList = s'.data.toList := fun e => h (by cases s; cases s'; simp at e; rw [e])
      simpa using this
  unfold eqE
  rw [run_eql_struct, show (10000 : Nat) = 9999 + 1 from rfl, run_equalIn_agg w 9999 40 _ _ hS hp]
  simp only [Program.fieldsOf, Try.underlying40]
  go_simp
  by_cases h1 : s = s'
  · by_cases h2 : n = n'
    · by_cases h3 : t = t'
      · by_cases h4 : c = c'
        · simp [h1, h2, h3, h4]
        · simp [h1, h2, h3, h4]
      · simp [h1, h2, h3]
    · simp [h1, h2]
  · simp [h1]
theorem eql40_guard (x y : Operand) (xs ys : Array Value) (w : World) : (eqGuard .eql 40 x y (.agg xs) (.agg ys)).run Try.prog w = .ok () w :=
  run_eqGuard_agg w .eql 40 x y xs ys (by kernel_rfl)

theorem eql41 (s s' : ByteArray) (n n' t t' c c' : Int) (w : World) :
    (binOp .eql 41 (.agg #[.string s, .int .u32 n, .int .u32 t, .int .u64 c]) (.agg #[.string s', .int .u32 n', .int .u32 t', .int .u64 c'])).run Try.prog w = .ok (.bool (eqE s s' n n' t t' c c')) w := by
  have u22 := Try.underlying22
  have a22 := Try.isAgg22
  have z22 := Try.sizeOf22
  have u23 := Try.underlying23
  have a23 := Try.isAgg23
  have z23 := Try.sizeOf23
  have u38 := Try.underlying38
  have a38 := Try.isAgg38
  have z38 := Try.sizeOf38
  have hS : Try.prog.underlying 41 = some (.struct (Try.prog.fieldsOf 41)) := by kernel_rfl
  have hp : Try.prog.stoodInHeld 41 = false := by kernel_rfl
  have hs : (s.toList == s'.toList) = decide (s = s') := by
    rw [ByteArray.toList_eq, ByteArray.toList_eq]
    by_cases h : s = s'
    · subst h; simp
    · rw [decide_eq_false h]
      have : ¬ s.data.toList = s'.data.toList := fun e => h (by cases s; cases s'; simp at e; rw [e])
      simpa using this
  unfold eqE
  rw [run_eql_struct, show (10000 : Nat) = 9999 + 1 from rfl, run_equalIn_agg w 9999 41 _ _ hS hp]
  simp only [Program.fieldsOf, Try.underlying41]
  go_simp
  by_cases h1 : s = s'
  · by_cases h2 : n = n'
    · by_cases h3 : t = t'
      · by_cases h4 : c = c'
        · simp [h1, h2, h3, h4]
        · simp [h1, h2, h3, h4]
      · simp [h1, h2, h3]
    · simp [h1, h2]
  · simp [h1]
theorem eql41_guard (x y : Operand) (xs ys : Array Value) (w : World) : (eqGuard .eql 41 x y (.agg xs) (.agg ys)).run Try.prog w = .ok () w :=
  run_eqGuard_agg w .eql 41 x y xs ys (by kernel_rfl)

theorem neq41 (s s' : ByteArray) (n n' t t' c c' : Int) (w : World) :
    (binOp .neq 41 (.agg #[.string s, .int .u32 n, .int .u32 t, .int .u64 c]) (.agg #[.string s', .int .u32 n', .int .u32 t', .int .u64 c'])).run Try.prog w = .ok (.bool (!eqE s s' n n' t t' c c')) w := by
  have u22 := Try.underlying22
  have a22 := Try.isAgg22
  have z22 := Try.sizeOf22
  have u23 := Try.underlying23
  have a23 := Try.isAgg23
  have z23 := Try.sizeOf23
  have u38 := Try.underlying38
  have a38 := Try.isAgg38
  have z38 := Try.sizeOf38
  have hS : Try.prog.underlying 41 = some (.struct (Try.prog.fieldsOf 41)) := by kernel_rfl
  have hp : Try.prog.stoodInHeld 41 = false := by kernel_rfl
  have hs : (s.toList == s'.toList) = decide (s = s') := by
    rw [ByteArray.toList_eq, ByteArray.toList_eq]
    by_cases h : s = s'
    · subst h; simp
    · rw [decide_eq_false h]
      have : ¬ s.data.toList = s'.data.toList := fun e => h (by cases s; cases s'; simp at e; rw [e])
      simpa using this
  unfold eqE
  rw [run_neq_struct, show (10000 : Nat) = 9999 + 1 from rfl, run_equalIn_agg w 9999 41 _ _ hS hp]
  simp only [Program.fieldsOf, Try.underlying41]
  go_simp
  by_cases h1 : s = s'
  · by_cases h2 : n = n'
    · by_cases h3 : t = t'
      · by_cases h4 : c = c'
        · simp [h1, h2, h3, h4]
        · simp [h1, h2, h3, h4]
      · simp [h1, h2, h3]
    · simp [h1, h2]
  · simp [h1]
theorem neq41_guard (x y : Operand) (xs ys : Array Value) (w : World) : (eqGuard .neq 41 x y (.agg xs) (.agg ys)).run Try.prog w = .ok () w :=
  run_eqGuard_agg w .neq 41 x y xs ys (by kernel_rfl)

def fewB (n : Nat) (g : ByteArray) : Bool := decide (n ≤ 1100 ∧ g.size ≤ 3000)
set_option maxHeartbeats 1000000 in
theorem few_any (f t s : Nat) (a : Option Addr) (n cap : Nat) (g : ByteArray) (w : World) :
    Calls Try.prog 12 #[.agg #[.int .u8 (f : Int), .int .u8 (t : Int), .int .u32 (s : Int), .slice a n cap, .string g]] w fun e w' => e = .returned (.bool (fewB n g)) ∧ Below w.heap.size w w' := by
  have B0 : Aside (∀ o, Below w.heap.size w (w.alloc o)) := fun o => (Below.refl _ w).alloc (Nat.le_refl _) o
  by_cases h1 : n ≤ 1100
  · have t1 : (n : Int) ≤ 1100 := by omega
    by_cases h2 : g.size ≤ 3000
    · have t2 : (g.size : Int) ≤ 3000 := by omega
      have e : fewB n g = true := decide_eq_true ⟨h1, h2⟩
      rw [e]
      clear e h1 h2
      go_enter Try.func12, Try.ntmps12
      go_wp2
      go_ret
      exact ⟨rfl, B0.out _⟩
    · have t2 : ¬ (g.size : Int) ≤ 3000 := by omega
      have e : fewB n g = false := decide_eq_false (fun h => h2 h.2)
      rw [e]
      clear e h1 h2
      go_enter Try.func12, Try.ntmps12
      go_wp2
      go_ret
      exact ⟨rfl, B0.out _⟩
  · have t1 : ¬ (n : Int) ≤ 1100 := by omega
    have e : fewB n g = false := decide_eq_false (fun h => h1 h.1)
    rw [e]
    clear e h1
    go_enter Try.func12, Try.ntmps12
    go_wp2
    go_ret
    exact ⟨rfl, B0.out _⟩

set_option maxRecDepth 100000 in
set_option maxHeartbeats 2000000 in
theorem same_eq (f t s : Nat) (a a' : Option Addr) (n cap n' cap' : Nat) (g : ByteArray) (bs : List UInt8) (w : World) (h : Byt w a n cap bs) (h' : Byt w a' n' cap' bs) :
    Calls Try.prog 21 #[.agg #[.int .u8 (f : Int), .int .u8 (t : Int), .int .u32 (s : Int), .slice a n cap, .string g], .agg #[.int .u8 (f : Int), .int .u8 (t : Int), .int .u32 (s : Int), .slice a' n' cap', .string g]] w fun e w' => e = .returned (.bool true) ∧ Below w.heap.size w w' := by
  have B0 : Aside (∀ o o', Below w.heap.size w ((w.alloc o).alloc o')) := fun o o' => ((Below.refl _ w).alloc (Nat.le_refl _) o).alloc (by simp) o'
  have c1 : ∀ o o', (convert 24 9 (.slice a n cap)).run Try.prog ((w.alloc o).alloc o') = .ok (str bs) ((w.alloc o).alloc o') := fun o o' => by
    have := conv9 ((w.alloc o).alloc o') a bs cap (h.later (B0.out o o')).2.2.1
    rw [h.1] at this
    exact this
  have c2 : ∀ o o', (convert 24 9 (.slice a' n' cap')).run Try.prog ((w.alloc o).alloc o') = .ok (str bs) ((w.alloc o).alloc o') := fun o o' => by
    have := conv9 ((w.alloc o).alloc o') a' bs cap' (h'.later (B0.out o o')).2.2.1
    rw [h'.1] at this
    exact this
  unfold str at c1 c2
  generalize (⟨bs.toArray⟩ : ByteArray) = x at *
  clear h h'
  go_enter Try.func21, Try.ntmps21
  go_wp2
  go_ret
  exact ⟨rfl, B0.out _ _⟩

def kL : List UInt8 := [100, 110, 0, 1, 99, 2, 2, 3]
def gL : List UInt8 := [109, 100, 110, 0, 1, 99, 2, 2, 3, 99, 8, 2, 3, 0, 0, 0, 1, 104, 105]
theorem l_nonce : Tm.nonce 1 = [110, 0, 1] := by decide +kernel
theorem l_key : Tm.keyOf [110, 0, 1] 3 2 = kL ∧ Tm.keyE [110, 0, 1] 3 2 = 0 := by decide +kernel
theorem l_tag : Tm.tag kL 2 3 1 [104, 105] = gL ∧ Tm.tagE kL 2 3 1 [104, 105] = 0 := by decide +kernel
theorem l_send : Tm.sendE kL 0 2 3 [104, 105] = 0 := by
  have : Tm.sendE kL 0 2 3 [104, 105] = Tm.tagE kL 2 3 1 [104, 105] := rfl
  rw [this, l_tag.2]
theorem l_acc : Tm.accE kL 3 2 3 1 0 0 [104, 105] gL = 0 := by
  unfold Tm.accE
  rw [l_tag.1, l_tag.2]
  decide
theorem l_acc2 : Tm.accE kL 3 2 3 1 1 1 [104, 105] gL = 6 := by
  unfold Tm.accE
  rw [l_tag.1, l_tag.2]
  decide

end Go.Proofs.Ytimeggbjmcnnoaa
