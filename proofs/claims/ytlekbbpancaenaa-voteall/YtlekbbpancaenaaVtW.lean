/- The document's own: ready for a body, unless for one already. -/
import Derived.Test.YtlekbbpancaenaaVtV
import Derived.Laws.AppendOwnNone
namespace Go.Proofs.Ytlekbbpancaenaa
open Go.RowKit Go.Shelf

/-- What comes of a vote, as the document's value: nine cells. -/
def toldV (e r d : Bool) (s1 s2 so : Value) (x : ByteArray) (is : Bool) (er : Int) : Value := .agg #[.bool e, .bool r, .bool d, s1, s2, so, .string x, .bool is, .int .i64 er]
theorem info94 : (Try.prog.info? 94).map (fun i => (i.zero, i.size, i.bytes)) = some (some (.agg #[.int .i64 0, .string ⟨#[]⟩]), 2, 24) := by kernel_rfl

set_option maxHeartbeats 8000000 in
set_option maxRecDepth 100000 in
/-- Ready already: as it was. -/
theorem rready_yes (e d is : Bool) (a1 a2 ao : Option Addr) (n1 n2 no c1 c2 co : Nat) (x y : ByteArray) (er : Int) (w : World) :
    Calls Try.prog 65 #[.agg #[.bool e, .bool true, .bool d, .slice a1 n1 c1, .slice a2 n2 c2, .slice ao no co, .string x, .bool is, .int .i64 er], .string y] w fun z w' =>
      z = .returned (.agg #[.bool e, .bool true, .bool d, .slice a1 n1 c1, .slice a2 n2 c2, .slice ao no co, .string x, .bool is, .int .i64 er]) ∧ Below w.heap.size w w' := by
  have B0 : Aside (∀ o o', Below w.heap.size w ((w.alloc o).alloc o')) := fun o o' => ((Below.refl _ w).alloc (Nat.le_refl _) o).alloc (by simp) o'
  go_enter Try.func65, Try.ntmps65
  go_wp2
  refine ⟨rfl, _, ?_, rfl, B0.out _ _⟩
  simp [results, Try.results65, go_sem]
/-- What ready answers where it was not ready. -/
def RReady (e d : Bool) (s1 s2 : Value) (y : ByteArray) (w : World) (z : Ending) (w' : World) : Prop :=
  ∃ ao co, z = .returned (.agg #[.bool e, .bool true, .bool d, s1, s2, .slice ao 1 co, .string ⟨#[]⟩, .bool false, .int .i64 0]) ∧ AtO w' ao [(3, y)] ∧ (∀ ad, ao = some ad → w.heap.size + 1 < ad.block) ∧ Below w.heap.size w w'

set_option maxHeartbeats 8000000 in
set_option maxRecDepth 100000 in
theorem rready_no (e d : Bool) (a1 a2 : Option Addr) (n1 n2 c1 c2 : Nat) (y : ByteArray) (w : World) :
    Calls Try.prog 65 #[.agg #[.bool e, .bool false, .bool d, .slice a1 n1 c1, .slice a2 n2 c2, .slice none 0 0, .string ⟨#[]⟩, .bool false, .int .i64 0], .string y] w (RReady e d (.slice a1 n1 c1) (.slice a2 n2 c2) y w) := by
  obtain ⟨i0, hi, hz0, hz1, hz2⟩ := info_parts info94
  have I : Aside (Try.prog.info? 94 = some i0 ∧ i0.zero = some (.agg #[.int .i64 0, .string ⟨#[]⟩]) ∧ i0.size = 2 ∧ i0.bytes = 24) := ⟨hi, hz0, hz1, hz2⟩
  clear hi hz0 hz1 hz2
  have O0 : Aside (∀ o o', (((w.alloc o).alloc o').alloc (.cells #[] 94)).ownsRow (w.heap.size + 2) 94 2 (.slice (some ⟨w.heap.size + 2, 0, none⟩) 0 0) 0 []) := fun o o' => by
    have := World.ownsRow_made (base := w.heap.size + 2) (e := 94) (size := 2) ((w.alloc o).alloc o') #[] 0 (by simp) (by unfold maxLen; omega) rfl
    simpa using this
  have B6 : Aside (∀ o1 o2 o3 o4 o5 o6, Below w.heap.size w ((((((w.alloc o1).alloc o2).alloc o3).alloc o4).alloc o5).alloc o6).drew) := fun o1 o2 o3 o4 o5 o6 =>
    (((((((Below.refl _ w).alloc (Nat.le_refl _) o1).alloc (by simp) o2).alloc (by simp; omega) o3).alloc (by simp; omega) o4).alloc (by simp; omega) o5).alloc (by simp; omega) o6).drew
  go_enter Try.func65, Try.ntmps65
  go_wp2_with (at_builtin; refine wpList_append_own_none _ rfl _ _ 41 rfl (w.heap.size + 2) 94 i0 2 Try.underlying41 I.out.1 _ 0 [] rfl (O0.out _ _) rfl ?_)
  go_wp2
  refine ⟨rfl, _, ?_, ⟨some ⟨w.heap.size + 1 + 1 + 1 + 1, 0, none⟩, (Question.appendCap 1 0 94).cut (w.tape w.drawn (Question.appendCap 1 0 94)), rfl, ?_, ?_, ?_⟩⟩
  · simp [results, Try.results65, go_sem]
  · refine .inr ⟨_, _, rfl, fun j k x' hx => ?_⟩
    cases j with
    | succ j => simp at hx
    | zero =>
      simp at hx
      obtain ⟨rfl, rfl⟩ := hx
      constructor
      · simp [go_sem, Array.getElem?_append]
      · simp [go_sem, Array.getElem?_append]
  · intro ad h
    obtain rfl := Option.some.inj h
    show w.heap.size + 1 < w.heap.size + 1 + 1 + 1 + 1
    omega
  · exact B6.out _ _ _ _ _ _
end Go.Proofs.Ytlekbbpancaenaa
