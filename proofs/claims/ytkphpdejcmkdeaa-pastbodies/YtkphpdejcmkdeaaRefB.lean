/- What the document's own May and bytes give. -/
import Derived.Test.YtkphpdejcmkdeaaRefA
import Derived.Laws.IdiomStrings
namespace Go.Proofs.Ytkphpdejcmkdeaa
open Go.RowKit

set_option maxRecDepth 20000 in
set_option maxHeartbeats 1000000 in
theorem rmay_plain (k : Int) (n r : Nat) (s : ByteArray) (w : World) (hk : ¬ k = 3) :
    Calls Try.prog 36 #[.agg #[.int .i64 k, .int .u64 (n : Int), .string s, .int .u64 (r : Int)]] w fun e w' => e = .returned (.bool (mayW k n r s false)) ∧ Below w.heap.size w w' := by
  have hb : ∀ o, Below w.heap.size w (w.alloc o) := fun o => (Below.refl _ w).alloc (Nat.le_refl _) o
  have h3 : (k == 3) = false := by simpa using hk
  clear hk
  go_enter Try.func36, Try.ntmps36
  go_wp2
  all_goals
    go_ret
    refine ⟨congrArg (fun z => Ending.returned (.bool z)) ?_, hb _⟩
    simp_all [mayW]

set_option maxRecDepth 20000 in
set_option maxHeartbeats 1000000 in
theorem rmay_three (n r c : Nat) (s : ByteArray) (w : World) (hc : ∀ w, Calls Try.prog 48 #[.int .u64 (r : Int)] w fun e w' => e = .returned (.int .u64 (c : Int)) ∧ w' = w) :
    Calls Try.prog 36 #[.agg #[.int .i64 3, .int .u64 (n : Int), .string s, .int .u64 (r : Int)]] w fun e w' => e = .returned (.bool (((n : Int) == 0) && s.toList.isEmpty && ((c : Int) == (r : Int)))) ∧ Below w.heap.size w w' := by
  have hb : Aside (∀ o q, Below w.heap.size w ((w.alloc o).drewN q)) := fun o q => below_drewN ((Below.refl _ w).alloc (Nat.le_refl _) o) q
  have HC : Aside (∀ w, _) := hc
  clear hc
  cases h1 : ((n : Int) == 0) with
  | false =>
    go_enter Try.func36, Try.ntmps36
    go_wp2_with fail
    go_quiet (fail)
    go_wp2
    go_ret
    exact ⟨rfl, hb.out _ _⟩
  | true =>
    cases h2 : s.toList.isEmpty with
    | false =>
      go_enter Try.func36, Try.ntmps36
      go_wp2_with fail
      go_quiet (fail)
      go_wp2
      go_ret
      exact ⟨rfl, hb.out _ _⟩
    | true =>
      go_enter Try.func36, Try.ntmps36
      go_wp2_with fail
      go_quiet ((go_at_call 48; exact Calls.quiet_of_same (HC.out _)))
      go_wp2
      go_ret
      exact ⟨rfl, hb.out _ _⟩

theorem rmay_any (f : Pk.Fld) (w : World) :
    Calls Try.prog 36 #[.agg #[.int .i64 f.kind, .int .u64 (f.num.toNat : Int), .string f.text, .int .u64 (f.real.toNat : Int)]] w fun e w' => e = .returned (.bool (Pk.may f)) ∧ Below w.heap.size w w' := by
  have hz : ∀ n : Nat, ((n : Int) == 0) = decide (n = 0) := fun n => by by_cases g : n = 0 <;> simp [g]
  by_cases h3 : f.kind = 3
  · have h := rmay_three f.num.toNat f.real.toNat (Fl.can f.real.toNat) f.text w (fun w => rcanon_any _ w)
    rw [hz, toList_size] at h
    have e : (((Fl.can f.real.toNat : Nat) : Int) == ((f.real.toNat : Nat) : Int)) = decide (Fl.can f.real.toNat = f.real.toNat) := by
      by_cases g : Fl.can f.real.toNat = f.real.toNat
      · rw [g]; simp
      · have : ¬ ((Fl.can f.real.toNat : Nat) : Int) = ((f.real.toNat : Nat) : Int) := by omega
        simp [g, this]
    rw [e] at h
    have e2 : Pk.may f = (decide (f.num.toNat = 0) && decide (f.text.size = 0) && decide (Fl.can f.real.toNat = f.real.toNat)) := by
      unfold Pk.may
      rw [h3, if_neg (by decide), if_neg (by decide), if_pos rfl]
    rw [e2, h3]
    exact h
  · have h := rmay_plain f.kind f.num.toNat f.real.toNat f.text w h3
    have e : mayW f.kind f.num.toNat f.real.toNat f.text false = Pk.may f := by
      unfold mayW Pk.may
      rw [toList_size]
      simp only [beq_iff_eq]
      have hs : decide ((f.text.size : Int) ≤ 2000) = decide (f.text.size ≤ 2000) := by
        congr 1; apply propext; omega
      rw [hz, hz, hs, if_neg h3, if_neg h3]
    rw [e] at h
    exact h

/-- '[]byte(s)': a new row; what was, is. -/
theorem conv_str (w : World) (s : ByteArray) : ∃ gc W', (convert 9 54 (.string s)).run Try.prog w = .ok (.slice (some ⟨w.heap.size, 0, none⟩) s.size gc) W' ∧ Below w.heap.size w W' ∧ ∀ j u, (bcs s.data.toList)[j]? = some u → W'.cell? ((⟨w.heap.size, 0, none⟩ : Addr).add j) = some u := by
  refine ⟨_, _, run_bytes_of_string w 9 54 5 s Try.underlying9 Try.underlying54 Try.underlying5, ?_, ?_⟩
  · exact (Below.drew (Below.refl _ w)).alloc (Nat.le_refl _) _
  · intro j u hu
    have e : (⟨w.heap.size, 0, none⟩ : Addr).add j = ⟨w.heap.size, j, none⟩ := by unfold Addr.add; split <;> simp_all
    rw [e]
    have hj : j < s.data.toList.length := by
      have := (List.getElem?_eq_some_iff.1 hu).1
      rwa [bcs_len] at this
    rw [cell_of_row _ w.heap.size j _ 5 _ (heap_alloc_new w.drew _)]
    unfold bytesRow
    rw [Array.getElem?_append_left (by simpa using hj), ← hu]
    simp [bcs]

theorem keep_below {w w' : World} (h : Below w.heap.size w w') : Keep5 w w' := fun c cs t fr _ hc => by
  rw [h.block c (Array.getElem?_eq_some_iff.1 hc).1]; exact hc

theorem box48 {w w' : World} {cs : Array Value} (hk : Keep5 (w.alloc (.cells cs 59)) w') (i : Nat) (v : Value) (h : cs[i]? = some v) : w'.cell? ⟨w.heap.size, i, none⟩ = some v := by
  have hb := hk w.heap.size cs 59 (0, 0) (by decide) (heap_alloc_new w _)
  show (match w'.heap[w.heap.size]? with | some (.cells c _ _) => _ | _ => none) = _
  rw [hb]
  exact h

end Go.Proofs.Ytkphpdejcmkdeaa
