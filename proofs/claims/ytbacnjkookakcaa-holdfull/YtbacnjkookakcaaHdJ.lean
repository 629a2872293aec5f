/- What is old is looked for (IndexFunc with the closure of tell). -/
import Derived.Test.YtbacnjkookakcaaHdI
set_option linter.unusedVariables false
namespace Go.Proofs.Ytbacnjkookakcaa
open Go.RowKit
namespace Hd
open Ps

set_option maxHeartbeats 4000000 in
set_option maxRecDepth 100000 in
/-- The closure that tells what is old. -/
theorem del_any (f : Nat → Nat) (hb : Nat) (s : Value) (x : It) (w : World) (hH : H17 w hb 36 f s) (hx : x.frm < 16) (hf : f x.frm < 65536) :
    Calls Try.prog 41 #[.agg (itA x), .pointer (some ⟨hb, 0, none⟩)] w fun e w' => e = .returned (.bool (oldI f x)) ∧ Below w.heap.size w w' := by
  have CO : Aside (∀ W, Calls Try.prog 29 #[.agg (vecA f), .agg (itA x)] W fun e w' => e = .returned (.bool (oldI f x)) ∧ Below W.heap.size W w') := fun W => old_any f x W hf hx
  have X : Aside (I20 (w.alloc (.cells (itA x) 43)) w.heap.size 43 x ∧ H17 (w.alloc (.cells (itA x) 43)) hb 36 f s) := ⟨I20.new w 43 x, hH.alloc _⟩
  clear hH hx hf
  generalize oldI f x = r at CO ⊢
  go_enter Try.func41, Try.ntmps41
  go_wp2_with (first
    | (with_reducible refine wpList_told X.out.2 rfl _ rfl rfl ?_)
    | (with_reducible refine wpList_it43 X.out.1 rfl _ rfl rfl ?_)
    | (go_at_call 29; refine (CO.out _).mono ?_; rintro e w1 ⟨rfl, hb1⟩; have B1 : Aside (Below w.heap.size w w1) := step_below ((Below.refl _ w).alloc (Nat.le_refl _) _) hb1; clear hb1))
  go_ret
  exact ⟨rfl, B1.out⟩

/-- The place of the first that is old; -1: none is. -/
def ixO (f : Nat → Nat) (l : List It) : Int := if l.findIdx (oldI f) < l.length then ((l.findIdx (oldI f) : Nat) : Int) else -1
theorem ixO_at {f : Nat → Nat} {l : List It} {k : Nat} {x : It} (h : ∀ i y, i < k → l[i]? = some y → oldI f y = false) (hx : l[k]? = some x) (ho : oldI f x = true) : ixO f l = (k : Int) ∧ l.findIdx (oldI f) = k := by
  have hk : k < l.length := (List.getElem?_eq_some_iff.1 hx).1
  have e : l.findIdx (oldI f) = k := by
    rcases Nat.lt_trichotomy (l.findIdx (oldI f)) k with h1 | h1 | h1
    · have h2 := List.findIdx_getElem (w := by omega) (p := oldI f) (xs := l)
      have := h _ _ h1 (List.getElem?_eq_getElem (by omega))
      rw [h2] at this; cases this
    · exact h1
    · have h2 := List.not_of_lt_findIdx h1
      have h3 : l[k] = x := by rw [List.getElem?_eq_getElem hk] at hx; exact Option.some.inj hx
      rw [h3, ho] at h2; simp at h2
  exact ⟨by unfold ixO; rw [e, if_pos hk], e⟩
theorem ixO_none {f : Nat → Nat} {l : List It} (h : ∀ i y, i < l.length → l[i]? = some y → oldI f y = false) : ixO f l = -1 := by
  unfold ixO
  rw [if_neg]
  intro h1
  have h2 := List.findIdx_getElem (w := h1) (p := oldI f) (xs := l)
  have := h _ _ h1 (List.getElem?_eq_getElem h1)
  rw [h2] at this; cases this

set_option maxHeartbeats 8000000 in
set_option maxRecDepth 100000 in
theorem index_any (f : Nat → Nat) (hb : Nat) (s : Value) (a : Option Addr) (c : Nat) (l : List It) (w : World) (hH : H17 w hb 36 f s) (ha : AtI w a l) (hf : ∀ x ∈ l, x.frm < 16) (hv : ∀ i, i < 16 → f i < 65536) (hn : l.length ≤ 1000) :
    Calls Try.prog 45 #[.slice a l.length c, .func (.func 41) #[] #[.pointer (some ⟨hb, 0, none⟩)]] w fun e w' => e = .returned (.int .i64 (ixO f l)) ∧ Below w.heap.size w w' := by
  have CD : Aside (∀ x, x ∈ l → ∀ W, Below w.heap.size w W → Calls Try.prog 41 #[.agg (itA x), .pointer (some ⟨hb, 0, none⟩)] W fun e w' => e = .returned (.bool (oldI f x)) ∧ Below W.heap.size W w') := fun x hx W h => del_any f hb s x W (hH.later h) (hf x hx) (hv _ (hf x hx))
  have HA : Aside (AtI w a l) := ha
  have I1 : Aside (∀ (k : Nat) (x : It), (∀ (i : Nat) (y : It), i < k → l[i]? = some y → oldI f y = false) → l[k]? = some x → oldI f x = true → ixO f l = (k : Int)) := fun k x h1 h2 h3 => (ixO_at h1 h2 h3).1
  have I2 : Aside ((∀ (i : Nat) (y : It), i < l.length → l[i]? = some y → oldI f y = false) → ixO f l = -1) := ixO_none
  obtain ⟨n, en⟩ : ∃ n, n = l.length := ⟨_, rfl⟩
  have HN : Aside (n = l.length) := en
  rw [← en] at I2 hn ⊢
  generalize ixO f l = R at I1 I2 ⊢
  clear hH ha hf hv en
  go_enter Try.func45, Try.ntmps45
  go_wp2_with fail
  go_loopw [8] (fun i wr => ∃ k : Nat, k ≤ n ∧ i = .int .i64 (k : Nat) ∧ Aside ((∀ (i : Nat) (y : It), i < k → l[i]? = some y → oldI f y = false) ∧ Below w.heap.size w wr)) (fun i _ => n - (intOf i).toNat)
  case atStart => exact ⟨0, by omega, rfl, (fun i y h => by omega), Below.refl _ _⟩
  case round =>
    obtain ⟨k, hk, rfl, hM⟩ := hrel
    by_cases hlt : k < n
    · have t1 : (k : Int) < (n : Int) := by omega
      have t0 : (0 : Int) ≤ (k : Int) := by omega
      obtain ⟨b9, off9, x, rfl, hx, hcs⟩ := (HA.out.later hM.out.2).get (by rw [← HN.out]; exact hlt)
      have HC : Aside (∀ i u, (itA x)[i]? = some u → wr.cell? ⟨b9, off9 + k * 20 + i, none⟩ = some u) := hcs
      have C1 := CD.out x (List.mem_of_getElem? hx) wr hM.out.2
      have MM : Aside ((∀ (i : Nat) (y : It), i < k → l[i]? = some y → oldI f y = false) ∧ Below w.heap.size w wr) := hM.out
      have HX : Aside (l[k]? = some x) := hx
      have OX : Aside (∀ r, oldI f x = r → oldI f x = r) := fun _ h => h
      clear hM hx hcs
      obtain ⟨r, hr⟩ : ∃ r, r = oldI f x := ⟨_, rfl⟩
      rw [← hr] at C1
      have HR : Aside (r = oldI f x) := hr
      clear hr OX
      go_wp2_with (with_reducible refine wpList_row43 HC.out rfl _ rfl rfl ?_)
      refine C1.mono ?_
      rintro e w4 ⟨rfl, hb4⟩
      have B4 : Aside (Below w.heap.size w w4) := step_below MM.out.2 hb4
      clear C1 hb4
      cases r with
      | true =>
        have hR := I1.out k x MM.out.1 HX.out HR.out.symm
        subst hR
        go_wp2_with fail
        go_ret
        exact ⟨rfl, B4.out⟩
      | false =>
        have ALL : Aside (∀ (i : Nat) (y : It), i < k + 1 → l[i]? = some y → oldI f y = false) := fun i y hi hy => by
          by_cases e : i = k
          · subst e; rw [HX.out] at hy; obtain rfl := Option.some.inj hy; exact HR.out.symm
          · exact MM.out.1 i y (by omega) hy
        go_wp2_with fail
        go_roundw
        case rel => exact ⟨k + 1, by omega, by go_num, ALL.out, B4.out⟩
        case measure => simp [intOf]; omega
    · obtain rfl : k = n := by omega
      have hR := I2.out hM.out.1
      subst hR
      have BB : Aside (Below w.heap.size w wr) := hM.out.2
      go_wp2_with fail
      go_ret
      exact ⟨rfl, BB.out⟩
end Hd
end Go.Proofs.Ytbacnjkookakcaa
