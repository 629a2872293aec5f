/- Rows of items: cells; a clone of one's own. -/
import Derived.Test.YtbacnjkookakcaaHdE
import Derived.Lib.SlBy
import Derived.Laws.AppendOwnNone
import Derived.Laws.MakeOwn
set_option linter.unusedVariables false
namespace Go.Proofs.Ytbacnjkookakcaa
open Go.RowKit
namespace Hd
open Ps

def rowI : List It → List Value
  | [] => []
  | x :: l => (itA x).toList ++ rowI l
theorem itA_len (x : It) : (itA x).toList.length = 20 := rfl
theorem rowI_len (l : List It) : (rowI l).length = l.length * 20 := by
  induction l with
  | nil => rfl
  | cons b l ih => simp only [rowI, List.length_append, List.length_cons, ih, itA_len]; omega
theorem rowI_append (l m : List It) : rowI (l ++ m) = rowI l ++ rowI m := by
  induction l with
  | nil => rfl
  | cons b l ih => simp only [rowI, List.cons_append, ih, List.append_assoc]
theorem rowI_one (l : List It) : ∀ u ∈ rowI l, u.oneCell' = true := by
  induction l with
  | nil => intro u h; simp [rowI] at h
  | cons b l ih =>
    intro u h
    simp only [rowI, List.mem_append] at h
    rcases h with h | h
    · exact itA_one b u h
    · exact ih u h
theorem rowI_get {l : List It} : ∀ {j i : Nat} {x : It}, l[j]? = some x → i < 20 → (rowI l)[j * 20 + i]? = (itA x)[i]? := by
  induction l with
  | nil => intro j i x h; simp at h
  | cons b l ih =>
    intro j i x h hi
    cases j with
    | zero =>
      simp at h; subst h
      rw [Nat.zero_mul, Nat.zero_add]
      show ((itA b).toList ++ rowI l)[i]? = _
      rw [List.getElem?_append_left (by rw [itA_len]; exact hi), Array.getElem?_toList]
    | succ j =>
      have h' : l[j]? = some x := by simpa using h
      rw [show (j + 1) * 20 + i = 20 + (j * 20 + i) by omega]
      show ((itA b).toList ++ rowI l)[20 + (j * 20 + i)]? = _
      rw [List.getElem?_append_right (by rw [itA_len]; omega), itA_len, Nat.add_sub_cancel_left]
      exact ih h' hi
theorem rowI_at {l : List It} {j : Nat} {u : Value} (h : (rowI l)[j]? = some u) : ∃ k i x, j = k * 20 + i ∧ i < 20 ∧ l[k]? = some x ∧ (itA x)[i]? = some u := by
  have hlt : j < l.length * 20 := by have := (List.getElem?_eq_some_iff.1 h).1; rw [rowI_len] at this; exact this
  have hk : j / 20 < l.length := by omega
  refine ⟨j / 20, j % 20, l[j / 20], by omega, Nat.mod_lt _ (by decide), List.getElem?_eq_getElem hk, ?_⟩
  rw [← rowI_get (List.getElem?_eq_getElem hk) (Nat.mod_lt _ (by decide)), show j / 20 * 20 + j % 20 = j by omega]; exact h
theorem AtI.row {w : World} {b off : Nat} {l : List It} (h : ∀ (j : Nat) (x : It), l[j]? = some x → ∀ i u, (itA x)[i]? = some u → w.cell? ⟨b, off + j * 20 + i, none⟩ = some u) : ∀ j u, (rowI l)[j]? = some u → w.cell? ⟨b, off + j, none⟩ = some u := fun j u hu => by
  obtain ⟨k, i, x, rfl, hi, hx, hxu⟩ := rowI_at hu
  rw [← Nat.add_assoc]; exact h k x hx i u hxu
/-- A row of items of one's own lies behind its address. -/
theorem own_at {w : World} {B n c : Nat} {a : Option Addr} {l : List It} (h : w.ownsRow B 43 20 (.slice a n c) l.length (rowI l)) : l.length = n ∧ AtI w a l ∧ n ≤ c := by
  obtain ⟨h1, h2⟩ := h
  rcases h2 with ⟨e, h0⟩ | ⟨g, cap, cur, e, hB, hh, hc, hm, hs, ht⟩
  · cases e
    exact ⟨h0, .inl (List.eq_nil_of_length_eq_zero h0), Nat.le_refl _⟩
  · cases e
    refine ⟨rfl, .inr ⟨g, 0, rfl, fun j x hx i u hu => ?_⟩, hc⟩
    have hi : i < 20 := (Array.getElem?_eq_some_iff.1 hu).1
    have hj : j < l.length := (List.getElem?_eq_some_iff.1 hx).1
    rw [cell_of_row w g _ _ 43 _ hh, Nat.zero_add]
    have h3 := rowI_get hx hi
    rw [hu, ← ht, List.getElem?_take_of_lt (by omega), Array.getElem?_toList] at h3
    exact h3
theorem info43 : (Try.prog.info? 43).map (fun i => (i.zero, i.size, i.bytes)) = some (some (.agg #[.int .u8 0, .int .i64 0, .int .i64 0, .int .u16 0, .int .u16 0, .int .u16 0, .int .u16 0, .int .u16 0, .int .u16 0, .int .u16 0, .int .u16 0, .int .u16 0, .int .u16 0, .int .u16 0, .int .u16 0, .int .u16 0, .int .u16 0, .int .u16 0, .int .u16 0, .string ⟨#[]⟩]), 20, 72) := by kernel_rfl
theorem info_parts {o : Option TypeInfo} {z : Option Value} {n m : Nat} (h : o.map (fun i => (i.zero, i.size, i.bytes)) = some (z, n, m)) : ∃ i, o = some i ∧ i.zero = z ∧ i.size = n ∧ i.bytes = m := by
  cases o with
  | none => cases h
  | some i => cases h; exact ⟨i, rfl, rfl, rfl, rfl⟩
set_option maxHeartbeats 4000000 in
set_option maxRecDepth 100000 in
theorem clone20_any (a : Option Addr) (cap : Nat) (l : List It) (w : World) (h : AtI w a l) (hn : l.length ≤ 1000) :
    Calls Try.prog 26 #[.slice a l.length cap] w fun e w' => ∃ v', e = .returned v' ∧ w'.ownsRow w.heap.size 43 20 v' l.length (rowI l) ∧ Below w.heap.size w w' := by
  obtain ⟨i0, hi, hz0, hz1, hz2⟩ := info_parts info43
  have I : Aside (Try.prog.info? 43 = some i0 ∧ i0.zero = some (.agg #[.int .u8 0, .int .i64 0, .int .i64 0, .int .u16 0, .int .u16 0, .int .u16 0, .int .u16 0, .int .u16 0, .int .u16 0, .int .u16 0, .int .u16 0, .int .u16 0, .int .u16 0, .int .u16 0, .int .u16 0, .int .u16 0, .int .u16 0, .int .u16 0, .int .u16 0, .string ⟨#[]⟩]) ∧ i0.size = 20 ∧ i0.bytes = 72) := ⟨hi, hz0, hz1, hz2⟩
  clear hi hz0 hz1 hz2
  have q34 : ∀ (w : World) (a : Option Addr) (n c n' c' : Nat), (binOp .eql 34 (.slice a n c) (.slice none n' c')).run Try.prog w = .ok (.bool a.isNone) w := fun w a n c n' c' => Lib.run_eql_slice_nil w _ _ a n c n' c' Try.underlying34
  have u34 : ∀ w, Sem.run Try.prog (underlying 34) w = .ok (TypeDesc.slice 43) w := run_underlying Try.underlying34
  cases a with
  | none =>
    obtain rfl : l = [] := by
      rcases h with h | ⟨b, off, h, _⟩
      · exact h
      · cases h
    go_enter Try.func26, Try.ntmps26
    go_wp2
    go_ret
    exact ⟨_, rfl, World.ownsRow_nil _ _ _ _, Below.refl _ _⟩
  | some ad =>
    have A : Aside (∀ j u, (rowI l)[j]? = some u → w.cell? (ad.add j) = some u) := by
      rcases h with rfl | ⟨b, off, h, hc⟩
      · intro j u hu; simp [rowI] at hu
      · obtain rfl := Option.some.inj h
        intro j u hu
        rw [Addr.add_lit]
        exact AtI.row hc j u hu
    clear h
    go_enter Try.func26, Try.ntmps26
    go_wp2_with (at_builtin; refine wpList_append_own _ rfl _ _ 34 rfl w.heap.size 43 i0 (.agg #[.int .u8 0, .int .i64 0, .int .i64 0, .int .u16 0, .int .u16 0, .int .u16 0, .int .u16 0, .int .u16 0, .int .u16 0, .int .u16 0, .int .u16 0, .int .u16 0, .int .u16 0, .int .u16 0, .int .u16 0, .int .u16 0, .int .u16 0, .int .u16 0, .int .u16 0, .string ⟨#[]⟩]) 20 72 Try.underlying34 I.out.1 I.out.2.1 I.out.2.2.1 I.out.2.2.2 rfl (by decide) _ _ _ rfl (World.ownsRow_made w #[] 0 (Nat.le_refl _) (Nat.zero_le _) (by simp)) ad l.length cap (rowI l) rfl ?qc1 ?qc2 ?qc3 ?qc4 ?qc5 ?qc6 ?_)
    case qc1 => exact rowI_len l
    case qc2 =>
      intro j u hj
      exact Lib.cell?_alloc_some _ (A.out j u hj)
    case qc3 => exact rowI_one l
    case qc4 => rw [Nat.zero_add]; unfold maxLen; omega
    case qc5 => rw [Nat.zero_add]; omega
    case qc6 => simp
    intro v' w1 hown hgrow hnil
    go_wp2
    go_ret
    refine ⟨v', rfl, by simpa using hown, ?_⟩
    exact ((Below.refl _ w).alloc (Nat.le_refl _) _).grown hgrow (by simp) (by intro k hk; simp [Value.ownBlock] at hk; omega)
end Hd
end Go.Proofs.Ytbacnjkookakcaa
