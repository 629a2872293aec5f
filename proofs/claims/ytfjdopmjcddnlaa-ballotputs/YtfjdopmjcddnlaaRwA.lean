/- Rows of members: what List gives, the program's and the document's own, and the document's own Size. -/
import Derived.Test.YtfjdopmjcddnlaaSzA
namespace Go.Proofs.Ytfjdopmjcddnlaa
open Go.RowKit

theorem info5 : (Try.prog.info? 5).map (fun i => (i.zero, i.size, i.bytes)) = some (some (.int .u8 0), 1, 1) := by kernel_rfl
theorem info_parts {P : Program} {t : TypeId} {z : Value} {s b : Nat} (h : (P.info? t).map (fun i => (i.zero, i.size, i.bytes)) = some (some z, s, b)) : ∃ i0, P.info? t = some i0 ∧ i0.zero = some z ∧ i0.size = s ∧ i0.bytes = b := by
  cases hi : P.info? t with
  | none => rw [hi] at h; simp at h
  | some i0 =>
    rw [hi] at h
    simp at h
    exact ⟨i0, rfl, h.1, h.2.1, h.2.2⟩

theorem grown_below {w wr w2 : World} {B e n s : Nat} {v : Value} {xs : List Value} {o : Obj} (hs : B ≤ wr.heap.size) (hown : wr.ownsRow B e s v n xs) (hnx : Below B w wr) (hg : (wr.alloc o).grownBy w2 v.ownBlock) : Below B w w2 := by
  refine (hnx.alloc hs o).grown hg (by simp; omega) ?_
  intro j hj
  exact (hown.lt j hj).1
theorem below_step {w w1 w2 : World} (h : Below w.heap.size w w1) (k : Below w1.heap.size w1 w2) : Below w.heap.size w w2 := h.trans (k.mono h.size)
theorem cell_later {w w' : World} (hb : Below w.heap.size w w') {a : Addr} {v : Value} (h : w.cell? a = some v) : w'.cell? a = some v := by
  rw [hb.cell (World.block_lt_of_cell? w _ h)]; exact h
theorem cell_new1 (w : World) (a : Value) (t : TypeId) : ∀ j u, [a][j]? = some u → (w.alloc (.cells #[a] t)).cell? ((⟨w.heap.size, 0, none⟩ : Addr).add j) = some u := by
  intro j u hj
  have e : (⟨w.heap.size, 0, none⟩ : Addr).add j = ⟨w.heap.size, j, none⟩ := by unfold Addr.add; split <;> simp_all
  rw [e, World.cell?_alloc_at _ _ _ _ rfl, ← hj, ← Array.getElem?_toList]

/-- Members, as the program's values. -/
def u8s (l : List Nat) : List Value := l.map fun (n : Nat) => .int .u8 (n : Int)
theorem u8s_len (l : List Nat) : (u8s l).length = l.length := by unfold u8s; rw [List.length_map]

/-- Members lie behind an address. -/
def AtN (w : World) (a : Option Addr) (l : List Nat) : Prop :=
  l = [] ∨ ∃ b off, a = some ⟨b, off, none⟩ ∧ ∀ (j x : Nat), l[j]? = some x → w.cell? ⟨b, off + j, none⟩ = some (.int .u8 (x : Int))
theorem atN_later {w w' : World} {a : Option Addr} {l : List Nat} (hb : Below w.heap.size w w') (h : AtN w a l) : AtN w' a l := by
  rcases h with rfl | ⟨b, off, rfl, hc⟩
  · exact .inl rfl
  · exact .inr ⟨b, off, rfl, fun j x hx => cell_later hb (hc j x hx)⟩
theorem owns_u8s {w : World} {B n : Nat} {v : Value} {l : List Nat} (h : w.ownsRow B 5 1 v n (u8s l)) :
    ∃ a cap, v = .slice a n cap ∧ l.length = n ∧ AtN w a l := by
  have hl : l.length = n := by have := h.1; rw [u8s_len] at this; omega
  rcases h.2 with ⟨rfl, h0⟩ | ⟨g, cap, cur, rfl, _, _, hc, _, _, _⟩
  · subst h0
    exact ⟨none, 0, rfl, hl, .inl (List.eq_nil_of_length_eq_zero hl)⟩
  · refine ⟨_, cap, rfl, hl, .inr ⟨g, 0, rfl, fun j x hx => ?_⟩⟩
    have hj := (List.getElem?_eq_some_iff.1 hx).1
    rw [Nat.zero_add, h.cellAt j (by omega)]
    simp [u8s, hx]

namespace Cn
/-- The members below a number. -/
def pre (s i : Nat) : List Nat := (List.range i).filter (s.testBit ·)
theorem pre_all (s : Nat) : pre s 16 = listS s := rfl
theorem pre_yes {s i : Nat} (h : s.testBit i = true) : pre s (i + 1) = pre s i ++ [i] := by
  unfold pre; rw [List.range_succ, List.filter_append]; simp [h]
theorem pre_no {s i : Nat} (h : s.testBit i = false) : pre s (i + 1) = pre s i := by
  unfold pre; rw [List.range_succ, List.filter_append]; simp [h]
theorem pre_len (s i : Nat) : (pre s i).length ≤ i := by
  unfold pre
  have := List.length_filter_le (s.testBit ·) (List.range i)
  simpa using this
end Cn

theorem pre_step {s k : Nat} (hb : s.testBit k = true) : u8s (Cn.pre s k) ++ [.int .u8 (k : Int)] = u8s (Cn.pre s (k + 1)) ∧ (Cn.pre s k).length + 1 = (Cn.pre s (k + 1)).length := by
  rw [Cn.pre_yes hb]; unfold u8s; simp

/-- What a call gives that makes a set's list. -/
def Lists (s : Nat) (w : World) (e : Ending) (w' : World) : Prop :=
  ∃ a cap, e = .returned (.slice a (Cn.sizeS s) cap) ∧ AtN w' a (Cn.listS s) ∧ Below w.heap.size w w'

set_option maxHeartbeats 2000000 in
theorem rlist_any (s : Nat) (w : World) (hs : s < 65536) : Calls Try.prog 36 #[.int .u16 (s : Nat)] w (Lists s w) := by
  obtain ⟨i0, hi, hz0, hz1, hz2⟩ := info_parts info5
  have I : Aside (Try.prog.info? 5 = some i0 ∧ i0.zero = some (.int .u8 0) ∧ i0.size = 1 ∧ i0.bytes = 1) := ⟨hi, hz0, hz1, hz2⟩
  clear hi hz0 hz1 hz2
  have R : Aside (∀ v w', w'.ownsRow w.heap.size 5 1 v (Cn.pre s 16).length (u8s (Cn.pre s 16)) → Below w.heap.size w w' → Lists s w (.returned v) w') := by
    intro v w' h hb
    obtain ⟨a, cap, rfl, _, hat⟩ := owns_u8s h
    refine ⟨a, cap, ?_, hat, hb⟩
    rw [Cn.pre_all, Cn.size_list]
  generalize Lists s w = Q at R ⊢
  have hH : Aside (∀ (i : Nat) W, i < 256 → Calls Try.prog 23 #[.int .u16 (s : Nat), .int .u8 (i : Nat)] W fun e w' => e = .returned (.bool (Cn.hasS s i)) ∧ w' = W) := fun i W h8 => rhas_any s i W hs h8
  clear hs
  go_enter Try.func36, Try.ntmps36
  go_wp2_with fail
  go_loopw [3, 4] (fun v i wr => ∃ k : Nat, k ≤ 16 ∧ i = .int .i64 k ∧ wr.ownsRow w.heap.size 5 1 v (Cn.pre s k).length (u8s (Cn.pre s k)) ∧ Below w.heap.size w wr) (fun _ i _ => 16 - (intOf i).toNat)
  case atStart => exact ⟨0, by omega, rfl, World.ownsRow_nil _ _ _ _, Below.refl _ _⟩
  case round =>
    obtain ⟨k, hk, rfl, hown, hnx⟩ := hrel
    by_cases hlt : k < 16
    · have t1 : (k : Int) < 16 := by omega
      have hE := hH.out k wr (by omega)
      cases hb : s.testBit k with
      | true =>
        have F : Aside (u8s (Cn.pre s k) ++ [.int .u8 (k : Int)] = u8s (Cn.pre s (k + 1)) ∧ (Cn.pre s k).length + 1 = (Cn.pre s (k + 1)).length) := pre_step hb
        rw [show Cn.hasS s k = true by unfold Cn.hasS; rw [hb, decide_eq_true (by omega)]; rfl] at hE
        have hm := Cn.pre_len s k
        generalize (Cn.pre s k).length = m at hown F hm
        generalize u8s (Cn.pre s k) = xs at hown F
        clear hb
        go_wp2_with fail
        refine hE.mono ?_; rintro e w1 ⟨rfl, hw⟩
        replace hw := hw.symm; subst hw
        go_wp2_with (at_builtin; refine wpList_append_own _ rfl _ _ 77 rfl w.heap.size 5 i0 (.int .u8 0) 1 1 Try.underlying77 I.out.1 I.out.2.1 I.out.2.2.1 I.out.2.2.2 rfl (by decide) _ _ _ rfl (hown.alloc _) ⟨wr.heap.size, 0, none⟩ 1 1 [.int .u8 (k : Int)] rfl rfl ?c1 ?c2 ?c3 ?c4 ?c5 ?_)
        case c1 => exact cell_new1 _ _ _
        case c2 => intro u hu; simp at hu; subst hu; rfl
        case c3 => unfold maxLen; omega
        case c4 => omega
        case c5 => have := hnx.size; simp; omega
        intro v' w2 hown' hgrow _
        have hbn := grown_below hnx.size hown hnx hgrow
        rw [F.out.1, F.out.2] at hown'
        clear hown hgrow hnx hE
        go_wp2
        go_roundw
        case rel => exact ⟨k + 1, by omega, by go_num, hown', hbn⟩
        case measure => simp [intOf]; omega
      | false =>
        rw [← Cn.pre_no hb] at hown
        rw [show Cn.hasS s k = false by unfold Cn.hasS; rw [hb]; simp] at hE
        clear hb
        go_wp2_with fail
        refine hE.mono ?_; rintro e w1 ⟨rfl, hw⟩
        replace hw := hw.symm; subst hw
        go_wp2
        go_roundw
        case rel => exact ⟨k + 1, by omega, by go_num, hown, hnx⟩
        case measure => simp [intOf]; omega
    · obtain rfl : k = 16 := by omega
      have R1 := R.out _ _ hown hnx
      clear R hown
      go_wp2
      exact R1

theorem rsize_any (s : Nat) (w : World) (hs : s < 65536) : Calls Try.prog 19 #[.int .u16 (s : Nat)] w fun e w' => e = .returned (.int .i64 (Cn.sizeS s : Nat)) ∧ Below w.heap.size w w' := by
  have hl := rlist_any s w hs
  unfold Lists at hl
  generalize Cn.sizeS s = m at hl ⊢
  go_enter Try.func19, Try.ntmps19
  go_wp2_with fail
  refine hl.mono ?_; rintro e w' ⟨a, cap, rfl, hat, hb⟩
  clear hat
  go_wp2
  go_ret
  exact ⟨rfl, hb⟩

end Go.Proofs.Ytfjdopmjcddnlaa
