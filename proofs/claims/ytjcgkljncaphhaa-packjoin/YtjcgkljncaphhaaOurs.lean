/- What Ours gives: the same fields, as the document's, in memory of its own. -/
import Derived.Test.YtjcgkljncaphhaaOwn2
import Derived.Deep.RegionHeld3
import Derived.Deep.AppendLies
namespace Go.Proofs.Ytjcgkljncaphhaa
open Go.RowKit

theorem info48 : (Try.prog.info? 48).map (fun i => (i.zero, i.size, i.bytes)) = some (some (.agg #[.int .i64 0, .int .u64 0, .string ⟨#[]⟩, .int .u64 0]), 4, 40) := by kernel_rfl

/-- A field's cells, as the document's own. -/
def cellsR (f : Pk.Fld) : List Value := [.int .i64 f.kind, .int .u64 (f.num.toNat : Int), .string f.text, .int .u64 (f.real.toNat : Int)]
def flatR (l : List Pk.Fld) : List Value := l.flatMap cellsR

theorem flatR_snoc (l : List Pk.Fld) (f : Pk.Fld) : flatR (l ++ [f]) = flatR l ++ cellsR f := by unfold flatR; rw [List.flatMap_append]; simp
theorem flatR_take (l : List Pk.Fld) (k : Nat) (h : k < l.length) : flatR (l.take k) ++ cellsR l[k] = flatR (l.take (k + 1)) := by
  rw [List.take_succ_eq_append_getElem h, flatR_snoc]

theorem flatR_at : ∀ (l : List Pk.Fld) (j : Nat) (f : Pk.Fld), l[j]? = some f → (flatR l)[4 * j]? = some (.int .i64 f.kind) ∧ (flatR l)[4 * j + 1]? = some (.int .u64 (f.num.toNat : Int)) ∧ (flatR l)[4 * j + 2]? = some (.string f.text) ∧ (flatR l)[4 * j + 3]? = some (.int .u64 (f.real.toNat : Int))
  | [], j, f, h => by simp at h
  | x :: l, 0, f, h => by
    simp at h; subst h
    exact ⟨rfl, rfl, rfl, rfl⟩
  | x :: l, j + 1, f, h => by
    have ih := flatR_at l j f (by simpa using h)
    have e : flatR (x :: l) = .int .i64 x.kind :: .int .u64 (x.num.toNat : Int) :: .string x.text :: .int .u64 (x.real.toNat : Int) :: flatR l := rfl
    rw [e, show 4 * (j + 1) = 4 * j + 1 + 1 + 1 + 1 by omega]
    exact ih

theorem flatR_len (l : List Pk.Fld) : (flatR l).length = l.length * 4 := by
  induction l with
  | nil => rfl
  | cons x l ih =>
    have e : flatR (x :: l) = .int .i64 x.kind :: .int .u64 (x.num.toNat : Int) :: .string x.text :: .int .u64 (x.real.toNat : Int) :: flatR l := rfl
    rw [e]; simp only [List.length_cons]; omega

/-- A row of the document's fields of one's own is a slice; its fields lie behind its address. -/
theorem owns_refs {w : World} {B n : Nat} {v : Value} {l : List Pk.Fld} (h : w.ownsRow B 48 4 v n (flatR l)) :
    ∃ a cap, v = .slice a n cap ∧ l.length = n ∧ AtR w a l := by
  have hl : l.length = n := by have := h.1; rw [flatR_len] at this; omega
  rcases h.2 with ⟨rfl, h0⟩ | ⟨g, cap, cur, rfl, _, _, hc, _, _, _⟩
  · subst h0
    exact ⟨none, 0, rfl, hl, .inl (List.eq_nil_of_length_eq_zero hl)⟩
  · refine ⟨_, cap, rfl, hl, .inr ⟨g, 0, rfl, fun j f hf => ?_⟩⟩
    have hj := (List.getElem?_eq_some_iff.1 hf).1
    obtain ⟨h0, h1, h2, h3⟩ := flatR_at l j f hf
    refine ⟨?_, ?_, ?_, ?_⟩
    · rw [Nat.zero_add, Nat.mul_comm, h.cellAt _ (by omega)]; exact h0
    · rw [Nat.zero_add, Nat.mul_comm, h.cellAt _ (by omega)]; exact h1
    · rw [Nat.zero_add, Nat.mul_comm, h.cellAt _ (by omega)]; exact h2
    · rw [Nat.zero_add, Nat.mul_comm, h.cellAt _ (by omega)]; exact h3

set_option maxRecDepth 100000 in
set_option maxHeartbeats 3200000 in
theorem ours_any (a : Option Addr) (n cap : Nat) (l : List Pk.Fld) (w : World) (hl : n ≤ 210) (hn : Hid (l.length = n)) (ha : AtP w a l) :
    Calls Try.prog 21 #[.slice a n cap] w fun e w' => ∃ v, e = .returned v ∧ w'.ownsRow w.heap.size 48 4 v n (flatR l) ∧ Below w.heap.size w w' := by
  have C : Aside (AtP w a l) := ha
  have hx := fun n W => tobits_run n W
  have hsf := fun a m b W => store_flt a m b W
  obtain ⟨i0, hi, hz0, hz1, hz2⟩ := info_parts info48
  have I : Aside (Try.prog.info? 48 = some i0 ∧ i0.zero = some (.agg #[.int .i64 0, .int .u64 0, .string ⟨#[]⟩, .int .u64 0]) ∧ i0.size = 4 ∧ i0.bytes = 40) := ⟨hi, hz0, hz1, hz2⟩
  clear ha hi hz0 hz1 hz2
  go_enter Try.func21, Try.ntmps21
  go_wp2_with fail
  go_loopw [3, 8] (fun v i wr => ∃ k : Nat, k ≤ n ∧ i = .int .i64 k ∧ wr.ownsRow w.heap.size 48 4 v k (flatR (l.take k)) ∧ Below w.heap.size w wr) (fun _ i _ => n - (intOf i).toNat)
  case atStart => exact ⟨0, Nat.zero_le _, rfl, World.ownsRow_nil _ _ _ _, Below.refl _ _⟩
  case round =>
    obtain ⟨k, hk, rfl, hown, hb⟩ := hrel
    by_cases hlt : k < n
    · have hk1 : k < l.length := by rw [hn.out]; exact hlt
      rcases C.out with he | ⟨b, off, rfl, hcs⟩
      · exfalso; rw [he] at hk1; simp at hk1
      obtain ⟨c0, c1, c2, c3⟩ := fldAt_later hb rfl (hcs k l[k] (List.getElem?_eq_getElem hk1))
      have FL : Hid (_ = _) := flatR_take l k hk1
      unfold cellsR at FL
      generalize l[k].kind = fk at c0 FL
      generalize l[k].num.toNat = fn at c1 FL
      generalize l[k].text = ft at c2 FL
      generalize l[k].real.toNat = fr at c3 FL
      clear hcs
      go_wp2_with fail
      have hO : (wr.alloc (.cells #[.int .i64 fk, .int .u64 (fn : Int), .string ft, .float .f64 fr] 52)).ownsRow w.heap.size 48 4 u3 k (flatR (l.take k)) := hown.alloc _
      have hne : u3.ownBlock ≠ some wr.heap.size := fun e => by have := (hown.lt _ e).2; omega
      have hs := hb.size
      have hbk : Aside (∀ o o', ((wr.alloc o).alloc o').heap[wr.heap.size + 1]? = some o') := fun o o' => by have := heap_alloc_new (wr.alloc o) o'; simpa using this
      go_region_held3 (fun w' => w'.cell? ⟨wr.heap.size, 0, none⟩ = some (.int .i64 fk) ∧ w'.cell? ⟨wr.heap.size, 1, none⟩ = some (.int .u64 (fn : Int)) ∧ w'.cell? ⟨wr.heap.size, 2, none⟩ = some (.string ft) ∧ w'.cell? ⟨wr.heap.size, 3, none⟩ = some (.float .f64 fr))
        (first
          | go_keep
          | (go_split_ands
             refine ⟨?_, ?_, ?_, ?_⟩
             · (rw [hgrow.cell_far _ (by simp; omega) (Ne.symm hne)]; assumption)
             · (rw [hgrow.cell_far _ (by simp; omega) (Ne.symm hne)]; assumption)
             · (rw [hgrow.cell_far _ (by simp; omega) (Ne.symm hne)]; assumption)
             · (rw [hgrow.cell_far _ (by simp; omega) (Ne.symm hne)]; assumption)))
        ((refine step_append_lies _ (by rfl) _ _ _ (by rfl) w.heap.size 48 i0 _ 4 40 Try.underlying22 I.out.1 I.out.2.1 I.out.2.2.1 I.out.2.2.2 rfl (by omega) u3 k (flatR (l.take k)) (by rfl) ((hO.alloc _).drew)
            ⟨wr.heap.size + 1, 0, none⟩ 1 1 [.int .i64 fk, .int .u64 (fn : Int), .string ft, .int .u64 (fr : Int)] (by rfl) (by rfl) (World.news_of_block (cs := #[.int .i64 fk, .int .u64 (fn : Int), .string ft, .int .u64 (fr : Int)]) (t := 48) (fr := (0, 0)) (hbk.out _ _)) (by simp [Value.oneCell'])
            (by omega) (by unfold maxLen; omega) (by omega) (by simp; omega) (wr.heap.size + 1 + 1) (by simp) ?_; intro gg gcap w1 hown1 hgrow hat hlt1))
      have hbb : Below w.heap.size w w1 := (((hb.alloc hs _).alloc (by simp; omega) _).drew).grown hgrow (by simp; omega) (fun j hj => (hown.lt j hj).1)
      rw [FL.out] at hown1
      clear hown hb hO hgrow hat
      go_wp2
      go_roundw
      case rel => exact ⟨k + 1, by omega, by go_num, hown1, hbb⟩
      case measure => simp [intOf]; omega
    · obtain rfl : k = n := by omega
      have FL : Hid (flatR (l.take k) = flatR l) := by show _ = _; rw [← hn.out, List.take_length]
      rw [FL.out] at hown
      go_wp2
      go_ret
      exact ⟨_, rfl, hown, hb⟩

end Go.Proofs.Ytjcgkljncaphhaa
