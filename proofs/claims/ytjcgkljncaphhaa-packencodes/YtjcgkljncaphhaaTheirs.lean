/- What Theirs gives: the same fields, in memory of its own. -/
import Derived.Test.YtjcgkljncaphhaaFew
import Derived.Test.YtjcgkljncaphhaaRdE
import Derived.Deep.RegionHeld3
import Derived.Deep.AppendLies
namespace Go.Proofs.Ytjcgkljncaphhaa
open Go.RowKit

theorem flatP_take (l : List Pk.Fld) (k : Nat) (h : k < l.length) : flatP (l.take k) ++ cellsP l[k] = flatP (l.take (k + 1)) := by
  rw [List.take_succ_eq_append_getElem h, flatP_snoc]

set_option maxRecDepth 100000 in
set_option maxHeartbeats 3200000 in
theorem theirs_any (a : Option Addr) (n cap : Nat) (l : List Pk.Fld) (w : World) (hl : n ≤ 210) (hn : Hid (l.length = n)) (ha : AtR w a l) :
    Calls Try.prog 14 #[.slice a n cap] w fun e w' => ∃ v, e = .returned v ∧ w'.ownsRow w.heap.size 52 4 v n (flatP l) ∧ Below w.heap.size w w' := by
  have C : Aside (AtR w a l) := ha
  have hx := fun n W => frombits_run n W
  obtain ⟨i0, hi, hz0, hz1, hz2⟩ := info_parts info52
  have I : Aside (Try.prog.info? 52 = some i0 ∧ i0.zero = some (.agg #[.int .i64 0, .int .u64 0, .string ⟨#[]⟩, .float .f64 0]) ∧ i0.size = 4 ∧ i0.bytes = 40) := ⟨hi, hz0, hz1, hz2⟩
  clear ha hi hz0 hz1 hz2
  go_enter Try.func14, Try.ntmps14
  go_wp2_with fail
  go_loopw [3, 8] (fun v i wr => ∃ k : Nat, k ≤ n ∧ i = .int .i64 k ∧ wr.ownsRow w.heap.size 52 4 v k (flatP (l.take k)) ∧ Below w.heap.size w wr) (fun _ i _ => n - (intOf i).toNat)
  case atStart => exact ⟨0, Nat.zero_le _, rfl, World.ownsRow_nil _ _ _ _, Below.refl _ _⟩
  case round =>
    obtain ⟨k, hk, rfl, hown, hb⟩ := hrel
    by_cases hlt : k < n
    · have hk1 : k < l.length := by rw [hn.out]; exact hlt
      rcases C.out with he | ⟨b, off, rfl, hcs⟩
      · exfalso; rw [he] at hk1; simp at hk1
      obtain ⟨c0, c1, c2, c3⟩ := refAt_later hb rfl (hcs k l[k] (List.getElem?_eq_getElem hk1))
      have FL : Hid (_ = _) := flatP_take l k hk1
      unfold cellsP at FL
      generalize l[k].kind = fk at c0 FL
      generalize l[k].num.toNat = fn at c1 FL
      generalize l[k].text = ft at c2 FL
      generalize l[k].real.toNat = fr at c3 FL
      clear hcs
      go_wp2_with fail
      have hO : (wr.alloc (.cells #[.int .i64 fk, .int .u64 (fn : Int), .string ft, .int .u64 (fr : Int)] 48)).ownsRow w.heap.size 52 4 u3 k (flatP (l.take k)) := hown.alloc _
      have hne : u3.ownBlock ≠ some wr.heap.size := fun e => by have := (hown.lt _ e).2; omega
      have hs := hb.size
      have hbk : Aside (∀ o o', ((wr.alloc o).alloc o').heap[wr.heap.size + 1]? = some o') := fun o o' => by have := heap_alloc_new (wr.alloc o) o'; simpa using this
      go_region_held3 (fun w' => w'.cell? ⟨wr.heap.size, 0, none⟩ = some (.int .i64 fk) ∧ w'.cell? ⟨wr.heap.size, 1, none⟩ = some (.int .u64 (fn : Int)) ∧ w'.cell? ⟨wr.heap.size, 2, none⟩ = some (.string ft) ∧ w'.cell? ⟨wr.heap.size, 3, none⟩ = some (.int .u64 (fr : Int)))
        (first
          | go_keep
          | (go_split_ands
             refine ⟨?_, ?_, ?_, ?_⟩
             · (rw [hgrow.cell_far _ (by simp; omega) (Ne.symm hne)]; assumption)
             · (rw [hgrow.cell_far _ (by simp; omega) (Ne.symm hne)]; assumption)
             · (rw [hgrow.cell_far _ (by simp; omega) (Ne.symm hne)]; assumption)
             · (rw [hgrow.cell_far _ (by simp; omega) (Ne.symm hne)]; assumption)))
        ((refine step_append_lies _ (by rfl) _ _ _ (by rfl) w.heap.size 52 i0 _ 4 40 Try.underlying30 I.out.1 I.out.2.1 I.out.2.2.1 I.out.2.2.2 rfl (by omega) u3 k (flatP (l.take k)) (by rfl) ((hO.alloc _).drew)
            ⟨wr.heap.size + 1, 0, none⟩ 1 1 [.int .i64 fk, .int .u64 (fn : Int), .string ft, .float .f64 fr] (by rfl) (by rfl) (World.news_of_block (cs := #[.int .i64 fk, .int .u64 (fn : Int), .string ft, .float .f64 fr]) (t := 52) (fr := (0, 0)) (hbk.out _ _)) (by simp [Value.oneCell'])
            (by omega) (by unfold maxLen; omega) (by omega) (by simp; omega) (wr.heap.size + 1 + 1) (by simp) ?_; intro gg gcap w1 hown1 hgrow hat hlt1))
      have hbb : Below w.heap.size w w1 := (((hb.alloc hs _).alloc (by simp; omega) _).drew).grown hgrow (by simp; omega) (fun j hj => (hown.lt j hj).1)
      rw [FL.out] at hown1
      clear hown hb hO hgrow hat
      go_wp2
      go_roundw
      case rel => exact ⟨k + 1, by omega, by go_num, hown1, hbb⟩
      case measure => simp [intOf]; omega
    · obtain rfl : k = n := by omega
      have FL : Hid (flatP (l.take k) = flatP l) := by show _ = _; rw [← hn.out, List.take_length]
      rw [FL.out] at hown
      go_wp2
      go_ret
      exact ⟨_, rfl, hown, hb⟩

end Go.Proofs.Ytjcgkljncaphhaa
