/- What slices.Sorted of the keys of what is known gives. -/
import Derived.Test.YtdpnffnogckfjaaMdQ
import Derived.Test.YtdpnffnogckfjaaLays
namespace Go.Proofs.Ytdpnffnogckfjaa
open Go.RowKit Go.Maps Go.Sort Go.Shelf

theorem sorts27 (m : Nat) : AnyZ.SortsIn Try.prog sorted27_ren Fence.wide m :=
  ⟨fun blk off cap ss W hH hblk hsz => callsIn_wide.2 (AnyM.slices_Sort_string sort44 blk off cap ss W hH hblk hsz),
   fun p cap W => callsIn_wide.2 (AnyM.slices_Sort_string_none sort44 p cap W)⟩

theorem keysOf_any (n : Nat) (mb : Option Nat) (W : World) : CallsIn Fence.wide n Try.prog 28 #[.map mb] W fun e w' => e = .returned (.func (.func 45) #[] #[.pointer (some ⟨W.heap.size, 0, none⟩)]) ∧ w' = W.alloc (.cells #[.map mb] 57) :=
  AnyZ.keys_in keys28 Fence.wide n trivial rfl mb W

/-- The keys of a map keyed by terms, as a list without repeats. -/
theorem keys_perm {w : World} {b n : Nat} {D : DataW Value} (h : w.ownsMap Try.prog 23 raw b n D) {K : List (List UInt8)} (hn : K.Nodup) (hm : ∀ x, x ∈ K ↔ has D (.string x) = true) : K.Perm (strKeys D) := by
  obtain ⟨es, hD, hp⟩ := h.tidy (string_keyed Try.underlying23)
  obtain ⟨es', hD', hko⟩ := h.keysOf
  obtain rfl : es = es' := by rw [hD] at hD'; simpa using hD'
  subst hD
  exact perm_strKeys hp (fun p hpp => by obtain ⟨v, hv⟩ := hko p hpp; obtain ⟨x, _, hx, _⟩ := Maps.keyOf_str Try.underlying23 hv; exact ⟨x, hx⟩) hn hm

set_option maxHeartbeats 1000000 in
theorem sorted_any {b nn : Nat} {D : DataW Value} {K : List (List UInt8)} {w : World} (hown : w.ownsMap Try.prog 23 raw b nn D) (hn : K.Nodup) (hm : ∀ x, x ∈ K ↔ has D (.string x) = true) (hK : nn ≤ 8000000) :
    CallsIn Fence.wide 5 Try.prog 27 #[.func (.func 45) #[] #[.pointer (some ⟨w.heap.size, 0, none⟩)]] (w.alloc (.cells #[.map (some b)] 57)) fun e w' => ∃ v, e = .returned v ∧
      w'.ownsRow (w.alloc (.cells #[.map (some b)] 57)).heap.size 23 1 v K.length (strs (K.mergeSort (fun x y => decide (x ≤ y)))) ∧ Below (w.alloc (.cells #[.map (some b)] 57)).heap.size (w.alloc (.cells #[.map (some b)] 57)) w' := by
  have hbl := hown.lt
  have hsz := hown.size_le
  have hseq : SeqGives Fence.wide 2 Try.prog 45 #[.pointer (some ⟨w.heap.size, 0, none⟩)] encStr (fun ss => ss.Perm (strKeys D)) (Maps.size D) (w.alloc (.cells #[.map (some b)] 57)) :=
    AnyZ.keys_gives (ρ := keys28_ren) { keys28 with } Fence.wide _ trivial rfl (by omega) w.heap.size b nn D _ (by simp) (by simp) (by
      obtain ⟨es, clock, hb, Ft, hs, hD⟩ := hown
      exact ⟨es, clock, (Below.heap_alloc _ _ b hbl).trans hb, Ft, hs, hD⟩)
  refine (AnyZ.sorted_in sorted27 Fence.wide 5 trivial trivial trivial trivial rfl (by omega) (sorts27 _) (enters_of Try.func44 (by kernel_rfl) rfl) 45 #[.pointer (some ⟨w.heap.size, 0, none⟩)] trivial (enters_of Try.func45 (by kernel_rfl) rfl) _ _ (by unfold maxLen; omega) (by omega) _ hseq).mono ?_
  rintro e w' ⟨v, ss, rfl, hS, hrow, -, hb⟩
  have hp : ss.Perm K := hS.trans (keys_perm hown hn hm).symm
  refine ⟨v, rfl, ?_, hb⟩
  rw [hp.length_eq, mergeSort_of_perm hp] at hrow
  exact hrow

end Go.Proofs.Ytdpnffnogckfjaa
