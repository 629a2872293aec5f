/- What Known gives. -/
import Derived.Test.YtdpnffnogckfjaaMdU
namespace Go.Proofs.Ytdpnffnogckfjaa
open Go.RowKit Go.Maps Go.Sort Go.Shelf

def KnownPost (l : List (List UInt8)) (w : World) (e : Ending) (w' : World) : Prop :=
  ∃ v, e = .returned (.tuple #[v, .int .i64 (Tm.knownE l : Nat)]) ∧ w'.ownsRow w.heap.size 23 1 v (Tm.knownL l).length (strs (Tm.knownL l)) ∧ Below w.heap.size w w'

theorem sorted_merge {K : List (List UInt8)} (h : K.Nodup) : Tm.Sorted (K.mergeSort (fun x y => decide (x ≤ y))) ∧ ∀ x, x ∈ K.mergeSort (fun x y => decide (x ≤ y)) ↔ x ∈ K := by
  have hp := List.mergeSort_perm K (fun x y => decide (x ≤ y))
  refine ⟨?_, fun x => hp.mem_iff⟩
  have tr : ∀ a b c : List UInt8, decide (a ≤ b) = true → decide (b ≤ c) = true → decide (a ≤ c) = true := fun a b c h1 h2 => by simp only [decide_eq_true_eq] at *; exact List.le_trans h1 h2
  have to : ∀ a b : List UInt8, (decide (a ≤ b) || decide (b ≤ a)) = true := fun a b => by simp only [Bool.or_eq_true, decide_eq_true_eq]; exact List.le_total a b
  have h1 := List.pairwise_mergeSort tr to K
  have h2 : (K.mergeSort (fun x y => decide (x ≤ y))).Nodup := hp.nodup_iff.2 h
  unfold Tm.Sorted
  refine (h1.and h2).imp ?_
  rintro a b ⟨hab, hne⟩
  rw [decide_eq_true_eq] at hab
  rcases Tm.lt_tri a b with h | h | h
  · exact h
  · exact absurd h hne
  · exact absurd h (List.not_lt.2 hab)
theorem known_sorted {l K : List (List UInt8)} (h0 : Tm.knownE l = 0) (hn : K.Nodup) (hK : ∀ x, x ∈ K ↔ Tm.Cl (· ∈ l) (Tm.Uni l) x) : K.mergeSort (fun x y => decide (x ≤ y)) = Tm.knownL l := by
  unfold Tm.knownL
  rw [if_pos h0]
  obtain ⟨h1, h2⟩ := sorted_merge hn
  refine Tm.sorted_ext h1 (Tm.closeL_spec _ _).1 (fun x => ?_)
  rw [h2, hK, Tm.known_iff (knownE_good h0) (V := Tm.Uni l) (fun _ h => h)]
  constructor
  · intro hc
    refine ⟨?_, hc⟩
    rcases Tm.cl_within hc with h | h
    · exact Tm.uni_mem h (knownE_good h0 x h)
    · exact h
  · exact fun h => h.2

theorem kn_map {ω : Tag} {w : World} {pm bv bk : Nat} {K : List (List UInt8)} (h : Kn ω w pm bv bk (K, [])) : ∃ D : DataW Value, w.ownsMap Try.prog 23 raw bk K.length D ∧ ∀ x, x ∈ K ↔ has D (.string x) = true := by
  obtain ⟨fs, _, _, _, ⟨D, hD, hs⟩, _, _⟩ := h
  refine ⟨D, hD, fun x => ?_⟩
  have := hs x
  unfold kset at this
  dsimp only at this
  by_cases hx : x ∈ K
  · rw [if_pos hx] at this; simp [hx, this.1]
  · rw [if_neg hx] at this; simp [hx, this]

set_option maxRecDepth 20000 in
set_option maxHeartbeats 4000000 in
theorem known_any (a : Option Addr) (n cap : Nat) (l : List (List UInt8)) (w : World) (hn : l.length = n) (hl : AtS w a l) : Calls Try.prog 13 #[.slice a n cap] w (KnownPost l w) := by
  have NM := newMind_any a n cap l w hn hl
  refine (callsIn_wide (n := 6)).1 ?_
  by_cases h0 : Tm.knownE l = 0
  · have QK : Aside (∀ (w4 w' : World) (v : Value) (bk : Nat) (K : List (List UInt8)), Below w.heap.size w w4 → K.Nodup → (∀ x, x ∈ K ↔ Tm.Cl (· ∈ l) (Tm.Uni l) x) → w'.ownsRow (w4.alloc (.cells #[.map (some bk)] 57)).heap.size 23 1 v K.length (strs (K.mergeSort (fun x y => decide (x ≤ y)))) →
        Below (w4.alloc (.cells #[.map (some bk)] 57)).heap.size (w4.alloc (.cells #[.map (some bk)] 57)) w' → KnownPost l w (.returned (.tuple #[v, .int .i64 0])) w') := by
      intro w4 w' v bk K hb hnd hK ho hb2
      refine ⟨v, by rw [h0]; rfl, ?_, ?_⟩
      · rw [known_sorted h0 hnd hK] at ho
        have hle : K.length = (Tm.knownL l).length := by rw [← known_sorted h0 hnd hK, List.length_mergeSort]
        rw [← hle]
        exact owns_mono ho (by have := hb.size; simp; omega)
      · refine (hb.alloc hb.size (.cells #[.map (some bk)] 57)).trans (hb2.mono ?_)
        have := hb.size; simp; omega
    generalize KnownPost l w = Q at QK ⊢
    have TH : Aside (∀ pm bv bk w2, Ready w pm bv bk l (· ∈ l) 1200000 w2 → Calls Try.prog 26 #[.pointer (some ⟨pm, 0, none⟩)] w2 (fun e w' => e = .returned (.tuple #[]) ∧ Thought w pm bv bk l (· ∈ l) w')) := fun pm bv bk w2 hr => ready_think hr (by omega)
    clear hl hn
    refine callsIn_of_wp Try.func13 rfl trivial ?_ rfl
    simp only [Try.ntmps13, List.size_toArray, List.length_cons, List.length_nil, Nat.reduceAdd, Nat.reduceSub, Array.replicate_succ, Array.replicate_zero, List.push_toArray, List.append_toArray, List.nil_append, List.cons_append]
    gi_wp2_with fail
    refine ⟨trivial, (callsIn_wide.2 NM).mono ?_⟩
    rintro e w2 ⟨hb, ⟨h, _⟩ | ⟨_, pm, bv, bk, rfl, hr⟩⟩
    · exact absurd h0 h
    have T2 : Aside (Calls _ _ _ _ _) := TH.out pm bv bk w2 hr
    clear NM TH hr hb h0
    gi_wp2_with fail
    refine ⟨trivial, (callsIn_wide.2 T2.out).mono ?_⟩
    rintro e w4 ⟨rfl, ω, K, k4, hnd, hK8, hK, hb⟩
    have c1 := k4.cells.2
    obtain ⟨D, hown, hm⟩ := kn_map k4
    have SO : Aside (CallsIn _ _ _ _ _ _ _) := sorted_any hown hnd hm hK8
    have Q4 : Aside (∀ w' v, _ → _ → Q (.returned (.tuple #[v, .int .i64 0])) w') := fun w' v => QK.out w4 w' v bk K hb hnd hK
    clear T2 k4 hown hm hK hK8 hnd hb QK
    gi_wp2_with fail
    refine ⟨trivial, (keysOf_any 5 (some bk) w4).mono ?_⟩
    rintro e w5 ⟨rfl, rfl⟩
    gi_wp2_with fail
    refine ⟨trivial, SO.out.mono ?_⟩
    rintro e w6 ⟨v, rfl, ho, hb⟩
    have Q6 := Q4.out w6 v ho hb
    clear SO Q4 ho hb
    gi_wp2
    exact Q6
  · have QE : Aside (∀ w', Below w.heap.size w w' → KnownPost l w (.returned (.tuple #[.slice none 0 0, .int .i64 (Tm.knownE l : Nat)])) w') := by
      intro w' hb
      refine ⟨_, rfl, ?_, hb⟩
      unfold Tm.knownL
      rw [if_neg h0]
      exact World.ownsRow_nil _ _ _ _
    generalize KnownPost l w = Q at QE ⊢
    have t9 : (((Tm.knownE l : Nat) : Int) != 0) = true := by
      have : ¬ ((Tm.knownE l : Nat) : Int) = 0 := by omega
      simpa using this
    clear hl hn
    refine callsIn_of_wp Try.func13 rfl trivial ?_ rfl
    simp only [Try.ntmps13, List.size_toArray, List.length_cons, List.length_nil, Nat.reduceAdd, Nat.reduceSub, Array.replicate_succ, Array.replicate_zero, List.push_toArray, List.append_toArray, List.nil_append, List.cons_append]
    gi_wp2_with fail
    refine ⟨trivial, (callsIn_wide.2 NM).mono ?_⟩
    rintro e w2 ⟨hb, ⟨_, rfl⟩ | ⟨h, _⟩⟩
    · have Q2 := QE.out w2 hb
      clear NM QE hb
      generalize Tm.knownE l = c at *
      gi_wp2
      exact Q2
    · exact absurd h h0

end Go.Proofs.Ytdpnffnogckfjaa
