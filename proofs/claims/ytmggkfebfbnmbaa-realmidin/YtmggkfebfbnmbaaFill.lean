/- RealMids at a list that is not empty and no longer than two hundred: the walk. -/
import Derived.Test.YtmggkfebfbnmbaaRmid
import Derived.Test.YtmggkfebfbnmbaaAsk
namespace Go.Proofs.Ytmggkfebfbnmbaa
open Go.RowKit

theorem info24 : (Try.prog.info? 24).map (fun i => (i.zero, i.size, i.bytes)) = some (some (.float .f64 0), 1, 8) := by kernel_rfl

/-- The first k, as the program's values. -/
def encs (us : List UInt64) (k : Nat) : List Value := (us.take k).map encF

theorem take_enc (us : List UInt64) (k : Nat) (h : k < us.length) : encs us (k + 1) = encs us k ++ [encF us[k]!] := by
  unfold encs
  rw [List.take_succ_eq_append_getElem h, List.map_append]
  simp [h]
theorem encs_all (us : List UInt64) (n : Nat) (h : us.length = n) : encs us n = us.map encF := by
  unfold encs; rw [List.take_of_length_le (by omega)]

theorem fill_below {w wr w2 : World} {B e k : Nat} {v : Value} {xs : List Value} {o : Obj} (hs : B ≤ wr.heap.size) (hown : wr.ownsRow B e 1 v k xs) (hnx : Below B w wr) (hg : (wr.alloc o).grownBy w2 v.ownBlock) : Below B w w2 := by
  refine (hnx.alloc hs o).grown hg (by simp; omega) ?_
  intro j hj
  rcases hown.2 with ⟨rfl, _⟩ | ⟨g, cap, cur, rfl, hge, _⟩
  · simp [Value.ownBlock] at hj
  · simp [Value.ownBlock] at hj; omega

/-- There is one ahead of which as many stand as have to: the middle one of a row in order. -/
theorem some_fits (us : List UInt64) (d : Array UInt64) (n : Nat) (hl : us.length = n) (h0 : 0 < n) (hp : Sort.PermIn 0 n us.toArray d) (hs : Sort.SortedIn (ltOf cfF) 0 n d) :
    ∃ i, i < n ∧ Fits us i := by
  subst hl
  obtain ⟨h1, h2, h3⟩ := mid_counts us d ((us.length - 1) / 2) (by omega) hp hs
  obtain ⟨i, hi, he⟩ := List.getElem_of_mem h3
  refine ⟨i, hi, ?_⟩
  have e : us[i]! = d[(us.length - 1) / 2]! := by rw [← he]; simp [hi]
  unfold Fits
  rw [e, both_all, lessTo_all]
  exact ⟨h1, h2⟩

/-- Whatever fits is, as the one of its kind, the middle one. -/
theorem fits_can (us : List UInt64) (d : Array UInt64) (n i : Nat) (hl : us.length = n) (h0 : 0 < n) (hp : Sort.PermIn 0 n us.toArray d) (hs : Sort.SortedIn (ltOf cfF) 0 n d) (h : Fits us i) :
    Fl.can (d[(n - 1) / 2]!).toNat = Fl.can (us[i]!).toNat := by
  subst hl
  unfold Fits at h
  rw [both_all, lessTo_all] at h
  exact can_of_cod (u64_lt _) (u64_lt _) (mid_cod us d _ _ (by omega) hp hs h.1 h.2)

set_option maxHeartbeats 2000000 in
theorem mids_walk (us : List UInt64) (b off cap n : Nat) (w : World) (h0 : 0 < n) (hn : n ≤ 200) (hl : Hid (us.length = n))
    (hc : ∀ j, j < n → w.cell? ⟨b, off + j, none⟩ = some (.int .u64 ((us[j]!).toNat : Int))) :
    Calls Try.prog 4 #[.slice (some ⟨b, off, none⟩) n cap] w fun e w' => e = .returned (.bool true) ∧ Below w.heap.size w w' := by
  have C : Aside (∀ j, j < n → w.cell? ⟨b, off + j, none⟩ = some (.int .u64 ((us[j]!).toNat : Int))) := hc
  clear hc
  obtain ⟨i0, hi, hz0, hz1, hz2⟩ := info_parts info24
  have I : Aside (Try.prog.info? 24 = some i0 ∧ i0.zero = some (.float .f64 0) ∧ i0.size = 1 ∧ i0.bytes = 8) := ⟨hi, hz0, hz1, hz2⟩
  clear hi hz0 hz1 hz2
  have t1 : ¬ (200 : Int) < (n : Int) := by omega
  go_enter Try.func4, Try.ntmps4
  go_wp2_with fail
  refine (alive_any w).mono ?_; rintro e w1 ⟨rfl, hb⟩
  go_wp2_with fail
  go_loopw [3, 16] (fun v i wr => ∃ k : Nat, k ≤ n ∧ i = .int .i64 k ∧ wr.ownsRow w.heap.size 24 1 v k (encs us k) ∧ Below w.heap.size w wr) (fun _ i _ => n - (intOf i).toNat)
  case atStart => exact ⟨0, Nat.zero_le _, rfl, World.ownsRow_nil _ _ _ _, hb⟩
  case round =>
    obtain ⟨k, hk, rfl, hown, hnx⟩ := hrel
    by_cases hlt : k < n
    · have hcx := cell_later hnx (C.out k hlt)
      have hsn : Hid (_ = _) := take_enc us k (by rw [hl.out]; exact hlt)
      have hE : Hid (encF us[k]! = .float .f64 (us[k]!).toNat) := rfl
      generalize hxx : (us[k]!).toNat = x at hcx hE
      have X : Hid ((us[k]!).toNat = x) := hxx
      clear hxx
      go_wp2_with fail
      refine (of_any _ _).mono ?_; rintro e w' ⟨rfl, hw'⟩
      replace hw' := hw'.symm; subst hw'
      go_wp2_with (at_builtin; refine wpList_append_own _ rfl _ _ 36 rfl w.heap.size 24 i0 (.float .f64 0) 1 8 Try.underlying36 I.out.1 I.out.2.1 I.out.2.2.1 I.out.2.2.2 rfl (by decide) _ _ _ rfl (hown.alloc _) ⟨wr.heap.size, 0, none⟩ 1 1 [.float .f64 x] rfl rfl ?c1 ?c2 ?c3 ?c4 ?c5 ?_)
      case c1 => exact cell_one_new _ _ _
      case c2 => intro u hu; simp at hu; subst hu; rfl
      case c3 => unfold maxLen; omega
      case c4 => omega
      case c5 => have := hnx.size; simp; omega
      intro v' w2 hown' hgrow _
      have hbn := fill_below hnx.size hown hnx hgrow
      rw [← hE.out, ← hsn.out] at hown'
      clear hown hgrow hnx hcx
      go_wp2
      go_roundw
      case rel => exact ⟨k + 1, by omega, by go_num, hown', hbn⟩
      case measure => simp [intOf]; omega
    · obtain rfl : k = n := by omega
      rw [encs_all us k hl.out] at hown
      rcases id hown.2 with ⟨_, hz⟩ | ⟨g, fc, cur, hv, _, _, _, _, _, _⟩
      · omega
      rw [hv] at hown
      have hcf : ∀ j u, (us.map encF)[j]? = some u → wr.cell? ⟨g, 0 + j, none⟩ = some u := by
        intro j u hj
        rw [Nat.zero_add]
        have hj' : j < us.length := by
          have := (List.getElem?_eq_some_iff.1 hj).1
          simpa using this
        rw [hown.cellAt j (by rw [hl.out] at hj'; omega)]; exact hj
      have hm := mid_any us g 0 fc wr (by rw [hl.out]; exact h0) (by rw [hl.out]; omega) hcf
      rw [hl.out] at hm
      subst hv
      go_wp2_with fail
      refine hm.mono ?_
      rintro e w2 ⟨d, rfl, hp, hs, hb2⟩
      have F : Aside (∃ i, i < k ∧ Fits us i) := some_fits us d k hl.out h0 hp hs
      have G : Aside (∀ i, Fits us i → Fl.can (d[(k - 1) / 2]!).toNat = Fl.can (us[i]!).toNat) := fun i h => fits_can us d k i hl.out h0 hp hs h
      generalize Fl.can (d[(k - 1) / 2]!).toNat = M at G
      have hbb : Below w.heap.size w w2 := hnx.trans (hb2.mono hnx.size)
      have D : Aside (∀ j, j < k → w2.cell? ⟨b, off + j, none⟩ = some (.int .u64 ((us[j]!).toNat : Int))) := fun j hj => cell_later hbb (C.out j hj)
      have E : Aside (∀ j, j < k → w2.cell? ⟨g, j, none⟩ = some (.float .f64 (us[j]!).toNat)) := by
        intro j hj
        have := cell_later hb2 (hcf j (encF us[j]!) (by rw [List.getElem?_map]; simp [show j < us.length by rw [hl.out]; exact hj]))
        rw [Nat.zero_add] at this
        exact this
      clear hp hs hb2 hcf hm hown hnx hb
      go_wp2
      go_loop [30] (fun i => ∃ j : Nat, j ≤ k ∧ i = .int .i64 j) (fun i => k - (intOf i).toNat)
      case atStart => exact ⟨0, Nat.zero_le _, rfl⟩
      case round =>
        obtain ⟨j, hj, rfl⟩ := hrel
        by_cases hlt2 : j < k
        · have c1 := D.out j hlt2
          have c2 := E.out j hlt2
          generalize (us[j]!).toNat = y at c1 c2
          go_wp2_with fail
          refine (bits_any _ _).mono ?_; rintro e w' ⟨rfl, hw'⟩
          replace hw' := hw'.symm; subst hw'
          go_wp2
          go_round
          case rel => exact ⟨j + 1, by omega, by go_num⟩
          case measure => simp [intOf]; omega
        · go_wp2_with fail
          refine (bits_any _ _).mono ?_; rintro e w' ⟨rfl, hw'⟩
          replace hw' := hw'.symm; subst hw'
          go_wp2_with fail
          refine (rmid_any us b off cap k w2 h0 hn hl D.out F.out).mono ?_
          rintro e w3 ⟨i, hi, rfl, hf, q, rfl⟩
          have hG := G.out i hf
          subst hG
          go_wp2
          go_ret
          exact ⟨rfl, below_drewN hbb q⟩

end Go.Proofs.Ytmggkfebfbnmbaa
