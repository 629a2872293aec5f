/- RealMidIn at a list that is not empty and no longer than two hundred, at none, and at too many: the walks. -/
import Derived.Test.YtmggkfebfbnmbaaList
namespace Go.Proofs.Ytmggkfebfbnmbaa
open Go.RowKit

/-- Is one of the first j the same as x? -/
def isTo (us : List UInt64) (x j : Nat) : Bool := decide (0 < sameTo us x j)

/-- What the middle one of a row in order has ahead of it, behind it, and beside it. -/
theorem in_counts (us : List UInt64) (d : Array UInt64) (n : Nat) (hl : us.length = n) (h0 : 0 < n) (hp : Sort.PermIn 0 n us.toArray d) (hs : Sort.SortedIn (ltOf cfF) 0 n d) :
    isTo us (Fl.can (d[(n - 1) / 2]!).toNat) n = true ∧ 2 * lessTo us (Fl.can (d[(n - 1) / 2]!).toNat) n ≤ n ∧ 2 * moreTo us (Fl.can (d[(n - 1) / 2]!).toNat) n ≤ n := by
  subst hl
  obtain ⟨h1, h2, _⟩ := mid_counts us d ((us.length - 1) / 2) (by omega) hp hs
  rw [← Fl.cod_can (d[(us.length - 1) / 2]!).toNat] at h1 h2
  rw [← lessTo_all] at h1
  rw [← both_all] at h2
  have h3 := three_all us (Fl.can (d[(us.length - 1) / 2]!).toNat)
  unfold isTo
  exact ⟨decide_eq_true (by omega), by omega, by omega⟩

set_option maxHeartbeats 2000000 in
theorem midIn_walk (us : List UInt64) (b off cap n : Nat) (w : World) (h0 : 0 < n) (hn : n ≤ 200) (hl : Hid (us.length = n))
    (hc : ∀ j, j < n → w.cell? ⟨b, off + j, none⟩ = some (.int .u64 ((us[j]!).toNat : Int))) :
    Calls Try.prog 10 #[.slice (some ⟨b, off, none⟩) n cap] w fun e w' => e = .returned (.bool true) ∧ Below w.heap.size w w' := by
  have C : Aside (∀ j, j < n → w.cell? ⟨b, off + j, none⟩ = some (.int .u64 ((us[j]!).toNat : Int))) := hc
  clear hc
  obtain ⟨i0, hi, hz0, hz1, hz2⟩ := info_parts info24
  have I : Aside (Try.prog.info? 24 = some i0 ∧ i0.zero = some (.float .f64 0) ∧ i0.size = 1 ∧ i0.bytes = 8) := ⟨hi, hz0, hz1, hz2⟩
  clear hi hz0 hz1 hz2
  have t1 : ¬ (200 : Int) < (n : Int) := by omega
  have t0 : ((n : Int) == 0) = false := beq_eq_false_iff_ne.2 (by omega)
  go_enter Try.func10, Try.ntmps10
  go_wp2_with fail
  refine (alive_any w).mono ?_; rintro e w1 ⟨rfl, hb⟩
  go_wp2_with fail
  go_loopw [3, 24] (fun v i wr => ∃ k : Nat, k ≤ n ∧ i = .int .i64 k ∧ wr.ownsRow w.heap.size 24 1 v k (encs us k) ∧ Below w.heap.size w wr) (fun _ i _ => n - (intOf i).toNat)
  case atStart => exact ⟨0, Nat.zero_le _, rfl, World.ownsRow_nil _ _ _ _, hb⟩
  case round =>
    obtain ⟨k, hk, rfl, hown, hnx⟩ := hrel
    by_cases hlt : k < n
    · have hcx := cell_later hnx (C.out k hlt)
      have hsn : Hid (_ = _) := take_enc us k (by rw [hl.out]; exact hlt)
      have hE : Hid (encF us[k]! = .float .f64 (us[k]!).toNat) := rfl
      generalize hxx : (us[k]!).toNat = x at hcx hE
      have X : Hid ((us[k]!).toNat = x) := hxx
      clear hxx
      go_wp2_with fail
      refine (of_any _ _).mono ?_; rintro e w' ⟨rfl, hw'⟩
      replace hw' := hw'.symm; subst hw'
      go_wp2_with (at_builtin; refine wpList_append_own _ rfl _ _ 36 rfl w.heap.size 24 i0 (.float .f64 0) 1 8 Try.underlying36 I.out.1 I.out.2.1 I.out.2.2.1 I.out.2.2.2 rfl (by decide) _ _ _ rfl (hown.alloc _) ⟨wr.heap.size, 0, none⟩ 1 1 [.float .f64 x] rfl rfl ?c1 ?c2 ?c3 ?c4 ?c5 ?_)
      case c1 => exact cell_one_new _ _ _
      case c2 => intro u hu; simp at hu; subst hu; rfl
      case c3 => unfold maxLen; omega
      case c4 => omega
      case c5 => have := hnx.size; simp; omega
      intro v' w2 hown' hgrow _
      have hbn := fill_below hnx.size hown hnx hgrow
      rw [← hE.out, ← hsn.out] at hown'
      clear hown hgrow hnx hcx
      go_wp2
      go_roundw
      case rel => exact ⟨k + 1, by omega, by go_num, hown', hbn⟩
      case measure => simp [intOf]; omega
    · obtain rfl : k = n := by omega
      rw [encs_all us k hl.out] at hown
      rcases id hown.2 with ⟨_, hz⟩ | ⟨g, fc, cur, hv, _, _, _, _, _, _⟩
      · omega
      rw [hv] at hown
      have hcf : ∀ j u, (us.map encF)[j]? = some u → wr.cell? ⟨g, 0 + j, none⟩ = some u := by
        intro j u hj
        rw [Nat.zero_add]
        have hj' : j < us.length := by
          have := (List.getElem?_eq_some_iff.1 hj).1
          simpa using this
        rw [hown.cellAt j (by rw [hl.out] at hj'; omega)]; exact hj
      have hm := mid_any us g 0 fc wr (by rw [hl.out]; exact h0) (by rw [hl.out]; omega) hcf
      rw [hl.out] at hm
      subst hv
      go_wp2_with fail
      refine hm.mono ?_
      rintro e w2 ⟨d, rfl, hp, hs, hb2⟩
      obtain ⟨q1, q2, q3⟩ := in_counts us d k hl.out h0 hp hs
      have hM : Hid (Fl.can (d[(k - 1) / 2]!).toNat < 18446744073709551616) := Fl.can_lt (u64_lt _)
      generalize Fl.can (d[(k - 1) / 2]!).toNat = M at q1 q2 q3 hM
      have Q : Aside (isTo us M k = true ∧ 2 * lessTo us M k ≤ k ∧ 2 * moreTo us M k ≤ k) := ⟨q1, q2, q3⟩
      clear q1 q2 q3
      have hbb : Below w.heap.size w w2 := hnx.trans (hb2.mono hnx.size)
      have E : Aside (∀ j, j < k → w2.cell? ⟨g, j, none⟩ = some (.float .f64 (us[j]!).toNat)) := by
        intro j hj
        have := cell_later hb2 (hcf j (encF us[j]!) (by rw [List.getElem?_map]; simp [show j < us.length by rw [hl.out]; exact hj]))
        rw [Nat.zero_add] at this
        exact this
      clear hp hs hb2 hcf hm hown hnx hb
      go_wp2
      go_loop [7, 8, 9, 38] (fun l m s i => ∃ j : Nat, j ≤ k ∧ i = .int .i64 j ∧ l = .int .i64 (lessTo us M j) ∧ m = .int .i64 (moreTo us M j) ∧ s = .bool (isTo us M j)) (fun _ _ _ i => k - (intOf i).toNat)
      case atStart => exact ⟨0, Nat.zero_le _, rfl, rfl, rfl, rfl⟩
      case round =>
        obtain ⟨j, hj, rfl, rfl, rfl, rfl⟩ := hrel
        have l1 := lessTo_le us M j
        have l2 := moreTo_le us M j
        by_cases hlt2 : j < k
        · have c2 := E.out j hlt2
          have S1 : Hid (_ = _) := lessTo_succ us M j (by rw [hl.out]; exact hlt2)
          have S2 : Hid (_ = _) := sameTo_succ us M j (by rw [hl.out]; exact hlt2)
          have S3 : Hid (_ = _) := moreTo_succ us M j (by rw [hl.out]; exact hlt2)
          have hr := fun W => order_any (us[j]!).toNat M W (u64_lt _) hM.out
          generalize (us[j]!).toNat = y at c2 S1 S2 S3 hr
          rcases Fl.ord_cases y M with ⟨_, e⟩ | ⟨_, e⟩ | ⟨_, e⟩ <;> rw [e] at hr S1 S2 S3
          · clear e
            have T1 : Hid (lessTo us M (j + 1) = lessTo us M j + 1) := by have := S1.out; rw [if_pos rfl] at this; exact this
            have T2 : Hid (isTo us M (j + 1) = isTo us M j) := by have := S2.out; rw [if_neg (by decide)] at this; unfold isTo; rw [this]; rfl
            have T3 : Hid (moreTo us M (j + 1) = moreTo us M j) := by have := S3.out; rw [if_neg (by decide)] at this; exact this
            clear S1 S2 S3
            go_wp2_with fail
            refine (hr _).mono ?_; rintro e w' ⟨rfl, hw'⟩
            replace hw' := hw'.symm; subst hw'
            go_wp2
            go_round
            case rel => exact ⟨j + 1, by omega, by go_num, by rw [T1.out]; go_num, by rw [T3.out], by rw [T2.out]⟩
            case measure => simp [intOf]; omega
          · clear e
            have T1 : Hid (lessTo us M (j + 1) = lessTo us M j) := by have := S1.out; rw [if_neg (by decide)] at this; exact this
            have T2 : Hid (isTo us M (j + 1) = true) := by have := S2.out; rw [if_pos rfl] at this; unfold isTo; rw [this]; exact decide_eq_true (by omega)
            have T3 : Hid (moreTo us M (j + 1) = moreTo us M j) := by have := S3.out; rw [if_neg (by decide)] at this; exact this
            clear S1 S2 S3
            go_wp2_with fail
            refine (hr _).mono ?_; rintro e w' ⟨rfl, hw'⟩
            replace hw' := hw'.symm; subst hw'
            go_wp2
            go_round
            case rel => exact ⟨j + 1, by omega, by go_num, by rw [T1.out], by rw [T3.out], by rw [T2.out]⟩
            case measure => simp [intOf]; omega
          · clear e
            have T1 : Hid (lessTo us M (j + 1) = lessTo us M j) := by have := S1.out; rw [if_neg (by decide)] at this; exact this
            have T2 : Hid (isTo us M (j + 1) = isTo us M j) := by have := S2.out; rw [if_neg (by decide)] at this; unfold isTo; rw [this]; rfl
            have T3 : Hid (moreTo us M (j + 1) = moreTo us M j + 1) := by have := S3.out; rw [if_pos rfl] at this; exact this
            clear S1 S2 S3
            go_wp2_with fail
            refine (hr _).mono ?_; rintro e w' ⟨rfl, hw'⟩
            replace hw' := hw'.symm; subst hw'
            go_wp2
            go_round
            case rel => exact ⟨j + 1, by omega, by go_num, by rw [T1.out], by rw [T3.out]; go_num, by rw [T2.out]⟩
            case measure => simp [intOf]; omega
        · obtain rfl : j = k := by omega
          obtain ⟨q1, q2, q3⟩ := Q.out
          go_wp2
          go_ret
          exact ⟨congrArg (fun v => Ending.returned (.bool v)) (decide_eq_true (by omega)), hbb⟩

set_option maxHeartbeats 400000 in
theorem midIn_many (a : Option Addr) (n cap : Nat) (w : World) (hn : 200 < n) :
    Calls Try.prog 10 #[.slice a n cap] w fun e w' => e = .returned (.bool true) ∧ Below w.heap.size w w' := by
  have t1 : (200 : Int) < (n : Int) := by omega
  go_enter Try.func10, Try.ntmps10
  go_wp2_with fail
  refine (alive_any w).mono ?_; rintro e w1 ⟨rfl, hb⟩
  go_wp2
  go_ret
  exact ⟨rfl, hb⟩

set_option maxHeartbeats 400000 in
theorem midIn_none (a : Option Addr) (cap : Nat) (w : World) :
    Calls Try.prog 10 #[.slice a 0 cap] w fun e w' => e = .returned (.bool true) ∧ Below w.heap.size w w' := by
  go_enter Try.func10, Try.ntmps10
  go_wp2_with fail
  refine (alive_any w).mono ?_; rintro e w1 ⟨rfl, hb⟩
  go_wp2
  go_ret
  exact ⟨rfl, hb⟩

end Go.Proofs.Ytmggkfebfbnmbaa
