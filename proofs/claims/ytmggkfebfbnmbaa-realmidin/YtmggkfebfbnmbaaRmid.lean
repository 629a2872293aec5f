/- What the document's own Mid gives of any bits but none: the one of its kind of one ahead of which as many stand as have to. -/
import Derived.Test.YtmggkfebfbnmbaaCounts
import Derived.Test.YtmggkfebfbnmbaaWalksC
import Derived.Deep.QuietTactic
import Derived.BigQuiet
namespace Go.Proofs.Ytmggkfebfbnmbaa
open Go.RowKit

/-- As many stand ahead of place i's as have to. -/
def Fits (us : List UInt64) (i : Nat) : Prop :=
  lessTo us (us[i]!).toNat us.length ≤ (us.length - 1) / 2 ∧ (us.length - 1) / 2 < lessTo us (us[i]!).toNat us.length + sameTo us (us[i]!).toNat us.length

theorem drewN_cell (w : World) (q : Nat) (a : Addr) : (w.drewN q).cell? a = w.cell? a := by simp
theorem drewN_more {w wr : World} (h : ∃ q, wr = w.drewN q) (n : Nat) : ∃ q, wr.drewN n = w.drewN q := by
  obtain ⟨q, rfl⟩ := h
  exact ⟨q + n, by rw [World.drewN_drewN]⟩

theorem no_more {P : Nat → Prop} {k : Nat} (h : ∀ j, j < k → ¬ P j) (g : ¬ P k) : Hid (∀ j, j < k + 1 → ¬ P j) := by
  intro j hj
  rcases Nat.lt_or_eq_of_le (Nat.le_of_lt_succ hj) with e | e
  · exact h j e
  · rw [e]; exact g

set_option maxHeartbeats 2000000 in
theorem rmid_any (us : List UInt64) (b off cap n : Nat) (w : World) (h0 : 0 < n) (hn : n ≤ 200) (hl : Hid (us.length = n))
    (hc : ∀ j, j < n → w.cell? ⟨b, off + j, none⟩ = some (.int .u64 ((us[j]!).toNat : Int)))
    (hex : Hid (∃ i, i < n ∧ Fits us i)) :
    Calls Try.prog 22 #[.slice (some ⟨b, off, none⟩) n cap] w fun e w' => ∃ i, i < n ∧ e = .returned (.int .u64 (Fl.can (us[i]!).toNat)) ∧ Fits us i ∧ ∃ q, w' = w.drewN q := by
  have t0 : ((n : Int) == 0) = false := beq_eq_false_iff_ne.2 (by omega)
  have C : Aside (∀ j, j < n → w.cell? ⟨b, off + j, none⟩ = some (.int .u64 ((us[j]!).toNat : Int))) := hc
  clear hc
  go_enter Try.func22, Try.ntmps22
  go_wp2
  go_loopw [4] (fun i wr => ∃ k : Nat, k ≤ n ∧ i = .int .i64 k ∧ Hid (∀ j, j < k → ¬ Fits us j) ∧ ∃ q, wr = w.drewN q) (fun i _ => n - (intOf i).toNat)
  case atStart => exact ⟨0, Nat.zero_le _, rfl, fun j hj => absurd hj (Nat.not_lt_zero _), 0, rfl⟩
  case round =>
    obtain ⟨k, hk, rfl, hno, q, rfl⟩ := hrel
    by_cases hlt : k < n
    · go_wp2
      have c2 := C.out k hlt
      have hx : (us[k]!).toNat < 18446744073709551616 := u64_lt _
      generalize hxx : (us[k]!).toNat = x at c2 hx
      have X : Hid ((us[k]!).toNat = x) := hxx
      have HX : Hid (x < 18446744073709551616) := hx
      clear hxx hx
      go_loopw [5, 6, 7] (fun l s j wr => ∃ m : Nat, m ≤ n ∧ j = .int .i64 m ∧ l = .int .i64 (lessTo us x m) ∧ s = .int .i64 (sameTo us x m) ∧ ∃ q, wr = w.drewN q) (fun _ _ j _ => n - (intOf j).toNat)
      case atStart => exact ⟨0, Nat.zero_le _, rfl, rfl, rfl, q, rfl⟩
      case round =>
        obtain ⟨m, hm, rfl, rfl, rfl, hq⟩ := hrel
        have l1 := lessTo_le us x m
        have l2 := sameTo_le us x m
        have Q : Hid (∃ q, wr = w.drewN q) := hq
        have hcell : ∀ a, wr.cell? a = w.cell? a := by intro a; obtain ⟨q, rfl⟩ := hq; exact drewN_cell _ _ _
        by_cases hlt2 : m < n
        · have c1 := (hcell _).trans (C.out m hlt2)
          have c3 := (hcell _).trans c2
          have hy : (us[m]!).toNat < 18446744073709551616 := u64_lt _
          have hr := fun W => rorder_any (us[m]!).toNat x W hy HX.out
          clear hy hq hcell c2
          have S1 : Hid (_ = _) := lessTo_succ us x m (by rw [hl.out]; exact hlt2)
          have S2 : Hid (_ = _) := sameTo_succ us x m (by rw [hl.out]; exact hlt2)
          generalize (us[m]!).toNat = y at c1 hr S1 S2
          rcases Fl.ord_cases y x with ⟨_, e⟩ | ⟨_, e⟩ | ⟨_, e⟩ <;> rw [e] at hr S1 S2
          · clear e
            have T1 : Hid (lessTo us x (m + 1) = lessTo us x m + 1) := by have := S1.out; rw [if_pos rfl] at this; exact this
            have T2 : Hid (sameTo us x (m + 1) = sameTo us x m ) := by have := S2.out; rw [if_neg (by decide)] at this; exact this
            clear S1 S2
            go_wp2
            go_quiet ((go_at_call 18; exact Calls.quiet_of_same (hr _)))
            go_wp2
            go_roundw
            case rel => exact ⟨m + 1, by omega, by go_num, by rw [T1.out]; go_num, by rw [T2.out], drewN_more Q.out _⟩
            case measure => simp [intOf]; omega
          · clear e
            have T1 : Hid (lessTo us x (m + 1) = lessTo us x m ) := by have := S1.out; rw [if_neg (by decide)] at this; exact this
            have T2 : Hid (sameTo us x (m + 1) = sameTo us x m + 1) := by have := S2.out; rw [if_pos rfl] at this; exact this
            clear S1 S2
            go_wp2
            go_quiet ((go_at_call 18; exact Calls.quiet_of_same (hr _)))
            go_wp2
            go_roundw
            case rel => exact ⟨m + 1, by omega, by go_num, by rw [T1.out], by rw [T2.out]; go_num, drewN_more Q.out _⟩
            case measure => simp [intOf]; omega
          · clear e
            have T1 : Hid (lessTo us x (m + 1) = lessTo us x m ) := by have := S1.out; rw [if_neg (by decide)] at this; exact this
            have T2 : Hid (sameTo us x (m + 1) = sameTo us x m ) := by have := S2.out; rw [if_neg (by decide)] at this; exact this
            clear S1 S2
            go_wp2
            go_quiet ((go_at_call 18; exact Calls.quiet_of_same (hr _)))
            go_wp2
            go_roundw
            case rel => exact ⟨m + 1, by omega, by go_num, by rw [T1.out], by rw [T2.out], drewN_more Q.out _⟩
            case measure => simp [intOf]; omega
        · obtain rfl : m = n := by omega
          have F : Hid (Fits us k ↔ lessTo us x m ≤ (m - 1) / 2 ∧ (m - 1) / 2 < lessTo us x m + sameTo us x m) := by
            unfold Fits; rw [X.out, hl.out]; exact Iff.rfl
          have c3 := (hcell _).trans c2
          clear hq hcell c2
          by_cases f1 : lessTo us x m ≤ (m - 1) / 2
          · by_cases f2 : (m - 1) / 2 < lessTo us x m + sameTo us x m
            · have hfit : Hid (Fits us k) := F.out.2 ⟨f1, f2⟩
              have hk2 := fun W => rcanon_any x W
              go_wp2_with fail
              refine (hk2 _).mono ?_; rintro e w' ⟨rfl, rfl⟩
              go_wp2
              go_ret
              exact ⟨k, hlt, by rw [X.out]; rfl, hfit.out, Q.out⟩
            · have hfit : Hid (¬ Fits us k) := fun h => f2 (F.out.1 h).2
              go_wp2_with fail
              go_roundw
              case rel => exact ⟨k + 1, by omega, by go_num, no_more hno.out hfit.out, Q.out⟩
              case measure => simp [intOf]; omega
          · have hfit : Hid (¬ Fits us k) := fun h => f1 (F.out.1 h).1
            go_wp2_with fail
            go_roundw
            case rel => exact ⟨k + 1, by omega, by go_num, no_more hno.out hfit.out, Q.out⟩
            case measure => simp [intOf]; omega
    · obtain rfl : k = n := by omega
      exfalso
      obtain ⟨i, hi, hf⟩ := hex.out
      exact hno.out i hi hf

end Go.Proofs.Ytmggkfebfbnmbaa
