/- What Same gives: whether two lists of texts are the very same. -/
import Derived.Test.YtdpnffnogckfjaaOpen
namespace Go.Proofs.Ytdpnffnogckfjaa
open Go.RowKit

def Drew (w w' : World) : Prop := ∃ q, w' = w.drewN q
theorem drew_below {w w' : World} (h : Drew w w') : Below w.heap.size w w' := by
  obtain ⟨q, rfl⟩ := h; exact below_drew (Below.refl _ w) q
theorem drew_cell {w w' : World} (h : Drew w w') {a : Addr} {v : Value} (hc : w.cell? a = some v) : w'.cell? a = some v := by
  obtain ⟨q, rfl⟩ := h; exact hc
theorem drew_more {w w' : World} (h : Drew w w') (q : Nat) : Drew w (w'.drewN q) := by
  obtain ⟨p, rfl⟩ := h
  exact ⟨p + q, by simp [World.drewN, Nat.add_assoc]⟩

set_option maxHeartbeats 2000000 in
theorem same_any (a c : Option Addr) (n cap m ccap : Nat) (l k : List (List UInt8)) (w : World) (hn : l.length = n) (hm : k.length = m) (h1 : AtS w a l) (h2 : AtS w c k) (hbig : n ≤ 4000) :
    Calls Try.prog 17 #[.slice a n cap, .slice c m ccap] w fun e w' => e = .returned (.bool (decide (l = k))) ∧ Below w.heap.size w w' := by
  have R : Aside (∀ t w', (t = true ↔ l = k) → Below w.heap.size w w' → (fun (e : Ending) w' => e = .returned (.bool (decide (l = k))) ∧ Below w.heap.size w w') (.returned (.bool t)) w') := by
    intro t w' h hb
    refine ⟨?_, hb⟩
    cases t
    · rw [decide_eq_false (fun e => by have := h.2 e; cases this)]
    · rw [decide_eq_true (h.1 rfl)]
  generalize (fun (e : Ending) w' => e = .returned (.bool (decide (l = k))) ∧ Below w.heap.size w w') = Q at R ⊢
  have HN : Hid (l.length = n) := hn
  have HM : Hid (k.length = m) := hm
  by_cases hnm : n = m
  · subst hnm
    have C : Aside (AtS w a l ∧ AtS w c k) := ⟨h1, h2⟩
    clear h1 h2 hn hm
    go_enter Try.func17, Try.ntmps17
    go_wp2_with fail
    go_loopw [13] (fun i wr => ∃ j : Nat, j ≤ n ∧ i = .int .i64 j ∧ l.take j = k.take j ∧ Drew w wr) (fun i _ => n - (intOf i).toNat)
    case atStart => exact ⟨0, Nat.zero_le _, rfl, by simp, 0, rfl⟩
    case round =>
      obtain ⟨j, hj, rfl, he, hb⟩ := hrel
      have H : Aside (l.take j = k.take j) := he
      clear he
      by_cases hlt : j < n
      · have hjl : j < l.length := by rw [HN.out]; exact hlt
        have hjk : j < k.length := by rw [HM.out]; exact hlt
        obtain ⟨C1, C2⟩ := C.out
        rcases C1 with e | ⟨b, off, rfl, hcs⟩
        · rw [e] at hjl; simp at hjl
        rcases C2 with e | ⟨b2, off2, rfl, hcs2⟩
        · rw [e] at hjk; simp at hjk
        have c0 := drew_cell hb (hcs j l[j] (List.getElem?_eq_getElem hjl))
        have d0 := drew_cell hb (hcs2 j k[j] (List.getElem?_eq_getElem hjk))
        have te : ((⟨l[j].toArray⟩ : ByteArray).toList == (⟨k[j].toArray⟩ : ByteArray).toList) = decide (l[j] = k[j]) := eq_lists _ _
        have E1 : Aside (l[j] = k[j] → l.take (j + 1) = k.take (j + 1)) := by
          intro e
          rw [List.take_succ_eq_append_getElem hjl, List.take_succ_eq_append_getElem hjk, H.out, e]
        have E2 : Aside (¬ l[j] = k[j] → (false = true ↔ l = k)) := by
          intro e
          refine ⟨fun h => (by cases h), fun h => absurd ?_ e⟩
          subst h; rfl
        have t1 : (j : Int) < (n : Int) := by omega
        have t0 : (0 : Int) ≤ (j : Int) := by omega
        unfold str at c0 d0
        generalize (⟨l[j].toArray⟩ : ByteArray) = x at c0 te
        generalize (⟨k[j].toArray⟩ : ByteArray) = y at d0 te
        by_cases hd : l[j] = k[j]
        · rw [decide_eq_true hd] at te
          have EE : Aside (l.take (j + 1) = k.take (j + 1)) := E1.out hd
          clear E1 E2 R C hcs hcs2 H hd
          go_wp2_with fail
          go_quiet (fail)
          go_wp2
          have hbb : ∀ q, Drew w (wr.drewN q) := fun q => drew_more hb q
          go_roundw
          case rel => exact ⟨j + 1, by omega, by go_num, EE.out, hbb _⟩
          case measure => simp [intOf]; omega
        · rw [decide_eq_false hd] at te
          have R1 : Aside (∀ q, Q (.returned (.bool false)) (wr.drewN q)) := fun q => R.out false _ (E2.out hd) (drew_below (drew_more hb q))
          clear E1 E2 R C hcs hcs2 H hd
          go_wp2_with fail
          go_quiet (fail)
          go_wp2
          exact R1.out _
      · obtain rfl : j = n := by omega
        have EE : true = true ↔ l = k := ⟨fun _ => by
          have := H.out
          rw [List.take_of_length_le (by rw [HN.out]; exact Nat.le_refl _), List.take_of_length_le (by rw [HM.out]; exact Nat.le_refl _)] at this
          exact this, fun _ => rfl⟩
        have R1 := R.out true wr EE (drew_below hb)
        clear R EE
        go_wp2
        exact R1
  · have R1 := R.out false w ⟨fun h => (by cases h), fun h => (by exfalso; apply hnm; rw [← hn, ← hm, h])⟩ (Below.refl _ w)
    have t1 : ((n : Int) != (m : Int)) = true := by
      have : ¬ (n : Int) = (m : Int) := by omega
      simpa using this
    clear R h1 h2 hn hm hnm
    go_enter Try.func17, Try.ntmps17
    go_wp2
    exact R1

end Go.Proofs.Ytdpnffnogckfjaa
