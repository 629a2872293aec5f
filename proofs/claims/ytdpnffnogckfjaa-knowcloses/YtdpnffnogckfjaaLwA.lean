/- What Few, the document's own Check, right and Has give. -/
import Derived.Test.YtdpnffnogckfjaaMdV
import Derived.Test.YtdpnffnogckfjaaArg
namespace Go.Proofs.Ytdpnffnogckfjaa
open Go.RowKit

set_option maxRecDepth 20000 in
set_option maxHeartbeats 4000000 in
/-- Few: true of no more than twenty. -/
theorem few_any (a : Option Addr) (n cap : Nat) (l : List (List UInt8)) (w : World) (h : IsTerms w a n l) : Calls Try.prog 12 #[.slice a n cap] w fun e w' => ∃ b, e = .returned (.bool b) ∧ (b = true → n ≤ 20) ∧ Below w.heap.size w w' := by
  obtain ⟨hn, hn63, hl, -⟩ := h
  have R : Aside (∀ b : Bool, (b = true → n ≤ 20) → (fun (e : Ending) w' => ∃ b, e = .returned (.bool b) ∧ (b = true → n ≤ 20) ∧ Below w.heap.size w w') (.returned (.bool b)) w) := by
    intro b hb; exact ⟨b, rfl, hb, Below.refl _ _⟩
  generalize (fun (e : Ending) w' => ∃ b, e = .returned (.bool b) ∧ (b = true → n ≤ 20) ∧ Below w.heap.size w w') = Q at R ⊢
  have HN : Hid (l.length = n) := hn
  have C : Aside (AtS w a l) := hl
  have N63 : Aside (n ≤ 9223372036854775807) := hn63
  clear hl hn hn63
  go_enter Try.func12, Try.ntmps12
  go_wp2_with fail
  go_loopw [3, 8] (fun s i wr => ∃ (j : Nat) (t : Int), j ≤ n ∧ i = .int .i64 j ∧ s = .int .i64 t ∧ wr = w) (fun _ i _ => n - (intOf i).toNat)
  case atStart => exact ⟨0, 0, Nat.zero_le _, rfl, rfl, rfl⟩
  case round =>
    obtain ⟨j, t, hj, rfl, rfl, hw⟩ := hrel
    subst hw
    by_cases hlt : j < n
    · have hjl : j < l.length := by rw [HN.out]; exact hlt
      obtain ⟨b, off, rfl, hcs⟩ : ∃ b off, a = some ⟨b, off, none⟩ ∧ ∀ i y, l[i]? = some y → wr.cell? ⟨b, off + i, none⟩ = some (str y) := by
        rcases C.out with e | h
        · rw [e] at hjl; simp at hjl
        · exact h
      have c0 := hcs j l[j] (List.getElem?_eq_getElem hjl)
      have e1 : wrap64 ((j : Int) + 1) = ((j + 1 : Nat) : Int) := by
        unfold wrap64
        have := N63.out
        omega
      have E1 : Aside (wrap64 ((j : Int) + 1) = ((j + 1 : Nat) : Int)) := e1
      have u1 : (j : Int) < (n : Int) := by omega
      have u0 : (0 : Int) ≤ (j : Int) := by omega
      clear hcs e1
      unfold str at c0
      generalize l[j] = y at *
      generalize (⟨y.toArray⟩ : ByteArray) = x at *
      go_wp2
      go_roundw
      case rel => exact ⟨j + 1, wrap64 (t + (x.size : Int)), by omega, by rw [E1.out], rfl, trivial⟩
      case measure => rw [E1.out]; simp only [intOf]; omega
    · obtain rfl : j = n := by omega
      by_cases h20 : j ≤ 20
      · have Q1 : Aside (∀ b : Bool, Q (.returned (.bool b)) wr) := fun b => R.out b (fun _ => h20)
        have u : (j : Int) ≤ 20 := by omega
        clear R C
        go_wp2
        exact Q1.out _
      · have Q1 := R.out false (fun h => by cases h)
        have u : ¬ (j : Int) ≤ 20 := by omega
        clear R C
        go_wp2
        exact Q1

set_option maxHeartbeats 4000000 in
/-- The document's own Check. -/
theorem rchecks_any (a : Option Addr) (n cap : Nat) (l : List (List UInt8)) (w : World) (hn : l.length = n) (hn63 : n ≤ 4000) (hl : AtS w a l) : Calls Try.prog 29 #[.slice a n cap] w fun e w' => e = .returned (.int .i64 (Tm.knownE l : Nat)) ∧ Below w.heap.size w w' := by
  have R : Aside (∀ c w', c = Tm.knownE l → Below w.heap.size w w' → (fun (e : Ending) w' => e = .returned (.int .i64 (Tm.knownE l : Nat)) ∧ Below w.heap.size w w') (.returned (.int .i64 (c : Nat))) w') := by
    rintro c w' rfl hb; exact ⟨rfl, hb⟩
  generalize (fun (e : Ending) w' => e = .returned (.int .i64 (Tm.knownE l : Nat)) ∧ Below w.heap.size w w') = Q at R ⊢
  by_cases hbig : 200 < n
  · have Q1 := R.out 3 w (by unfold Tm.knownE; rw [if_pos (by omega)]) (Below.refl _ _)
    have t1 : (200 : Int) < (n : Int) := by omega
    clear R hl hn
    go_enter Try.func29, Try.ntmps29
    go_wp2
    exact Q1
  · have hE : Tm.knownE l = Tm.firstErr l := by unfold Tm.knownE; rw [if_neg (by omega)]
    rw [hE] at R
    have HN : Hid (l.length = n) := hn
    have C : Aside (AtS w a l) := hl
    have t1 : ¬ (200 : Int) < (n : Int) := by omega
    clear hl hn hE hbig
    go_enter Try.func29, Try.ntmps29
    go_wp2_with fail
    go_loopw [3] (fun i wr => ∃ j : Nat, j ≤ n ∧ i = .int .i64 j ∧ Tm.firstErr (l.take j) = 0 ∧ Below w.heap.size w wr) (fun i _ => n - (intOf i).toNat)
    case atStart => exact ⟨0, Nat.zero_le _, rfl, rfl, Below.refl _ _⟩
    case round =>
      obtain ⟨j, hj, rfl, hf, hb⟩ := hrel
      have S : Aside (Tm.firstErr (l.take j) = 0 ∧ Below w.heap.size w wr) := ⟨hf, hb⟩
      clear hf hb
      by_cases hlt : j < n
      · have hjl : j < l.length := by rw [HN.out]; exact hlt
        have hx := List.getElem?_eq_getElem hjl
        obtain ⟨b, off, rfl, hcs⟩ : ∃ b off, a = some ⟨b, off, none⟩ ∧ ∀ i y, l[i]? = some y → wr.cell? ⟨b, off + i, none⟩ = some (str y) := by
          rcases atS_later S.out.2 C.out with e | h
          · rw [e] at hjl; simp at hjl
          · exact h
        have c0 := hcs j l[j] hx
        obtain ⟨st1, st2⟩ := Tm.firstErr_step hx S.out.1
        have FE : Aside ((Tm.chk l[j] = 0 → Tm.firstErr (l.take (j + 1)) = 0) ∧ (Tm.chk l[j] ≠ 0 → Tm.firstErr l = Tm.chk l[j])) := ⟨st1, st2⟩
        have K : Aside (Calls Try.prog 19 #[str l[j]] wr (fun e w' => e = .returned (.int .i64 (Tm.chk l[j] : Nat)) ∧ Below wr.heap.size wr w')) := rcheck_any ⟨l[j].toArray⟩ wr
        have u1 : (j : Int) < (n : Int) := by omega
        have u0 : (0 : Int) ≤ (j : Int) := by omega
        clear hcs hx st1 st2
        unfold str at c0 K
        generalize l[j] = t at *
        generalize (⟨t.toArray⟩ : ByteArray) = x at *
        by_cases hc : Tm.chk t = 0
        · rw [hc] at K
          have F2 : Aside (Tm.firstErr (l.take (j + 1)) = 0) := FE.out.1 hc
          clear FE hc
          go_wp2_with fail
          refine K.out.mono ?_
          rintro e w2 ⟨rfl, hb2⟩
          have B2 : Aside (Below w.heap.size w w2) := below_step S.out.2 hb2
          clear K hb2 S
          go_wp2
          go_roundw
          case rel => exact ⟨j + 1, by omega, by go_num, F2.out, B2.out⟩
          case measure => simp [intOf]; omega
        · have Q2 : Aside (∀ w', Below w.heap.size w w' → Q (.returned (.int .i64 (Tm.chk t : Nat))) w') := fun w' hb => R.out (Tm.chk t) w' (FE.out.2 hc).symm hb
          have t9 : (((Tm.chk t : Nat) : Int) != 0) = true := by
            have : ¬ ((Tm.chk t : Nat) : Int) = 0 := by omega
            simpa using this
          clear FE R
          generalize Tm.chk t = c at *
          go_wp2_with fail
          refine K.out.mono ?_
          rintro e w2 ⟨rfl, hb2⟩
          have Q3 := Q2.out w2 (below_step S.out.2 hb2)
          clear K hb2 S Q2
          go_wp2
          exact Q3
      · obtain rfl : j = n := by omega
        have Q1 := R.out 0 wr (by
          have := S.out.1
          rw [List.take_of_length_le (by rw [HN.out]; exact Nat.le_refl _)] at this
          exact this.symm) S.out.2
        clear R S
        go_wp2
        exact Q1

theorem right_any (a : Option Addr) (n cap : Nat) (l : List (List UInt8)) (w : World) (hn : l.length = n) (hn63 : n ≤ 4000) (hl : AtS w a l) : Calls Try.prog 18 #[.slice a n cap] w fun e w' => e = .returned (.bool (decide (Tm.knownE l = 0))) ∧ Below w.heap.size w w' := by
  have K := rchecks_any a n cap l w hn hn63 hl
  have t : (((Tm.knownE l : Nat) : Int) == 0) = decide (Tm.knownE l = 0) := by
    rw [Bool.eq_iff_iff, decide_eq_true_eq]
    simp
  generalize Tm.knownE l = c at *
  generalize decide (c = 0) = b at *
  clear hn hl
  go_enter Try.func18, Try.ntmps18
  go_wp2_with fail
  refine K.mono ?_
  rintro e w2 ⟨rfl, hb⟩
  have Q1 : (Ending.returned (.bool (((c : Nat) : Int) == 0)) : Ending) = .returned (.bool b) ∧ Below w.heap.size w w2 := ⟨by rw [t], hb⟩
  clear t K hb
  go_wp2
  go_ret
  exact Q1

end Go.Proofs.Ytdpnffnogckfjaa
