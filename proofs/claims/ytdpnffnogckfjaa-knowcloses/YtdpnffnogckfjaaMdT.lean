/- What newMind gives. -/
import Derived.Test.YtdpnffnogckfjaaMdS
namespace Go.Proofs.Ytdpnffnogckfjaa
open Go.RowKit Go.Maps

def NewPost (l : List (List UInt8)) (w : World) (e : Ending) (w' : World) : Prop :=
  Below w.heap.size w w' ∧ ((Tm.knownE l ≠ 0 ∧ e = .returned (.tuple #[.pointer none, .int .i64 (Tm.knownE l : Nat)])) ∨
    (Tm.knownE l = 0 ∧ ∃ pm bv bk, e = .returned (.tuple #[.pointer (some ⟨pm, 0, none⟩), .int .i64 0]) ∧ Ready w pm bv bk l (· ∈ l) 1200000 w'))

theorem bd61 (a b : Nat) (w : World) : (Instr.build 61 #[(0, .map (some a)), (1, .map (some b))]).run Try.prog w = .ok (.agg #[.map (some a), .map (some b), .slice none 0 0]) w := run_build w 61 _ _ (by kernel_rfl)

set_option maxRecDepth 20000 in
set_option maxHeartbeats 4000000 in
theorem newMind_any (a : Option Addr) (n cap : Nat) (l : List (List UInt8)) (w : World) (hn : l.length = n) (hl : AtS w a l) : Calls Try.prog 25 #[.slice a n cap] w (NewPost l w) := by
  by_cases hbig : 200 < n
  · have Q1 : NewPost l w (.returned (.tuple #[.pointer none, .int .i64 3])) w := by
      have : Tm.knownE l = 3 := by unfold Tm.knownE; rw [if_pos (by omega)]
      exact ⟨Below.refl _ _, .inl ⟨by rw [this]; decide, by rw [this]; rfl⟩⟩
    generalize NewPost l w = Q at Q1 ⊢
    have t1 : (200 : Int) < (n : Int) := by omega
    clear hl hn
    go_enter Try.func25, Try.ntmps25
    go_wp2
    exact Q1
  · have hE : Tm.knownE l = Tm.firstErr l := by unfold Tm.knownE; rw [if_neg (by omega)]
    have QE : Aside (∀ w' c, Tm.firstErr l = c → c ≠ 0 → Below w.heap.size w w' → NewPost l w (.returned (.tuple #[.pointer none, .int .i64 (c : Nat)])) w') := by
      rintro w' c rfl hc hb
      exact ⟨hb, .inl ⟨by rw [hE]; exact hc, by rw [hE]⟩⟩
    have QK : Aside (∀ w' pm bv bk, Tm.firstErr l = 0 → Ready w pm bv bk l (· ∈ l) 1200000 w' → NewPost l w (.returned (.tuple #[.pointer (some ⟨pm, 0, none⟩), .int .i64 0])) w') := by
      intro w' pm bv bk hc hr
      obtain ⟨ω, M, E, h1, h2, h3, h4, h5, h6⟩ := hr
      exact ⟨h6, .inr ⟨by rw [hE]; exact hc, pm, bv, bk, rfl, ω, M, E, h1, h2, h3, h4, h5, h6⟩⟩
    generalize NewPost l w = Q at QE QK ⊢
    have HN : Hid (l.length = n) := hn
    have HL : Aside (AtS w a l) := hl
    have t1 : ¬ (200 : Int) < (n : Int) := by omega
    have n2 : n ≤ 200 := by omega
    have bd := bd61
    have hmm := @run_makeMap Try.prog
    have R0 : Aside (Ready w (w.heap.size + 1 + 1) w.heap.size (w.heap.size + 1) [] (fun _ => False) 0 (((w.alloc (.map #[] 0)).alloc (.map #[] 0)).alloc (.cells #[.map (some w.heap.size), .map (some (w.heap.size + 1)), .slice none 0 0] 61))) := ready_made w
    clear hl hn hE hbig
    go_enter Try.func25, Try.ntmps25
    go_wp2_with fail
    generalize ((w.alloc (.map #[] 0)).alloc (.map #[] 0)).alloc (.cells #[.map (some w.heap.size), .map (some (w.heap.size + 1)), .slice none 0 0] 61) = W1 at *
    generalize w.heap.size + 1 + 1 = pm at *
    generalize w.heap.size + 1 = bk at *
    obtain ⟨bv, hbv⟩ : ∃ bv, bv = w.heap.size := ⟨_, rfl⟩
    rw [← hbv] at R0 ⊢
    clear hbv
    go_loopw [17] (fun i wr => ∃ j : Nat, j ≤ n ∧ i = .int .i64 j ∧ Tm.firstErr (l.take j) = 0 ∧ Ready w pm bv bk (l.take j) (· ∈ l.take j) (6000 * j) wr) (fun i _ => n - (intOf i).toNat)
    case atStart =>
      refine ⟨0, Nat.zero_le _, rfl, rfl, ?_⟩
      obtain ⟨ω, M, E, h1, h2, h3, h4, h5, h6⟩ := R0.out
      exact ⟨ω, M, E, h1, h2.congr (fun x => by simp), h3, h4, h5, h6⟩
    case round =>
      obtain ⟨j, hj, rfl, hf, hr⟩ := hrel
      have S : Aside (Tm.firstErr (l.take j) = 0 ∧ Ready w pm bv bk (l.take j) (· ∈ l.take j) (6000 * j) wr) := ⟨hf, hr⟩
      clear hf hr R0
      by_cases hlt : j < n
      · have hjl : j < l.length := by rw [HN.out]; exact hlt
        have hx := List.getElem?_eq_getElem hjl
        have hbw : Below w.heap.size w wr := by obtain ⟨_, _, _, _, _, _, _, _, h6⟩ := S.out.2; exact h6
        have hat := atS_later hbw HL.out
        obtain ⟨b, off, rfl, hcs⟩ : ∃ b off, a = some ⟨b, off, none⟩ ∧ ∀ i y, l[i]? = some y → wr.cell? ⟨b, off + i, none⟩ = some (str y) := by
          rcases hat with e | h
          · rw [e] at hjl; simp at hjl
          · exact h
        have c0 := hcs j l[j] hx
        obtain ⟨st1, st2⟩ := Tm.firstErr_step hx S.out.1
        have htk : l.take (j + 1) = l.take j ++ [l[j]] := List.take_succ_eq_append_getElem hjl
        have SE : Aside (Calls Try.prog 32 #[.pointer (some ⟨pm, 0, none⟩), str l[j]] wr (fun e w' => e = .returned (.int .i64 (Tm.chk l[j] : Nat)) ∧ (Tm.chk l[j] = 0 → Ready w pm bv bk (l.take j ++ [l[j]]) (· ∈ l.take j) (6000 * j + 6000) w') ∧ Below w.heap.size w w')) := ready_see S.out.2 (by omega) l[j]
        have LE : Aside (∀ w2, Tm.chk l[j] = 0 → Ready w pm bv bk (l.take j ++ [l[j]]) (· ∈ l.take j) (6000 * j + 6000) w2 → Calls Try.prog 40 #[.pointer (some ⟨pm, 0, none⟩), str l[j]] w2 (fun e w' => e = .returned (.tuple #[]) ∧ Ready w pm bv bk (l.take (j + 1)) (· ∈ l.take (j + 1)) (6000 * (j + 1)) w')) := by
          intro w2 hc hr
          refine (ready_learn hr (by omega) hc ⟨l[j], List.mem_append.2 (.inr (List.mem_singleton.2 rfl)), Tm.self_sub hc⟩).mono ?_
          rintro e w' ⟨he, ω, M, E, h1, h2, h3, h4, h5, h6⟩
          rw [htk]
          exact ⟨he, ω, M, E, h1, h2.congr (fun x => by rw [List.mem_append, List.mem_singleton]; exact or_comm), h3, h4.mono (by omega), h5, h6⟩
        have FE : Aside ((Tm.chk l[j] = 0 → Tm.firstErr (l.take (j + 1)) = 0) ∧ (Tm.chk l[j] ≠ 0 → Tm.firstErr l = Tm.chk l[j])) := ⟨st1, st2⟩
        have u1 : (j : Int) < (n : Int) := by omega
        have u0 : (0 : Int) ≤ (j : Int) := by omega
        clear S hcs hat hbw hx st1 st2 htk
        unfold str at c0 SE LE
        generalize l[j] = t at *
        generalize (⟨t.toArray⟩ : ByteArray) = x at *
        by_cases hc : Tm.chk t = 0
        · go_wp2_with fail
          refine SE.out.mono ?_
          rintro e w2 ⟨rfl, hr, _⟩
          have L2 := LE.out w2 hc (hr hc)
          have F2 : Aside (Tm.firstErr (l.take (j + 1)) = 0) := FE.out.1 hc
          clear SE LE hr FE c0
          rw [hc]
          go_wp2_with fail
          refine L2.mono ?_
          rintro e w3 ⟨rfl, hr3⟩
          have R3 : Aside (Ready w pm bv bk (l.take (j + 1)) (· ∈ l.take (j + 1)) (6000 * (j + 1)) w3) := hr3
          clear L2 hr3
          go_wp2
          go_roundw
          case rel => exact ⟨j + 1, by omega, by go_num, F2.out, R3.out⟩
          case measure => simp [intOf]; omega
        · have QE2 : Aside (∀ w', Below w.heap.size w w' → Q (.returned (.tuple #[.pointer none, .int .i64 (Tm.chk t : Nat)])) w') := fun w' hb => QE.out w' (Tm.chk t) (FE.out.2 hc) hc hb
          have t9 : (((Tm.chk t : Nat) : Int) != 0) = true := by
            have : ¬ ((Tm.chk t : Nat) : Int) = 0 := by omega
            simpa using this
          clear LE FE QE QK
          generalize Tm.chk t = c at *
          go_wp2_with fail
          refine SE.out.mono ?_
          rintro e w2 ⟨rfl, _, hb⟩
          have Q2 := QE2.out w2 hb
          clear SE QE2 hb
          go_wp2
          exact Q2
      · obtain rfl : j = n := by omega
        have e1 : l.take j = l := List.take_of_length_le (by rw [HN.out]; exact Nat.le_refl _)
        have Q2 : Aside (Q (.returned (.tuple #[.pointer (some ⟨pm, 0, none⟩), .int .i64 0])) wr) := by
          have h := S.out
          rw [e1] at h
          refine QK.out wr pm bv bk h.1 ?_
          obtain ⟨ω, M, E, h1, h2, h3, h4, h5, h6⟩ := h.2
          exact ⟨ω, M, E, h1, h2, h3, h4.mono (by omega), h5, h6⟩
        clear S QE QK e1
        go_wp2
        exact Q2.out

end Go.Proofs.Ytdpnffnogckfjaa
