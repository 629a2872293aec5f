/- What Known and Derives give. -/
import Derived.Test.YtdpnffnogckfjaaMdT
namespace Go.Proofs.Ytdpnffnogckfjaa
open Go.RowKit Go.Maps Go.Sort Go.Shelf

theorem knownE_good {l : List (List UInt8)} (h : Tm.knownE l = 0) : Tm.Good l := by
  unfold Tm.knownE at h
  by_cases hb : 200 < l.length
  · rw [if_pos hb] at h; cases h
  · rw [if_neg hb] at h
    exact fun x hx => Tm.firstErr_zero.1 h x hx

/-- What Derives is to give. -/
def DerPost (l : List (List UInt8)) (g : List UInt8) (w : World) (e : Ending) (w' : World) : Prop :=
  e = .returned (.tuple #[.bool (Tm.derives l g), .int .i64 (Tm.derivesE l g : Nat)]) ∧ Below w.heap.size w w'

theorem der_err {l : List (List UInt8)} {g : List UInt8} {w w' : World} {c : Nat} (h : Tm.derivesE l g = c) (hc : c ≠ 0) (hb : Below w.heap.size w w') : DerPost l g w (.returned (.tuple #[.bool false, .int .i64 (c : Nat)])) w' := by
  refine ⟨?_, hb⟩
  unfold Tm.derives
  rw [h, if_neg hc]
theorem der_ok {l : List (List UInt8)} {g : List UInt8} {w w' : World} {K : List (List UInt8)} (h0 : Tm.knownE l = 0) (hg : Tm.chk g = 0) (hK : ∀ x, x ∈ K ↔ Tm.Cl (· ∈ l) (Tm.Uni (l ++ [g])) x) (hb : Below w.heap.size w w') :
    DerPost l g w (.returned (.tuple #[.bool (decide (g ∈ K)), .int .i64 0])) w' := by
  refine ⟨?_, hb⟩
  have e : Tm.derivesE l g = 0 := by unfold Tm.derivesE; rw [if_pos h0, hg]
  unfold Tm.derives
  rw [e, if_pos rfl]
  have : decide (g ∈ K) = Tm.canB l g := by
    rw [Bool.eq_iff_iff, decide_eq_true_eq, hK, Tm.can_iff (knownE_good h0) hg (fun _ h => h)]
  rw [this]; rfl

set_option maxHeartbeats 4000000 in
theorem derives_any (a : Option Addr) (n cap : Nat) (l : List (List UInt8)) (g : List UInt8) (w : World) (hn : l.length = n) (hl : AtS w a l) : Calls Try.prog 15 #[.slice a n cap, str g] w (DerPost l g w) := by
  have NM := newMind_any a n cap l w hn hl
  by_cases h0 : Tm.knownE l = 0
  · have QE : Aside (∀ w' c, Tm.chk g = c → c ≠ 0 → Below w.heap.size w w' → DerPost l g w (.returned (.tuple #[.bool false, .int .i64 (c : Nat)])) w') := by
      rintro w' c rfl hc hb
      exact der_err (by unfold Tm.derivesE; rw [if_pos h0]) hc hb
    have QK : Aside (∀ w' K, Tm.chk g = 0 → (∀ x, x ∈ K ↔ Tm.Cl (· ∈ l) (Tm.Uni (l ++ [g])) x) → Below w.heap.size w w' → DerPost l g w (.returned (.tuple #[.bool (decide (g ∈ K)), .int .i64 0])) w') := fun w' K hg hK hb => der_ok h0 hg hK hb
    generalize DerPost l g w = Q at QE QK ⊢
    have SE : Aside (∀ pm bv bk w2, Ready w pm bv bk l (· ∈ l) 1200000 w2 → Calls Try.prog 32 #[.pointer (some ⟨pm, 0, none⟩), str g] w2 (fun e w' => e = .returned (.int .i64 (Tm.chk g : Nat)) ∧ (Tm.chk g = 0 → Ready w pm bv bk (l ++ [g]) (· ∈ l) (1200000 + 6000) w') ∧ Below w.heap.size w w')) := fun pm bv bk w2 hr => ready_see hr (by omega) g
    have TH : Aside (∀ pm bv bk w2, Ready w pm bv bk (l ++ [g]) (· ∈ l) (1200000 + 6000) w2 → Calls Try.prog 26 #[.pointer (some ⟨pm, 0, none⟩)] w2 (fun e w' => e = .returned (.tuple #[]) ∧ Thought w pm bv bk (l ++ [g]) (· ∈ l) w')) := fun pm bv bk w2 hr => ready_think hr (by omega)
    have KN : Aside (∀ ω pm bv bk K w2, Tm.chk g = 0 → Kn ω w2 pm bv bk (K, []) → Calls Try.prog 33 #[.pointer (some ⟨pm, 0, none⟩), str g] w2 (fun e w' => e = .returned (.bool (decide (g ∈ K))) ∧ w2.grownBy w' none)) := fun ω pm bv bk K w2 hg hk => knows_any ω pm bv bk (K, []) g w2 hk (Tm.chk_zero hg).1
    clear hl hn
    unfold str at SE KN ⊢
    generalize (⟨g.toArray⟩ : ByteArray) = x at *
    go_enter Try.func15, Try.ntmps15
    go_wp2_with fail
    refine NM.mono ?_
    rintro e w2 ⟨hb, ⟨h, _⟩ | ⟨_, pm, bv, bk, rfl, hr⟩⟩
    · exact absurd h0 h
    have S2 := SE.out pm bv bk w2 hr
    have T2 : Aside (∀ w2, _ → _) := TH.out pm bv bk
    have K2 : Aside (∀ ω K w2, Tm.chk g = 0 → Kn ω w2 pm bv bk (K, []) → _) := fun ω K w2 => KN.out ω pm bv bk K w2
    clear NM SE TH KN hr hb h0
    by_cases hc : Tm.chk g = 0
    · go_wp2_with fail
      refine S2.mono ?_
      rintro e w3 ⟨rfl, hr3, _⟩
      have T3 := T2.out w3 (hr3 hc)
      rw [hc]
      clear S2 T2 hr3
      go_wp2_with fail
      refine T3.mono ?_
      rintro e w4 ⟨rfl, ω, K, k4, _, _, hK, hb⟩
      have K4 := K2.out ω K w4 hc k4
      have Q4 : Aside (∀ w5, w4.grownBy w5 none → Q (.returned (.tuple #[.bool (decide (g ∈ K)), .int .i64 0])) w5) := fun w5 hg => QK.out w5 K hc hK (hb.trans ⟨hg.os, hg.tape, hg.output, hg.size, fun j hj => hg.block j (by have := hb.size; omega) (by simp)⟩)
      clear T3 K2 k4 hK hb QK QE
      generalize decide (g ∈ K) = bb at *
      go_wp2_with fail
      refine K4.mono ?_
      rintro e w5 ⟨rfl, hg⟩
      have Q5 := Q4.out w5 hg
      clear K4 Q4 hg
      go_wp2
      exact Q5
    · have QE2 : Aside (∀ w', Below w.heap.size w w' → Q (.returned (.tuple #[.bool false, .int .i64 (Tm.chk g : Nat)])) w') := fun w' hb => QE.out w' (Tm.chk g) rfl hc hb
      have t9 : (((Tm.chk g : Nat) : Int) != 0) = true := by
        have : ¬ ((Tm.chk g : Nat) : Int) = 0 := by omega
        simpa using this
      clear QE QK T2 K2
      generalize Tm.chk g = c at *
      go_wp2_with fail
      refine S2.mono ?_
      rintro e w3 ⟨rfl, _, hb⟩
      have Q2 := QE2.out w3 hb
      clear S2 QE2 hb
      go_wp2
      exact Q2
  · have QE : Aside (∀ w', Below w.heap.size w w' → DerPost l g w (.returned (.tuple #[.bool false, .int .i64 (Tm.knownE l : Nat)])) w') := by
      intro w' hb
      exact der_err (by unfold Tm.derivesE; rw [if_neg h0]) h0 hb
    generalize DerPost l g w = Q at QE ⊢
    have t9 : (((Tm.knownE l : Nat) : Int) != 0) = true := by
      have : ¬ ((Tm.knownE l : Nat) : Int) = 0 := by omega
      simpa using this
    clear hl hn
    unfold str
    generalize (⟨g.toArray⟩ : ByteArray) = x at *
    go_enter Try.func15, Try.ntmps15
    go_wp2_with fail
    refine NM.mono ?_
    rintro e w2 ⟨hb, ⟨_, rfl⟩ | ⟨h, _⟩⟩
    · have Q2 := QE.out w2 hb
      clear NM QE hb
      generalize Tm.knownE l = c at *
      go_wp2
      exact Q2
    · exact absurd h h0

end Go.Proofs.Ytdpnffnogckfjaa
