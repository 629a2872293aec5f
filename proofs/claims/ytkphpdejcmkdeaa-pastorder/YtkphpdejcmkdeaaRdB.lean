/- What low and number give. -/
import Derived.Test.YtkphpdejcmkdeaaRdA
import Derived.Test.YtkphpdejcmkdeaaEncA
import Derived.Test.YtkphpdejcmkdeaaMath
namespace Go.Proofs.Ytkphpdejcmkdeaa
open Go.RowKit

theorem or_step (z y k : Nat) (hz : z < 256 ^ k) (hy : y < 256) (hk : k < 8) :
    bits .or .u64 (z : Int) (IntKind.u64.wrap (IntKind.u64.wrap (y : Int) * 2 ^ (8 * k))) = ((z + 256 ^ k * y : Nat) : Int) := by
  have hp : (256 : Nat) ^ k ≤ 256 ^ 7 := Nat.pow_le_pow_right (by omega) (by omega)
  have hm : 256 ^ k * y ≤ 256 ^ 7 * 255 := Nat.mul_le_mul hp (by omega)
  have e1 : IntKind.u64.wrap (y : Int) = (y : Int) := by rw [IntKind.wrap_u64]; omega
  have e2 : (y : Int) * 2 ^ (8 * k) = ((256 ^ k * y : Nat) : Int) := by
    rw [Nat.mul_comm (256 ^ k) y, show (256 : Nat) ^ k = 2 ^ (8 * k) by rw [Nat.pow_mul]]
    simp
  have e3 : IntKind.u64.wrap ((256 ^ k * y : Nat) : Int) = ((256 ^ k * y : Nat) : Int) := by rw [IntKind.wrap_u64]; omega
  rw [e1, e2, e3, bits_or_u64_nat _ _ (by omega) (by omega)]
  congr 1
  have e4 : (256 : Nat) ^ k = 2 ^ (8 * k) := by rw [Nat.pow_mul]
  rw [e4] at hz ⊢
  rw [Nat.or_comm, ← Nat.two_pow_add_eq_or_of_lt hz y]
  omega

theorem val_snoc : ∀ (a : List UInt8) (b : UInt8), Pk.val (a ++ [b]) = Pk.val a + 256 ^ a.length * b.toNat
  | [], b => by simp [Pk.val]
  | x :: a, b => by
    show x.toNat + 256 * Pk.val (a ++ [b]) = (x.toNat + 256 * Pk.val a) + 256 ^ (a.length + 1) * b.toNat
    rw [val_snoc a b, Nat.mul_add, Nat.pow_succ, Nat.mul_comm _ 256, Nat.mul_assoc]
    omega

theorem val_take_succ (bs : List UInt8) (k : Nat) (h : k < bs.length) : Pk.val (bs.take (k + 1)) = Pk.val (bs.take k) + 256 ^ k * bs[k].toNat := by
  rw [List.take_succ_eq_append_getElem h, val_snoc, List.length_take, Nat.min_eq_left (by omega)]

theorem val_take_lt (bs : List UInt8) (k : Nat) (h : k ≤ bs.length) : Pk.val (bs.take k) < 256 ^ k := by
  have := Pk.val_lt (bs.take k)
  rwa [List.length_take, Nat.min_eq_left h] at this

set_option maxHeartbeats 1000000 in
theorem low_any (pb n : Nat) (bs : List UInt8) (w : World) (hn : n ≤ 8) (h : Rest w pb bs) :
    Calls Try.prog 70 #[.pointer (some ⟨pb, 0, none⟩), .int .i64 (n : Nat)] w fun e w' =>
      ((n ≤ bs.length ∧ e = .returned (.int .u64 (Pk.val (bs.take n) : Nat)) ∧ Rest w' pb (bs.drop n)) ∨ (bs.length < n ∧ e = .panicked gave)) ∧ w.grownBy w' (some pb) := by
  have H : Aside (Rest w pb bs) := h
  clear h
  go_enter Try.func70, Try.ntmps70
  go_wp2_with fail
  go_loopw [5, 8] (fun x i wr => ∃ k : Nat, k ≤ n ∧ k ≤ bs.length ∧ i = .int .i64 k ∧ x = .int .u64 (Pk.val (bs.take k) : Nat) ∧ Rest wr pb (bs.drop k) ∧ w.grownBy wr (some pb)) (fun _ i _ => n - (intOf i).toNat)
  case atStart => exact ⟨0, Nat.zero_le _, Nat.zero_le _, rfl, rfl, H.out, World.grownBy.refl _ _⟩
  case round =>
    obtain ⟨k, hk, hl, rfl, rfl, hr, hg⟩ := hrel
    have R : Aside (Rest wr pb (bs.drop k) ∧ w.grownBy wr (some pb)) := ⟨hr, hg⟩
    clear hr hg H
    by_cases hlt : k < n
    · by_cases hend : k < bs.length
      · have ho := one_ok pb bs[k] (bs.drop (k + 1)) wr (by rw [← List.drop_eq_getElem_cons hend]; exact R.out.1)
        have S : Hid (_ = _) := or_step (Pk.val (bs.take k)) bs[k].toNat k (val_take_lt bs k hl) bs[k].toNat_lt (by omega)
        rw [← val_take_succ bs k hend] at S
        generalize (bs[k]).toNat = y at ho S
        generalize Pk.val (bs.take k) = z at S
        go_wp2_with fail
        refine ho.mono ?_
        rintro e w1 ⟨rfl, hg1, hr1⟩
        have R1 : Aside (Rest w1 pb (bs.drop (k + 1)) ∧ w.grownBy w1 (some pb)) := ⟨hr1, Lib.grownBy_trans R.out.2 hg1⟩
        clear hg1 hr1 ho
        go_wp2
        go_roundw
        case rel => exact ⟨k + 1, by omega, by omega, by go_num, congrArg (Value.int .u64) S.out, R1.out.1, R1.out.2⟩
        case measure => simp [intOf]; omega
      · have hb : bs.drop k = [] := by rw [List.drop_eq_nil_iff]; omega
        rw [hb] at R
        go_wp2_with fail
        refine (one_end pb wr R.out.1).mono ?_
        rintro e w1 ⟨rfl, hg1⟩
        have hg2 : Aside (w.grownBy w1 (some pb)) := Lib.grownBy_trans R.out.2 hg1
        clear hg1
        go_wp2
        exact ⟨rfl, .inr ⟨by omega, rfl⟩, hg2.out⟩
    · obtain rfl : k = n := by omega
      go_wp2
      go_ret
      exact ⟨.inl ⟨by omega, rfl, R.out.1⟩, R.out.2⟩

/-- What a reader's call gives: what stands at the front, and the rest is left; or it gives up. -/
def Gives {α : Type} (p : Option (α × List UInt8)) (enc : α → Value) (pb : Nat) (w : World) (e : Ending) (w' : World) : Prop :=
  (match p with
   | some (x, r) => e = .returned (enc x) ∧ Rest w' pb r
   | none => e = .panicked gave) ∧ w.grownBy w' (some pb)

def encN (x : Nat) : Value := .int .u64 (x : Int)

set_option maxHeartbeats 1000000 in
theorem number_any (pb : Nat) (bs : List UInt8) (w : World) (h : Rest w pb bs) :
    Calls Try.prog 62 #[.pointer (some ⟨pb, 0, none⟩)] w (Gives (Pk.numP bs) encN pb w) := by
  cases bs with
  | nil =>
    have G : Aside (∀ w', w.grownBy w' (some pb) → Gives (Pk.numP []) encN pb w (.panicked gave) w') := fun w' hg => ⟨rfl, hg⟩
    have ho := one_end pb w h
    generalize Gives (Pk.numP []) encN pb w = Q at G ⊢
    clear h
    go_enter Try.func62, Try.ntmps62
    go_wp2_with fail
    refine ho.mono ?_
    rintro e w1 ⟨rfl, hg⟩
    go_wp2
    exact ⟨rfl, G.out _ hg⟩
  | cons n t =>
    have ho := one_ok pb n t w h
    clear h
    by_cases h8 : n.toNat ≤ 8
    · have hL : Aside (∀ w1, Rest w1 pb t → _) := fun w1 hr => low_any pb n.toNat t w1 h8 hr
      have hB : Aside (∀ w2, n.toNat ≤ t.length → Calls Try.prog 57 #[.int .u64 (Pk.val (t.take n.toNat) : Nat)] w2 fun e w' => e = .returned (.int .i64 (Pk.nb (Pk.val (t.take n.toNat)) : Nat)) ∧ w' = w2) :=
        fun w2 hl => bytesOf_any _ w2 (Pk.val8_lt _ (by rw [List.length_take]; omega))
      have G1 : Aside (∀ w', t.length < n.toNat → w.grownBy w' (some pb) → Gives (Pk.numP (n :: t)) encN pb w (.panicked gave) w') := by
        intro w' hl hg
        have e : Pk.numP (n :: t) = none := by simp only [Pk.numP]; rw [if_neg (by omega)]
        rw [e]; exact ⟨rfl, hg⟩
      have G2 : Aside (∀ w', ¬ Pk.nb (Pk.val (t.take n.toNat)) = n.toNat → w.grownBy w' (some pb) → Gives (Pk.numP (n :: t)) encN pb w (.panicked gave) w') := by
        intro w' hl hg
        have e : Pk.numP (n :: t) = none := by simp only [Pk.numP]; rw [if_neg (by omega)]
        rw [e]; exact ⟨rfl, hg⟩
      have G3 : Aside (∀ w', n.toNat ≤ t.length → Pk.nb (Pk.val (t.take n.toNat)) = n.toNat → Rest w' pb (t.drop n.toNat) → w.grownBy w' (some pb) → Gives (Pk.numP (n :: t)) encN pb w (.returned (.int .u64 (Pk.val (t.take n.toNat) : Nat))) w') := by
        intro w' hl h2 hr hg
        have e : Pk.numP (n :: t) = some (Pk.val (t.take n.toNat), t.drop n.toNat) := by simp only [Pk.numP]; rw [if_pos ⟨h8, hl, h2⟩]
        rw [e]; exact ⟨⟨rfl, hr⟩, hg⟩
      have t1 : ¬ (8 : Int) < (n.toNat : Int) := by omega
      generalize Gives (Pk.numP (n :: t)) encN pb w = Q at G1 G2 G3 ⊢
      generalize Pk.val (t.take n.toNat) = x at hL hB G2 G3
      generalize t.drop n.toNat = r at hL G3
      generalize n.toNat = m at *
      generalize Pk.nb x = q at hB G2 G3
      go_enter Try.func62, Try.ntmps62
      go_wp2_with fail
      refine ho.mono ?_
      rintro e w1 ⟨rfl, hg1, hr1⟩
      have hL1 := hL.out w1 hr1
      clear ho hr1 hL
      go_wp2_with fail
      refine hL1.mono ?_
      rintro e w2 ⟨⟨hl, rfl, hr2⟩ | ⟨hl, rfl⟩, hg2⟩
      · have g12 : Aside (w.grownBy w2 (some pb)) := Lib.grownBy_trans hg1 hg2
        have R2 : Aside (Rest w2 pb r) := hr2
        clear hL1 hg1 hg2 hr2
        have hB2 := hB.out w2 hl
        clear hB
        go_wp2_with fail
        refine hB2.mono ?_
        rintro e w3 ⟨rfl, hw⟩
        replace hw := hw.symm; subst hw
        clear hB2
        by_cases hq : q = m
        · have hq' : ((q : Int) != (m : Int)) = false := by subst hq; simp
          have Q3 := G3.out w2 hl hq R2.out g12.out
          clear hq G1 G2 G3
          go_wp2
          exact Q3
        · have hq' : ((q : Int) != (m : Int)) = true := by
            have : ¬ (q : Int) = (m : Int) := by omega
            simpa using this
          have Q2 := G2.out w2 hq g12.out
          clear hq G1 G2 G3
          go_wp2_with fail
          refine (giveUp_any _).mono ?_; rintro e w4 ⟨rfl, hw⟩
          replace hw := hw.symm; subst hw
          go_wp2
          exact ⟨rfl, Q2⟩
      · have Q1 := G1.out w2 hl (Lib.grownBy_trans hg1 hg2)
        clear hL1 hg1 hg2 hB G1 G2 G3
        go_wp2
        exact ⟨rfl, Q1⟩
    · have G : Aside (∀ w', w.grownBy w' (some pb) → Gives (Pk.numP (n :: t)) encN pb w (.panicked gave) w') := by
        intro w' hg
        have e : Pk.numP (n :: t) = none := by simp only [Pk.numP]; rw [if_neg (fun h => h8 h.1)]
        rw [e]; exact ⟨rfl, hg⟩
      have t1 : (8 : Int) < (n.toNat : Int) := by omega
      have t2 : n.toNat < 256 := n.toNat_lt
      generalize Gives (Pk.numP (n :: t)) encN pb w = Q at G ⊢
      generalize n.toNat = m at *
      go_enter Try.func62, Try.ntmps62
      go_wp2_with fail
      refine ho.mono ?_
      rintro e w1 ⟨rfl, hg1, hr1⟩
      clear ho hr1
      have Q1 := G.out _ hg1
      clear G hg1
      go_wp2_with fail
      refine (giveUp_any _).mono ?_; rintro e w2 ⟨rfl, hw⟩
      replace hw := hw.symm; subst hw
      go_wp2
      exact ⟨rfl, Q1⟩

end Go.Proofs.Ytkphpdejcmkdeaa
