/- Plain mathematics: what a reader takes from the front of a field's bytes is the field; what it takes is of fields that may be, and has just their bytes. -/
import Derived.Test.YtkphpdejcmkdeaaDefs
import Derived.Lib.ItoaNum
namespace Go.Proofs.Ytkphpdejcmkdeaa
namespace Pk

theorem bitLen_bounds (x : Nat) (h : x < 18446744073709551616) (h0 : x ≠ 0) : 1 ≤ Lib.bitLen x ∧ 2 ^ (Lib.bitLen x - 1) ≤ x ∧ x < 2 ^ Lib.bitLen x :=
  Lib.bitLenAux_bounds 64 x h h0

theorem nb_zero : nb 0 = 0 := by decide +kernel
theorem nb_le8 (x : Nat) (h : x < 18446744073709551616) : nb x ≤ 8 := by
  have : Lib.bitLen x ≤ 64 := Lib.bitLen_le x 64 (Nat.le_refl _) h
  unfold nb; omega

theorem pow256 (n : Nat) : (256 : Nat) ^ n = 2 ^ (8 * n) := by rw [Nat.pow_mul]

theorem lt_nb (x : Nat) (h : x < 18446744073709551616) : x < 256 ^ nb x := by
  by_cases h0 : x = 0
  · subst h0; exact Nat.pow_pos (by omega)
  · obtain ⟨_, _, h3⟩ := bitLen_bounds x h h0
    refine Nat.lt_of_lt_of_le h3 ?_
    rw [pow256]
    exact Nat.pow_le_pow_right (by omega) (by unfold nb; omega)

theorem nb_ge (x : Nat) (h : x < 18446744073709551616) (h0 : x ≠ 0) : 256 ^ (nb x - 1) ≤ x := by
  obtain ⟨h1, h2, _⟩ := bitLen_bounds x h h0
  refine Nat.le_trans ?_ h2
  rw [pow256]
  exact Nat.pow_le_pow_right (by omega) (by unfold nb; omega)

theorem lo_length (x n : Nat) : (lo x n).length = n := by simp [lo]

theorem lo_succ (x n : Nat) : lo x (n + 1) = UInt8.ofNat x :: lo (x / 256) n := by
  unfold lo
  rw [List.range_succ_eq_map, List.map_cons, List.map_map]
  congr 1
  · simp
  · apply List.map_congr_left
    intro i _
    simp only [Function.comp, Nat.succ_eq_add_one]
    rw [Nat.pow_succ, Nat.mul_comm, Nat.div_div_eq_div_mul]

theorem val_lo : ∀ (n x : Nat), x < 256 ^ n → val (lo x n) = x
  | 0, x, h => by simp at h; subst h; rfl
  | n + 1, x, h => by
    rw [lo_succ]
    show (UInt8.ofNat x).toNat + 256 * val (lo (x / 256) n) = x
    rw [val_lo n (x / 256) (by rw [Nat.pow_succ] at h; omega)]
    have : (UInt8.ofNat x).toNat = x % 256 := by simp
    rw [this]; omega

theorem val_lt : ∀ bs : List UInt8, val bs < 256 ^ bs.length
  | [] => by simp [val]
  | b :: r => by
    have h := val_lt r
    have hb := b.toNat_lt
    show b.toNat + 256 * val r < 256 ^ (r.length + 1)
    rw [Nat.pow_succ]; omega

theorem lo_val : ∀ bs : List UInt8, lo (val bs) bs.length = bs
  | [] => rfl
  | b :: r => by
    have hb := b.toNat_lt
    have e1 : val (b :: r) / 256 = val r := by show (b.toNat + 256 * val r) / 256 = _; omega
    have e2 : UInt8.ofNat (val (b :: r)) = b := by
      apply UInt8.toNat_inj.1
      have : (UInt8.ofNat (val (b :: r))).toNat = val (b :: r) % 256 := by simp
      rw [this]
      show (b.toNat + 256 * val r) % 256 = _
      omega
    rw [List.length_cons, lo_succ, e1, e2, lo_val r]

theorem val8_lt (bs : List UInt8) (h : bs.length ≤ 8) : val bs < 18446744073709551616 := by
  have := val_lt bs
  have : 256 ^ bs.length ≤ 256 ^ 8 := Nat.pow_le_pow_right (by omega) h
  omega

theorem numP_enc (x : Nat) (h : x < 18446744073709551616) (r : List UInt8) : numP (numB x ++ r) = some (x, r) := by
  have h8 := nb_le8 x h
  have en : (UInt8.ofNat (nb x)).toNat = nb x := by simp; omega
  have e0 : numB x ++ r = UInt8.ofNat (nb x) :: (lo x (nb x) ++ r) := rfl
  rw [e0]
  simp only [numP]
  rw [en]
  have e1 : (lo x (nb x) ++ r).take (nb x) = lo x (nb x) := by
    rw [List.take_append_of_le_length (by rw [lo_length]; exact Nat.le_refl _), List.take_of_length_le (by rw [lo_length]; exact Nat.le_refl _)]
  have e2 : (lo x (nb x) ++ r).drop (nb x) = r := by
    rw [List.drop_append, lo_length, Nat.sub_self, List.drop_of_length_le (by rw [lo_length]; exact Nat.le_refl _)]
    rfl
  rw [e1, e2, val_lo _ _ (lt_nb x h)]
  rw [if_pos ⟨h8, by rw [List.length_append, lo_length]; omega, rfl⟩]

theorem numP_some {bs r : List UInt8} {x : Nat} (h : numP bs = some (x, r)) : x < 18446744073709551616 ∧ bs = numB x ++ r := by
  cases bs with
  | nil => simp [numP] at h
  | cons n t =>
    simp only [numP] at h
    split at h
    · rename_i hc
      obtain ⟨h8, hl, hn⟩ := hc
      simp only [Option.some.injEq, Prod.mk.injEq] at h
      obtain ⟨rfl, rfl⟩ := h
      have hlen : (t.take n.toNat).length = n.toNat := by rw [List.length_take]; omega
      refine ⟨val8_lt _ (by omega), ?_⟩
      show n :: t = UInt8.ofNat (nb _) :: (lo _ (nb _) ++ _)
      rw [hn]
      have e2 : lo (val (t.take n.toNat)) n.toNat = t.take n.toNat := by
        have := lo_val (t.take n.toNat)
        rw [hlen] at this; exact this
      rw [e2, List.take_append_drop]
      congr 1
      apply UInt8.toNat_inj.1
      simp
    · cases h

theorem textP_enc (s r : List UInt8) (h : s.length ≤ 2000) : textP (numB s.length ++ s ++ r) = some (s, r) := by
  unfold textP
  rw [List.append_assoc, numP_enc s.length (by omega)]
  show (if s.length ≤ 2000 ∧ s.length ≤ (s ++ r).length then _ else none) = _
  rw [if_pos ⟨h, by rw [List.length_append]; omega⟩]
  simp

theorem textP_some {bs r s : List UInt8} (h : textP bs = some (s, r)) : s.length ≤ 2000 ∧ bs = numB s.length ++ s ++ r := by
  unfold textP at h
  split at h
  · cases h
  · rename_i n t hn
    split at h
    · rename_i hc
      simp only [Option.some.injEq, Prod.mk.injEq] at h
      obtain ⟨rfl, rfl⟩ := h
      have hlen : (t.take n).length = n := by rw [List.length_take]; omega
      rw [hlen]
      refine ⟨hc.1, ?_⟩
      rw [(numP_some hn).2, List.append_assoc, List.take_append_drop]
    · cases h

theorem raw_cod (b : Nat) (hb : b < 18446744073709551616) : Fl.raw (Fl.cod b) = Fl.can b := by
  have := Fl.can_lt hb
  unfold Fl.raw Fl.cod
  split
  · split <;> omega
  · split <;> omega

theorem decOk_cod (b : Nat) (hb : b < 18446744073709551616) : Fl.decOk (Fl.cod b) = true := by
  unfold Fl.decOk
  rw [raw_cod b hb, Fl.cod_can]
  simp

theorem dec_cod (b : Nat) (hb : b < 18446744073709551616) (hc : Fl.can b = b) : Fl.dec (Fl.cod b) = b := by
  unfold Fl.dec
  rw [if_pos (decOk_cod b hb), raw_cod b hb, hc]

theorem dec_ok {c : Nat} (hc : c < 18446744073709551616) (h : Fl.decOk c = true) : Fl.dec c < 18446744073709551616 ∧ Fl.can (Fl.dec c) = Fl.dec c ∧ Fl.cod (Fl.dec c) = c := by
  have e : Fl.dec c = Fl.raw c := by unfold Fl.dec; rw [if_pos h]
  have hk : Fl.cod (Fl.raw c) = c := by unfold Fl.decOk at h; simpa using h
  rw [e]
  refine ⟨Fl.raw_lt hc, ?_, hk⟩
  have := raw_cod (Fl.raw c) (Fl.raw_lt hc)
  rw [hk] at this
  exact this.symm

theorem realP_enc (b : Nat) (hb : b < 18446744073709551616) (hc : Fl.can b = b) (r : List UInt8) : realP (lo (Fl.cod b) 8 ++ r) = some (b, r) := by
  unfold realP
  have e1 : (lo (Fl.cod b) 8 ++ r).take 8 = lo (Fl.cod b) 8 := by
    rw [List.take_append_of_le_length (by rw [lo_length]; exact Nat.le_refl _), List.take_of_length_le (by rw [lo_length]; exact Nat.le_refl _)]
  have e2 : (lo (Fl.cod b) 8 ++ r).drop 8 = r := by
    rw [List.drop_append, lo_length, Nat.sub_self, List.drop_of_length_le (by rw [lo_length]; exact Nat.le_refl _)]
    rfl
  have e3 : val (lo (Fl.cod b) 8) = Fl.cod b := val_lo _ _ (by have := Fl.cod_lt hb; omega)
  rw [e1, e2, e3, dec_cod b hb hc]
  rw [if_pos ⟨by rw [List.length_append, lo_length]; omega, decOk_cod b hb⟩]

theorem realP_some {bs r : List UInt8} {x : Nat} (h : realP bs = some (x, r)) : x < 18446744073709551616 ∧ Fl.can x = x ∧ bs = lo (Fl.cod x) 8 ++ r := by
  unfold realP at h
  split at h
  · rename_i hc
    simp only [Option.some.injEq, Prod.mk.injEq] at h
    obtain ⟨rfl, rfl⟩ := h
    have hlen : (bs.take 8).length = 8 := by rw [List.length_take]; omega
    obtain ⟨h1, h2, h3⟩ := dec_ok (val8_lt (bs.take 8) (by omega)) hc.2
    refine ⟨h1, h2, ?_⟩
    rw [h3]
    have := lo_val (bs.take 8)
    rw [hlen] at this
    rw [this, List.take_append_drop]
  · cases h

theorem size_zero {s : ByteArray} (h : s.size = 0) : s = ⟨#[]⟩ := by
  cases s with
  | mk d => congr 1; exact Array.eq_empty_of_size_eq_zero h

theorem u64_zero {x : UInt64} (h : x.toNat = 0) : x = 0 := UInt64.toNat_inj.1 (by rw [h]; rfl)
theorem u64_of (x : UInt64) : UInt64.ofNat x.toNat = x := by apply UInt64.toNat_inj.1; simp
theorem u64_to {x : Nat} (h : x < 18446744073709551616) : (UInt64.ofNat x).toNat = x := by simp; omega

theorem encB_1 (n : UInt64) (s : ByteArray) (x : UInt64) : encB ⟨1, n, s, x⟩ = 1 :: numB n.toNat := rfl
theorem encB_2 (n : UInt64) (s : ByteArray) (x : UInt64) : encB ⟨2, n, s, x⟩ = 2 :: (numB s.size ++ s.data.toList) := rfl
theorem encB_3 (n : UInt64) (s : ByteArray) (x : UInt64) : encB ⟨3, n, s, x⟩ = 3 :: lo (Fl.cod x.toNat) 8 := by
  unfold encB body
  rw [if_neg (show ¬ (3 : Int) = 1 by decide), if_neg (show ¬ (3 : Int) = 2 by decide)]
  rfl
theorem fldP_1 (r : List UInt8) : fldP (1 :: r) = (numP r).map fun x => (⟨1, UInt64.ofNat x.1, ⟨#[]⟩, 0⟩, x.2) := by simp only [fldP]; rw [if_pos trivial]
theorem fldP_2 (r : List UInt8) : fldP (2 :: r) = (textP r).map fun x => (⟨2, 0, ⟨x.1.toArray⟩, 0⟩, x.2) := by simp only [fldP]; rw [if_neg (by decide), if_pos trivial]
theorem fldP_3 (r : List UInt8) : fldP (3 :: r) = (realP r).map fun x => (⟨3, 0, ⟨#[]⟩, UInt64.ofNat x.1⟩, x.2) := by simp only [fldP]; rw [if_neg (by decide), if_neg (by decide), if_pos trivial]

theorem fldP_enc (f : Fld) (r : List UInt8) (h : may f = true) : fldP (encB f ++ r) = some (f, r) := by
  obtain ⟨k, n, s, x⟩ := f
  unfold may at h
  simp only at h
  split at h
  · rename_i hk; subst hk
    simp only [Bool.and_eq_true, decide_eq_true_eq] at h
    obtain ⟨h1, h2⟩ := h
    have := size_zero h1; subst this
    have := u64_zero h2; subst this
    rw [encB_1, List.cons_append, fldP_1, numP_enc _ n.toNat_lt, Option.map_some, u64_of]
  · split at h
    · rename_i hk; subst hk
      simp only [Bool.and_eq_true, decide_eq_true_eq] at h
      obtain ⟨⟨h1, h2⟩, h3⟩ := h
      have := u64_zero h1; subst this
      have := u64_zero h2; subst this
      have e : s.size = s.data.toList.length := (Array.length_toList).symm
      rw [encB_2, List.cons_append, fldP_2, e, textP_enc _ _ (by rw [← e]; exact h3), Option.map_some]
    · split at h
      · rename_i hk; subst hk
        simp only [Bool.and_eq_true, decide_eq_true_eq] at h
        obtain ⟨⟨h1, h2⟩, h3⟩ := h
        have := u64_zero h1; subst this
        have := size_zero h2; subst this
        rw [encB_3, List.cons_append, fldP_3, realP_enc _ x.toNat_lt h3, Option.map_some, u64_of]
      · cases h

theorem fldP_some {bs r : List UInt8} {f : Fld} (h : fldP bs = some (f, r)) : may f = true ∧ bs = encB f ++ r := by
  cases bs with
  | nil => cases h
  | cons k t =>
    by_cases h1 : k = 1
    · subst h1
      rw [fldP_1] at h
      obtain ⟨⟨x, q⟩, hx, he⟩ := Option.map_eq_some_iff.1 h
      simp only [Prod.mk.injEq] at he
      obtain ⟨rfl, rfl⟩ := he
      obtain ⟨g1, rfl⟩ := numP_some hx
      refine ⟨by simp [may]; rfl, ?_⟩
      rw [encB_1, u64_to g1, List.cons_append]
    · by_cases h2 : k = 2
      · subst h2
        rw [fldP_2] at h
        obtain ⟨⟨x, q⟩, hx, he⟩ := Option.map_eq_some_iff.1 h
        simp only [Prod.mk.injEq] at he
        obtain ⟨rfl, rfl⟩ := he
        obtain ⟨g1, rfl⟩ := textP_some hx
        refine ⟨by simp [may, ByteArray.size]; exact g1, ?_⟩
        rw [encB_2, List.cons_append]
        show _ = (2 : UInt8) :: (numB x.toArray.size ++ x.toArray.toList ++ q)
        simp
      · by_cases h3 : k = 3
        · subst h3
          rw [fldP_3] at h
          obtain ⟨⟨x, q⟩, hx, he⟩ := Option.map_eq_some_iff.1 h
          simp only [Prod.mk.injEq] at he
          obtain ⟨rfl, rfl⟩ := he
          obtain ⟨g1, g2, rfl⟩ := realP_some hx
          refine ⟨by simp [may, u64_to g1, g2]; rfl, ?_⟩
          rw [encB_3, u64_to g1, List.cons_append]
        · simp only [fldP] at h
          rw [if_neg h1, if_neg h2, if_neg h3] at h
          cases h

theorem fldsP_enc : ∀ (l : List Fld) (r : List UInt8), l.all may = true → fldsP l.length (fsB l ++ r) = some (l, r)
  | [], r, _ => rfl
  | f :: l, r, h => by
    rw [List.all_cons, Bool.and_eq_true] at h
    have e : fsB (f :: l) ++ r = encB f ++ (fsB l ++ r) := by simp [fsB]
    rw [e, List.length_cons, fldsP, fldP_enc f _ h.1]
    simp only
    rw [fldsP_enc l r h.2]

theorem fldsP_some : ∀ (n : Nat) (bs r : List UInt8) (l : List Fld), fldsP n bs = some (l, r) → l.all may = true ∧ l.length = n ∧ bs = fsB l ++ r
  | 0, bs, r, l, h => by
    simp only [fldsP, Option.some.injEq, Prod.mk.injEq] at h
    obtain ⟨rfl, rfl⟩ := h
    exact ⟨rfl, rfl, rfl⟩
  | n + 1, bs, r, l, h => by
    simp only [fldsP] at h
    split at h
    · cases h
    · rename_i f t hf
      split at h
      · cases h
      · rename_i l' r' hl
        simp only [Option.some.injEq, Prod.mk.injEq] at h
        obtain ⟨rfl, rfl⟩ := h
        obtain ⟨h1, h2, h3⟩ := fldsP_some n _ _ _ hl
        obtain ⟨h4, h5⟩ := fldP_some hf
        refine ⟨by rw [List.all_cons, h4, h1]; rfl, by rw [List.length_cons, h2], ?_⟩
        rw [h5, h3]
        simp [fsB]

theorem encE_zero {l : List Fld} : encE l = 0 ↔ l.all may = true ∧ l.length ≤ 200 ∧ (allB l).length ≤ 8000 := by
  unfold encE
  by_cases h1 : l.all may = true
  · rw [if_neg (by rw [h1]; decide)]
    by_cases h2 : 200 < l.length
    · rw [if_pos h2]
      exact ⟨fun h => by omega, fun h => by omega⟩
    · rw [if_neg h2]
      by_cases h3 : 8000 < (allB l).length
      · rw [if_pos h3]
        exact ⟨fun h => by omega, fun h => by omega⟩
      · rw [if_neg h3]
        exact ⟨fun _ => ⟨h1, by omega, by omega⟩, fun _ => rfl⟩
  · rw [if_pos (by simpa using h1)]
    exact ⟨fun h => by omega, fun h => absurd h.1 h1⟩

theorem decP_enc {l : List Fld} (h : encE l = 0) : decP (allB l) = some l := by
  obtain ⟨h1, h2, h3⟩ := encE_zero.1 h
  have en : (UInt8.ofNat l.length).toNat = l.length := by simp; omega
  unfold decP
  rw [if_neg (by omega)]
  show (if 200 < (UInt8.ofNat l.length).toNat then none else match fldsP (UInt8.ofNat l.length).toNat (fsB l) with | some (l, []) => some l | _ => none) = _
  rw [en, if_neg (by omega)]
  have := fldsP_enc l [] h1
  rw [List.append_nil] at this
  rw [this]

theorem decP_some {bs : List UInt8} {l : List Fld} (h : decP bs = some l) : encE l = 0 ∧ allB l = bs := by
  unfold decP at h
  split at h
  · cases h
  · rename_i hb
    split at h
    · cases h
    · rename_i n r
      split at h
      · cases h
      · rename_i hn
        split at h
        · rename_i l' hl
          cases h
          obtain ⟨h1, h2, h3⟩ := fldsP_some _ _ _ _ hl
          rw [List.append_nil] at h3
          have e : allB l = n :: r := by
            unfold allB
            rw [h2, ← h3]
            congr 1
            apply UInt8.toNat_inj.1
            simp
          refine ⟨encE_zero.2 ⟨h1, by omega, by rw [e]; omega⟩, e⟩
        · cases h

end Pk
end Go.Proofs.Ytkphpdejcmkdeaa
