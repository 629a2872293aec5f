/- What the laws' callees give, from a later world on. -/
import Derived.Test.YtdpnffnogckfjaaLwB
import Derived.Test.YtdpnffnogckfjaaLwC
namespace Go.Proofs.Ytdpnffnogckfjaa
open Go.RowKit

theorem later2 {w W W' : World} (h : Below w.heap.size w W) (k : Below W.heap.size W W') : Below w.heap.size w W' := h.trans (k.mono h.size)
theorem c_alive (w W : World) (hb : Below w.heap.size w W) : Calls Try.prog 11 #[] W fun e w' => e = .returned (.bool true) ∧ Below w.heap.size w w' :=
  (alive_any W).mono fun _ _ h => ⟨h.1, later2 hb h.2⟩
theorem c_few {w : World} {a : Option Addr} {n : Nat} (cap : Nat) {l : List (List UInt8)} (h : IsTerms w a n l) (W : World) (hb : Below w.heap.size w W) :
    Calls Try.prog 12 #[.slice a n cap] W fun e w' => ∃ b, e = .returned (.bool b) ∧ (b = true → n ≤ 20) ∧ Below w.heap.size w w' :=
  (few_any a n cap l W ⟨h.1, h.2.1, atS_later hb h.2.2.1, h.2.2.2⟩).mono fun _ _ ⟨b, h1, h2, h3⟩ => ⟨b, h1, h2, later2 hb h3⟩
theorem c_right {w : World} {a : Option Addr} {n : Nat} (cap : Nat) {l : List (List UInt8)} (h : IsTerms w a n l) (W : World) (hn : n ≤ 20) (hb : Below w.heap.size w W) :
    Calls Try.prog 18 #[.slice a n cap] W fun e w' => e = .returned (.bool (decide (Tm.knownE l = 0))) ∧ Below w.heap.size w w' :=
  (right_any a n cap l W h.1 (by omega) (atS_later hb h.2.2.1)).mono fun _ _ h => ⟨h.1, later2 hb h.2⟩
theorem c_has {w : World} {a : Option Addr} {n : Nat} (cap : Nat) {l : List (List UInt8)} (h : IsTerms w a n l) (t : ByteArray) (W : World) (hn : n ≤ 20) (hb : Below w.heap.size w W) :
    Calls Try.prog 20 #[.slice a n cap, .string t] W fun e w' => e = .returned (.bool (hasB l t.data.toList)) ∧ Below w.heap.size w w' :=
  (has_any a n cap l t W h.1 (by omega) (atS_later hb h.2.2.1)).mono fun _ _ h => ⟨h.1, later2 hb h.2⟩
theorem c_der {w : World} {a : Option Addr} {n : Nat} (cap : Nat) {l : List (List UInt8)} (h : IsTerms w a n l) (g : ByteArray) (W : World) (hb : Below w.heap.size w W) :
    Calls Try.prog 15 #[.slice a n cap, .string g] W fun e w' => e = .returned (.tuple #[.bool (Tm.derives l g.data.toList), .int .i64 (Tm.derivesE l g.data.toList : Nat)]) ∧ Below w.heap.size w w' :=
  (derives_any a n cap l g.data.toList W h.1 (atS_later hb h.2.2.1)).mono fun _ _ h => ⟨h.1, later2 hb h.2⟩
theorem c_known {w : World} {a : Option Addr} {n : Nat} (cap : Nat) {l : List (List UInt8)} (h : IsTerms w a n l) (W : World) (hb : Below w.heap.size w W) :
    Calls Try.prog 13 #[.slice a n cap] W fun e w' => ∃ ka kc, e = .returned (.tuple #[.slice ka (Tm.knownL l).length kc, .int .i64 (Tm.knownE l : Nat)]) ∧ AtS w' ka (Tm.knownL l) ∧ Below w.heap.size w w' :=
  (known_any a n cap l W h.1 (atS_later hb h.2.2.1)).mono fun _ _ ⟨v, he, ho, hb2⟩ => by
    obtain ⟨ka, kc, rfl, _, _, hat⟩ := owns_strs ho
    exact ⟨ka, kc, he, hat, later2 hb hb2⟩
theorem c_chk {w : World} (t : ByteArray) (W : World) (hb : Below w.heap.size w W) : Calls Try.prog 19 #[.string t] W fun e w' => e = .returned (.int .i64 (Tm.chk t.data.toList : Nat)) ∧ Below w.heap.size w w' :=
  (rcheck_any t W).mono fun _ _ h => ⟨h.1, later2 hb h.2⟩
theorem c_make {w : World} (k : UInt8) (x y : List UInt8) (W : World) (hb : Below w.heap.size w W) : Calls Try.prog 23 #[.int .u8 (k.toNat : Int), .slice (some ⟨W.heap.size, 0, none⟩) 2 2] (W.alloc (.cells #[str x, str y] 23)) fun e w' => e = .returned (.tuple #[str (Tm.make k [x, y]), .int .i64 (Tm.makeE k [x, y] : Nat)]) ∧ Below w.heap.size w w' :=
  (make_any k _ 2 2 [x, y] _ rfl (by omega) (at_two W x y)).mono fun _ _ h => ⟨h.1, later2 hb (over_new h.2)⟩
theorem ne_zero {c : Nat} (h : c ≠ 0) : ((c : Int) != 0) = true := by
  have : ¬ (c : Int) = 0 := by omega
  simpa using this

/-- Of good terms, whether one can come to a good one. -/
theorem der_good {l : List (List UInt8)} {g : List UInt8} (hl : Tm.knownE l = 0) (hg : Tm.chk g = 0) : Tm.derivesE l g = 0 ∧ Tm.derives l g = Tm.canB l g := by
  have e : Tm.derivesE l g = 0 := by unfold Tm.derivesE; rw [if_pos hl]; exact hg
  exact ⟨e, by unfold Tm.derives; rw [if_pos e]⟩

theorem sorted_nodup {l : List (List UInt8)} (h : Tm.Sorted l) : l.Nodup := h.imp fun hlt e => by subst e; exact Tm.lt_irr _ hlt
theorem flat_len (l : List (List UInt8)) : (l.flatMap Tm.subsOf).length ≤ 2000 * l.length := by
  induction l with
  | nil => simp
  | cons x l ih =>
    have := Tm.subsOf_len x
    simp only [List.flatMap_cons, List.length_append, List.length_cons]
    omega
theorem known_len (l : List (List UInt8)) : (Tm.knownL l).length ≤ 400000 := by
  unfold Tm.knownL
  by_cases h : Tm.knownE l = 0
  · rw [if_pos h]
    obtain ⟨p1, p2, _⟩ := Tm.known_parts (knownE_good h)
    have h1 := sub_len (b := l.flatMap Tm.subsOf) (sorted_nodup p1) (fun x hx => by
      obtain ⟨y, hy, hs⟩ := (p2 x hx).1
      exact List.mem_flatMap.2 ⟨y, hy, hs⟩)
    have h2 := flat_len l
    have h3 : l.length ≤ 200 := by
      unfold Tm.knownE at h
      by_cases hb : 200 < l.length
      · rw [if_pos hb] at h; cases h
      · omega
    omega
  · rw [if_neg h]; simp
theorem less_iff (x : List UInt8) : ∀ y : List UInt8, Op.bytesLess x y = decide (x < y) := by
  induction x with
  | nil => intro y; cases y <;> simp [Op.bytesLess]
  | cons a x ih =>
    intro y
    cases y with
    | nil => simp [Op.bytesLess]
    | cons b y =>
      have e : Op.bytesLess (a :: x) (b :: y) = (decide (a < b) || (a == b && Op.bytesLess x y)) := rfl
      rw [e, ih y, Bool.eq_iff_iff]
      simp [List.cons_lt_cons_iff]
theorem less_lists (x y : List UInt8) : Op.bytesLess (⟨x.toArray⟩ : ByteArray).toList (⟨y.toArray⟩ : ByteArray).toList = decide (x < y) := by
  rw [less_iff, ByteArray.toList_mk, ByteArray.toList_mk]

end Go.Proofs.Ytdpnffnogckfjaa
