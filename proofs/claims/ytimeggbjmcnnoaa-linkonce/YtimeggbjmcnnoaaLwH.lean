/- For the law LinkOnce: letters in a row, what has been sent, what has been taken, and what a step adds. -/
import Derived.Test.YtimeggbjmcnnoaaLwF
import Derived.Test.YtimeggbjmcnnoaaLnN
import Derived.Test.YtimeggbjmcnnoaaArgB
import Derived.Deep.RegionHeld3
import Derived.Deep.AppendLies
namespace Go.Proofs.Ytimeggbjmcnnoaa
open Go.RowKit

theorem info35 : (Try.prog.info? 35).map (fun i => (i.zero, i.size, i.bytes)) = some (some (.agg #[.int .u8 0, .int .u8 0, .int .u32 0, .slice none 0 0, .string ⟨#[]⟩]), 5, 48) := by kernel_rfl
theorem o_nonce : Tm.nonce 7 = [110, 0, 7] := by decide +kernel
def oK : List UInt8 := [100, 110, 0, 7, 99, 2, 0, 1]
theorem o_key : Tm.keyOf [110, 0, 7] 0 1 = oK ∧ Tm.keyE [110, 0, 7] 0 1 = 0 := by decide +kernel
theorem o_chk : Tm.chk oK = 0 := by decide +kernel
theorem o_tree : ∃ tr, Tm.tree oK = some tr ∧ Tm.depth tr = 2 := by
  have h : (Tm.tree oK).map Tm.depth = some 2 := by decide +kernel
  cases g : Tm.tree oK with
  | none => rw [g] at h; cases h
  | some tr => rw [g] at h; exact ⟨tr, rfl, by simpa using h⟩
theorem o_tag {b : List UInt8} {s : Nat} (hb : b.length ≤ 100) : Tm.tagE oK 0 1 s b = 0 := by
  rcases Tm.tagE_small (kl := oK) (b := b) (f := 0) (t := 1) (s := s) (by decide) (by omega) with ⟨h, _⟩ | ⟨_, tr, h1, h2⟩
  · exact absurd o_chk h
  · obtain ⟨tr', g1, g2⟩ := o_tree
    rw [g1] at h1
    cases h1
    rw [h2, g2]
    rfl

/-- A letter's five cells, and those of some in a row. -/
def cellsL (i : Nat) (x : Bod) : List Value := [.int .u8 0, .int .u8 1, .int .u32 ((i + 1 : Nat) : Int), .slice x.a x.n x.cap, str (Tm.tag oK 0 1 (i + 1) x.body)]
def flatF : Nat → List Bod → List Value
  | _, [] => []
  | i, x :: l => cellsL i x ++ flatF (i + 1) l
theorem flatF_snoc : ∀ (i : Nat) (l : List Bod) (x : Bod), flatF i (l ++ [x]) = flatF i l ++ cellsL (i + l.length) x
  | i, [], x => by simp [flatF]
  | i, y :: l, x => by
    rw [List.cons_append]
    unfold flatF
    rw [flatF_snoc (i + 1) l x, List.append_assoc, List.length_cons]
    congr 3
    omega
theorem flatF_len : ∀ (i : Nat) (l : List Bod), (flatF i l).length = l.length * 5
  | _, [] => rfl
  | i, y :: l => by
    unfold flatF
    rw [List.length_append, flatF_len (i + 1) l, List.length_cons]
    simp [cellsL]
    omega
theorem flatF_at : ∀ (i : Nat) (l : List Bod) (j c : Nat) (x : Bod), l[j]? = some x → c < 5 → (flatF i l)[j * 5 + c]? = (cellsL (i + j) x)[c]?
  | i, [], j, c, x, h, _ => by simp at h
  | i, y :: l, 0, c, x, h, hc => by
    simp at h
    subst h
    unfold flatF
    rw [Nat.zero_mul, Nat.zero_add, List.getElem?_append_left (by simp [cellsL]; omega)]
    rfl
  | i, y :: l, j + 1, c, x, h, hc => by
    unfold flatF
    have hl : (cellsL i y).length = 5 := rfl
    rw [List.getElem?_append_right (by rw [hl]; omega), hl]
    have e : (j + 1) * 5 + c - 5 = j * 5 + c := by omega
    rw [e, flatF_at (i + 1) l j c x (by simpa using h) hc]
    congr 2
    omega
/-- What one more Send gives. -/
theorem o_send {k : ByteArray} (hk : k.data.toList = oK) (m : Nat) (xa : Option Addr) (xn xc : Nat) (body : List UInt8) (W : World) (hm : m ≤ 60) (hb : body.length ≤ 100) (hB : Byt W xa xn xc body) :
    Calls Try.prog 17 #[.agg #[.string k, .int .u32 (m : Int), .int .u32 0, .int .u64 0], .int .u8 0, .int .u8 1, .slice xa xn xc] W fun e w' => ∃ a n c, e = .returned (.tuple #[.agg #[.string k, .int .u32 ((m + 1 : Nat) : Int), .int .u32 0, .int .u64 0], .agg #[.int .u8 0, .int .u8 1, .int .u32 ((m + 1 : Nat) : Int), .slice a n c, str (Tm.tag oK 0 1 (m + 1) body)], .int .i64 0]) ∧ Byt w' a n c body ∧ (∀ ad, a = some ad → W.heap.size ≤ ad.block) ∧ Below W.heap.size W w' := by
  have hs : Tm.sendE oK m 0 1 body = 0 := by
    unfold Tm.sendE
    rw [if_neg (by decide), if_neg (by omega), o_tag hb]
  have := send_fresh oK m 0 0 0 1 xa xn xc body W (by omega) (by omega) (by omega) hB
  have hks : str oK = .string k := by rw [← hk, str_of]
  rw [hks] at this
  refine this.mono ?_
  rintro e w' ⟨a, n, c, he, h1, h2, h3⟩
  unfold Tm.sN Tm.sF Tm.sT Tm.sS Tm.sG at he
  unfold Tm.sB at h1
  rw [hs] at he h1
  simp only [if_true] at he h1
  rw [hks] at he
  exact ⟨a, n, c, he, h1, h2, h3⟩
/-- What has been sent. -/
def Sent (w : World) (k : ByteArray) (P : Nat) (v : Value) (m : Nat) (wr : World) : Prop :=
  ∃ L : List Bod, L.length = m ∧ wr.ownsRow w.heap.size 35 5 v m (flatF 0 L) ∧ E4 wr P 41 (.string k) (.int .u32 (m : Int)) (.int .u32 0) (.int .u64 0) ∧ E4 wr (P + 1) 41 (.string k) (.int .u32 0) (.int .u32 0) (.int .u64 0) ∧
    (∀ x ∈ L, Byt wr x.a x.n x.cap x.body ∧ x.body.length ≤ 100 ∧ (x.body ≠ [] → ∀ ad, x.a = some ad → v.ownBlock ≠ some ad.block ∧ ad.block ≠ P ∧ ad.block ≠ P + 1)) ∧ Below w.heap.size w wr
/-- A letter and an end that one more Send gave, wherever they lie. -/
def Leaf (wr : World) (k : ByteArray) (M1 : Nat) (a : Option Addr) (n c : Nat) (body : List UInt8) (tz : ByteArray) (V : World) (pa pb : Nat) : Prop :=
  E4 V pa 41 (.string k) (.int .u32 (M1 : Int)) (.int .u32 0) (.int .u64 0) ∧ L5 V pb 35 (.int .u8 0) (.int .u8 1) (.int .u32 (M1 : Int)) (.slice a n c) (.string tz) ∧ Byt V a n c body ∧ Below wr.heap.size wr V ∧ (∀ ad, a = some ad → wr.heap.size ≤ ad.block) ∧ wr.heap.size ≤ pa ∧ wr.heap.size ≤ pb
theorem size_set (w : World) (p : Addr) (v : Value) : (w.setCell p v).heap.size = w.heap.size := by simp [World.setCell]
theorem size_set4 (w : World) (b : Nat) (u0 u1 u2 u3 : Value) : ((((w.setCell ⟨b, 0, none⟩ u0).setCell ⟨b, 1, none⟩ u1).setCell ⟨b, 2, none⟩ u2).setCell ⟨b, 3, none⟩ u3).heap.size = w.heap.size := by rw [size_set, size_set, size_set, size_set]
theorem size_set5 (w : World) (b : Nat) (u0 u1 u2 u3 u4 : Value) : (((((w.setCell ⟨b, 0, none⟩ u0).setCell ⟨b, 1, none⟩ u1).setCell ⟨b, 2, none⟩ u2).setCell ⟨b, 3, none⟩ u3).setCell ⟨b, 4, none⟩ u4).heap.size = w.heap.size := by rw [size_set, size_set, size_set, size_set, size_set]
theorem byt_set4 {w : World} {a : Option Addr} {n cap b : Nat} {bs : List UInt8} (h : Byt w a n cap bs) (hk : ∀ ad, a = some ad → ad.block ≠ b) (u0 u1 u2 u3 : Value) : Byt ((((w.setCell ⟨b, 0, none⟩ u0).setCell ⟨b, 1, none⟩ u1).setCell ⟨b, 2, none⟩ u2).setCell ⟨b, 3, none⟩ u3) a n cap bs :=
  byt_far (byt_far (byt_far (byt_far h hk _ _) hk _ _) hk _ _) hk _ _
theorem byt_set5 {w : World} {a : Option Addr} {n cap b : Nat} {bs : List UInt8} (h : Byt w a n cap bs) (hk : ∀ ad, a = some ad → ad.block ≠ b) (u0 u1 u2 u3 u4 : Value) : Byt (((((w.setCell ⟨b, 0, none⟩ u0).setCell ⟨b, 1, none⟩ u1).setCell ⟨b, 2, none⟩ u2).setCell ⟨b, 3, none⟩ u3).setCell ⟨b, 4, none⟩ u4) a n cap bs :=
  byt_far (byt_far (byt_far (byt_far (byt_far h hk _ _) hk _ _) hk _ _) hk _ _) hk _ _
theorem L5.far5 {w : World} {b c : Nat} {t : TypeId} {v0 v1 v2 v3 v4 : Value} (h : L5 w b t v0 v1 v2 v3 v4) (hne : b ≠ c) (u0 u1 u2 u3 u4 : Value) :
    L5 (((((w.setCell ⟨c, 0, none⟩ u0).setCell ⟨c, 1, none⟩ u1).setCell ⟨c, 2, none⟩ u2).setCell ⟨c, 3, none⟩ u3).setCell ⟨c, 4, none⟩ u4) b t v0 v1 v2 v3 v4 :=
  (row_far hne _).trans ((row_far hne _).trans ((row_far hne _).trans ((row_far hne _).trans ((row_far hne _).trans h))))
theorem byt_kept0 {w w' : World} {a : Option Addr} {n cap : Nat} {bs : List UInt8} (h : Byt w a n cap bs) (hk : bs ≠ [] → ∀ ad, a = some ad → w'.heap[ad.block]? = w.heap[ad.block]?) : Byt w' a n cap bs := by
  by_cases hb : bs = []
  · exact ⟨h.1, h.2.1, .inl hb, h.2.2.2⟩
  · exact byt_kept h (hk hb)
theorem byt_lt {w : World} {a : Option Addr} {n cap : Nat} {bs : List UInt8} (h : Byt w a n cap bs) (hb : bs ≠ []) {ad : Addr} (e : a = some ad) : ad.block < w.heap.size := by
  rcases h.2.2.1 with h0 | ⟨b, off, e1, hc⟩
  · exact absurd h0 hb
  · rw [e] at e1
    cases e1
    exact World.block_lt_of_cell? w _ (hc 0 (List.length_pos_iff.2 hb))
theorem e4_not_row {w : World} {b B e s n : Nat} {t : TypeId} {v0 v1 v2 v3 v : Value} {xs : List Value} (h : E4 w b t v0 v1 v2 v3) (hr : w.ownsRow B e s v n xs) (hte : t ≠ e) : v.ownBlock ≠ some b := by
  rcases hr.2 with ⟨rfl, _⟩ | ⟨g, cap, cur, rfl, _, hgb, _⟩
  · simp [Value.ownBlock]
  · intro e'
    obtain rfl : g = b := by simpa [Value.ownBlock] using e'
    have := (show w.heap[g]? = _ from h).symm.trans hgb
    simp at this
    exact hte this.2
theorem row_inj {w : World} {B e s n : Nat} {v : Value} {xs ys : List Value} (h : w.ownsRow B e s v n xs) (k : w.ownsRow B e s v n ys) : xs = ys := by
  have l1 := h.1
  have l2 := k.1
  rcases h.2 with ⟨rfl, h0⟩ | ⟨g, gc, cur, rfl, _, hh, _, _, _, ht⟩
  · have z : n * s = 0 := by rw [h0, Nat.zero_mul]
    rw [List.eq_nil_of_length_eq_zero (by omega : xs.length = 0), List.eq_nil_of_length_eq_zero (by omega : ys.length = 0)]
  · rcases k.2 with ⟨e', _⟩ | ⟨g2, gc2, cur2, e', _, hh2, _, _, _, ht2⟩
    · cases e'
    · cases e'
      rw [hh] at hh2
      cases hh2
      rw [← ht, ← ht2]
theorem cell_new5 (w : World) (a b c d e : Value) (t : TypeId) : ∀ j u, [a, b, c, d, e][j]? = some u → (w.alloc (.cells #[a, b, c, d, e] t)).cell? ((⟨w.heap.size, 0, none⟩ : Addr).add j) = some u := by
  intro j u hj
  have e1 : (⟨w.heap.size, 0, none⟩ : Addr).add j = ⟨w.heap.size, j, none⟩ := by unfold Addr.add; split <;> simp_all
  rw [e1, World.cell?_alloc_at _ _ _ _ rfl, ← hj, ← Array.getElem?_toList]
/-- One more letter has been sent. -/
theorem sent_next {w wr V w6 : World} {k tz : ByteArray} {P m M1 n c g cap : Nat} {a : Option Addr} {body : List UInt8} {v : Value} {pa pb : Nat} {o : Obj} (hP : w.heap.size ≤ P) (hS : Sent w k P v m wr) (hV : Leaf wr k M1 a n c body tz V pa pb) (hM : M1 = m + 1) (hb : body.length ≤ 100) (ht : .string tz = str (Tm.tag oK 0 1 M1 body)) :
    ∀ V', V' = ((((V.setCell ⟨P, 0, none⟩ (.string k)).setCell ⟨P, 1, none⟩ (.int .u32 (M1 : Int))).setCell ⟨P, 2, none⟩ (.int .u32 0)).setCell ⟨P, 3, none⟩ (.int .u64 0)).alloc o →
    (∀ L : List Bod, L.length = m → wr.ownsRow w.heap.size 35 5 v m (flatF 0 L) → w6.ownsRow w.heap.size 35 5 (.slice (some ⟨g, 0, none⟩) (m + 1) cap) (m + 1) (flatF 0 L ++ [.int .u8 0, .int .u8 1, .int .u32 (M1 : Int), .slice a n c, .string tz])) → V'.grownBy w6 v.ownBlock → (v.ownBlock = some g ∨ g = V'.heap.size) → Sent w k P (.slice (some ⟨g, 0, none⟩) (m + 1) cap) (m + 1) w6 := by
  rintro V' rfl hown hg hor
  obtain ⟨L, l1, l2, l3, l4, l5, l6⟩ := hS
  obtain ⟨v1, v2, v3, v4, v5, v6, v7⟩ := hV
  have pl : P < wr.heap.size := (Array.getElem?_eq_some_iff.1 l3).1
  have ql : P + 1 < wr.heap.size := (Array.getElem?_eq_some_iff.1 l4).1
  have sV := v4.size
  have sz := size_set4 V P (.string k) (.int .u32 (M1 : Int)) (.int .u32 0) (.int .u64 0)
  have rowV := owns_later v4 l2
  have nP : v.ownBlock ≠ some P := e4_not_row l3 l2 (by decide)
  have nQ : v.ownBlock ≠ some (P + 1) := e4_not_row l4 l2 (by decide)
  have far : ∀ b, b < V.heap.size → b ≠ P → v.ownBlock ≠ some b → w6.heap[b]? = V.heap[b]? := fun b h1 h2 h3 => by
    rw [hg.block b (by rw [World.size_alloc, sz]; omega) (fun e => h3 e.symm), Below.heap_alloc _ _ _ (by rw [sz]; exact h1), row_far h2, row_far h2, row_far h2, row_far h2]
  refine ⟨L ++ [⟨a, n, c, body⟩], by simp [l1], ?_, ?_, ?_, ?_, ?_⟩
  · rw [flatF_snoc, Nat.zero_add, l1]
    have := hown L l1 l2
    rw [ht, hM] at this
    exact this
  · rw [← hM]
    have e6 := ((l3.later v4).set (.string k) (.int .u32 (M1 : Int)) (.int .u32 0) (.int .u64 0)).alloc o
    exact (hg.block P (by rw [World.size_alloc, sz]; omega) (fun e => nP e.symm)).trans e6
  · exact (far (P + 1) (by omega) (by omega) nQ).trans (l4.later v4)
  · intro x hx
    rcases List.mem_append.1 hx with hx | hx
    · obtain ⟨y1, y2, y3⟩ := l5 x hx
      refine ⟨byt_kept0 (y1.later v4) (fun hne ad e => far ad.block ?_ (y3 hne ad e).2.1 (y3 hne ad e).1), y2, fun hne ad e => ⟨?_, (y3 hne ad e).2⟩⟩
      · have := byt_lt y1 hne e; omega
      · rcases hor with h | h
        · intro e'
          have e2 : g = ad.block := by simpa [Value.ownBlock] using e'
          exact (y3 hne ad e).1 (by rw [h, e2])
        · intro e'
          have e2 : g = ad.block := by simpa [Value.ownBlock] using e'
          have := byt_lt y1 hne e
          rw [World.size_alloc, sz] at h
          omega
    · simp at hx
      subst hx
      have nr : ∀ ad, a = some ad → v.ownBlock ≠ some ad.block := fun ad e e' => by
        have := (l2.lt ad.block e').2
        have := v5 ad e
        omega
      refine ⟨byt_kept0 v3 (fun hne ad e => far ad.block (byt_lt v3 hne e) (by have := v5 ad e; omega) (nr ad e)), hb, fun hne ad e => ⟨?_, by have := v5 ad e; omega, by have := v5 ad e; omega⟩⟩
      rcases hor with h | h
      · intro e'
        have e2 : g = ad.block := by simpa [Value.ownBlock] using e'
        exact nr ad e (by rw [h, e2])
      · intro e'
        have e2 : g = ad.block := by simpa [Value.ownBlock] using e'
        have := byt_lt v3 hne e
        rw [World.size_alloc, sz] at h
        omega
  · have b1 : Below w.heap.size w V := below_step l6 v4
    have b2 := below_set4 b1 hP (.string k) (.int .u32 (M1 : Int)) (.int .u32 0) (.int .u64 0)
    exact (b2.alloc b2.size o).grown hg (b2.alloc b2.size o).size (fun j e => (l2.lt j e).1)
section
variable {wr w4 : World} {k tz : ByteArray} {M1 n c : Nat} {a : Option Addr} {body : List UInt8}
theorem leaf1 (h : Byt w4 a n c body ∧ (∀ ad, a = some ad → wr.heap.size ≤ ad.block) ∧ Below wr.heap.size wr w4) :
    Leaf wr k M1 a n c body tz ((w4.alloc (.cells #[.string k, .int .u32 (M1 : Int), .int .u32 0, .int .u64 0] 41)).alloc (.cells #[.int .u8 0, .int .u8 1, .int .u32 (M1 : Int), .slice a n c, .string tz] 35)) w4.heap.size (w4.heap.size + 1) :=
  have s := h.2.2.size
  have z := (below_one w4 (.cells #[.string k, .int .u32 (M1 : Int), .int .u32 0, .int .u64 0] 41)).alloc (by simp) (.cells #[.int .u8 0, .int .u8 1, .int .u32 (M1 : Int), .slice a n c, .string tz] 35)
  ⟨(E4.new w4 41 _ _ _ _).alloc _, L5.new1 w4 _ 35 _ _ _ _ _, h.1.later z, below_step h.2.2 z, h.2.1, s, by omega⟩
theorem leaf2 (h : Byt w4 a n c body ∧ (∀ ad, a = some ad → wr.heap.size ≤ ad.block) ∧ Below wr.heap.size wr w4) :
    Leaf wr k M1 a n c body tz ((w4.alloc (.cells #[.int .u8 0, .int .u8 1, .int .u32 (M1 : Int), .slice a n c, .string tz] 35)).alloc (.cells #[.string k, .int .u32 (M1 : Int), .int .u32 0, .int .u64 0] 41)) (w4.heap.size + 1) w4.heap.size :=
  have s := h.2.2.size
  have z := (below_one w4 (.cells #[.int .u8 0, .int .u8 1, .int .u32 (M1 : Int), .slice a n c, .string tz] 35)).alloc (by simp) (.cells #[.string k, .int .u32 (M1 : Int), .int .u32 0, .int .u64 0] 41)
  ⟨E4.new1 w4 _ 41 _ _ _ _, (L5.new w4 35 _ _ _ _ _).alloc _, h.1.later z, below_step h.2.2 z, h.2.1, by omega, s⟩
theorem leaf3 {v0 v1 v2 v3 : Value} (h : Byt w4 a n c body ∧ (∀ ad, a = some ad → wr.heap.size + 1 ≤ ad.block) ∧ Below wr.heap.size wr w4) (q : E4 w4 wr.heap.size 41 v0 v1 v2 v3) :
    Leaf wr k M1 a n c body tz (((((w4.setCell ⟨wr.heap.size, 0, none⟩ (.string k)).setCell ⟨wr.heap.size, 1, none⟩ (.int .u32 (M1 : Int))).setCell ⟨wr.heap.size, 2, none⟩ (.int .u32 0)).setCell ⟨wr.heap.size, 3, none⟩ (.int .u64 0)).alloc (.cells #[.int .u8 0, .int .u8 1, .int .u32 (M1 : Int), .slice a n c, .string tz] 35)) wr.heap.size w4.heap.size := by
  have s := h.2.2.size
  have b := below_set4 h.2.2 (Nat.le_refl wr.heap.size) (.string k) (.int .u32 (M1 : Int)) (.int .u32 0) (.int .u64 0)
  have l := L5.new ((((w4.setCell ⟨wr.heap.size, 0, none⟩ (.string k)).setCell ⟨wr.heap.size, 1, none⟩ (.int .u32 (M1 : Int))).setCell ⟨wr.heap.size, 2, none⟩ (.int .u32 0)).setCell ⟨wr.heap.size, 3, none⟩ (.int .u64 0)) 35 (.int .u8 0) (.int .u8 1) (.int .u32 (M1 : Int)) (.slice a n c) (.string tz)
  rw [size_set4] at l
  refine ⟨(q.set _ _ _ _).alloc _, l, ?_, b.alloc b.size _, fun ad e => by have := h.2.1 ad e; omega, Nat.le_refl _, s⟩
  exact (byt_set4 h.1 (fun ad e => by have := h.2.1 ad e; omega) _ _ _ _).later (below_one _ _)
theorem leaf5 {v0 v1 v2 v3 v4 : Value} (h : Byt w4 a n c body ∧ (∀ ad, a = some ad → wr.heap.size + 1 ≤ ad.block) ∧ Below wr.heap.size wr w4) (q : L5 w4 wr.heap.size 35 v0 v1 v2 v3 v4) :
    Leaf wr k M1 a n c body tz ((((((w4.setCell ⟨wr.heap.size, 0, none⟩ (.int .u8 0)).setCell ⟨wr.heap.size, 1, none⟩ (.int .u8 1)).setCell ⟨wr.heap.size, 2, none⟩ (.int .u32 (M1 : Int))).setCell ⟨wr.heap.size, 3, none⟩ (.slice a n c)).setCell ⟨wr.heap.size, 4, none⟩ (.string tz)).alloc (.cells #[.string k, .int .u32 (M1 : Int), .int .u32 0, .int .u64 0] 41)) w4.heap.size wr.heap.size := by
  have s := h.2.2.size
  have b := below_set5 h.2.2 (Nat.le_refl wr.heap.size) (.int .u8 0) (.int .u8 1) (.int .u32 (M1 : Int)) (.slice a n c) (.string tz)
  have l := E4.new (((((w4.setCell ⟨wr.heap.size, 0, none⟩ (.int .u8 0)).setCell ⟨wr.heap.size, 1, none⟩ (.int .u8 1)).setCell ⟨wr.heap.size, 2, none⟩ (.int .u32 (M1 : Int))).setCell ⟨wr.heap.size, 3, none⟩ (.slice a n c)).setCell ⟨wr.heap.size, 4, none⟩ (.string tz)) 41 (.string k) (.int .u32 (M1 : Int)) (.int .u32 0) (.int .u64 0)
  rw [size_set5] at l
  refine ⟨l, (q.set _ _ _ _ _).alloc _, ?_, b.alloc b.size _, fun ad e => by have := h.2.1 ad e; omega, s, Nat.le_refl _⟩
  exact (byt_set5 h.1 (fun ad e => by have := h.2.1 ad e; omega) _ _ _ _ _).later (below_one _ _)
theorem leaf46 {v0 v1 v2 v3 u0 u1 u2 u3 u4 : Value} {pa pb : Nat} (h : Byt w4 a n c body ∧ (∀ ad, a = some ad → wr.heap.size + 2 ≤ ad.block) ∧ Below wr.heap.size wr w4) (q : E4 w4 pa 41 v0 v1 v2 v3) (r : L5 w4 pb 35 u0 u1 u2 u3 u4) (h1 : wr.heap.size ≤ pa ∧ pa ≤ wr.heap.size + 1) (h2 : wr.heap.size ≤ pb ∧ pb ≤ wr.heap.size + 1) (h3 : pa ≠ pb) :
    Leaf wr k M1 a n c body tz (((((((((w4.setCell ⟨pa, 0, none⟩ (.string k)).setCell ⟨pa, 1, none⟩ (.int .u32 (M1 : Int))).setCell ⟨pa, 2, none⟩ (.int .u32 0)).setCell ⟨pa, 3, none⟩ (.int .u64 0)).setCell ⟨pb, 0, none⟩ (.int .u8 0)).setCell ⟨pb, 1, none⟩ (.int .u8 1)).setCell ⟨pb, 2, none⟩ (.int .u32 (M1 : Int))).setCell ⟨pb, 3, none⟩ (.slice a n c)).setCell ⟨pb, 4, none⟩ (.string tz)) pa pb :=
  ⟨(q.set _ _ _ _).far5 h3 _ _ _ _ _, (r.far4 (fun e => h3 e.symm) _ _ _ _).set _ _ _ _ _,
    byt_set5 (byt_set4 h.1 (fun ad e => by have := h.2.1 ad e; omega) _ _ _ _) (fun ad e => by have := h.2.1 ad e; omega) _ _ _ _ _,
    below_set5 (below_set4 h.2.2 h1.1 _ _ _ _) h2.1 _ _ _ _ _, fun ad e => by have := h.2.1 ad e; omega, h1.1, h2.1⟩
end

theorem info4 : (Try.prog.info? 4).map (fun i => (i.zero, i.size, i.bytes)) = some (some (.bool false), 1, 1) := by kernel_rfl
theorem make_bools (m : Nat) (hm : m ≤ 60) (wr : World) : ∃ C0 : Array Value, (Instr.makeSlice 56 (.int .i64 (m : Int)) (.int .i64 (m : Int))).run Try.prog wr = .ok (.slice (some ⟨wr.heap.size, 0, none⟩) m m) (wr.alloc (.cells C0 4)) ∧ ∀ t, t < m → C0[t]? = some (.bool false) := by
  obtain ⟨i0, hi, hz0, hz1, hz2⟩ := info_parts info4
  have h := run_make (P := Try.prog) wr 56 4 i0 (.bool false) Try.underlying56 hi hz0 .i64 .i64 (m : Int) (m : Int) (by omega) (Int.le_refl _) (by rw [hz2]; omega) (by omega)
  simp only [Int.toNat_natCast, hz1, Nat.mul_one] at h
  refine ⟨_, h, fun t ht => ?_⟩
  simp [madeCells, ht, Value.cells]
  rw [Nat.mod_one]
  rfl
/-- What has been taken. -/
def Took (w wr : World) (k : ByteArray) (P R m : Nat) (S : List Nat) (tp cm : Nat) (wx : World) : Prop :=
  (∀ b, b < R → b ≠ P + 1 → wx.heap[b]? = wr.heap[b]?) ∧ E4 wx (P + 1) 41 (.string k) (.int .u32 0) (.int .u32 (tp : Int)) (.int .u64 (cm : Int)) ∧
    (∃ C : Array Value, wx.heap[R]? = some (.cells C 4 (0, 0)) ∧ ∀ t, t < m → C[t]? = some (.bool (decide (t + 1 ∈ S)))) ∧ Tm.Win S tp cm ∧ (∀ s ∈ S, s ≤ m) ∧ cm < 18446744073709551616 ∧ Below w.heap.size w wx
theorem took_top {w wr wx : World} {k : ByteArray} {P R m tp cm : Nat} {S : List Nat} (h : Took w wr k P R m S tp cm wx) : tp ≤ m := by
  obtain ⟨_, _, _, hw, hs, _⟩ := h
  rcases hw.2.1 with h | h
  · omega
  · exact hs tp h
theorem took_next {w wr wx V : World} {k : ByteArray} {P R m tp cm t : Nat} {S : List Nat} {at' ac' : Nat} (h : Took w wr k P R m S tp cm wx) (hP : w.heap.size ≤ P) (hR : P + 1 < R) (ht : t < m) (hm : m ≤ 60) (hV : Below wx.heap.size wx V)
    (hn : (t + 1 ∉ S ∧ at' = Tm.accT tp (t + 1) ∧ ac' = Tm.accC tp cm (t + 1)) ∨ (t + 1 ∈ S ∧ at' = tp ∧ ac' = cm)) :
    ∃ S', Took w wr k P R m S' at' ac' (((((V.setCell ⟨R, t, none⟩ (.bool true)).setCell ⟨P + 1, 0, none⟩ (.string k)).setCell ⟨P + 1, 1, none⟩ (.int .u32 0)).setCell ⟨P + 1, 2, none⟩ (.int .u32 (at' : Int))).setCell ⟨P + 1, 3, none⟩ (.int .u64 (ac' : Int))) := by
  have htop := took_top h
  obtain ⟨h1, h2, ⟨C, h3, h4⟩, h5, h6, h7, h8⟩ := h
  have lt1 : P + 1 < wx.heap.size := (Array.getElem?_eq_some_iff.1 h2).1
  have lt2 : R < wx.heap.size := (Array.getElem?_eq_some_iff.1 h3).1
  have hV' : V.heap[R]? = some (.cells C 4 (0, 0)) := (hV.block R lt2).trans h3
  have bw : Below w.heap.size w V := h8.trans (hV.mono h8.size)
  refine ⟨if t + 1 ∈ S then S else (t + 1) :: S, ?_, ?_, ⟨C.setIfInBounds t (.bool true), ?_, ?_⟩, ?_, ?_, ?_, ?_⟩
  · intro b hb hne
    rw [row_far hne, row_far hne, row_far hne, row_far hne, row_far (by omega), hV.block b (by omega)]
    exact h1 b hb hne
  · have e1 : E4 (V.setCell ⟨R, t, none⟩ (.bool true)) (P + 1) 41 (.string k) (.int .u32 0) (.int .u32 (tp : Int)) (.int .u64 (cm : Int)) := (row_far (by omega) _).trans (h2.later hV)
    exact e1.set _ _ _ _
  · rw [row_far (by omega), row_far (by omega), row_far (by omega), row_far (by omega)]
    exact row_set hV' _
  · intro u hu
    have hc := h4 u hu
    by_cases e : t = u
    · subst e
      have hlt : t < C.size := by
        have := h4 t ht
        exact (Array.getElem?_eq_some_iff.1 this).1
      rw [Array.getElem?_setIfInBounds_self_of_lt hlt]
      congr 2
      symm
      apply decide_eq_true
      split
      · assumption
      · simp
    · rw [Array.getElem?_setIfInBounds_ne e, hc]
      congr 3
      apply propext
      split
      · exact Iff.rfl
      · constructor
        · intro hx; exact List.mem_cons_of_mem _ hx
        · intro hx
          rcases List.mem_cons.1 hx with hx | hx
          · omega
          · exact hx
  · rcases hn with ⟨n1, rfl, rfl⟩ | ⟨n1, rfl, rfl⟩
    · rw [if_neg n1]
      exact Tm.win_acc h5 (by omega) (by omega) n1
    · rw [if_pos n1]
      exact h5
  · intro x hx
    split at hx
    · exact h6 x hx
    · rcases List.mem_cons.1 hx with hx | hx
      · omega
      · exact h6 x hx
  · rcases hn with ⟨n1, rfl, rfl⟩ | ⟨n1, rfl, rfl⟩
    · refine Tm.accC_lt h7 ?_
      rw [Tm.win_new h5 (by omega) (by omega)]
      exact decide_eq_true n1
    · exact h7
  · exact below_set4 (bw.setCell (p := ⟨R, t, none⟩) (by show w.heap.size ≤ R; omega) _) (by omega) _ _ _ _
/-- What Accept gives of a letter that was sent. -/
theorem o_acc {k : ByteArray} (hk : k.data.toList = oK) {tp cm t : Nat} {S : List Nat} {x : Bod} (hw : Tm.Win S tp cm) (htp : tp ≤ 60) (hcm : cm < 18446744073709551616) (ht : t < 60) (hb : x.body.length ≤ 100) :
    ∃ at' ac' ae : Nat, ((t + 1 ∉ S ∧ at' = Tm.accT tp (t + 1) ∧ ac' = Tm.accC tp cm (t + 1) ∧ ae = 0) ∨ (t + 1 ∈ S ∧ at' = tp ∧ ac' = cm ∧ ae = 6)) ∧
    ∀ W, Byt W x.a x.n x.cap x.body → Calls Try.prog 19 #[.agg #[.string k, .int .u32 0, .int .u32 (tp : Int), .int .u64 (cm : Int)], .int .u8 1, .agg #[.int .u8 0, .int .u8 1, .int .u32 ((t + 1 : Nat) : Int), .slice x.a x.n x.cap, str (Tm.tag oK 0 1 (t + 1) x.body)]] W fun e w' => e = .returned (.tuple #[.agg #[.string k, .int .u32 0, .int .u32 (at' : Int), .int .u64 (ac' : Int)], .int .i64 (ae : Nat)]) ∧ Below W.heap.size W w' := by
  have hks : str oK = .string k := by rw [← hk, str_of]
  have hE : Tm.accE oK 1 0 1 (t + 1) tp cm x.body (Tm.tag oK 0 1 (t + 1) x.body) = if Tm.isNew tp cm (t + 1) = false then 6 else 0 := by
    unfold Tm.accE
    rw [if_neg, if_neg (by rw [o_tag hb]; simp), if_neg (by simp)]
    rintro (h | h | h)
    · exact h rfl
    · revert h; decide
    · omega
  have hN := Tm.win_new hw (seq := t + 1) (by omega) (by omega)
  refine ⟨Tm.aT oK 1 0 1 (t + 1) tp cm x.body (Tm.tag oK 0 1 (t + 1) x.body), Tm.aC oK 1 0 1 (t + 1) tp cm x.body (Tm.tag oK 0 1 (t + 1) x.body), Tm.accE oK 1 0 1 (t + 1) tp cm x.body (Tm.tag oK 0 1 (t + 1) x.body), ?_, fun W hB => ?_⟩
  · unfold Tm.aT Tm.aC
    rw [hE, hN]
    by_cases hs : t + 1 ∈ S
    · right
      rw [decide_eq_false (by simpa using hs)]
      exact ⟨hs, rfl, rfl, rfl⟩
    · left
      rw [decide_eq_true hs]
      exact ⟨hs, rfl, rfl, rfl⟩
  · have := accept_any oK 0 tp cm 1 0 1 (t + 1) x.a x.n x.cap ⟨(Tm.tag oK 0 1 (t + 1) x.body).toArray⟩ x.body W (by omega) hcm (by omega) (by omega) (by omega) hB
    rw [hks] at this
    refine this.mono ?_
    rintro e w' ⟨he, h2⟩
    rw [str_bytes, hks] at he
    exact ⟨he, h2⟩


end Go.Proofs.Ytimeggbjmcnnoaa
