/- A letter's text, and a copy of some bytes. -/
import Derived.Test.YtimeggbjmcnnoaaLnA
import Derived.Laws.AppendOwnNone
namespace Go.Proofs.Ytimeggbjmcnnoaa
open Go.RowKit

def bcs (bs : List UInt8) : List Value := bs.map fun b => Value.int .u8 (b.toNat : Int)
theorem bcs_append (a b : List UInt8) : bcs (a ++ b) = bcs a ++ bcs b := by unfold bcs; rw [List.map_append]
theorem bcs_len (a : List UInt8) : (bcs a).length = a.length := by unfold bcs; rw [List.length_map]
theorem bcs_one {bs : List UInt8} : ∀ u ∈ bcs bs, u.oneCell' = true := by
  intro u hu
  unfold bcs at hu
  simp at hu
  obtain ⟨_, _, rfl⟩ := hu
  rfl
theorem info5 : (Try.prog.info? 5).map (fun i => (i.zero, i.size, i.bytes)) = some (some (.int .u8 0), 1, 1) := by kernel_rfl

/-- Some bytes lie in a slice. -/
def Byt (w : World) (a : Option Addr) (n cap : Nat) (bs : List UInt8) : Prop := bs.length = n ∧ n ≤ cap ∧ AtB w a bs ∧ (a = none → cap = 0)
theorem Byt.later {w w' : World} {a : Option Addr} {n cap : Nat} {bs : List UInt8} (hb : Below w.heap.size w w') (h : Byt w a n cap bs) : Byt w' a n cap bs :=
  ⟨h.1, h.2.1, atB_later hb h.2.2.1, h.2.2.2⟩

theorem owns_bytes {w : World} {B n : Nat} {v : Value} {bs : List UInt8} (h : w.ownsRow B 5 1 v n (bcs bs)) : ∃ a cap, v = .slice a n cap ∧ Byt w a n cap bs := by
  have hl : bs.length = n := by have := h.1; rw [bcs_len] at this; omega
  rcases h.2 with ⟨rfl, h0⟩ | ⟨g, cap, cur, rfl, _, _, hc, _, _, _⟩
  · subst h0
    exact ⟨none, 0, rfl, hl, Nat.le_refl _, .inl (List.eq_nil_of_length_eq_zero hl), fun _ => rfl⟩
  · refine ⟨_, cap, rfl, hl, hc, .inr ⟨g, 0, rfl, fun j hj => ?_⟩, fun e => by cases e⟩
    rw [Nat.zero_add, h.cellAt j (by omega)]
    simp [bcs, hj]

theorem owns_bytes0 {w : World} {B n : Nat} {v : Value} {bs : List UInt8} (h : w.ownsRow B 5 1 v n (bcs bs)) : ∃ a cap, v = .slice a n cap ∧ Byt w a n cap bs ∧ ∀ ad, a = some ad → v.ownBlock = some ad.block := by
  obtain ⟨a, cap, rfl, hb⟩ := owns_bytes h
  refine ⟨a, cap, rfl, hb, ?_⟩
  rintro ad rfl
  rcases h.2 with ⟨e, _⟩ | ⟨g, c, cur, e, _⟩
  · cases e
  · cases e; rfl
theorem byt_kept {w w' : World} {a : Option Addr} {n cap : Nat} {bs : List UInt8} (h : Byt w a n cap bs) (hk : ∀ ad, a = some ad → w'.heap[ad.block]? = w.heap[ad.block]?) : Byt w' a n cap bs := by
  refine ⟨h.1, h.2.1, ?_, h.2.2.2⟩
  rcases h.2.2.1 with e | ⟨b, off, e, hc⟩
  · exact .inl e
  · refine .inr ⟨b, off, e, fun j hj => ?_⟩
    exact (World.cell?_of_block (w := w) (a := ⟨b, off + j, none⟩) (hk ⟨b, off, none⟩ e)).trans (hc j hj)

/-- An append of bytes to a row of one's own. -/
theorem wpList_append_byt {P : Program} (w : World) {ops : Array Oper} {rest : List Oper} {o : Oper} {a : Act} {Q : Exit → Act → World → Prop} (hgd : o.guard = none) (s x : Operand) (t : TypeId)
    (ho : o.op = .call { callee := .builtin .append, args := #[s, x], argTypes := #[t, t] })
    (base : Nat) (e : TypeId) (i : TypeInfo) (z : Value) (size bytes : Nat) (ht : P.underlying t = some (.slice e)) (hi : P.info? e = some i) (hz : i.zero = some z)
    (hsize : i.size = size) (hby : i.bytes = bytes) (hzs : z.cells.size = size) (hsz : size = 1) (hbb : bytes = 1)
    (v : Value) (n : Nat) (xs : List Value) (hs : a.eval s = v) (hown : w.ownsRow base e size v n xs)
    (ad : Option Addr) (m c : Nat) (bs : List UInt8) (hx : a.eval x = .slice ad m c) (hsrc : Byt w ad m c bs)
    (h63 : n + m ≤ 100000) (hbase : base ≤ w.heap.size)
    (h : ∀ v' w', w'.ownsRow base e size v' (n + m) (xs ++ bcs bs) → w.grownBy w' v.ownBlock → wpList P ops Q rest (a.put o.dst v') w') : wpList P ops Q (o :: rest) a w := by
  obtain ⟨h1, h2, h3, h4⟩ := hsrc
  cases ad with
  | none =>
    obtain rfl : c = 0 := h4 rfl
    obtain rfl : m = 0 := by omega
    refine wpList_append_own_none hgd s x t ho base e i size ht hi v n xs hs hown hx ?_
    have hnil : bs = [] := List.eq_nil_of_length_eq_zero h1
    refine h v w ?_ (World.grownBy.refl _ _)
    rw [hnil]
    unfold bcs
    rw [List.map_nil, List.append_nil]
    exact hown
  | some ad =>
    refine wpList_append_own w hgd s x t ho base e i z size bytes ht hi hz hsize hby hzs (by omega) v n xs hs hown ad m c (bcs bs) hx (by rw [bcs_len, hsz]; omega) ?_ bcs_one (by unfold maxLen; omega) (by rw [hbb]; omega) hbase (fun v' w' a1 a2 _ => h v' w' a1 a2)
    intro j u hu
    have hj := (List.getElem?_eq_some_iff.1 hu).1
    rw [bcs_len] at hj
    rcases h3 with rfl | ⟨b, off, e1, hc⟩
    · simp at hj
    · cases e1
      have e2 : (⟨b, off, none⟩ : Addr).add j = ⟨b, off + j, none⟩ := by unfold Addr.add; split <;> simp_all
      rw [e2, hc j hj]
      unfold bcs at hu
      rw [List.getElem?_map, List.getElem?_eq_getElem hj] at hu
      simpa using hu

theorem grown_below0 {w wr w2 : World} {B e n s : Nat} {v : Value} {xs : List Value} (hs : B ≤ wr.heap.size) (hown : wr.ownsRow B e s v n xs) (hnx : Below B w wr) (hg : wr.grownBy w2 v.ownBlock) : Below B w w2 := by
  refine hnx.grown hg hs ?_
  intro j hj
  exact (hown.lt j hj).1

/-- The six bytes ahead of a letter's body. -/
def six (f t s : Nat) : List UInt8 := [UInt8.ofNat f, UInt8.ofNat t, UInt8.ofNat (s / 16777216), UInt8.ofNat (s / 65536 % 256), UInt8.ofNat (s / 256 % 256), UInt8.ofNat (s % 256)]
theorem six_text (f t s : Nat) (body : List UInt8) : six f t s ++ body = Tm.ltext f t s body := rfl
def TextPost (f t s : Nat) (body : List UInt8) (w : World) (e : Ending) (w' : World) : Prop :=
  ∃ v, e = .returned v ∧ w'.ownsRow w.heap.size 5 1 v (6 + body.length) (bcs (Tm.ltext f t s body)) ∧ Below w.heap.size w w'
theorem six_lit {f t s : Nat} (hf : f < 256) (ht : t < 256) (hs : s < 4294967296) : (#[.int .u8 (f : Int), .int .u8 (t : Int), .int .u8 ((s : Int) / 16777216 % 256), .int .u8 ((s : Int) / 65536 % 256), .int .u8 ((s : Int) / 256 % 256), .int .u8 ((s : Int) % 256)] : Array Value).toList = bcs (six f t s) := by
  have b : ∀ {x : Nat}, x < 256 → (UInt8.ofNat x).toNat = x := fun {x} h => by simp; omega
  unfold bcs six
  simp only [List.map_cons, List.map_nil]
  rw [b hf, b ht, b (x := s / 16777216) (by omega), b (x := s / 65536 % 256) (by omega), b (x := s / 256 % 256) (by omega), b (x := s % 256) (by omega)]
  have e : (s : Int) / 16777216 % 256 = (s : Int) / 16777216 := by omega
  simp [e]
theorem six_own {f t s : Nat} (hf : f < 256) (ht : t < 256) (hs : s < 4294967296) (w : World) (o : Obj) :
    ((w.alloc o).alloc (.cells #[.int .u8 (f : Int), .int .u8 (t : Int), .int .u8 ((s : Int) / 16777216 % 256), .int .u8 ((s : Int) / 65536 % 256), .int .u8 ((s : Int) / 256 % 256), .int .u8 ((s : Int) % 256)] 5)).ownsRow w.heap.size 5 1 (.slice (some ⟨w.heap.size + 1, 0, none⟩) 6 6) 6 (bcs (six f t s)) := by
  have hO := World.ownsRow_lit (base := w.heap.size) (e := 5) (size := 1) (w.alloc o) #[.int .u8 (f : Int), .int .u8 (t : Int), .int .u8 ((s : Int) / 16777216 % 256), .int .u8 ((s : Int) / 65536 % 256), .int .u8 ((s : Int) / 256 % 256), .int .u8 ((s : Int) % 256)] 6 (by simp) (by decide) rfl
  rw [six_lit hf ht hs, World.size_alloc] at hO
  exact hO

set_option maxRecDepth 100000 in
set_option maxHeartbeats 2000000 in
theorem text_any (f t s : Nat) (a : Option Addr) (n cap : Nat) (g : ByteArray) (body : List UInt8) (w : World) (hf : f < 256) (ht : t < 256) (hs : s < 4294967296) (hn : n ≤ 1000) (hB : Byt w a n cap body) :
    Calls Try.prog 33 #[.agg #[.int .u8 (f : Int), .int .u8 (t : Int), .int .u32 (s : Int), .slice a n cap, .string g]] w (TextPost f t s body w) := by
  obtain ⟨i0, hi, hz0, hz1, hz2⟩ := info_parts info5
  have I : Aside (Try.prog.info? 5 = some i0 ∧ i0.zero = some (.int .u8 0) ∧ i0.size = 1 ∧ i0.bytes = 1) := ⟨hi, hz0, hz1, hz2⟩
  clear hi hz0 hz1 hz2
  have Q1 : Aside (∀ v w', w'.ownsRow w.heap.size 5 1 v (6 + n) (bcs (six f t s) ++ bcs body) → Below w.heap.size w w' → TextPost f t s body w (.returned v) w') := fun v w' h1 h2 =>
    ⟨v, rfl, by rw [← six_text, bcs_append, hB.1]; exact h1, h2⟩
  have L : Aside (∀ o, _) := fun o => six_own hf ht hs w o
  have B0 : Aside (∀ o o', Byt ((w.alloc o).alloc o') a n cap body ∧ Below w.heap.size w ((w.alloc o).alloc o')) := fun o o' =>
    have b := ((Below.refl _ w).alloc (Nat.le_refl _) o).alloc (by simp) o'
    ⟨hB.later b, b⟩
  generalize TextPost f t s body w = Q at *
  generalize bcs (six f t s) = sx at *
  clear hB hf ht hs
  go_enter Try.func33, Try.ntmps33
  go_wp2_with (at_builtin; refine wpList_append_byt _ rfl _ _ 24 rfl w.heap.size 5 i0 (.int .u8 0) 1 1 Try.underlying24 I.out.1 I.out.2.1 I.out.2.2.1 I.out.2.2.2 rfl rfl rfl _ _ _ rfl (L.out _) _ _ _ _ rfl (B0.out _ _).1 ?c1 ?c2 ?_)
  case c1 => omega
  case c2 => simp; omega
  intro v2 w2 hown2 hg2
  have Q2 : Aside (Q (.returned v2) w2) := Q1.out v2 w2 hown2 (grown_below0 (by simp; omega) (L.out _) (B0.out _ _).2 hg2)
  clear hown2 hg2 L B0 Q1
  go_wp2
  exact Q2.out

set_option maxRecDepth 100000 in
set_option maxHeartbeats 2000000 in
theorem rtext_any (f t s : Nat) (a : Option Addr) (n cap : Nat) (g : ByteArray) (body : List UInt8) (w : World) (hf : f < 256) (ht : t < 256) (hs : s < 4294967296) (hn : n ≤ 1000) (hB : Byt w a n cap body) :
    Calls Try.prog 35 #[.agg #[.int .u8 (f : Int), .int .u8 (t : Int), .int .u32 (s : Int), .slice a n cap, .string g]] w (TextPost f t s body w) := by
  obtain ⟨i0, hi, hz0, hz1, hz2⟩ := info_parts info5
  have I : Aside (Try.prog.info? 5 = some i0 ∧ i0.zero = some (.int .u8 0) ∧ i0.size = 1 ∧ i0.bytes = 1) := ⟨hi, hz0, hz1, hz2⟩
  clear hi hz0 hz1 hz2
  have Q1 : Aside (∀ v w', w'.ownsRow w.heap.size 5 1 v (6 + n) (bcs (six f t s) ++ bcs body) → Below w.heap.size w w' → TextPost f t s body w (.returned v) w') := fun v w' h1 h2 =>
    ⟨v, rfl, by rw [← six_text, bcs_append, hB.1]; exact h1, h2⟩
  have L : Aside (∀ o, _) := fun o => six_own hf ht hs w o
  have B0 : Aside (∀ o o', Byt ((w.alloc o).alloc o') a n cap body ∧ Below w.heap.size w ((w.alloc o).alloc o')) := fun o o' =>
    have b := ((Below.refl _ w).alloc (Nat.le_refl _) o).alloc (by simp) o'
    ⟨hB.later b, b⟩
  generalize TextPost f t s body w = Q at *
  generalize bcs (six f t s) = sx at *
  clear hB hf ht hs
  go_enter Try.func35, Try.ntmps35
  go_wp2_with (at_builtin; refine wpList_append_byt _ rfl _ _ 24 rfl w.heap.size 5 i0 (.int .u8 0) 1 1 Try.underlying24 I.out.1 I.out.2.1 I.out.2.2.1 I.out.2.2.2 rfl rfl rfl _ _ _ rfl (L.out _) _ _ _ _ rfl (B0.out _ _).1 ?c1 ?c2 ?_)
  case c1 => omega
  case c2 => simp; omega
  intro v2 w2 hown2 hg2
  have Q2 : Aside (Q (.returned v2) w2) := Q1.out v2 w2 hown2 (grown_below0 (by simp; omega) (L.out _) (B0.out _ _).2 hg2)
  clear hown2 hg2 L B0 Q1
  go_wp2
  exact Q2.out

set_option maxRecDepth 100000 in
set_option maxHeartbeats 2000000 in
theorem clone_any (a : Option Addr) (n cap : Nat) (bs : List UInt8) (w : World) (hn : n ≤ 1000) (hB : Byt w a n cap bs) :
    Calls Try.prog 36 #[.slice a n cap] w fun e w' => ∃ a' cap', e = .returned (.slice a' n cap') ∧ Byt w' a' n cap' bs ∧ (∀ ad, a' = some ad → w.heap.size ≤ ad.block) ∧ Below w.heap.size w w' := by
  cases a with
  | none =>
    obtain ⟨h1, h2, h3, h4⟩ := hB
    obtain rfl : cap = 0 := h4 rfl
    obtain rfl : n = 0 := by omega
    have q24 : ∀ (w : World) (a : Option Addr) (n c n' c' : Nat), (binOp .eql 24 (.slice a n c) (.slice none n' c')).run Try.prog w = .ok (.bool a.isNone) w := fun w a n c n' c' => Lib.run_eql_slice_nil w _ _ a n c n' c' Try.underlying24
    go_enter Try.func36, Try.ntmps36
    go_wp2
    go_ret
    exact ⟨_, _, rfl, ⟨h1, h2, h3, fun _ => rfl⟩, (fun _ e => by cases e), Below.refl _ _⟩
  | some ad =>
    obtain ⟨i0, hi, hz0, hz1, hz2⟩ := info_parts info5
    have I : Aside (Try.prog.info? 5 = some i0 ∧ i0.zero = some (.int .u8 0) ∧ i0.size = 1 ∧ i0.bytes = 1) := ⟨hi, hz0, hz1, hz2⟩
    clear hi hz0 hz1 hz2
    have O : Aside ((w.alloc (.cells #[] 5)).ownsRow w.heap.size 5 1 (.slice (some ⟨w.heap.size, 0, none⟩) 0 0) 0 []) := World.ownsRow_lit (base := w.heap.size) (e := 5) (size := 1) w #[] 0 (by simp) (by decide) rfl
    have B0 : Aside (Byt (w.alloc (.cells #[] 5)) (some ad) n cap bs ∧ Below w.heap.size w (w.alloc (.cells #[] 5))) :=
      have b := (Below.refl _ w).alloc (Nat.le_refl _) (.cells #[] 5)
      ⟨hB.later b, b⟩
    clear hB
    have q24 : ∀ (w : World) (a : Option Addr) (n c n' c' : Nat), (binOp .eql 24 (.slice a n c) (.slice none n' c')).run Try.prog w = .ok (.bool a.isNone) w := fun w a n c n' c' => Lib.run_eql_slice_nil w _ _ a n c n' c' Try.underlying24
    go_enter Try.func36, Try.ntmps36
    go_wp2_with (at_builtin; refine wpList_append_byt _ rfl _ _ 24 rfl w.heap.size 5 i0 (.int .u8 0) 1 1 Try.underlying24 I.out.1 I.out.2.1 I.out.2.2.1 I.out.2.2.2 rfl rfl rfl _ _ _ rfl O.out _ _ _ _ rfl B0.out.1 ?c1 ?c2 ?_)
    case c1 => omega
    case c2 => simp
    intro v2 w2 hown2 hg2
    have B2 : Aside (Below w.heap.size w w2) := grown_below0 (by simp) O.out B0.out.2 hg2
    have hfr : ∀ ad, v2.ownBlock = some ad → w.heap.size ≤ ad := fun ad h => (hown2.lt ad h).1
    obtain ⟨a', cap', rfl, hb', ho'⟩ := owns_bytes0 hown2
    have R2 : Aside (Byt w2 a' n cap' bs ∧ ∀ ad, a' = some ad → w.heap.size ≤ ad.block) := ⟨hb', fun ad e => hfr ad.block (ho' ad e)⟩
    clear hown2 hg2 O B0 hb' hfr ho'
    go_wp2
    go_ret
    exact ⟨_, _, rfl, R2.out.1, R2.out.2, B2.out⟩

end Go.Proofs.Ytimeggbjmcnnoaa
