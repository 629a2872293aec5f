/- A letter's tag: what the program gives, and what the document's own gives. -/
import Derived.Test.YtimeggbjmcnnoaaLnF
namespace Go.Proofs.Ytimeggbjmcnnoaa
open Go.RowKit

theorem built_bldM {bs : List UInt8} (h : bs.length ≤ 1100) : bldM ((Tm.cut bs).map Tm.const) = Tm.built bs :=
  bldM_bld _ (Tm.cut_ne bs) (Tm.cut_le bs) (by rw [Tm.cut_len]; omega)
theorem owns_first {w : World} {B n e : Nat} {v : Value} {xs : List Value} (h : w.ownsRow B e 1 v n xs) (hn : 0 < n) : ∃ b cap, v = .slice (some ⟨b, 0, none⟩) n cap ∧ b < w.heap.size := by
  rcases h.2 with ⟨_, h0⟩ | ⟨g, cap, cur, rfl, _, hh, _⟩
  · omega
  · exact ⟨g, cap, rfl, (Array.getElem?_eq_some_iff.1 hh).1⟩

def TagPost (key : List UInt8) (f t s : Nat) (body : List UInt8) (w : World) (e : Ending) (w' : World) : Prop :=
  e = .returned (.tuple #[str (Tm.tag key f t s body), .int .i64 (Tm.tagE key f t s body : Nat)]) ∧ Below w.heap.size w w'
theorem tag_long {key body : List UInt8} {f t s : Nat} {w w' : World} (h : 1000 < body.length) (hb : Below w.heap.size w w') : TagPost key f t s body w (.returned (.tuple #[.string ⟨#[]⟩, .int .i64 3])) w' := by
  have e : Tm.tagE key f t s body = 3 := by unfold Tm.tagE; rw [if_pos h]
  refine ⟨?_, hb⟩
  unfold Tm.tag
  rw [e, if_neg (by omega)]
  rfl
theorem tag_short {key body : List UInt8} {f t s : Nat} {w w' : World} (h : ¬ 1000 < body.length) (hb : Below w.heap.size w w') : TagPost key f t s body w (.returned (.tuple #[str (Tm.make 109 [key, Tm.built (Tm.ltext f t s body)]), .int .i64 (Tm.makeE 109 [key, Tm.built (Tm.ltext f t s body)] : Nat)])) w' := by
  have e : Tm.tagE key f t s body = Tm.makeE 109 [key, Tm.built (Tm.ltext f t s body)] := by unfold Tm.tagE; rw [if_neg h]
  refine ⟨?_, hb⟩
  unfold Tm.tag
  rw [e]
  by_cases g : Tm.makeE 109 [key, Tm.built (Tm.ltext f t s body)] = 0
  · rw [if_pos g]
  · rw [if_neg g]; unfold Tm.make; rw [if_neg g]
/-- A letter's text, and the term that is built of it: the program's way. -/
theorem text_own {f t s : Nat} {body : List UInt8} {w w1 : World} {v : Value} (h : w1.ownsRow w.heap.size 5 1 v (6 + body.length) (bcs (Tm.ltext f t s body))) :
    ∃ b cap, v = .slice (some ⟨b, 0, none⟩) (6 + body.length) cap ∧ Byt w1 (some ⟨b, 0, none⟩) (6 + body.length) cap (Tm.ltext f t s body) := by
  obtain ⟨b, cap, rfl, _⟩ := owns_first h (by omega)
  obtain ⟨a, c, e, hb⟩ := owns_bytes h
  cases e
  exact ⟨b, cap, rfl, hb⟩

set_option maxRecDepth 100000 in
set_option maxHeartbeats 4000000 in
theorem tag_any (key : List UInt8) (f t s : Nat) (a : Option Addr) (n cap : Nat) (g : ByteArray) (body : List UInt8) (w : World) (hf : f < 256) (ht : t < 256) (hs : s < 4294967296) (hB : Byt w a n cap body) :
    Calls Try.prog 15 #[str key, .agg #[.int .u8 (f : Int), .int .u8 (t : Int), .int .u32 (s : Int), .slice a n cap, .string g]] w (TagPost key f t s body w) := by
  have hn := hB.1
  subst hn
  have B0 : Aside (∀ o, Below w.heap.size w (w.alloc o)) := fun o => (Below.refl _ w).alloc (Nat.le_refl _) o
  by_cases hl : 1000 < body.length
  · have Q1 : Aside (∀ w', Below w.heap.size w w' → _) := fun w' hb => tag_long (key := key) (f := f) (t := t) (s := s) (w' := w') hl hb
    have t1 : (1000 : Int) < (body.length : Int) := by omega
    generalize TagPost key f t s body w = Q at *
    unfold str
    generalize (⟨key.toArray⟩ : ByteArray) = k1 at *
    generalize body.length = n at *
    clear hB hf ht hs hl
    go_enter Try.func15, Try.ntmps15
    go_wp2
    exact Q1.out _ (B0.out _)
  have Q1 : Aside (∀ w', Below w.heap.size w w' → _) := fun w' hb => tag_short (key := key) (f := f) (t := t) (s := s) (w' := w') hl hb
  have t1 : ¬ (1000 : Int) < (body.length : Int) := by omega
  have TX : Aside (∀ o, Calls Try.prog 33 #[.agg #[.int .u8 (f : Int), .int .u8 (t : Int), .int .u32 (s : Int), .slice a body.length cap, .string g]] (w.alloc o) (TextPost f t s body (w.alloc o))) := fun o =>
    text_any f t s a _ cap g body _ hf ht hs (by omega) (hB.later (B0.out o))
  have MM : Aside (∀ w1, Below w.heap.size w w1 → _) := fun w1 hb => make2 109 key (Tm.built (Tm.ltext f t s body)) w w1 hb
  rw [show ((109 : UInt8).toNat : Int) = 109 from rfl] at MM
  generalize TagPost key f t s body w = Q at *
  unfold str at *
  generalize (⟨key.toArray⟩ : ByteArray) = k0 at *
  generalize (⟨(Tm.make 109 [key, Tm.built (Tm.ltext f t s body)]).toArray⟩ : ByteArray) = z at *
  generalize Tm.makeE 109 [key, Tm.built (Tm.ltext f t s body)] = ec at *
  clear hB hf ht hs
  go_enter Try.func15, Try.ntmps15
  go_wp2_with fail
  refine (TX.out _).mono ?_
  rintro e w1 ⟨v1, rfl, o1, b1⟩
  obtain ⟨g1, k1, rfl, by1⟩ := text_own o1
  have B1 : Aside (Below w.heap.size w w1) := below_step (B0.out _) b1
  have C2 : Aside (Calls _ _ _ _ _) := pieces_any g1 _ k1 _ w1 (by omega) (by omega) by1
  have HM := Tm.cut_len (Tm.ltext f t s body)
  rw [Tm.ltext_len] at HM
  clear o1 b1 by1 TX
  go_wp2_with fail
  refine C2.out.mono ?_
  rintro e w2 ⟨v2, rfl, o2, b2⟩
  obtain ⟨g2, k2, rfl, hg2⟩ := owns_first o2 (by omega)
  obtain ⟨a2, c2, e2, _, _, at2⟩ := owns_strs o2
  cases e2
  have B2 : Aside (Below w.heap.size w w2) := below_step B1.out b2
  have C3 : Aside (Calls _ _ _ _ _) := paired_any g2 _ k2 _ w2 (by rw [List.length_map]) (by omega) (by omega) at2 hg2
  rw [built_bldM (by rw [Tm.ltext_len]; omega)] at C3
  generalize (Tm.cut (Tm.ltext f t s body)).length = M at *
  clear o2 b2 at2 C2 B1 HM hg2
  unfold str at C3
  generalize (⟨(Tm.built (Tm.ltext f t s body)).toArray⟩ : ByteArray) = y at *
  go_wp2_with fail
  refine C3.out.mono ?_
  rintro e w3 ⟨rfl, b3⟩
  have MK : Aside (Calls _ _ _ _ _) := MM.out w3 (below_step B2.out b3)
  clear C3 B2 b3 MM
  go_wp2_with fail
  refine MK.out.mono ?_
  rintro e w4 ⟨rfl, b4⟩
  have Q2 : Aside _ := Q1.out w4 b4
  clear MK Q1 b4
  go_wp2
  exact Q2.out

set_option maxRecDepth 100000 in
set_option maxHeartbeats 4000000 in
theorem rtag_any (key : List UInt8) (f t s : Nat) (a : Option Addr) (n cap : Nat) (g : ByteArray) (body : List UInt8) (w : World) (hf : f < 256) (ht : t < 256) (hs : s < 4294967296) (hB : Byt w a n cap body) :
    Calls Try.prog 16 #[str key, .agg #[.int .u8 (f : Int), .int .u8 (t : Int), .int .u32 (s : Int), .slice a n cap, .string g]] w (TagPost key f t s body w) := by
  have hn := hB.1
  subst hn
  have B0 : Aside (∀ o, Below w.heap.size w (w.alloc o)) := fun o => (Below.refl _ w).alloc (Nat.le_refl _) o
  by_cases hl : 1000 < body.length
  · have Q1 : Aside (∀ w', Below w.heap.size w w' → _) := fun w' hb => tag_long (key := key) (f := f) (t := t) (s := s) (w' := w') hl hb
    have t1 : (1000 : Int) < (body.length : Int) := by omega
    generalize TagPost key f t s body w = Q at *
    unfold str
    generalize (⟨key.toArray⟩ : ByteArray) = k1 at *
    generalize body.length = n at *
    clear hB hf ht hs hl
    go_enter Try.func16, Try.ntmps16
    go_wp2
    exact Q1.out _ (B0.out _)
  have Q1 : Aside (∀ w', Below w.heap.size w w' → _) := fun w' hb => tag_short (key := key) (f := f) (t := t) (s := s) (w' := w') hl hb
  have t1 : ¬ (1000 : Int) < (body.length : Int) := by omega
  have TX : Aside (∀ o, Calls Try.prog 35 #[.agg #[.int .u8 (f : Int), .int .u8 (t : Int), .int .u32 (s : Int), .slice a body.length cap, .string g]] (w.alloc o) (TextPost f t s body (w.alloc o))) := fun o =>
    rtext_any f t s a _ cap g body _ hf ht hs (by omega) (hB.later (B0.out o))
  have MM : Aside (∀ w1, Below w.heap.size w w1 → _) := fun w1 hb => rmake2 109 key (Tm.built (Tm.ltext f t s body)) w w1 hb
  rw [show ((109 : UInt8).toNat : Int) = 109 from rfl] at MM
  generalize TagPost key f t s body w = Q at *
  unfold str at *
  generalize (⟨key.toArray⟩ : ByteArray) = k0 at *
  generalize (⟨(Tm.make 109 [key, Tm.built (Tm.ltext f t s body)]).toArray⟩ : ByteArray) = z at *
  generalize Tm.makeE 109 [key, Tm.built (Tm.ltext f t s body)] = ec at *
  clear hB hf ht hs
  go_enter Try.func16, Try.ntmps16
  go_wp2_with fail
  refine (TX.out _).mono ?_
  rintro e w1 ⟨v1, rfl, o1, b1⟩
  obtain ⟨g1, k1, rfl, by1⟩ := text_own o1
  have B1 : Aside (Below w.heap.size w w1) := below_step (B0.out _) b1
  have C3 : Aside (Calls _ _ _ _ _) := rbuilt_any g1 _ k1 _ w1 (by omega) (by omega) by1
  rw [built_bldM (by rw [Tm.ltext_len]; omega)] at C3
  clear o1 b1 by1 TX
  unfold str at C3
  generalize (⟨(Tm.built (Tm.ltext f t s body)).toArray⟩ : ByteArray) = y at *
  go_wp2_with fail
  refine C3.out.mono ?_
  rintro e w3 ⟨rfl, b3⟩
  have MK : Aside (Calls _ _ _ _ _) := MM.out w3 (below_step B1.out b3)
  clear C3 B1 b3 MM
  go_wp2_with fail
  refine MK.out.mono ?_
  rintro e w4 ⟨rfl, b4⟩
  have Q2 : Aside _ := Q1.out w4 b4
  clear MK Q1 b4
  go_wp2
  exact Q2.out

end Go.Proofs.Ytimeggbjmcnnoaa
