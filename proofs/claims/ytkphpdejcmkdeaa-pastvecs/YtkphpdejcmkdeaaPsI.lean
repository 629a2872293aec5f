/- What Encode gives, of any body. -/
import Derived.Test.YtkphpdejcmkdeaaPsH
import Derived.Test.YtkphpdejcmkdeaaOwns
import Derived.Test.YtkphpdejcmkdeaaOwn2
import Derived.Test.YtkphpdejcmkdeaaRdC
set_option linter.unusedVariables false
namespace Go.Proofs.Ytkphpdejcmkdeaa
open Go.RowKit
namespace Ps

/-- A body's bytes, or none; and the error. -/
def encS (b : Bd) : ByteArray := if may b = true then ⟨(bytes b).toArray⟩ else ⟨#[]⟩
def encK (b : Bd) : Nat := if may b = true then 0 else 2
theorem cells_num {n : Nat} (h : n < 18446744073709551616) : cellsP (num n) = [.int .i64 1, .int .u64 (n : Int), .string ⟨#[]⟩, .float .f64 0] := by
  unfold cellsP num
  rw [show (UInt64.ofNat n).toNat = n from Pk.u64_to h]; rfl
theorem flat_pre {b : Bd} {k : Nat} (h : b.past k < 18446744073709551616) : flatP (pre b k) ++ [.int .i64 1, .int .u64 ((b.past k : Nat) : Int), .string ⟨#[]⟩, .float .f64 0] = flatP (pre b (k + 1)) := by
  rw [pre_succ, flatP_snoc, cells_num h]
theorem flat_flds (b : Bd) : flatP (pre b 16) ++ [.int .i64 2, .int .u64 0, .string b.text, .float .f64 0] = flatP (flds b) := by
  unfold flds; rw [flatP_snoc]; rfl
theorem flat_one {b : Bd} (h : b.kind.toNat < 18446744073709551616) : flatP (pre b 0) = [.int .i64 1, .int .u64 (b.kind.toNat : Int), .string ⟨#[]⟩, .float .f64 0] := by
  have : pre b 0 = [] ++ [num b.kind.toNat] := rfl
  rw [this, flatP_snoc, cells_num h]; rfl

set_option maxHeartbeats 4000000 in
set_option maxRecDepth 100000 in
theorem encode_bd (b : Bd) (w : World) (hv : Small b) :
    Calls Try.prog 14 #[.agg (bdA b)] w fun e w' => e = .returned (.tuple #[.string (encS b), .int .i64 (encK b : Nat)]) ∧ Below w.heap.size w w' := by
  have C : Aside (∀ W, Calls Try.prog 20 #[.agg (bdA b)] W fun e w' => e = .returned (.bool (may b)) ∧ Below W.heap.size W w') := fun W => mayBe_any b W
  have X : Aside (B18 (w.alloc (.cells (bdA b) 35)) w.heap.size 35 b) := B18.new w 35 b
  unfold encS encK
  rcases hm : may b with _ | _
  · rw [hm] at C
    simp only [Bool.false_eq_true, if_false]
    go_enter Try.func14, Try.ntmps14
    go_wp2_with (first
      | (with_reducible refine wpList_bd35 X.out rfl _ rfl rfl ?_)
      | (go_at_call 20; refine (C.out _).mono ?_; rintro e w1 ⟨rfl, hb1⟩; have B1 : Aside (Below w.heap.size w w1) := step_below ((Below.refl _ w).alloc (Nat.le_refl _) _) hb1; clear hb1))
    go_ret2
    exact ⟨rfl, B1.out⟩
  · have EB := enc_ok hm
    obtain ⟨m1, m2, m3, m4⟩ := may_iff.1 hm
    rw [hm] at C
    simp only [if_true]
    obtain ⟨kn, hkn⟩ : ∃ n : Nat, b.kind = (n : Int) := ⟨b.kind.toNat, by omega⟩
    have hkn3 : kn ≤ 3 := by omega
    have F0 : Aside ([.int .i64 1, .int .u64 (kn : Int), .string ⟨#[]⟩, .float .f64 0] = flatP (pre b 0)) := by
      have := flat_one (b := b) (by omega)
      rw [hkn, Int.toNat_natCast] at this; exact this.symm
    have F1 : Aside (∀ k, k < 16 → flatP (pre b k) ++ [.int .i64 1, .int .u64 ((b.past k : Nat) : Int), .string ⟨#[]⟩, .float .f64 0] = flatP (pre b (k + 1))) := fun k hk => flat_pre (by have := hv k hk; omega)
    have F2 : Aside (flatP (pre b 16) ++ [.int .i64 2, .int .u64 0, .string b.text, .float .f64 0] = flatP (flds b)) := flat_flds b
    have CN : Aside (∀ (n : Nat) W, Calls Try.prog 21 #[.int .u64 (n : Int)] W fun e w' => e = .returned (.agg #[.int .i64 1, .int .u64 (n : Int), .string ⟨#[]⟩, .float .f64 0]) ∧ Below W.heap.size W w') := fun n W => number_fld n W
    have CE : Aside (∀ a cap W, AtP W a (flds b) → Calls Try.prog 22 #[.slice a 18 cap] W fun e w' => ∃ v, e = .returned (.tuple #[v, .int .i64 0]) ∧ w'.ownsRow W.heap.size 5 1 v (bytes b).length (bcs (bytes b)) ∧ Below W.heap.size W w') := fun a cap W h => by
      have h := encode_any a cap 18 (flds b) W (flds_len b) h (by omega)
      unfold EncPost at h
      rw [EB, show Pk.encR (flds b) = bytes b by unfold Pk.encR; rw [if_pos EB]; rfl] at h
      exact h
    obtain ⟨V, hV⟩ : ∃ V, V = w.alloc (.cells (bdA b) 35) := ⟨_, rfl⟩
    have XV : Aside (B18 V w.heap.size 35 b ∧ Below w.heap.size w V ∧ V.heap.size = w.heap.size + 1) := by
      rw [hV]; exact ⟨B18.new w 35 b, (Below.refl _ w).alloc (Nat.le_refl _) _, by simp⟩
    have hwk : IntKind.u64.wrap (kn : Int) = (kn : Int) := by rw [IntKind.wrap_u64]; omega
    obtain ⟨i0, hi, hz0, hz1, hz2⟩ := info_parts info52
    have I : Aside (Try.prog.info? 51 = some i0 ∧ i0.zero = some (.agg #[.int .i64 0, .int .u64 0, .string ⟨#[]⟩, .float .f64 0]) ∧ i0.size = 4 ∧ i0.bytes = 40) := ⟨hi, hz0, hz1, hz2⟩
    clear hi hz0 hz1 hz2 m1 m2 m3 m4 hm EB
    go_enter Try.func14, Try.ntmps14
    go_wp2_with (first
      | (with_reducible refine wpList_bd35 X.out rfl _ rfl rfl ?_)
      | (go_at_call 20; refine (C.out _).mono ?_; rintro e w1 ⟨rfl, hb1⟩; rw [← hV] at hb1; have B1 : Aside (Below V.heap.size V w1) := hb1; have c0 := (XV.out.1.later hb1).kind; rw [hkn] at c0; clear hb1))
    clear hV
    refine (CN.out kn w1).mono ?_
    rintro e w2 ⟨rfl, hb2⟩
    have B2 : Aside (Below V.heap.size V w2) := step_below B1.out hb2
    have X2 : Aside (B18 (w2.alloc (.cells #[.int .i64 1, .int .u64 (kn : Int), .string ⟨#[]⟩, .float .f64 0] 51)) w.heap.size 35 b) := (XV.out.1.later B2.out).alloc _
    have hO := World.ownsRow_lit (base := V.heap.size) (e := 51) (size := 4) w2 #[.int .i64 1, .int .u64 (kn : Int), .string ⟨#[]⟩, .float .f64 0] 1 B2.out.size (by decide) rfl
    have O2 : Aside ((w2.alloc (.cells #[.int .i64 1, .int .u64 (kn : Int), .string ⟨#[]⟩, .float .f64 0] 51)).ownsRow V.heap.size 51 4 (.slice (some ⟨w2.heap.size, 0, none⟩) 1 1) 1 (flatP (pre b 0))) := by rw [← F0.out]; exact hO
    have B3 : Aside (Below V.heap.size V (w2.alloc (.cells #[.int .i64 1, .int .u64 (kn : Int), .string ⟨#[]⟩, .float .f64 0] 51))) := B2.out.alloc B2.out.size _
    clear hO hb2 c0 B1
    go_wp2_with (with_reducible refine wpList_sub X2.out rfl _ rfl rfl ?_)
    clear X2
    go_loopw [4, 6, 19] (fun v _ i wr => ∃ k : Nat, k ≤ 16 ∧ i = .int .i64 k ∧ wr.ownsRow V.heap.size 51 4 v (k + 1) (flatP (pre b k)) ∧ Below V.heap.size V wr) (fun _ _ i _ => 16 - (intOf i).toNat)
    case atStart => exact ⟨0, by omega, rfl, O2.out, B3.out⟩
    case round =>
      obtain ⟨k, hk, rfl, hown, hb⟩ := hrel
      have O : Aside (wr.ownsRow V.heap.size 51 4 u4 (k + 1) (flatP (pre b k))) := hown
      clear hown B2 O2 B3
      by_cases hlt : k < 16
      · have ix := index_vec b.past hlt
        have hq := hv k hlt
        have F1k := F1.out k hlt
        obtain ⟨q, hq0⟩ : ∃ q, q = b.past k := ⟨_, rfl⟩
        rw [← hq0] at ix hq F1k
        have FK : Aside (_ = _) := F1k
        have hwq : IntKind.u64.wrap (q : Int) = (q : Int) := by rw [IntKind.wrap_u64]; omega
        have BB : Aside (Below V.heap.size V wr) := hb
        clear hb hq0 F1k
        go_wp2_with fail
        refine (CN.out q wr).mono ?_
        rintro e w3 ⟨rfl, hb3⟩
        have O3 : w3.ownsRow V.heap.size 51 4 u4 (k + 1) (flatP (pre b k)) := owns_later hb3 O.out
        have B4 : Aside (Below V.heap.size V w3) := step_below BB.out hb3
        have hs3 : V.heap.size ≤ w3.heap.size := B4.out.size
        clear hb3 O
        go_wp2_with (at_builtin; refine wpList_append_own _ rfl _ _ 53 rfl V.heap.size 51 i0 (.agg #[.int .i64 0, .int .u64 0, .string ⟨#[]⟩, .float .f64 0]) 4 40 Try.underlying53 I.out.1 I.out.2.1 I.out.2.2.1 I.out.2.2.2 rfl (by decide) _ _ _ rfl (O3.alloc _) ⟨w3.heap.size, 0, none⟩ 1 1 [.int .i64 1, .int .u64 (q : Int), .string ⟨#[]⟩, .float .f64 0] rfl rfl ?c1 ?c2 ?c3 ?c4 ?c5 ?_)
        case c1 => exact cell_four_new _ _ _ _ _ _
        case c2 => intro u hu; simp at hu; rcases hu with rfl | rfl | rfl | rfl <;> rfl
        case c3 => unfold maxLen; omega
        case c4 => omega
        case c5 => simp; omega
        intro v3 w4 hown4 hgrow4 _
        rw [FK.out] at hown4
        have B5 : Aside (Below V.heap.size V w4) := (B4.out.alloc hs3 _).grown hgrow4 (by simp; omega) (fun j hj => (O3.lt j hj).1)
        clear hgrow4 O3
        go_wp2
        go_roundw
        case rel => exact ⟨k + 1, by omega, by go_num, hown4, B5.out⟩
        case measure => simp [intOf]; omega
      · obtain rfl : k = 16 := by omega
        have X3 := XV.out.1.later hb
        have c1 := X3.text
        have hs3 : V.heap.size ≤ wr.heap.size := hb.size
        have BB : Aside (Below V.heap.size V wr) := hb
        generalize b.text = T at c1 F2
        clear hb X3 F1
        go_wp2_with (at_builtin; refine wpList_append_own _ rfl _ _ 53 rfl V.heap.size 51 i0 (.agg #[.int .i64 0, .int .u64 0, .string ⟨#[]⟩, .float .f64 0]) 4 40 Try.underlying53 I.out.1 I.out.2.1 I.out.2.2.1 I.out.2.2.2 rfl (by decide) _ _ _ rfl (O.out.alloc _) ⟨wr.heap.size, 0, none⟩ 1 1 [.int .i64 2, .int .u64 0, .string T, .float .f64 0] rfl rfl ?c1 ?c2 ?c3 ?c4 ?c5 ?_)
        case c1 => exact cell_four_new _ _ _ _ _ _
        case c2 => intro u hu; simp at hu; rcases hu with rfl | rfl | rfl | rfl <;> rfl
        case c3 => unfold maxLen; omega
        case c4 => omega
        case c5 => simp; omega
        intro v3 w4 hown4 hgrow4 _
        rw [F2.out] at hown4
        have B5 : Aside (Below V.heap.size V w4) := (BB.out.alloc hs3 _).grown hgrow4 (by simp; omega) (fun j hj => (O.out.lt j hj).1)
        obtain ⟨a4, cap4, rfl, hl4, hat4⟩ := owns_fields hown4
        clear hgrow4 hown4 O
        go_wp2_with fail
        refine (CE.out a4 cap4 w4 hat4).mono ?_
        rintro e w5 ⟨v5, rfl, hown5, hb5⟩
        have B6 : Aside (Below w.heap.size w w5) := XV.out.2.1.trans ((step_below B5.out hb5).mono (by have := XV.out.2.2; omega))
        obtain ⟨a5, cap5, rfl, -, -, hat5⟩ := owns_bytes hown5
        have cv := conv_bytes w5 a5 (bytes b) cap5 hat5
        generalize (bytes b).length = bn at cv
        clear hown5 hat5 hb5
        go_wp2
        go_ret2
        exact ⟨rfl, B6.out⟩
end Ps
end Go.Proofs.Ytkphpdejcmkdeaa
