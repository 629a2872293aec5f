/- What Send gives: the program's, and the document's own. -/
import Derived.Test.YtimeggbjmcnnoaaLnI
namespace Go.Proofs.Ytimeggbjmcnnoaa
open Go.RowKit

namespace Tm
/-- What Send tells; the end's next number; the letter's parts. -/
def sendE (key : List UInt8) (nx f t : Nat) (body : List UInt8) : Nat := if two f t = false then 2 else if nx = 4294967295 then 7 else tagE key f t (nx + 1) body
def sN (key : List UInt8) (nx f t : Nat) (body : List UInt8) : Nat := if sendE key nx f t body = 0 then nx + 1 else nx
def sF (key : List UInt8) (nx f t : Nat) (body : List UInt8) : Nat := if sendE key nx f t body = 0 then f else 0
def sT (key : List UInt8) (nx f t : Nat) (body : List UInt8) : Nat := if sendE key nx f t body = 0 then t else 0
def sS (key : List UInt8) (nx f t : Nat) (body : List UInt8) : Nat := if sendE key nx f t body = 0 then nx + 1 else 0
def sB (key : List UInt8) (nx f t : Nat) (body : List UInt8) : List UInt8 := if sendE key nx f t body = 0 then body else []
def sG (key : List UInt8) (nx f t : Nat) (body : List UInt8) : List UInt8 := if sendE key nx f t body = 0 then tag key f t (nx + 1) body else []
end Tm
def SendPost (key : List UInt8) (nx tp cm f t : Nat) (body : List UInt8) (w : World) (e : Ending) (w' : World) : Prop :=
  ∃ a' n' cap', e = .returned (.tuple #[.agg #[str key, .int .u32 (Tm.sN key nx f t body : Nat), .int .u32 (tp : Int), .int .u64 (cm : Int)], .agg #[.int .u8 (Tm.sF key nx f t body : Nat), .int .u8 (Tm.sT key nx f t body : Nat), .int .u32 (Tm.sS key nx f t body : Nat), .slice a' n' cap', str (Tm.sG key nx f t body)], .int .i64 (Tm.sendE key nx f t body : Nat)]) ∧
    Byt w' a' n' cap' (Tm.sB key nx f t body) ∧ Below w.heap.size w w'
theorem sendPost_err {key body : List UInt8} {nx tp cm f t c : Nat} {w w' : World} (h : Tm.sendE key nx f t body = c) (hc : c ≠ 0) (hb : Below w.heap.size w w') :
    SendPost key nx tp cm f t body w (.returned (.tuple #[.agg #[str key, .int .u32 (nx : Int), .int .u32 (tp : Int), .int .u64 (cm : Int)], .agg #[.int .u8 0, .int .u8 0, .int .u32 0, .slice none 0 0, .string ⟨#[]⟩], .int .i64 (c : Nat)])) w' := by
  refine ⟨none, 0, 0, ?_, ?_, hb⟩
  · unfold Tm.sN Tm.sF Tm.sT Tm.sS Tm.sG
    rw [h, if_neg hc, if_neg hc, if_neg hc, if_neg hc, if_neg hc]
    rfl
  · unfold Tm.sB
    rw [h, if_neg hc]
    exact ⟨rfl, Nat.le_refl _, .inl rfl, fun _ => rfl⟩
theorem sendPost_ok {key body : List UInt8} {nx tp cm f t n cap : Nat} {a : Option Addr} {w w' : World} (h : Tm.sendE key nx f t body = 0) (hB : Byt w' a n cap body) (hb : Below w.heap.size w w') :
    SendPost key nx tp cm f t body w (.returned (.tuple #[.agg #[str key, .int .u32 ((nx + 1 : Nat) : Int), .int .u32 (tp : Int), .int .u64 (cm : Int)], .agg #[.int .u8 (f : Int), .int .u8 (t : Int), .int .u32 ((nx + 1 : Nat) : Int), .slice a n cap, str (Tm.tag key f t (nx + 1) body)], .int .i64 0])) w' := by
  refine ⟨a, n, cap, ?_, ?_, hb⟩
  · unfold Tm.sN Tm.sF Tm.sT Tm.sS Tm.sG
    rw [h, if_pos rfl, if_pos rfl, if_pos rfl, if_pos rfl, if_pos rfl]
    rfl
  · unfold Tm.sB
    rw [h, if_pos rfl]
    exact hB
theorem L5.set {w : World} {b : Nat} {t : TypeId} {v0 v1 v2 v3 v4 : Value} (h : L5 w b t v0 v1 v2 v3 v4) (u0 u1 u2 u3 u4 : Value) :
    L5 (((((w.setCell ⟨b, 0, none⟩ u0).setCell ⟨b, 1, none⟩ u1).setCell ⟨b, 2, none⟩ u2).setCell ⟨b, 3, none⟩ u3).setCell ⟨b, 4, none⟩ u4) b t u0 u1 u2 u3 u4 :=
  row_set (row_set (row_set (row_set (row_set h _) _) _) _) _
theorem E4.far5 {w : World} {b c : Nat} {t : TypeId} {v0 v1 v2 v3 : Value} (h : E4 w b t v0 v1 v2 v3) (hne : b ≠ c) (u0 u1 u2 u3 u4 : Value) :
    E4 (((((w.setCell ⟨c, 0, none⟩ u0).setCell ⟨c, 1, none⟩ u1).setCell ⟨c, 2, none⟩ u2).setCell ⟨c, 3, none⟩ u3).setCell ⟨c, 4, none⟩ u4) b t v0 v1 v2 v3 :=
  (row_far hne _).trans ((row_far hne _).trans ((row_far hne _).trans ((row_far hne _).trans ((row_far hne _).trans h))))
theorem L5.far4 {w : World} {b c : Nat} {t : TypeId} {v0 v1 v2 v3 v4 : Value} (h : L5 w b t v0 v1 v2 v3 v4) (hne : b ≠ c) (u0 u1 u2 u3 : Value) :
    L5 ((((w.setCell ⟨c, 0, none⟩ u0).setCell ⟨c, 1, none⟩ u1).setCell ⟨c, 2, none⟩ u2).setCell ⟨c, 3, none⟩ u3) b t v0 v1 v2 v3 v4 :=
  (row_far hne _).trans ((row_far hne _).trans ((row_far hne _).trans ((row_far hne _).trans h)))
theorem byt_far {w : World} {a : Option Addr} {n cap b : Nat} {bs : List UInt8} (h : Byt w a n cap bs) (hk : ∀ ad, a = some ad → ad.block ≠ b) (j : Nat) (v : Value) : Byt (w.setCell ⟨b, j, none⟩ v) a n cap bs :=
  byt_kept h (fun ad e => row_far (hk ad e) _)
theorem byt_drew {w : World} {a : Option Addr} {n cap : Nat} {bs : List UInt8} (h : Byt w a n cap bs) : Byt w.drew a n cap bs := byt_kept h (fun _ _ => rfl)
theorem below_drew1 {B : Nat} {w w' : World} (h : Below B w w') : Below B w w'.drew := ⟨h.os, h.tape, h.output, h.size, h.block⟩
def Sat (te tx : TypeId) (w : World) (k tg : ByteArray) (M : Int) (tp cm f t : Nat) (a : Option Addr) (n cap : Nat) (body : List UInt8) (V : World) : Prop :=
  E4 V w.heap.size te (.string k) (.int .u32 M) (.int .u32 (tp : Int)) (.int .u64 (cm : Int)) ∧ E4 V (w.heap.size + 1) te (.string ⟨#[]⟩) (.int .u32 0) (.int .u32 0) (.int .u64 0) ∧ L5 V (w.heap.size + 2) tx (.int .u8 0) (.int .u8 0) (.int .u32 0) (.slice none 0 0) (.string ⟨#[]⟩) ∧ L5 V (w.heap.size + 3) tx (.int .u8 (f : Int)) (.int .u8 (t : Int)) (.int .u32 M) (.slice a n cap) (.string tg) ∧ Byt V a n cap body ∧ Below w.heap.size w V
theorem sat_prog {te tx : TypeId} {w w2 : World} {k tg : ByteArray} {NX M : Int} {tp cm f t n cap cap2 : Nat} {a a2 : Option Addr} {body : List UInt8} {v4 : Value} (E1 : E4 w2 w.heap.size te (.string k) (.int .u32 NX) (.int .u32 (tp : Int)) (.int .u64 (cm : Int))) (R1 : E4 w2 (w.heap.size + 1) te (.string ⟨#[]⟩) (.int .u32 0) (.int .u32 0) (.int .u64 0)) (L1 : L5 w2 (w.heap.size + 2) tx (.int .u8 0) (.int .u8 0) (.int .u32 0) (.slice none 0 0) (.string ⟨#[]⟩))
    (X1 : L5 w2 (w.heap.size + 3) tx (.int .u8 (f : Int)) (.int .u8 (t : Int)) (.int .u32 M) (.slice a n cap) v4) (hy : Byt w2 a2 n cap2 body) (FR : ∀ ad, a2 = some ad → w.heap.size + 4 ≤ ad.block) (B2 : Below w.heap.size w w2) :
    Sat te tx w k tg M tp cm f t a2 n cap2 body (((w2.setCell ⟨w.heap.size + 3, 3, none⟩ (.slice a2 n cap2)).setCell ⟨w.heap.size + 3, 4, none⟩ (.string tg)).setCell ⟨w.heap.size, 1, none⟩ (.int .u32 M)) := by
  refine ⟨row_set ((row_far (by omega) _).trans ((row_far (by omega) _).trans E1)) _, (row_far (by omega) _).trans ((row_far (by omega) _).trans ((row_far (by omega) _).trans R1)), (row_far (by omega) _).trans ((row_far (by omega) _).trans ((row_far (by omega) _).trans L1)), (row_far (by omega) _).trans (row_set (row_set X1 _) _), ?_, ((B2.setCell (p := ⟨w.heap.size + 3, 3, none⟩) (by simp) _).setCell (p := ⟨w.heap.size + 3, 4, none⟩) (by simp) _).setCell (p := ⟨w.heap.size, 1, none⟩) (Nat.le_refl _) _⟩
  refine byt_far (byt_far (byt_far hy ?_ _ _) ?_ _ _) ?_ _ _
  all_goals
    intro ad e
    have := FR ad e
    omega
theorem sat_ref {te tx : TypeId} {w w2 : World} {k tg : ByteArray} {NX M : Int} {tp cm f t n cap : Nat} {a : Option Addr} {body : List UInt8} {v4 : Value} (E1 : E4 w2 w.heap.size te (.string k) (.int .u32 NX) (.int .u32 (tp : Int)) (.int .u64 (cm : Int))) (R1 : E4 w2 (w.heap.size + 1) te (.string ⟨#[]⟩) (.int .u32 0) (.int .u32 0) (.int .u64 0)) (L1 : L5 w2 (w.heap.size + 2) tx (.int .u8 0) (.int .u8 0) (.int .u32 0) (.slice none 0 0) (.string ⟨#[]⟩))
    (X1 : L5 w2 (w.heap.size + 3) tx (.int .u8 (f : Int)) (.int .u8 (t : Int)) (.int .u32 M) (.slice a n cap) v4) (hy : Byt w a n cap body) (B2 : Below w.heap.size w w2) :
    Sat te tx w k tg M tp cm f t a n cap body ((w2.setCell ⟨w.heap.size + 3, 4, none⟩ (.string tg)).setCell ⟨w.heap.size, 1, none⟩ (.int .u32 M)) := by
  have B3 := (B2.setCell (p := ⟨w.heap.size + 3, 4, none⟩) (by simp) (.string tg)).setCell (p := ⟨w.heap.size, 1, none⟩) (Nat.le_refl _) (.int .u32 M)
  exact ⟨row_set ((row_far (by omega) _).trans E1) _, (row_far (by omega) _).trans ((row_far (by omega) _).trans R1), (row_far (by omega) _).trans ((row_far (by omega) _).trans L1), (row_far (by omega) _).trans (row_set X1 _), hy.later B3, B3⟩
theorem below_set5 {B b : Nat} {w w' : World} (h : Below B w w') (hb : B ≤ b) (u0 u1 u2 u3 u4 : Value) :
    Below B w (((((w'.setCell ⟨b, 0, none⟩ u0).setCell ⟨b, 1, none⟩ u1).setCell ⟨b, 2, none⟩ u2).setCell ⟨b, 3, none⟩ u3).setCell ⟨b, 4, none⟩ u4) :=
  ((((h.setCell (p := ⟨b, 0, none⟩) hb _).setCell (p := ⟨b, 1, none⟩) hb _).setCell (p := ⟨b, 2, none⟩) hb _).setCell (p := ⟨b, 3, none⟩) hb _).setCell (p := ⟨b, 4, none⟩) hb _

set_option maxRecDepth 100000 in
set_option maxHeartbeats 8000000 in
theorem send_any (key : List UInt8) (nx tp cm f t : Nat) (a : Option Addr) (n cap : Nat) (body : List UInt8) (w : World)
    (hnx : nx < 4294967296) (hf : f < 256) (ht : t < 256) (hB : Byt w a n cap body) :
    Calls Try.prog 17 #[.agg #[str key, .int .u32 (nx : Int), .int .u32 (tp : Int), .int .u64 (cm : Int)], .int .u8 (f : Int), .int .u8 (t : Int), .slice a n cap] w (SendPost key nx tp cm f t body w) := by
  have GE : Aside (∀ c w', Tm.sendE key nx f t body = c → c ≠ 0 → Below w.heap.size w w' → SendPost key nx tp cm f t body w (.returned (.tuple #[.agg #[str key, .int .u32 (nx : Int), .int .u32 (tp : Int), .int .u64 (cm : Int)], .agg #[.int .u8 0, .int .u8 0, .int .u32 0, .slice none 0 0, .string ⟨#[]⟩], .int .i64 (c : Nat)])) w') := fun c w' h1 h2 h3 => sendPost_err h1 h2 h3
  have GO : Aside (∀ w' a' n' cap', Tm.sendE key nx f t body = 0 → Byt w' a' n' cap' body → Below w.heap.size w w' → SendPost key nx tp cm f t body w (.returned (.tuple #[.agg #[str key, .int .u32 ((nx + 1 : Nat) : Int), .int .u32 (tp : Int), .int .u64 (cm : Int)], .agg #[.int .u8 (f : Int), .int .u8 (t : Int), .int .u32 ((nx + 1 : Nat) : Int), .slice a' n' cap', str (Tm.tag key f t (nx + 1) body)], .int .i64 0])) w') := fun w' a' n' cap' h1 h2 h3 => sendPost_ok h1 h2 h3
  have B0 : Aside (∀ o o' o'', Below w.heap.size w (((w.alloc o).alloc o').alloc o'')) := fun o o' o'' => (((Below.refl _ w).alloc (Nat.le_refl _) o).alloc (by simp) o').alloc (by simp; omega) o''
  have B4 : Aside (∀ o o' o'' o3, Below w.heap.size w ((((w.alloc o).alloc o').alloc o'').alloc o3)) := fun o o' o'' o3 => (B0.out o o' o'').alloc (by simp; omega) o3
  have AT : Aside (∀ W, Calls Try.prog 25 #[.int .u8 (f : Int), .int .u8 (t : Int)] W _) := fun W => areTwo_any f t W
  have TG : Aside (nx ≠ 4294967295 → ∀ o o' o'' o3, Calls Try.prog 15 #[str key, .agg #[.int .u8 (f : Int), .int .u8 (t : Int), .int .u32 ((nx + 1 : Nat) : Int), .slice a n cap, .string ⟨#[]⟩]] ((((w.alloc o).alloc o').alloc o'').alloc o3) (TagPost key f t (nx + 1) body ((((w.alloc o).alloc o').alloc o'').alloc o3))) := fun h o o' o'' o3 => tag_any key f t (nx + 1) a n cap ⟨#[]⟩ body _ hf ht (by omega) (hB.later (B4.out o o' o'' o3))
  have EE : Aside (Tm.sendE key nx f t body = if Tm.two f t = false then 2 else if nx = 4294967295 then 7 else Tm.tagE key f t (nx + 1) body) := rfl
  have TZ : Aside (Tm.tagE key f t (nx + 1) body = 0 → n ≤ 1000) := fun h => by rw [← hB.1]; exact (Tm.tagE_zero h).1
  have HB : Aside (Byt w a n cap body) := hB
  generalize SendPost key nx tp cm f t body w = Q at *
  generalize Tm.sendE key nx f t body = ae at *
  unfold TagPost at TG
  generalize Tm.tagE key f t (nx + 1) body = te at *
  generalize Tm.two f t = tw at *
  unfold str at *
  generalize (⟨(Tm.tag key f t (nx + 1) body).toArray⟩ : ByteArray) = tg at *
  generalize (⟨key.toArray⟩ : ByteArray) = k at *
  have HX : Aside (nx < 4294967296) := hnx
  clear hB hf ht hnx
  cases tw
  · have Q1 : Aside (∀ w', Below w.heap.size w w' → _) := fun w' hb => GE.out 2 w' (by rw [EE.out, if_pos rfl]) (by omega) hb
    clear GE GO EE TG TZ HB HX B4
    go_enter Try.func17, Try.ntmps17
    go_wp2_with fail
    refine (AT.out _).mono ?_
    rintro e w1 ⟨rfl, hw⟩
    replace hw := hw.symm; subst hw
    clear AT
    go_wp2
    refine ⟨rfl, _, ?_, Q1.out _ (B0.out _ _ _)⟩
    simp [results, Try.results17, go_sem]
  · by_cases h1 : nx = 4294967295
    · have Q1 : Aside (∀ w', Below w.heap.size w w' → _) := fun w' hb => GE.out 7 w' (by rw [EE.out, if_neg (by simp), if_pos h1]) (by omega) hb
      have t1 : ((nx : Int) == 4294967295) = true := by
        have : (nx : Int) = 4294967295 := by omega
        simpa using this
      clear GE GO EE TG TZ HB HX B4 h1
      generalize (nx : Int) = NX at *
      go_enter Try.func17, Try.ntmps17
      go_wp2_with fail
      refine (AT.out _).mono ?_
      rintro e w1 ⟨rfl, hw⟩
      replace hw := hw.symm; subst hw
      clear AT
      go_wp2
      refine ⟨rfl, _, ?_, Q1.out _ (B0.out _ _ _)⟩
      simp [results, Try.results17, go_sem]
    · have t1 : ((nx : Int) == 4294967295) = false := by
        have : ¬ (nx : Int) = 4294967295 := by omega
        simpa using this
      have TG1 : Aside (∀ o o' o'' o3, _) := TG.out h1
      have EE1 : Aside (ae = te) := by show _ = _; rw [EE.out, if_neg (by simp), if_neg h1]
      have t2 : (nx : Int) + 1 < 4294967296 := by have := HX.out; omega
      have t3 : IntKind.u32.wrap ((nx : Int) + 1) = ((nx + 1 : Nat) : Int) := by
        rw [show IntKind.u32.wrap ((nx : Int) + 1) = ((nx : Int) + 1) % 4294967296 by simp [IntKind.wrap, IntKind.bits, IntKind.signed]]
        omega
      have t4 : (nx : Int) + 1 = ((nx + 1 : Nat) : Int) := by omega
      have t5 : (0 : Int) ≤ (nx : Int) := by omega
      have t6 : (0 : Int) ≤ ((nx + 1 : Nat) : Int) := by omega
      have t7 : ((nx + 1 : Nat) : Int) < 4294967296 := by have := HX.out; omega
      obtain ⟨m, hm⟩ : ∃ m : Nat, m = nx + 1 := ⟨_, rfl⟩
      rw [← hm] at TG1 GO t3 t4 t6 t7
      clear EE TG h1 hm
      generalize (m : Int) = M at *
      generalize (nx : Int) = NX at *
      go_enter Try.func17, Try.ntmps17
      go_wp2_with fail
      refine (AT.out _).mono ?_
      rintro e w1 ⟨rfl, hw⟩
      replace hw := hw.symm; subst hw
      clear AT
      go_wp2_with fail
      refine (TG1.out _ _ _ _).mono ?_
      rintro e w1 ⟨rfl, hb1⟩
      have B1 : Aside (Below w.heap.size w w1) := below_step (B4.out _ _ _ _) hb1
      have E1 := ((((E4.new w 41 (.string k) (.int .u32 NX) (.int .u32 (tp : Int)) (.int .u64 (cm : Int))).alloc (.cells #[.string ⟨#[]⟩, .int .u32 0, .int .u32 0, .int .u64 0] 41)).alloc (.cells #[.int .u8 0, .int .u8 0, .int .u32 0, .slice none 0 0, .string ⟨#[]⟩] 35)).alloc (.cells #[.int .u8 (f : Int), .int .u8 (t : Int), .int .u32 M, .slice a n cap, .string ⟨#[]⟩] 35)).later hb1
      have R1 := (((E4.new (w.alloc (.cells #[.string k, .int .u32 NX, .int .u32 (tp : Int), .int .u64 (cm : Int)] 41)) 41 (.string ⟨#[]⟩) (.int .u32 0) (.int .u32 0) (.int .u64 0)).alloc (.cells #[.int .u8 0, .int .u8 0, .int .u32 0, .slice none 0 0, .string ⟨#[]⟩] 35)).alloc (.cells #[.int .u8 (f : Int), .int .u8 (t : Int), .int .u32 M, .slice a n cap, .string ⟨#[]⟩] 35)).later hb1
      have L1 := ((L5.new ((w.alloc (.cells #[.string k, .int .u32 NX, .int .u32 (tp : Int), .int .u64 (cm : Int)] 41)).alloc (.cells #[.string ⟨#[]⟩, .int .u32 0, .int .u32 0, .int .u64 0] 41)) 35 (.int .u8 0) (.int .u8 0) (.int .u32 0) (.slice none 0 0) (.string ⟨#[]⟩)).alloc (.cells #[.int .u8 (f : Int), .int .u8 (t : Int), .int .u32 M, .slice a n cap, .string ⟨#[]⟩] 35)).later hb1
      have X1 := (L5.new (((w.alloc (.cells #[.string k, .int .u32 NX, .int .u32 (tp : Int), .int .u64 (cm : Int)] 41)).alloc (.cells #[.string ⟨#[]⟩, .int .u32 0, .int .u32 0, .int .u64 0] 41)).alloc (.cells #[.int .u8 0, .int .u8 0, .int .u32 0, .slice none 0 0, .string ⟨#[]⟩] 35)) 35 (.int .u8 (f : Int)) (.int .u8 (t : Int)) (.int .u32 M) (.slice a n cap) (.string ⟨#[]⟩)).later hb1
      simp only [World.size_alloc, Nat.add_assoc, Nat.reduceAdd] at X1 R1 L1
      clear TG1 hb1 B0 B4
      by_cases h3 : te = 0
      · subst h3
        have hn := TZ.out rfl
        have Q1 : Aside (∀ w' a' n' cap', Byt w' a' n' cap' body → Below w.heap.size w w' → _) := fun w' a' n' cap' hy hb => GO.out w' a' n' cap' EE1.out hy hb
        have BW : Aside (Byt w1 a n cap body) := HB.out.later B1.out
        clear GE GO TZ EE1 HB HX t1 t2
        go_wp2_with fail
        refine (clone_any a n cap body w1 hn BW.out).mono ?_
        rintro e w2 ⟨a2, cap2, rfl, hy2, hfr, hb2⟩
        have hs1 : w.heap.size + 4 ≤ w1.heap.size := (Array.getElem?_eq_some_iff.1 X1).1
        have FR : Aside (∀ ad, a2 = some ad → w.heap.size + 4 ≤ ad.block) := fun ad e => Nat.le_trans hs1 (hfr ad e)
        replace E1 := E1.later hb2
        replace R1 := R1.later hb2
        replace L1 := L1.later hb2
        replace X1 := X1.later hb2
        have B2 : Below w.heap.size w w2 := below_step B1.out hb2
        have z0 := E1.frozen
        have z3 := X1.frozen
        obtain ⟨e0, e1, e2, e3⟩ := E1.cells
        obtain ⟨x0, x1, x2, x3, x4⟩ := X1.cells
        have VF : Aside (Sat 41 35 w k tg M tp cm f t a2 n cap2 body _) := sat_prog E1 R1 L1 X1 hy2 FR.out B2
        clear E1 R1 L1 X1
        go_wp2_with fail
        refine (?REST : ∀ V : World, Sat 41 35 w k tg M tp cm f t a2 n cap2 body V → Code.wp _ _ _ _ V) _ VF.out
        case REST =>
          rintro V ⟨v1, v2, v3, v4, v5, v6⟩
          clear VF e0 e1 e2 e3 x0 x1 x2 x3 x4 z0 z3
          obtain ⟨e0, e1, e2, e3⟩ := v1.cells
          obtain ⟨r0, r1, r2, r3⟩ := v2.cells
          obtain ⟨y0, y1, y2, y3, y4⟩ := v3.cells
          obtain ⟨x0, x1, x2, x3, x4⟩ := v4.cells
          have zr := v2.frozen
          have zy := v3.frozen
          have V5 : Aside (Byt V a2 n cap2 body ∧ Below w.heap.size w V) := ⟨v5, v6⟩
          have V2 : Aside (E4 V _ _ _ _ _ _) := v2
          have V3 : Aside (L5 V _ _ _ _ _ _ _) := v3
          clear v1 v2 v3 v4 v5 v6
          have W1 := V2.out.set (.string k) (.int .u32 M) (.int .u32 (tp : Int)) (.int .u64 (cm : Int))
          have D4 : Aside (E4 _ _ _ _ _ _ _) := W1.far5 (c := w.heap.size + 2) (by omega) (.int .u8 (f : Int)) (.int .u8 (t : Int)) (.int .u32 M) (.slice a2 n cap2) (.string tg)
          have W2 := V3.out.far4 (c := w.heap.size + 1) (by omega) (.string k) (.int .u32 M) (.int .u32 (tp : Int)) (.int .u64 (cm : Int))
          have D3 : Aside (L5 _ _ _ _ _ _ _ _) := W2.set (.int .u8 (f : Int)) (.int .u8 (t : Int)) (.int .u32 M) (.slice a2 n cap2) (.string tg)
          have C2 : Aside (Below _ _ _) := below_set5 (below_set4 V5.out.2 (b := w.heap.size + 1) (by omega) (.string k) (.int .u32 M) (.int .u32 (tp : Int)) (.int .u64 (cm : Int))) (b := w.heap.size + 2) (by omega) (.int .u8 (f : Int)) (.int .u8 (t : Int)) (.int .u32 M) (.slice a2 n cap2) (.string tg)
          have F1 : ∀ ad, a2 = some ad → ad.block ≠ w.heap.size + 1 := fun ad e => by have := FR.out ad e; omega
          have F2 : ∀ ad, a2 = some ad → ad.block ≠ w.heap.size + 2 := fun ad e => by have := FR.out ad e; omega
          have LB : Aside (Byt _ a2 n cap2 body) := byt_far (byt_far (byt_far (byt_far (byt_far (byt_far (byt_far (byt_far (byt_far V5.out.1 F1 0 (.string k)) F1 1 (.int .u32 M)) F1 2 (.int .u32 (tp : Int))) F1 3 (.int .u64 (cm : Int))) F2 0 (.int .u8 (f : Int))) F2 1 (.int .u8 (t : Int))) F2 2 (.int .u32 M)) F2 3 (.slice a2 n cap2)) F2 4 (.string tg)
          clear F1 F2 hfr FR
          clear W1 W2 V2 V3
          go_region
          all_goals
            go_wp2
            obtain ⟨d0, d1, d2, d3⟩ := D4.out.cells
            obtain ⟨c0, c1, c2, c3, c4⟩ := D3.out.cells
            refine ⟨rfl, _, ?_, Q1.out _ _ _ _ (byt_drew LB.out) (below_drew1 C2.out)⟩
            simp [results, Try.results17, go_sem, d0, d1, d2, d3, c0, c1, c2, c3, c4]
      · have t8 : ((te : Int) != 0) = true := by
          have : ¬ (te : Int) = 0 := by omega
          simpa using this
        have Q1 : Aside (∀ w', Below w.heap.size w w' → _) := fun w' hb => GE.out te w' EE1.out h3 hb
        have D2 : Aside (E4 _ _ _ _ _ _ _) := R1.set (.string k) (.int .u32 NX) (.int .u32 (tp : Int)) (.int .u64 (cm : Int))
        have LS := L1.far4 (c := w.heap.size + 1) (by omega) (.string k) (.int .u32 NX) (.int .u32 (tp : Int)) (.int .u64 (cm : Int))
        have D3 : Aside (L5 _ _ _ _ _ _ _ _) := LS.set (.int .u8 0) (.int .u8 0) (.int .u32 0) (.slice none 0 0) (.string ⟨#[]⟩)
        have D4 : Aside (E4 _ _ _ _ _ _ _) := D2.out.far5 (c := w.heap.size + 2) (by omega) (.int .u8 0) (.int .u8 0) (.int .u32 0) (.slice none 0 0) (.string ⟨#[]⟩)
        have C2 : Aside (Below _ _ _) := below_set5 (below_set4 B1.out (b := w.heap.size + 1) (by omega) (.string k) (.int .u32 NX) (.int .u32 (tp : Int)) (.int .u64 (cm : Int))) (b := w.heap.size + 2) (by omega) (.int .u8 0) (.int .u8 0) (.int .u32 0) (.slice none 0 0) (.string ⟨#[]⟩)
        obtain ⟨e0, e1, e2, e3⟩ := E1.cells
        obtain ⟨r0, r1, r2, r3⟩ := R1.cells
        obtain ⟨y0, y1, y2, y3, y4⟩ := L1.cells
        have zr := R1.frozen
        have zy := L1.frozen
        clear GE GO TZ EE1 HB HX t1 t2 h3 E1 R1 L1 X1 LS B1 D2
        go_wp2
        obtain ⟨d0, d1, d2, d3⟩ := D4.out.cells
        obtain ⟨c0, c1, c2, c3, c4⟩ := D3.out.cells
        refine ⟨rfl, _, ?_, Q1.out _ C2.out⟩
        simp [results, Try.results17, go_sem, d0, d1, d2, d3, c0, c1, c2, c3, c4]

set_option maxRecDepth 100000 in
set_option maxHeartbeats 8000000 in
theorem rsend_any (key : List UInt8) (nx tp cm f t : Nat) (a : Option Addr) (n cap : Nat) (body : List UInt8) (w : World)
    (hnx : nx < 4294967296) (hf : f < 256) (ht : t < 256) (hB : Byt w a n cap body) :
    Calls Try.prog 18 #[.agg #[str key, .int .u32 (nx : Int), .int .u32 (tp : Int), .int .u64 (cm : Int)], .int .u8 (f : Int), .int .u8 (t : Int), .slice a n cap] w (SendPost key nx tp cm f t body w) := by
  have GE : Aside (∀ c w', Tm.sendE key nx f t body = c → c ≠ 0 → Below w.heap.size w w' → SendPost key nx tp cm f t body w (.returned (.tuple #[.agg #[str key, .int .u32 (nx : Int), .int .u32 (tp : Int), .int .u64 (cm : Int)], .agg #[.int .u8 0, .int .u8 0, .int .u32 0, .slice none 0 0, .string ⟨#[]⟩], .int .i64 (c : Nat)])) w') := fun c w' h1 h2 h3 => sendPost_err h1 h2 h3
  have GO : Aside (∀ w' a' n' cap', Tm.sendE key nx f t body = 0 → Byt w' a' n' cap' body → Below w.heap.size w w' → SendPost key nx tp cm f t body w (.returned (.tuple #[.agg #[str key, .int .u32 ((nx + 1 : Nat) : Int), .int .u32 (tp : Int), .int .u64 (cm : Int)], .agg #[.int .u8 (f : Int), .int .u8 (t : Int), .int .u32 ((nx + 1 : Nat) : Int), .slice a' n' cap', str (Tm.tag key f t (nx + 1) body)], .int .i64 0])) w') := fun w' a' n' cap' h1 h2 h3 => sendPost_ok h1 h2 h3
  have B0 : Aside (∀ o o' o'', Below w.heap.size w (((w.alloc o).alloc o').alloc o'')) := fun o o' o'' => (((Below.refl _ w).alloc (Nat.le_refl _) o).alloc (by simp) o').alloc (by simp; omega) o''
  have B4 : Aside (∀ o o' o'' o3, Below w.heap.size w ((((w.alloc o).alloc o').alloc o'').alloc o3)) := fun o o' o'' o3 => (B0.out o o' o'').alloc (by simp; omega) o3
  have AT : Aside (∀ W, Calls Try.prog 28 #[.int .u8 (f : Int), .int .u8 (t : Int)] W _) := fun W => two_any f t W
  have TG : Aside (nx ≠ 4294967295 → ∀ o o' o'' o3, Calls Try.prog 16 #[str key, .agg #[.int .u8 (f : Int), .int .u8 (t : Int), .int .u32 ((nx + 1 : Nat) : Int), .slice a n cap, .string ⟨#[]⟩]] ((((w.alloc o).alloc o').alloc o'').alloc o3) (TagPost key f t (nx + 1) body ((((w.alloc o).alloc o').alloc o'').alloc o3))) := fun h o o' o'' o3 => rtag_any key f t (nx + 1) a n cap ⟨#[]⟩ body _ hf ht (by omega) (hB.later (B4.out o o' o'' o3))
  have EE : Aside (Tm.sendE key nx f t body = if Tm.two f t = false then 2 else if nx = 4294967295 then 7 else Tm.tagE key f t (nx + 1) body) := rfl
  have TZ : Aside (Tm.tagE key f t (nx + 1) body = 0 → n ≤ 1000) := fun h => by rw [← hB.1]; exact (Tm.tagE_zero h).1
  have HB : Aside (Byt w a n cap body) := hB
  generalize SendPost key nx tp cm f t body w = Q at *
  generalize Tm.sendE key nx f t body = ae at *
  unfold TagPost at TG
  generalize Tm.tagE key f t (nx + 1) body = te at *
  generalize Tm.two f t = tw at *
  unfold str at *
  generalize (⟨(Tm.tag key f t (nx + 1) body).toArray⟩ : ByteArray) = tg at *
  generalize (⟨key.toArray⟩ : ByteArray) = k at *
  have HX : Aside (nx < 4294967296) := hnx
  clear hB hf ht hnx
  cases tw
  · have Q1 : Aside (∀ w', Below w.heap.size w w' → _) := fun w' hb => GE.out 2 w' (by rw [EE.out, if_pos rfl]) (by omega) hb
    clear GE GO EE TG TZ HB HX B4
    go_enter Try.func18, Try.ntmps18
    go_wp2_with fail
    refine (AT.out _).mono ?_
    rintro e w1 ⟨rfl, hw⟩
    replace hw := hw.symm; subst hw
    clear AT
    go_wp2
    refine ⟨rfl, _, ?_, Q1.out _ (B0.out _ _ _)⟩
    simp [results, Try.results18, go_sem]
  · by_cases h1 : nx = 4294967295
    · have Q1 : Aside (∀ w', Below w.heap.size w w' → _) := fun w' hb => GE.out 7 w' (by rw [EE.out, if_neg (by simp), if_pos h1]) (by omega) hb
      have t1 : ((nx : Int) == 4294967295) = true := by
        have : (nx : Int) = 4294967295 := by omega
        simpa using this
      clear GE GO EE TG TZ HB HX B4 h1
      generalize (nx : Int) = NX at *
      go_enter Try.func18, Try.ntmps18
      go_wp2_with fail
      refine (AT.out _).mono ?_
      rintro e w1 ⟨rfl, hw⟩
      replace hw := hw.symm; subst hw
      clear AT
      go_wp2
      refine ⟨rfl, _, ?_, Q1.out _ (B0.out _ _ _)⟩
      simp [results, Try.results18, go_sem]
    · have t1 : ((nx : Int) == 4294967295) = false := by
        have : ¬ (nx : Int) = 4294967295 := by omega
        simpa using this
      have TG1 : Aside (∀ o o' o'' o3, _) := TG.out h1
      have EE1 : Aside (ae = te) := by show _ = _; rw [EE.out, if_neg (by simp), if_neg h1]
      have t2 : (nx : Int) + 1 < 4294967296 := by have := HX.out; omega
      have t3 : IntKind.u32.wrap ((nx : Int) + 1) = ((nx + 1 : Nat) : Int) := by
        rw [show IntKind.u32.wrap ((nx : Int) + 1) = ((nx : Int) + 1) % 4294967296 by simp [IntKind.wrap, IntKind.bits, IntKind.signed]]
        omega
      have t4 : (nx : Int) + 1 = ((nx + 1 : Nat) : Int) := by omega
      have t5 : (0 : Int) ≤ (nx : Int) := by omega
      have t6 : (0 : Int) ≤ ((nx + 1 : Nat) : Int) := by omega
      have t7 : ((nx + 1 : Nat) : Int) < 4294967296 := by have := HX.out; omega
      obtain ⟨m, hm⟩ : ∃ m : Nat, m = nx + 1 := ⟨_, rfl⟩
      rw [← hm] at TG1 GO t3 t4 t6 t7
      clear EE TG h1 hm
      generalize (m : Int) = M at *
      generalize (nx : Int) = NX at *
      go_enter Try.func18, Try.ntmps18
      go_wp2_with fail
      refine (AT.out _).mono ?_
      rintro e w1 ⟨rfl, hw⟩
      replace hw := hw.symm; subst hw
      clear AT
      go_wp2_with fail
      refine (TG1.out _ _ _ _).mono ?_
      rintro e w1 ⟨rfl, hb1⟩
      have B1 : Aside (Below w.heap.size w w1) := below_step (B4.out _ _ _ _) hb1
      have E1 := ((((E4.new w 40 (.string k) (.int .u32 NX) (.int .u32 (tp : Int)) (.int .u64 (cm : Int))).alloc (.cells #[.string ⟨#[]⟩, .int .u32 0, .int .u32 0, .int .u64 0] 40)).alloc (.cells #[.int .u8 0, .int .u8 0, .int .u32 0, .slice none 0 0, .string ⟨#[]⟩] 26)).alloc (.cells #[.int .u8 (f : Int), .int .u8 (t : Int), .int .u32 M, .slice a n cap, .string ⟨#[]⟩] 26)).later hb1
      have R1 := (((E4.new (w.alloc (.cells #[.string k, .int .u32 NX, .int .u32 (tp : Int), .int .u64 (cm : Int)] 40)) 40 (.string ⟨#[]⟩) (.int .u32 0) (.int .u32 0) (.int .u64 0)).alloc (.cells #[.int .u8 0, .int .u8 0, .int .u32 0, .slice none 0 0, .string ⟨#[]⟩] 26)).alloc (.cells #[.int .u8 (f : Int), .int .u8 (t : Int), .int .u32 M, .slice a n cap, .string ⟨#[]⟩] 26)).later hb1
      have L1 := ((L5.new ((w.alloc (.cells #[.string k, .int .u32 NX, .int .u32 (tp : Int), .int .u64 (cm : Int)] 40)).alloc (.cells #[.string ⟨#[]⟩, .int .u32 0, .int .u32 0, .int .u64 0] 40)) 26 (.int .u8 0) (.int .u8 0) (.int .u32 0) (.slice none 0 0) (.string ⟨#[]⟩)).alloc (.cells #[.int .u8 (f : Int), .int .u8 (t : Int), .int .u32 M, .slice a n cap, .string ⟨#[]⟩] 26)).later hb1
      have X1 := (L5.new (((w.alloc (.cells #[.string k, .int .u32 NX, .int .u32 (tp : Int), .int .u64 (cm : Int)] 40)).alloc (.cells #[.string ⟨#[]⟩, .int .u32 0, .int .u32 0, .int .u64 0] 40)).alloc (.cells #[.int .u8 0, .int .u8 0, .int .u32 0, .slice none 0 0, .string ⟨#[]⟩] 26)) 26 (.int .u8 (f : Int)) (.int .u8 (t : Int)) (.int .u32 M) (.slice a n cap) (.string ⟨#[]⟩)).later hb1
      simp only [World.size_alloc, Nat.add_assoc, Nat.reduceAdd] at X1 R1 L1
      clear TG1 hb1 B0 B4
      by_cases h3 : te = 0
      · subst h3
        have hn := TZ.out rfl
        have Q1 : Aside (∀ w' a' n' cap', Byt w' a' n' cap' body → Below w.heap.size w w' → _) := fun w' a' n' cap' hy hb => GO.out w' a' n' cap' EE1.out hy hb
        clear GE GO TZ EE1 HX t1 t2
        skip
        have z0 := E1.frozen
        have z3 := X1.frozen
        obtain ⟨e0, e1, e2, e3⟩ := E1.cells
        obtain ⟨x0, x1, x2, x3, x4⟩ := X1.cells
        have VF : Aside (Sat 40 26 w k tg M tp cm f t a n cap body _) := sat_ref E1 R1 L1 X1 HB.out B1.out
        clear E1 R1 L1 X1
        go_wp2_with fail
        refine (?REST : ∀ V : World, Sat 40 26 w k tg M tp cm f t a n cap body V → Code.wp _ _ _ _ V) _ VF.out
        case REST =>
          rintro V ⟨v1, v2, v3, v4, v5, v6⟩
          clear VF e0 e1 e2 e3 x0 x1 x2 x3 x4 z0 z3
          obtain ⟨e0, e1, e2, e3⟩ := v1.cells
          obtain ⟨r0, r1, r2, r3⟩ := v2.cells
          obtain ⟨y0, y1, y2, y3, y4⟩ := v3.cells
          obtain ⟨x0, x1, x2, x3, x4⟩ := v4.cells
          have zr := v2.frozen
          have zy := v3.frozen
          have V5 : Aside (Byt V a n cap body ∧ Below w.heap.size w V) := ⟨v5, v6⟩
          have V2 : Aside (E4 V _ _ _ _ _ _) := v2
          have V3 : Aside (L5 V _ _ _ _ _ _ _) := v3
          clear v1 v2 v3 v4 v5 v6
          have W1 := V2.out.set (.string k) (.int .u32 M) (.int .u32 (tp : Int)) (.int .u64 (cm : Int))
          have D4 : Aside (E4 _ _ _ _ _ _ _) := W1.far5 (c := w.heap.size + 2) (by omega) (.int .u8 (f : Int)) (.int .u8 (t : Int)) (.int .u32 M) (.slice a n cap) (.string tg)
          have W2 := V3.out.far4 (c := w.heap.size + 1) (by omega) (.string k) (.int .u32 M) (.int .u32 (tp : Int)) (.int .u64 (cm : Int))
          have D3 : Aside (L5 _ _ _ _ _ _ _ _) := W2.set (.int .u8 (f : Int)) (.int .u8 (t : Int)) (.int .u32 M) (.slice a n cap) (.string tg)
          have C2 : Aside (Below _ _ _) := below_set5 (below_set4 V5.out.2 (b := w.heap.size + 1) (by omega) (.string k) (.int .u32 M) (.int .u32 (tp : Int)) (.int .u64 (cm : Int))) (b := w.heap.size + 2) (by omega) (.int .u8 (f : Int)) (.int .u8 (t : Int)) (.int .u32 M) (.slice a n cap) (.string tg)
          have LB : Aside (Byt _ a n cap body) := HB.out.later C2.out
          clear W1 W2 V2 V3
          go_region
          all_goals
            go_wp2
            obtain ⟨d0, d1, d2, d3⟩ := D4.out.cells
            obtain ⟨c0, c1, c2, c3, c4⟩ := D3.out.cells
            refine ⟨rfl, _, ?_, Q1.out _ _ _ _ (byt_drew LB.out) (below_drew1 C2.out)⟩
            simp [results, Try.results18, go_sem, d0, d1, d2, d3, c0, c1, c2, c3, c4]
      · have t8 : ((te : Int) != 0) = true := by
          have : ¬ (te : Int) = 0 := by omega
          simpa using this
        have Q1 : Aside (∀ w', Below w.heap.size w w' → _) := fun w' hb => GE.out te w' EE1.out h3 hb
        have D2 : Aside (E4 _ _ _ _ _ _ _) := R1.set (.string k) (.int .u32 NX) (.int .u32 (tp : Int)) (.int .u64 (cm : Int))
        have LS := L1.far4 (c := w.heap.size + 1) (by omega) (.string k) (.int .u32 NX) (.int .u32 (tp : Int)) (.int .u64 (cm : Int))
        have D3 : Aside (L5 _ _ _ _ _ _ _ _) := LS.set (.int .u8 0) (.int .u8 0) (.int .u32 0) (.slice none 0 0) (.string ⟨#[]⟩)
        have D4 : Aside (E4 _ _ _ _ _ _ _) := D2.out.far5 (c := w.heap.size + 2) (by omega) (.int .u8 0) (.int .u8 0) (.int .u32 0) (.slice none 0 0) (.string ⟨#[]⟩)
        have C2 : Aside (Below _ _ _) := below_set5 (below_set4 B1.out (b := w.heap.size + 1) (by omega) (.string k) (.int .u32 NX) (.int .u32 (tp : Int)) (.int .u64 (cm : Int))) (b := w.heap.size + 2) (by omega) (.int .u8 0) (.int .u8 0) (.int .u32 0) (.slice none 0 0) (.string ⟨#[]⟩)
        obtain ⟨e0, e1, e2, e3⟩ := E1.cells
        obtain ⟨r0, r1, r2, r3⟩ := R1.cells
        obtain ⟨y0, y1, y2, y3, y4⟩ := L1.cells
        have zr := R1.frozen
        have zy := L1.frozen
        clear GE GO TZ EE1 HB HX t1 t2 h3 E1 R1 L1 X1 LS B1 D2
        go_wp2
        obtain ⟨d0, d1, d2, d3⟩ := D4.out.cells
        obtain ⟨c0, c1, c2, c3, c4⟩ := D3.out.cells
        refine ⟨rfl, _, ?_, Q1.out _ C2.out⟩
        simp [results, Try.results18, go_sem, d0, d1, d2, d3, c0, c1, c2, c3, c4]

end Go.Proofs.Ytimeggbjmcnnoaa
