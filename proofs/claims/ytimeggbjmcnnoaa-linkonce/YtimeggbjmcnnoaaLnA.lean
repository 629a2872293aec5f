/- Are these two members; the constant of some bytes; a link's key: what the program gives, and what the document's own gives. -/
import Derived.Test.YtimeggbjmcnnoaaLkA
import Derived.Test.YtimeggbjmcnnoaaRefE
import Derived.Lib.MinMax
namespace Go.Proofs.Ytimeggbjmcnnoaa
open Go.RowKit

def Tm.two (a b : Nat) : Bool := decide (a < 16 ∧ b < 16 ∧ a ≠ b)

set_option maxHeartbeats 1000000 in
theorem areTwo_any (a b : Nat) (w : World) : Calls Try.prog 25 #[.int .u8 (a : Int), .int .u8 (b : Int)] w fun e w' => e = .returned (.bool (Tm.two a b)) ∧ w' = w := by
  by_cases h1 : a < 16
  · have t1 : (a : Int) < 16 := by omega
    by_cases h2 : b < 16
    · have t2 : (b : Int) < 16 := by omega
      by_cases h3 : a = b
      · have e : Tm.two a b = false := by unfold Tm.two; exact decide_eq_false (fun h => h.2.2 h3)
        have t3 : ((a : Int) != (b : Int)) = false := by simp [h3]
        rw [e]
        clear e h1 h2 h3
        go_enter Try.func25, Try.ntmps25
        go_wp2
        go_ret
        exact ⟨rfl, rfl⟩
      · have e : Tm.two a b = true := by unfold Tm.two; exact decide_eq_true ⟨h1, h2, h3⟩
        have t3 : ((a : Int) != (b : Int)) = true := by
          have : ¬ (a : Int) = (b : Int) := by omega
          simpa using this
        rw [e]
        clear e h1 h2 h3
        go_enter Try.func25, Try.ntmps25
        go_wp2
        go_ret
        exact ⟨rfl, rfl⟩
    · have t2 : ¬ (b : Int) < 16 := by omega
      have e : Tm.two a b = false := by unfold Tm.two; exact decide_eq_false (fun h => h2 h.2.1)
      rw [e]
      clear e h1 h2
      go_enter Try.func25, Try.ntmps25
      go_wp2
      go_ret
      exact ⟨rfl, rfl⟩
  · have t1 : ¬ (a : Int) < 16 := by omega
    have e : Tm.two a b = false := by unfold Tm.two; exact decide_eq_false (fun h => h1 h.1)
    rw [e]
    clear e h1
    go_enter Try.func25, Try.ntmps25
    go_wp2
    go_ret
    exact ⟨rfl, rfl⟩

set_option maxHeartbeats 1000000 in
theorem two_any (a b : Nat) (w : World) : Calls Try.prog 28 #[.int .u8 (a : Int), .int .u8 (b : Int)] w fun e w' => e = .returned (.bool (Tm.two a b)) ∧ w' = w := by
  by_cases h1 : a < 16
  · have t1 : (a : Int) < 16 := by omega
    by_cases h2 : b < 16
    · have t2 : (b : Int) < 16 := by omega
      by_cases h3 : a = b
      · have e : Tm.two a b = false := by unfold Tm.two; exact decide_eq_false (fun h => h.2.2 h3)
        have t3 : ((a : Int) != (b : Int)) = false := by simp [h3]
        rw [e]
        clear e h1 h2 h3
        go_enter Try.func28, Try.ntmps28
        go_wp2
        go_ret
        exact ⟨rfl, rfl⟩
      · have e : Tm.two a b = true := by unfold Tm.two; exact decide_eq_true ⟨h1, h2, h3⟩
        have t3 : ((a : Int) != (b : Int)) = true := by
          have : ¬ (a : Int) = (b : Int) := by omega
          simpa using this
        rw [e]
        clear e h1 h2 h3
        go_enter Try.func28, Try.ntmps28
        go_wp2
        go_ret
        exact ⟨rfl, rfl⟩
    · have t2 : ¬ (b : Int) < 16 := by omega
      have e : Tm.two a b = false := by unfold Tm.two; exact decide_eq_false (fun h => h2 h.2.1)
      rw [e]
      clear e h1 h2
      go_enter Try.func28, Try.ntmps28
      go_wp2
      go_ret
      exact ⟨rfl, rfl⟩
  · have t1 : ¬ (a : Int) < 16 := by omega
    have e : Tm.two a b = false := by unfold Tm.two; exact decide_eq_false (fun h => h1 h.1)
    rw [e]
    clear e h1
    go_enter Try.func28, Try.ntmps28
    go_wp2
    go_ret
    exact ⟨rfl, rfl⟩

theorem conv9 (w : World) (a : Option Addr) (bs : List UInt8) (cap : Nat) (h : AtB w a bs) :
    (convert 24 9 (.slice a bs.length cap)).run Try.prog w = .ok (str bs) w := by
  unfold str
  rcases h with rfl | ⟨b, off, rfl, hc⟩
  · rw [run_convert_bytes_string w 24 9 5 _ _ cap Try.underlying24 Try.underlying5 Try.underlying9]
    cases a with
    | none => simp [Conv.bytesToString]; rfl
    | some ad =>
      have hl : (loadCells ad 0).run Try.prog w = .ok (([] : List Int).map (Value.int .u8)).toArray w := by simpa using run_loadCells_list (P := Try.prog) w ad [] (by simp)
      exact run_bytesToString w ad 0 cap [] hl
  · rw [run_convert_bytes_arg w 24 5 Try.underlying24 Try.underlying5 b off bs.length cap (bs.map fun b => (b.toNat : Int)) (by simp) (fun i hi => by rw [hc i hi]; simp [hi]) 9 Try.underlying9, strOf_bytes]

theorem atB_later {w w' : World} {a : Option Addr} {bs : List UInt8} (hb : Below w.heap.size w w') (h : AtB w a bs) : AtB w' a bs := by
  rcases h with rfl | ⟨b, off, rfl, hc⟩
  · exact .inl rfl
  · exact .inr ⟨b, off, rfl, fun j hj => cell_later hb (hc j hj)⟩

set_option maxHeartbeats 1000000 in
theorem constant_any (a : Option Addr) (n cap : Nat) (bs : List UInt8) (w : World) (hn : bs.length = n) (h : AtB w a bs) :
    Calls Try.prog 27 #[.slice a n cap] w fun e w' => e = .returned (str (Tm.const bs)) ∧ Below w.heap.size w w' := by
  have hcv := conv9 w a bs cap h
  rw [hn] at hcv
  have C := const_any ⟨bs.toArray⟩ w
  rw [str_bytes] at C
  unfold str at hcv C ⊢
  have P1 : Aside (Calls _ _ _ _ _) := C
  generalize (⟨bs.toArray⟩ : ByteArray) = x at *
  generalize (⟨(Tm.const bs).toArray⟩ : ByteArray) = y at *
  generalize Tm.constE bs = c at *
  clear C h hn
  go_enter Try.func27, Try.ntmps27
  go_wp2_with fail
  refine P1.out.mono ?_
  rintro e w1 ⟨rfl, hb⟩
  have B1 : Aside (Below w.heap.size w w1) := hb
  clear hb P1 hcv
  go_wp2
  go_ret
  exact ⟨rfl, B1.out⟩

/-- The row of two texts that a call builds. -/
theorem at_two (w : World) (x y : List UInt8) : AtS (w.alloc (.cells #[str x, str y] 22)) (some ⟨w.heap.size, 0, none⟩) [x, y] := by
  refine .inr ⟨w.heap.size, 0, rfl, fun j u hu => ?_⟩
  rw [Nat.zero_add, World.cell?_alloc_at _ _ _ _ rfl]
  match j, hu with
  | 0, hu => simp at hu; subst hu; rfl
  | 1, hu => simp at hu; subst hu; rfl
theorem make2 (k : UInt8) (x y : List UInt8) (w0 w : World) (hb : Below w0.heap.size w0 w) :
    Calls Try.prog 26 #[.int .u8 (k.toNat : Int), .slice (some ⟨w.heap.size, 0, none⟩) 2 2] (w.alloc (.cells #[str x, str y] 22)) fun e w' => e = .returned (.tuple #[str (Tm.make k [x, y]), .int .i64 (Tm.makeE k [x, y] : Nat)]) ∧ Below w0.heap.size w0 w' := by
  refine (make_any k _ 2 2 [x, y] _ rfl (by omega) (at_two w x y)).mono ?_
  rintro e w' ⟨he, h⟩
  exact ⟨he, below_step (hb.alloc hb.size _) h⟩
theorem rmake2 (k : UInt8) (x y : List UInt8) (w0 w : World) (hb : Below w0.heap.size w0 w) :
    Calls Try.prog 30 #[.int .u8 (k.toNat : Int), .slice (some ⟨w.heap.size, 0, none⟩) 2 2] (w.alloc (.cells #[str x, str y] 22)) fun e w' => e = .returned (.tuple #[str (Tm.make k [x, y]), .int .i64 (Tm.makeE k [x, y] : Nat)]) ∧ Below w0.heap.size w0 w' := by
  refine (rmake_any k _ 2 2 [x, y] _ rfl (by omega) (at_two w x y)).mono ?_
  rintro e w' ⟨he, h⟩
  exact ⟨he, below_step (hb.alloc hb.size _) h⟩

set_option maxHeartbeats 1000000 in
theorem rtwo_any (x y : List UInt8) (w : World) :
    Calls Try.prog 48 #[.int .u8 112, str x, str y] w fun e w' => e = .returned (str (Tm.make 112 [x, y])) ∧ Below w.heap.size w w' := by
  have C := rmake2 112 x y w w (Below.refl _ _)
  rw [show ((112 : UInt8).toNat : Int) = 112 from rfl] at C
  unfold str at C ⊢
  have P1 : Aside (Calls _ _ _ _ _) := C
  generalize (⟨x.toArray⟩ : ByteArray) = x1 at *
  generalize (⟨y.toArray⟩ : ByteArray) = y1 at *
  generalize (⟨(Tm.make 112 [x, y]).toArray⟩ : ByteArray) = z at *
  generalize Tm.makeE 112 [x, y] = c at *
  clear C
  go_enter Try.func48, Try.ntmps48
  go_wp2_with fail
  refine P1.out.mono ?_
  rintro e w1 ⟨rfl, hb⟩
  have B1 : Aside (Below w.heap.size w w1) := hb
  clear hb P1
  go_wp2
  go_ret
  exact ⟨rfl, B1.out⟩

theorem two_facts {a b : Nat} (h : Tm.two a b = true) : a < 16 ∧ b < 16 ∧ a ≠ b := by unfold Tm.two at h; exact of_decide_eq_true h
theorem keyE_no {s : List UInt8} {a b : Nat} (h : Tm.two a b = false) : Tm.keyE s a b = 2 := by
  unfold Tm.two at h; unfold Tm.keyE; rw [if_neg (of_decide_eq_false h)]
theorem keyOf_no {s : List UInt8} {a b : Nat} (h : Tm.two a b = false) : Tm.keyOf s a b = [] := by
  unfold Tm.keyOf; rw [keyE_no h, if_neg (by omega)]
theorem keyE_yes {s : List UInt8} {a b : Nat} (h : Tm.two a b = true) : Tm.keyE s a b = Tm.makeE 100 [s, Tm.linkC a b] := by
  unfold Tm.keyE; rw [if_pos (two_facts h)]
theorem keyOf_yes {s : List UInt8} {a b : Nat} (h : Tm.two a b = true) : Tm.keyOf s a b = Tm.make 100 [s, Tm.linkC a b] := by
  unfold Tm.keyOf; rw [keyE_yes h]
  by_cases g : Tm.makeE 100 [s, Tm.linkC a b] = 0
  · rw [if_pos g]
  · rw [if_neg g]; unfold Tm.make; rw [if_neg g]
def KeyPost (s : List UInt8) (a b : Nat) (w : World) (e : Ending) (w' : World) : Prop :=
  e = .returned (.tuple #[str (Tm.keyOf s a b), .int .i64 (Tm.keyE s a b : Nat)]) ∧ Below w.heap.size w w'
theorem link_lit {a b : Nat} (h : Tm.two a b = true) (w : World) : AtB (w.alloc (.cells #[.int .u8 (min (a : Int) b), .int .u8 (max (a : Int) b)] 5)) (some ⟨w.heap.size, 0, none⟩) [UInt8.ofNat (min a b), UInt8.ofNat (max a b)] := by
  obtain ⟨h1, h2, _⟩ := two_facts h
  refine at_lit w _ _ ?_
  have e1 : (UInt8.ofNat (min a b)).toNat = min a b := by simp; omega
  have e2 : (UInt8.ofNat (max a b)).toNat = max a b := by simp; omega
  simp only [List.map_cons, List.map_nil, e1, e2]
  congr 3
  · omega
  · congr 2; omega

set_option maxRecDepth 20000 in
set_option maxHeartbeats 2000000 in
theorem key_any (s : List UInt8) (a b : Nat) (w : World) : Calls Try.prog 13 #[str s, .int .u8 (a : Int), .int .u8 (b : Int)] w (KeyPost s a b w) := by
  have T1 : Aside (Calls Try.prog 25 #[.int .u8 (a : Int), .int .u8 (b : Int)] w _) := areTwo_any a b w
  cases h : Tm.two a b
  · have Q1 : Aside (KeyPost s a b w (.returned (.tuple #[.string ⟨#[]⟩, .int .i64 2])) w) := ⟨by rw [keyE_no h, keyOf_no h]; rfl, Below.refl _ _⟩
    generalize KeyPost s a b w = Q at *
    rw [h] at T1
    unfold str
    generalize (⟨s.toArray⟩ : ByteArray) = x at *
    generalize (a : Int) = a1 at *
    generalize (b : Int) = b1 at *
    clear h
    go_enter Try.func13, Try.ntmps13
    go_wp2_with fail
    refine T1.out.mono ?_
    rintro e w1 ⟨rfl, hw⟩
    replace hw := hw.symm; subst hw
    clear T1
    go_wp2
    exact Q1.out
  · have Q1 : Aside (∀ w', Below w.heap.size w w' → KeyPost s a b w (.returned (.tuple #[str (Tm.make 100 [s, Tm.linkC a b]), .int .i64 (Tm.makeE 100 [s, Tm.linkC a b] : Nat)])) w') := fun w' hb => ⟨by rw [keyE_yes h, keyOf_yes h], hb⟩
    have C1 := constant_any _ 2 2 _ _ rfl (link_lit h w)
    have B0 := (Below.refl _ w).alloc (Nat.le_refl _) (.cells #[.int .u8 (min (a : Int) b), .int .u8 (max (a : Int) b)] 5)
    have C2 := fun w1 hb => make2 100 s (Tm.linkC a b) w w1 (below_step B0 hb)
    rw [show Tm.const [UInt8.ofNat (min a b), UInt8.ofNat (max a b)] = Tm.linkC a b from rfl] at C1
    rw [show ((100 : UInt8).toNat : Int) = 100 from rfl] at C2
    have C4 : Aside (_ ∧ ∀ w1, _) := ⟨C1, C2⟩
    clear C1 C2 B0
    generalize KeyPost s a b w = Q at *
    rw [h] at T1
    unfold str at *
    generalize (⟨s.toArray⟩ : ByteArray) = x at *
    generalize (⟨(Tm.linkC a b).toArray⟩ : ByteArray) = y at *
    generalize (⟨(Tm.make 100 [s, Tm.linkC a b]).toArray⟩ : ByteArray) = z at *
    generalize Tm.makeE 100 [s, Tm.linkC a b] = c at *
    skip
    generalize (a : Int) = a1 at *
    generalize (b : Int) = b1 at *
    clear h
    go_enter Try.func13, Try.ntmps13
    go_wp2_with fail
    refine T1.out.mono ?_
    rintro e w1 ⟨rfl, hw⟩
    replace hw := hw.symm; subst hw
    clear T1
    go_wp2_with fail
    refine C4.out.1.mono ?_
    rintro e w2 ⟨rfl, hb2⟩
    have C5 := C4.out.2 w2 hb2
    have P5 : Aside (Calls _ _ _ _ _) := C5
    clear C4 C5 hb2
    go_wp2_with fail
    refine P5.out.mono ?_
    rintro e w3 ⟨rfl, hb3⟩
    have Q2 : Aside _ := Q1.out w3 hb3
    clear P5 hb3 Q1
    go_wp2
    exact Q2.out

set_option maxRecDepth 20000 in
set_option maxHeartbeats 2000000 in
theorem rkey_any (s : List UInt8) (a b : Nat) (w : World) : Calls Try.prog 14 #[str s, .int .u8 (a : Int), .int .u8 (b : Int)] w (KeyPost s a b w) := by
  have T1 : Aside (Calls Try.prog 28 #[.int .u8 (a : Int), .int .u8 (b : Int)] w _) := two_any a b w
  cases h : Tm.two a b
  · have Q1 : Aside (KeyPost s a b w (.returned (.tuple #[.string ⟨#[]⟩, .int .i64 2])) w) := ⟨by rw [keyE_no h, keyOf_no h]; rfl, Below.refl _ _⟩
    generalize KeyPost s a b w = Q at *
    rw [h] at T1
    unfold str
    generalize (⟨s.toArray⟩ : ByteArray) = x at *
    generalize (a : Int) = a1 at *
    generalize (b : Int) = b1 at *
    clear h
    go_enter Try.func14, Try.ntmps14
    go_wp2_with fail
    refine T1.out.mono ?_
    rintro e w1 ⟨rfl, hw⟩
    replace hw := hw.symm; subst hw
    clear T1
    go_wp2
    exact Q1.out
  · have Q1 : Aside (∀ w', Below w.heap.size w w' → KeyPost s a b w (.returned (.tuple #[str (Tm.make 100 [s, Tm.linkC a b]), .int .i64 (Tm.makeE 100 [s, Tm.linkC a b] : Nat)])) w') := fun w' hb => ⟨by rw [keyE_yes h, keyOf_yes h], hb⟩
    have hcv : (convert 24 9 (.slice (some ⟨w.heap.size, 0, none⟩) 2 2)).run Try.prog _ = .ok (str _) _ := conv9 _ _ _ 2 (link_lit h w)
    have C1 := rconst_any ⟨([UInt8.ofNat (min a b), UInt8.ofNat (max a b)] : List UInt8).toArray⟩ (w.alloc (.cells #[.int .u8 (min (a : Int) b), .int .u8 (max (a : Int) b)] 5))
    rw [str_bytes] at C1
    have B0 := (Below.refl _ w).alloc (Nat.le_refl _) (.cells #[.int .u8 (min (a : Int) b), .int .u8 (max (a : Int) b)] 5)
    have C2 := fun w1 hb => rmake2 100 s (Tm.linkC a b) w w1 (below_step B0 hb)
    rw [show Tm.const [UInt8.ofNat (min a b), UInt8.ofNat (max a b)] = Tm.linkC a b from rfl] at C1
    rw [show ((100 : UInt8).toNat : Int) = 100 from rfl] at C2
    have C4 : Aside (_ ∧ ∀ w1, _) := ⟨C1, C2⟩
    clear C1 C2 B0
    generalize KeyPost s a b w = Q at *
    rw [h] at T1
    unfold str at *
    generalize (⟨s.toArray⟩ : ByteArray) = x at *
    generalize (⟨(Tm.linkC a b).toArray⟩ : ByteArray) = y at *
    generalize (⟨(Tm.make 100 [s, Tm.linkC a b]).toArray⟩ : ByteArray) = z at *
    generalize Tm.makeE 100 [s, Tm.linkC a b] = c at *
    generalize (⟨([UInt8.ofNat (min a b), UInt8.ofNat (max a b)] : List UInt8).toArray⟩ : ByteArray) = yy at *
    generalize Tm.constE [UInt8.ofNat (min a b), UInt8.ofNat (max a b)] = ce at *
    generalize (a : Int) = a1 at *
    generalize (b : Int) = b1 at *
    clear h
    go_enter Try.func14, Try.ntmps14
    go_wp2_with fail
    refine T1.out.mono ?_
    rintro e w1 ⟨rfl, hw⟩
    replace hw := hw.symm; subst hw
    clear T1
    go_wp2_with fail
    refine C4.out.1.mono ?_
    rintro e w2 ⟨rfl, hb2⟩
    have C5 := C4.out.2 w2 hb2
    have P5 : Aside (Calls _ _ _ _ _) := C5
    clear C4 C5 hb2
    go_wp2_with fail
    refine P5.out.mono ?_
    rintro e w3 ⟨rfl, hb3⟩
    have Q2 : Aside _ := Q1.out w3 hb3
    clear P5 hb3 Q1
    go_wp2
    exact Q2.out

end Go.Proofs.Ytimeggbjmcnnoaa
