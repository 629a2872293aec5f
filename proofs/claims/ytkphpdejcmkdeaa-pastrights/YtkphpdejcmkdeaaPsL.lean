/- The kinds of a body's fields; whether one of some fields is too great. -/
import Derived.Test.YtkphpdejcmkdeaaPsK
set_option linter.unusedVariables false
namespace Go.Proofs.Ytkphpdejcmkdeaa
open Go.RowKit Go.Shelf
namespace Ps

theorem ones_row {w : World} {g B : Nat} (h : Ones w g 17) (hB : B ≤ g) : w.ownsRow B 3 1 (.slice (some ⟨g, 0, none⟩) 17 17) 17 (ics (List.replicate 17 1)) := by
  obtain ⟨cur, h1, h2, h3⟩ := h
  refine ⟨by simp [ics], .inr ⟨g, 17, cur, rfl, hB, h1, Nat.le_refl _, by unfold maxLen; decide, by rw [h2], ?_⟩⟩
  apply List.ext_getElem?
  intro j
  by_cases hj : j < 17
  · rw [List.getElem?_take_of_lt (by omega), Array.getElem?_toList, h3 j hj]
    unfold ics
    rw [List.getElem?_map, List.getElem?_replicate, if_pos hj]; rfl
  · rw [List.getElem?_eq_none (by rw [List.length_take]; omega), List.getElem?_eq_none (by simp [ics]; omega)]

set_option maxHeartbeats 2000000 in
set_option maxRecDepth 100000 in
theorem kinds_any (w : World) : Calls Try.prog 29 #[] w fun e w' => ∃ a cap, e = .returned (.slice a 18 cap) ∧ AtI w' a kinds ∧ Below w.heap.size w w' := by
  have hc : (w.alloc (.cells #[.int .i64 1] 3)).cell? ⟨w.heap.size, 0, none⟩ = some (.int .i64 1) := by simp [go_sem]
  have R := repeat_any w.heap.size 1 (w.alloc (.cells #[.int .i64 1] 3)) hc
  have B1 : Below w.heap.size w (w.alloc (.cells #[.int .i64 1] 3)) := (Below.refl _ w).alloc (Nat.le_refl _) _
  have BB : Aside (Below _ _ _) := B1
  rw [World.size_alloc] at R
  clear hc B1
  obtain ⟨i0, hi, hz0, hz1, hz2⟩ := info_parts info3
  have I : Aside (Try.prog.info? 3 = some i0 ∧ i0.zero = some (.int .i64 0) ∧ i0.size = 1 ∧ i0.bytes = 8) := ⟨hi, hz0, hz1, hz2⟩
  clear hi hz0 hz1 hz2
  go_enter Try.func29, Try.ntmps29
  go_wp2_with fail
  refine R.mono ?_
  rintro e w2 ⟨rfl, ho, hb⟩
  have B2 : Aside (Below w.heap.size w w2) := BB.out.trans (hb.mono (by omega))
  have O2 := ones_row (B := w.heap.size) ho (by omega)
  have hs2 : w.heap.size ≤ w2.heap.size := B2.out.size
  have ek : Aside (ics (List.replicate 17 1) ++ [.int .i64 2] = ics kinds) := rfl
  generalize ics (List.replicate 17 1) = R17 at ek O2
  clear R hb ho BB
  go_wp2_with (at_builtin; refine wpList_append_own _ rfl _ _ 68 rfl w.heap.size 3 i0 (.int .i64 0) 1 8 Try.underlying68 I.out.1 I.out.2.1 I.out.2.2.1 I.out.2.2.2 rfl (by decide) _ _ _ rfl (O2.alloc _) ⟨w2.heap.size, 0, none⟩ 1 1 [.int .i64 2] rfl rfl ?c1 ?c2 ?c3 ?c4 ?c5 ?_)
  case c1 => exact cell_one_new _ _ _
  case c2 => intro u hu; simp at hu; subst hu; rfl
  case c3 => unfold maxLen; omega
  case c4 => omega
  case c5 => simp; omega
  intro v3 w4 hown4 hgrow4 _
  have B5 : Aside (Below w.heap.size w w4) := (B2.out.alloc hs2 _).grown hgrow4 (by simp; omega) (fun j hj => (O2.lt j hj).1)
  rw [ek.out] at hown4
  obtain ⟨a4, cap4, rfl, -, hat⟩ := owns_ints hown4
  have HT : Aside (AtI w4 a4 kinds) := hat
  clear hown4 hgrow4 O2 ek hat
  go_wp2
  go_ret
  exact ⟨a4, cap4, rfl, HT.out, B5.out⟩

set_option maxHeartbeats 2000000 in
theorem tooGreat_any (k : Int) (n r : Nat) (s : ByteArray) (w : World) : Calls Try.prog 31 #[.agg #[.int .i64 k, .int .u64 (n : Int), .string s, .float .f64 r]] w fun e w' => e = .returned (.bool (decide (1000 < n))) ∧ Below w.heap.size w w' := by
  have B1 : Aside (Below w.heap.size w (w.alloc (.cells #[.int .i64 k, .int .u64 (n : Int), .string s, .float .f64 r] 51))) := (Below.refl _ w).alloc (Nat.le_refl _) _
  have e : Aside (decide ((1000 : Int) < (n : Int)) = decide (1000 < n)) := by show decide ((1000 : Int) < (n : Int)) = decide (1000 < n); congr 1; simp; omega
  generalize decide (1000 < n) = m at e ⊢
  go_enter Try.func31, Try.ntmps31
  go_wp2
  go_ret
  exact ⟨congrArg (fun z => Ending.returned (.bool z)) e.out, B1.out⟩

/-- What IndexFunc tells of fields: whether one is too great. -/
def Found (l : List Pk.Fld) (i : Int) : Prop := (0 ≤ i ∧ l.all (fun f => decide (f.num.toNat ≤ 1000)) = false) ∨ (i < 0 ∧ l.all (fun f => decide (f.num.toNat ≤ 1000)) = true)
set_option maxHeartbeats 4000000 in
set_option maxRecDepth 100000 in
theorem indexFunc_any (a : Option Addr) (n cap : Nat) (l : List Pk.Fld) (w : World) (hl : n ≤ 210) (hn : Hid (l.length = n)) (ha : AtP w a l) (F : Value) (hF : F = .func (.func 31) #[] #[]) :
    Calls Try.prog 41 #[.slice a n cap, F] w fun e w' => ∃ i : Int, e = .returned (.int .i64 i) ∧ Found l i ∧ Below w.heap.size w w' := by
  subst hF
  have C : Aside (AtP w a l) := ha
  have CT : Aside (∀ (k : Int) (n r : Nat) (s : ByteArray) W, Calls Try.prog 31 #[.agg #[.int .i64 k, .int .u64 (n : Int), .string s, .float .f64 r]] W fun e w' => e = .returned (.bool (decide (1000 < n))) ∧ Below W.heap.size W w') := fun k n r s W => tooGreat_any k n r s W
  clear ha
  go_enter Try.func41, Try.ntmps41
  go_wp2_with fail
  go_loopw [5, 8] (fun _ i wr => ∃ k : Nat, k ≤ n ∧ i = .int .i64 k ∧ (∀ j f, j < k → l[j]? = some f → f.num.toNat ≤ 1000) ∧ Below w.heap.size w wr) (fun _ i _ => n - (intOf i).toNat)
  case atStart => exact ⟨0, Nat.zero_le _, rfl, fun j f hj => by omega, Below.refl _ _⟩
  case round =>
    obtain ⟨k, hk, rfl, hall, hb⟩ := hrel
    have H : Aside (∀ j f, j < k → l[j]? = some f → f.num.toNat ≤ 1000) := hall
    clear hall
    by_cases hlt : k < n
    · have hk1 : k < l.length := by rw [hn.out]; exact hlt
      rcases C.out with he | ⟨b, off, rfl, hcs⟩
      · exfalso; rw [he] at hk1; simp at hk1
      obtain ⟨c0, c1, c2, c3⟩ := fldAt_later hb rfl (hcs k l[k] (List.getElem?_eq_getElem hk1))
      have E1 : Aside (l[k].num.toNat ≤ 1000 → ∀ j f, j < k + 1 → l[j]? = some f → f.num.toNat ≤ 1000) := by
        intro he j f hj h1
        by_cases hj2 : j < k
        · exact H.out j f hj2 h1
        · obtain rfl : j = k := by omega
          rw [List.getElem?_eq_getElem hk1] at h1
          cases h1; exact he
      have E2 : Aside (1000 < l[k].num.toNat → Found l k) := by
        intro he
        refine .inl ⟨by omega, ?_⟩
        rw [← Bool.not_eq_true, List.all_eq_true]
        intro h
        have := of_decide_eq_true (h l[k] (List.getElem_mem hk1))
        omega
      generalize l[k].kind = fk at c0
      generalize l[k].num.toNat = fn at c1 E1 E2
      generalize l[k].text = ft at c2
      generalize l[k].real.toNat = fr at c3
      have t1 : (k : Int) < (n : Int) := by omega
      have t0 : (0 : Int) ≤ (k : Int) := by omega
      have BB : Aside (Below w.heap.size w wr) := hb
      have CC := CT.out fk fn fr ft
      clear hcs H hb
      by_cases hx : 1000 < fn
      · rw [decide_eq_true hx] at CC
        have EE : Aside (_) := E2.out hx
        have CD : Aside (∀ W, _) := CC
        clear E1 E2 CC hx
        go_wp2_with (go_at_call 31; refine (CD.out _).mono ?_; rintro e w2 ⟨rfl, hb2⟩; have B2 : Aside (Below w.heap.size w w2) := step_below BB.out hb2; clear hb2)
        go_ret
        exact ⟨k, rfl, EE.out, B2.out⟩
      · rw [decide_eq_false hx] at CC
        have EE : Aside (_) := E1.out (by omega)
        have CD : Aside (∀ W, _) := CC
        clear E1 E2 CC hx
        go_wp2_with (go_at_call 31; refine (CD.out _).mono ?_; rintro e w2 ⟨rfl, hb2⟩; have B2 : Aside (Below w.heap.size w w2) := step_below BB.out hb2; clear hb2)
        go_roundw
        case rel => exact ⟨k + 1, by omega, by go_num, EE.out, B2.out⟩
        case measure => simp [intOf]; omega
    · obtain rfl : k = n := by omega
      have EE : Aside (Found l (-1)) := by
        refine .inr ⟨by decide, ?_⟩
        rw [List.all_eq_true]
        intro f hf
        obtain ⟨j, hj, rfl⟩ := List.getElem_of_mem hf
        exact decide_eq_true (H.out j _ (by rw [← hn.out]; exact hj) (List.getElem?_eq_getElem hj))
      clear H
      go_wp2
      go_ret
      exact ⟨-1, rfl, EE.out, hb⟩
set_option maxHeartbeats 2000000 in
theorem contains_any (a : Option Addr) (n cap : Nat) (l : List Pk.Fld) (w : World) (hl : n ≤ 210) (hn : Hid (l.length = n)) (ha : AtP w a l) (F : Value) (hF : F = .func (.func 31) #[] #[]) :
    Calls Try.prog 30 #[.slice a n cap, F] w fun e w' => e = .returned (.bool (!l.all (fun f => decide (f.num.toNat ≤ 1000)))) ∧ Below w.heap.size w w' := by
  have h := indexFunc_any a n cap l w hl hn ha F hF
  clear ha hn hF
  unfold Found at h
  generalize l.all (fun f => decide (f.num.toNat ≤ 1000)) = t at h ⊢
  go_enter Try.func30, Try.ntmps30
  go_wp2_with fail
  refine h.mono ?_
  rintro e w2 ⟨i, rfl, hf, hb⟩
  have BB : Aside (Below w.heap.size w w2) := hb
  clear h hb
  rcases hf with ⟨h1, rfl⟩ | ⟨h1, rfl⟩
  · go_wp2
    go_ret
    exact ⟨rfl, BB.out⟩
  · have h2 : ¬ 0 ≤ i := by omega
    have e2 : Aside (decide (0 ≤ i) = false) := decide_eq_false h2
    clear h1 h2
    go_wp2
    go_ret
    exact ⟨congrArg (fun z => Ending.returned (.bool z)) e2.out, BB.out⟩
end Ps
end Go.Proofs.Ytkphpdejcmkdeaa
