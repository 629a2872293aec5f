/- What Of gives, the program's and the document's own, and whether two rows of members are the same. -/
import Derived.Test.YtogieccgblojdaaRwA
namespace Go.Proofs.Ytogieccgblojdaa
open Go.RowKit

/-- Of's answer, as the program's value. -/
def ofV : Option Nat → Value
  | some t => .tuple #[.int .u16 (t : Int), .bool true]
  | none => .tuple #[.int .u16 0, .bool false]

namespace Cn
theorem of_big {s x : Nat} {l : List Nat} (h : 15 < x) : ofS s (x :: l) = none := by unfold ofS; rw [decide_eq_true h]; rfl
theorem of_twice {s x : Nat} {l : List Nat} (h : hasS s x = true) : ofS s (x :: l) = none := by unfold ofS; rw [h]; simp
theorem of_new {s x : Nat} {l : List Nat} (h1 : ¬ 15 < x) (h2 : hasS s x = false) : ofS s (x :: l) = ofS (withS s x) l := by
  rw [show ofS s (x :: l) = if decide (15 < x) || hasS s x then none else ofS (withS s x) l from rfl, h2, decide_eq_false h1]; rfl
end Cn

set_option maxHeartbeats 2000000 in
theorem of_any (a : Option Addr) (n cap : Nat) (l : List Nat) (w : World) (hl : l.length = n) (hbig : n ≤ 9223372036854775807) (hat : AtN w a l) :
    Calls Try.prog 19 #[.slice a n cap] w fun e w' => e = .returned (ofV (Cn.ofS 0 l)) ∧ w' = w := by
  have R0 : Aside (Cn.ofS 0 l = none → (fun (e : Ending) (w' : World) => e = .returned (ofV (Cn.ofS 0 l)) ∧ w' = w) (.returned (.tuple #[.int .u16 0, .bool false])) w) := by
    intro h; rw [h]; exact ⟨rfl, rfl⟩
  have R1 : Aside (∀ t : Nat, Cn.ofS 0 l = some t → (fun (e : Ending) (w' : World) => e = .returned (ofV (Cn.ofS 0 l)) ∧ w' = w) (.returned (.tuple #[.int .u16 (t : Int), .bool true])) w) := by
    intro t h; rw [h]; exact ⟨rfl, rfl⟩
  generalize (fun (e : Ending) (w' : World) => e = .returned (ofV (Cn.ofS 0 l)) ∧ w' = w) = Q at R0 R1 ⊢
  have L : Hid (l.length = n) := hl
  have A : Aside (AtN w a l) := hat
  clear hl hat
  go_enter Try.func19, Try.ntmps19
  go_wp2_with fail
  go_loop [4, 9] (fun v i => ∃ j s : Nat, j ≤ n ∧ i = .int .i64 j ∧ v = .int .u16 s ∧ s < 65536 ∧ Cn.ofS 0 l = Cn.ofS s (l.drop j)) (fun _ i => n - (intOf i).toNat)
  case atStart => exact ⟨0, 0, Nat.zero_le _, rfl, rfl, by omega, rfl⟩
  case round =>
    obtain ⟨j, s, hj, rfl, rfl, hs, he⟩ := hrel
    have S : Hid (s < 65536) := hs
    have E : Aside (Cn.ofS 0 l = Cn.ofS s (l.drop j)) := he
    clear hs he
    by_cases hlt : j < n
    · have hjl : j < l.length := by rw [L.out]; exact hlt
      have D : Aside (Cn.ofS 0 l = Cn.ofS s (l[j] :: l.drop (j + 1))) := by
        show _ = _
        rw [E.out, List.drop_eq_getElem_cons hjl]
      rcases A.out with e | ⟨b, off, rfl, hcs⟩
      · rw [e] at hjl; simp at hjl
      have c0 := hcs j l[j] (List.getElem?_eq_getElem hjl)
      have hH := has_any s l[j] w S.out
      have hW := with_any s l[j] w S.out
      generalize l[j] = x at *
      have t1 : (j : Int) < (n : Int) := by omega
      have t0 : (0 : Int) ≤ (j : Int) := by omega
      clear hcs E A
      by_cases g1 : 15 < x
      · have Q0 := R0.out (by rw [D.out, Cn.of_big g1])
        have t2 : (16 : Int) ≤ (x : Int) := by omega
        clear R0 R1 D hH hW g1
        go_wp2
        exact Q0
      · have t2 : ¬ (16 : Int) ≤ (x : Int) := by omega
        cases hb : Cn.hasS s x with
        | true =>
          have Q0 := R0.out (by rw [D.out, Cn.of_twice hb])
          rw [hb] at hH
          clear R0 R1 D hW g1 hb
          go_wp2_with fail
          refine hH.mono ?_; rintro e w' ⟨rfl, hw⟩
          replace hw := hw.symm; subst hw
          go_wp2
          exact Q0
        | false =>
          have D2 : Aside (Cn.ofS 0 l = Cn.ofS (Cn.withS s x) (l.drop (j + 1))) := by
            show _ = _
            rw [D.out, Cn.of_new g1 hb]
          have S2 : Hid (Cn.withS s x < 65536) := Cn.with_small S.out
          rw [hb] at hH
          generalize Cn.withS s x = t at *
          clear R0 R1 D g1 hb
          go_wp2_with fail
          refine hH.mono ?_; rintro e w' ⟨rfl, hw⟩
          replace hw := hw.symm; subst hw
          go_wp2_with fail
          refine hW.mono ?_; rintro e w' ⟨rfl, hw⟩
          replace hw := hw.symm; subst hw
          go_wp2
          go_round
          case rel => exact ⟨j + 1, t, by omega, by go_num, rfl, S2.out, D2.out⟩
          case measure => simp [intOf]; omega
    · obtain rfl : j = n := by omega
      have Q1 := R1.out s (by rw [E.out, List.drop_of_length_le (by rw [L.out]; exact Nat.le_refl _)]; rfl)
      clear R0 R1 E
      go_wp2
      exact Q1

set_option maxHeartbeats 2000000 in
theorem rof_any (a : Option Addr) (n cap : Nat) (l : List Nat) (w : World) (hl : l.length = n) (hbig : n ≤ 9223372036854775807) (hat : AtN w a l) (h8 : ∀ x ∈ l, x < 256) :
    Calls Try.prog 20 #[.slice a n cap] w fun e w' => e = .returned (ofV (Cn.ofS 0 l)) ∧ w' = w := by
  have R0 : Aside (Cn.ofS 0 l = none → (fun (e : Ending) (w' : World) => e = .returned (ofV (Cn.ofS 0 l)) ∧ w' = w) (.returned (.tuple #[.int .u16 0, .bool false])) w) := by
    intro h; rw [h]; exact ⟨rfl, rfl⟩
  have R1 : Aside (∀ t : Nat, Cn.ofS 0 l = some t → (fun (e : Ending) (w' : World) => e = .returned (ofV (Cn.ofS 0 l)) ∧ w' = w) (.returned (.tuple #[.int .u16 (t : Int), .bool true])) w) := by
    intro t h; rw [h]; exact ⟨rfl, rfl⟩
  generalize (fun (e : Ending) (w' : World) => e = .returned (ofV (Cn.ofS 0 l)) ∧ w' = w) = Q at R0 R1 ⊢
  have L : Hid (l.length = n) := hl
  have A : Aside (AtN w a l) := hat
  have H8 : Aside (∀ x ∈ l, x < 256) := h8
  clear hl hat h8
  go_enter Try.func20, Try.ntmps20
  go_wp2_with fail
  go_loop [4, 5] (fun v i => ∃ j s : Nat, j ≤ n ∧ i = .int .i64 j ∧ v = .int .u16 s ∧ s < 65536 ∧ Cn.ofS 0 l = Cn.ofS s (l.drop j)) (fun _ i => n - (intOf i).toNat)
  case atStart => exact ⟨0, 0, Nat.zero_le _, rfl, rfl, by omega, rfl⟩
  case round =>
    obtain ⟨j, s, hj, rfl, rfl, hs, he⟩ := hrel
    have S : Hid (s < 65536) := hs
    have E : Aside (Cn.ofS 0 l = Cn.ofS s (l.drop j)) := he
    clear hs he
    by_cases hlt : j < n
    · have hjl : j < l.length := by rw [L.out]; exact hlt
      have D : Aside (Cn.ofS 0 l = Cn.ofS s (l[j] :: l.drop (j + 1))) := by
        show _ = _
        rw [E.out, List.drop_eq_getElem_cons hjl]
      rcases A.out with e | ⟨b, off, rfl, hcs⟩
      · rw [e] at hjl; simp at hjl
      have c0 := hcs j l[j] (List.getElem?_eq_getElem hjl)
      have hx8 := H8.out l[j] (List.getElem_mem hjl)
      have hH := rhas_any s l[j] w S.out hx8
      have hW := rwith_any s l[j] w S.out hx8
      generalize l[j] = x at *
      have t1 : (j : Int) < (n : Int) := by omega
      have t0 : (0 : Int) ≤ (j : Int) := by omega
      clear hcs E A H8
      by_cases g1 : 15 < x
      · have Q0 := R0.out (by rw [D.out, Cn.of_big g1])
        have t2 : (15 : Int) < (x : Int) := by omega
        clear R0 R1 D hH hW g1
        go_wp2
        exact Q0
      · have t2 : ¬ (15 : Int) < (x : Int) := by omega
        cases hb : Cn.hasS s x with
        | true =>
          have Q0 := R0.out (by rw [D.out, Cn.of_twice hb])
          rw [hb] at hH
          clear R0 R1 D hW g1 hb
          go_wp2_with fail
          refine hH.mono ?_; rintro e w' ⟨rfl, hw⟩
          replace hw := hw.symm; subst hw
          go_wp2
          exact Q0
        | false =>
          have D2 : Aside (Cn.ofS 0 l = Cn.ofS (Cn.withS s x) (l.drop (j + 1))) := by
            show _ = _
            rw [D.out, Cn.of_new g1 hb]
          have S2 : Hid (Cn.withS s x < 65536) := Cn.with_small S.out
          rw [hb] at hH
          generalize Cn.withS s x = t at *
          clear R0 R1 D g1 hb
          go_wp2_with fail
          refine hH.mono ?_; rintro e w' ⟨rfl, hw⟩
          replace hw := hw.symm; subst hw
          go_wp2_with fail
          refine hW.mono ?_; rintro e w' ⟨rfl, hw⟩
          replace hw := hw.symm; subst hw
          go_wp2
          go_round
          case rel => exact ⟨j + 1, t, by omega, by go_num, rfl, S2.out, D2.out⟩
          case measure => simp [intOf]; omega
    · obtain rfl : j = n := by omega
      have Q1 := R1.out s (by rw [E.out, List.drop_of_length_le (by rw [L.out]; exact Nat.le_refl _)]; rfl)
      clear R0 R1 E
      go_wp2
      exact Q1

set_option maxHeartbeats 2000000 in
/-- Two rows that hold the same. -/
theorem same_yes (a c : Option Addr) (n cap ccap : Nat) (l : List Nat) (w : World) (hn : l.length = n) (h1 : AtN w a l) (h2 : AtN w c l) (hbig : n ≤ 4000) :
    Calls Try.prog 29 #[.slice a n cap, .slice c n ccap] w fun e w' => e = .returned (.bool true) ∧ Below w.heap.size w w' := by
  have HN : Hid (l.length = n) := hn
  have C : Aside (AtN w a l ∧ AtN w c l) := ⟨h1, h2⟩
  clear h1 h2 hn
  go_enter Try.func29, Try.ntmps29
  go_wp2_with fail
  go_loopw [13] (fun i wr => ∃ j : Nat, j ≤ n ∧ i = .int .i64 j ∧ Drew w wr) (fun i _ => n - (intOf i).toNat)
  case atStart => exact ⟨0, Nat.zero_le _, rfl, 0, rfl⟩
  case round =>
    obtain ⟨j, hj, rfl, hb⟩ := hrel
    by_cases hlt : j < n
    · have hjl : j < l.length := by rw [HN.out]; exact hlt
      obtain ⟨C1, C2⟩ := C.out
      rcases C1 with e | ⟨b, off, rfl, hcs⟩
      · rw [e] at hjl; simp at hjl
      rcases C2 with e | ⟨b2, off2, rfl, hcs2⟩
      · rw [e] at hjl; simp at hjl
      have c0 := drew_cell hb (hcs j l[j] (List.getElem?_eq_getElem hjl))
      have d0 := drew_cell hb (hcs2 j l[j] (List.getElem?_eq_getElem hjl))
      generalize l[j] = x at *
      have t1 : (j : Int) < (n : Int) := by omega
      have t0 : (0 : Int) ≤ (j : Int) := by omega
      clear hcs hcs2 C
      go_wp2_with fail
      go_quiet (fail)
      go_wp2
      have hbb : ∀ q, Drew w (wr.drewN q) := fun q => drew_more hb q
      go_roundw
      case rel => exact ⟨j + 1, by omega, by go_num, hbb _⟩
      case measure => simp [intOf]; omega
    · obtain rfl : j = n := by omega
      have B := drew_below hb
      go_wp2
      go_ret
      exact ⟨rfl, B⟩

end Go.Proofs.Ytogieccgblojdaa
