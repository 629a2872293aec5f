/- The document's own: who voted, for whom, how many. -/
import Derived.Test.YtlekbbpancaenaaVtQ
namespace Go.Proofs.Ytlekbbpancaenaa
open Go.RowKit Go.Shelf

namespace Vt
theorem voted_take {l : Bal} {j id : Nat} {b : ByteArray × Nat} (h : l[j]? = some b) : votedB (l.take (j + 1)) id = (votedB (l.take j) id || Cn.hasS b.2 id) := by
  unfold votedB; rw [List.take_add_one, h]; simp
theorem voted_here {l : Bal} {j id : Nat} {b : ByteArray × Nat} (h : l[j]? = some b) (hb : Cn.hasS b.2 id = true) : votedB l id = true :=
  List.any_eq_true.2 ⟨b, List.mem_of_getElem? h, hb⟩
theorem for_skip {l : Bal} {x : ByteArray} : ∀ {j : Nat}, (∀ (i : Nat) (b : ByteArray × Nat), i < j → l[i]? = some b → b.1 ≠ x) → ∀ b, l[j]? = some b → b.1 = x → forB l x = b.2 := by
  induction l with
  | nil => intro j _ b h; simp at h
  | cons a l ih =>
    intro j hs b hb hx
    cases j with
    | zero => simp at hb; subst hb; simp [forB, hx]
    | succ j =>
      have ha : ¬ a.1 = x := hs 0 a (Nat.succ_pos _) rfl
      simp only [forB, ha, if_false]
      exact ih (j := j) (fun i c hi hc => hs (i + 1) c (by omega) (by simpa using hc)) b (by simpa using hb) hx
theorem for_miss {l : Bal} {x : ByteArray} (h : ∀ (i : Nat) (b : ByteArray × Nat), l[i]? = some b → b.1 ≠ x) : forB l x = 0 := by
  induction l with
  | nil => rfl
  | cons a l ih =>
    have ha : ¬ a.1 = x := h 0 a rfl
    simp only [forB, ha, if_false]
    exact ih fun i b hb => h (i + 1) b (by simpa using hb)
end Vt

set_option maxHeartbeats 4000000 in
set_option maxRecDepth 100000 in
theorem rvoted_any (a : Option Addr) (c : Nat) (l : Vt.Bal) (id : Nat) (w : World) (h : Vt.At w a l) (hs : Vt.Small l) (hn : l.length ≤ 1000) (h8 : id < 256) :
    Calls Try.prog 62 #[.slice a l.length c, .int .u8 (id : Nat)] w fun e w' => e = .returned (.bool (Vt.votedB l id)) ∧ w' = w := by
  have HA : Aside (Vt.At w a l ∧ Vt.Small l) := ⟨h, hs⟩
  have HH : Aside (∀ s W, s < 65536 → Calls Try.prog 40 #[.int .u16 (s : Nat), .int .u8 (id : Nat)] W fun e w' => e = .returned (.bool (Cn.hasS s id)) ∧ w' = W) := fun s W h6 => rhas_any s id W h6 h8
  clear h hs h8
  have RT : Aside (∀ b, Vt.votedB l id = b → (fun (e : Ending) w' => e = .returned (.bool (Vt.votedB l id)) ∧ w' = w) (.returned (.bool b)) w) := fun b hb => ⟨by rw [hb], rfl⟩
  generalize (fun (e : Ending) w' => e = .returned (.bool (Vt.votedB l id)) ∧ w' = w) = Q at RT ⊢
  obtain ⟨n, hn'⟩ : ∃ n : Nat, n = l.length := ⟨_, rfl⟩
  rw [← hn'] at hn ⊢
  have HN : Aside (n = l.length) := hn'
  clear hn'
  go_enter Try.func62, Try.ntmps62
  go_wp2_with fail
  go_loopw [5] (fun i wr => ∃ k, k ≤ n ∧ i = .int .i64 (k : Nat) ∧ wr = w ∧ Aside (Vt.votedB (l.take k) id = false)) (fun i _ => n - (intOf i).toNat)
  case atStart => exact ⟨0, Nat.zero_le _, rfl, rfl, rfl⟩
  case round =>
    obtain ⟨k, hk, rfl, hw, hD⟩ := hrel
    replace hw := hw.symm; subst hw
    by_cases hlt : k < n
    · have t1 : (k : Int) < (n : Int) := by omega
      have t2 : (0 : Int) ≤ (k : Int) := by omega
      obtain ⟨bb, hbb⟩ : ∃ bb, l[k]? = some bb := ⟨_, List.getElem?_eq_getElem (HN.out ▸ hlt)⟩
      obtain ⟨bx, bs⟩ := bb
      obtain ⟨g, of, rfl, o0, o1⟩ := at_cell HA.out.1 hbb
      have S6 := HA.out.2 _ (List.mem_of_getElem? hbb)
      have ST : Aside (Vt.votedB (l.take (k + 1)) id = Cn.hasS bs id) := by show _ = _; rw [Vt.voted_take hbb, hD.out, Bool.false_or]
      have HT : Aside (Cn.hasS bs id = true → Vt.votedB l id = true) := fun ht => Vt.voted_here hbb ht
      have HC : Aside (∀ W, _) := fun W => HH.out bs W S6
      clear hbb S6 HH
      generalize Cn.hasS bs id = t at *
      cases t with
      | true =>
        have Q1 : Aside (Q (.returned (.bool true)) w) := RT.out true (HT.out rfl)
        clear RT
        go_wp2_with fail
        refine (HC.out _).mono ?_; rintro z w1 ⟨rfl, hw⟩
        replace hw := hw.symm; subst hw
        go_wp2
        exact Q1.out
      | false =>
        go_wp2_with fail
        refine (HC.out _).mono ?_; rintro z w1 ⟨rfl, hw⟩
        replace hw := hw.symm; subst hw
        go_wp2
        go_roundw
        case rel => exact ⟨k + 1, by omega, by go_num, by first | rfl | trivial, ST.out⟩
        case measure => simp [intOf]; omega
    · obtain rfl : k = n := by omega
      have E : Vt.votedB l id = false := by have := hD.out; rw [HN.out, List.take_length] at this; exact this
      have Q1 : Aside (Q (.returned (.bool false)) w) := RT.out false E
      clear E HH RT
      go_wp2
      exact Q1.out

set_option maxHeartbeats 4000000 in
set_option maxRecDepth 100000 in
theorem rfor_any (a : Option Addr) (c : Nat) (l : Vt.Bal) (x : ByteArray) (w : World) (h : Vt.At w a l) (hn : l.length ≤ 1000) :
    Calls Try.prog 22 #[.slice a l.length c, .string x] w fun e w' => e = .returned (.int .u16 (Vt.forB l x : Nat)) ∧ w' = w := by
  have HA : Aside (Vt.At w a l) := h
  clear h
  have RT : Aside (∀ b : Nat, Vt.forB l x = b → (fun (e : Ending) w' => e = .returned (.int .u16 (Vt.forB l x : Nat)) ∧ w' = w) (.returned (.int .u16 (b : Int))) w) := fun b hb => ⟨by rw [hb], rfl⟩
  generalize (fun (e : Ending) w' => e = .returned (.int .u16 (Vt.forB l x : Nat)) ∧ w' = w) = Q at RT ⊢
  obtain ⟨n, hn'⟩ : ∃ n : Nat, n = l.length := ⟨_, rfl⟩
  rw [← hn'] at hn ⊢
  have HN : Aside (n = l.length) := hn'
  clear hn'
  go_enter Try.func22, Try.ntmps22
  go_wp2_with fail
  go_loopw [5] (fun i wr => ∃ k, k ≤ n ∧ i = .int .i64 (k : Nat) ∧ wr = w ∧ Aside (∀ (i : Nat) (b : ByteArray × Nat), i < k → l[i]? = some b → b.1 ≠ x)) (fun i _ => n - (intOf i).toNat)
  case atStart => exact ⟨0, Nat.zero_le _, rfl, rfl, fun i b hi => absurd hi (Nat.not_lt_zero _)⟩
  case round =>
    obtain ⟨k, hk, rfl, hw, hD⟩ := hrel
    replace hw := hw.symm; subst hw
    by_cases hlt : k < n
    · have t1 : (k : Int) < (n : Int) := by omega
      have t2 : (0 : Int) ≤ (k : Int) := by omega
      obtain ⟨bb, hbb⟩ : ∃ bb, l[k]? = some bb := ⟨_, List.getElem?_eq_getElem (HN.out ▸ hlt)⟩
      obtain ⟨bx, bs⟩ := bb
      obtain ⟨g, of, rfl, o0, o1⟩ := at_cell HA.out hbb
      have eb := eq_arr bx x
      by_cases hx : bx = x
      · rw [decide_eq_true hx] at eb
        have E := Vt.for_skip hD.out _ hbb hx
        dsimp only at E
        have Q1 : Aside (Q (.returned (.int .u16 (bs : Int))) w) := RT.out bs E
        clear E hx hbb RT
        go_wp2
        exact Q1.out
      · rw [decide_eq_false hx] at eb
        have NX : Aside (∀ (i : Nat) (b : ByteArray × Nat), i < k + 1 → l[i]? = some b → b.1 ≠ x) := fun i b hi hb => by
          by_cases e : i = k
          · subst e; rw [hbb] at hb; obtain rfl := Option.some.inj hb; exact hx
          · exact hD.out i b (by omega) hb
        clear hx hbb
        go_wp2
        go_roundw
        case rel => exact ⟨k + 1, by omega, by go_num, by first | rfl | trivial, NX.out⟩
        case measure => simp [intOf]; omega
    · obtain rfl : k = n := by omega
      have E : Vt.forB l x = 0 := Vt.for_miss fun i b hb => hD.out i b (by rw [HN.out]; exact (List.getElem?_eq_some_iff.1 hb).1) hb
      have Q1 : Aside (Q (.returned (.int .u16 0)) w) := RT.out 0 E
      clear E RT
      go_wp2
      exact Q1.out

theorem rvotes_any (a : Option Addr) (c : Nat) (l : Vt.Bal) (x : ByteArray) (w : World) (h : Vt.At w a l) (hs : Vt.Small l) (hn : l.length ≤ 1000) :
    Calls Try.prog 64 #[.slice a l.length c, .string x] w fun e w' => e = .returned (.int .i64 (Vt.sizeB l x : Nat)) ∧ Below w.heap.size w w' := by
  have hp := rfor_any a c l x w h hn
  have hz : Aside (∀ W, Calls Try.prog 27 #[.int .u16 (Vt.forB l x : Nat)] W fun e w' => e = .returned (.int .i64 (Cn.sizeS (Vt.forB l x) : Nat)) ∧ Below W.heap.size W w') := fun W => rsize_any _ W (Vt.small_for hs x)
  unfold Vt.sizeB
  generalize Cn.sizeS (Vt.forB l x) = r at hz ⊢
  generalize Vt.forB l x = s at *
  generalize l.length = n at *
  clear h hs
  go_enter Try.func64, Try.ntmps64
  go_wp2_with fail
  refine hp.mono ?_; rintro e w1 ⟨rfl, hw⟩
  replace hw := hw.symm; subst hw
  go_wp2_with fail
  refine (hz.out _).mono ?_; rintro e w2 ⟨rfl, hd⟩
  go_wp2
  go_ret
  exact ⟨rfl, hd⟩
end Go.Proofs.Ytlekbbpancaenaa
