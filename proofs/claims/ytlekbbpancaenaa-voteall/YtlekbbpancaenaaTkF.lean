/- Of a talk: its beginning. -/
import Derived.Test.YtlekbbpancaenaaTkB
import Derived.BigQuiet
import Derived.Laws.MakeOwn
namespace Go.Proofs.Ytlekbbpancaenaa
open Go.RowKit Go.Shelf

theorem info35 : (Try.prog.info? 35).map (fun i => (i.zero, i.size, i.bytes)) = some (some (.agg #[.bool false, .bool false, .bool false, .slice none 0 0, .slice none 0 0]), 5, 56) := by kernel_rfl
theorem info9 : (Try.prog.info? 9).map (fun i => (i.zero, i.size, i.bytes)) = some (some (.string ⟨#[]⟩), 1, 16) := by kernel_rfl
theorem info4 : (Try.prog.info? 4).map (fun i => (i.zero, i.size, i.bytes)) = some (some (.bool false), 1, 1) := by kernel_rfl
def Z5 (n : Nat) : Array Value := madeCells #[.bool false, .bool false, .bool false, .slice none 0 0, .slice none 0 0] (n * 5)
def ZS (n : Nat) : Array Value := madeCells #[.string ⟨#[]⟩] n
def ZB (n : Nat) : Array Value := madeCells #[.bool false] n
theorem make62 (n : Nat) (hn : n ≤ 7) (W : World) : (Instr.makeSlice 62 (.int .i64 (n : Int)) (.int .i64 (n : Int))).run Try.prog W = .ok (.slice (some ⟨W.heap.size, 0, none⟩) n n) (W.alloc (.cells (Z5 n) 35)) := by
  obtain ⟨i0, hi, hz0, hz1, hz2⟩ := info_parts info35
  have h := run_make (P := Try.prog) W 62 35 i0 _ Try.underlying62 hi hz0 .i64 .i64 (n : Int) (n : Int) (by omega) (Int.le_refl _) (by rw [hz2]; omega) (by omega)
  simp only [Int.toNat_natCast, hz1] at h
  exact h
theorem make63 (n : Nat) (hn : n ≤ 7) (W : World) : (Instr.makeSlice 63 (.int .i64 (n : Int)) (.int .i64 (n : Int))).run Try.prog W = .ok (.slice (some ⟨W.heap.size, 0, none⟩) n n) (W.alloc (.cells (ZS n) 9)) := by
  obtain ⟨i0, hi, hz0, hz1, hz2⟩ := info_parts info9
  have h := run_make (P := Try.prog) W 63 9 i0 _ Try.underlying63 hi hz0 .i64 .i64 (n : Int) (n : Int) (by omega) (Int.le_refl _) (by rw [hz2]; omega) (by omega)
  simp only [Int.toNat_natCast, hz1, Nat.mul_one] at h
  exact h
theorem make64 (n : Nat) (hn : n ≤ 7) (W : World) : (Instr.makeSlice 64 (.int .i64 (n : Int)) (.int .i64 (n : Int))).run Try.prog W = .ok (.slice (some ⟨W.heap.size, 0, none⟩) n n) (W.alloc (.cells (ZB n) 4)) := by
  obtain ⟨i0, hi, hz0, hz1, hz2⟩ := info_parts info4
  have h := run_make (P := Try.prog) W 64 4 i0 _ Try.underlying64 hi hz0 .i64 .i64 (n : Int) (n : Int) (by omega) (Int.le_refl _) (by rw [hz2]; omega) (by omega)
  simp only [Int.toNat_natCast, hz1, Nat.mul_one] at h
  exact h
theorem z5_get {n i : Nat} (hi : i < n) : (Z5 n)[i * 5]? = some (.bool false) ∧ (Z5 n)[i * 5 + 1]? = some (.bool false) ∧ (Z5 n)[i * 5 + 2]? = some (.bool false) ∧ (Z5 n)[i * 5 + 3]? = some (.slice none 0 0) ∧ (Z5 n)[i * 5 + 4]? = some (.slice none 0 0) := by
  have g : ∀ j, j < 5 → (Z5 n)[i * 5 + j]? = some ((#[.bool false, .bool false, .bool false, .slice none 0 0, .slice none 0 0] : Array Value).getD j default) := fun j hj => by
    have hlt : i * 5 + j < n * 5 := by omega
    have hm : (i * 5 + j) % 5 = j := by omega
    unfold Z5
    simp [madeCells, hlt, hm]
  exact ⟨g 0 (by decide), g 1 (by decide), g 2 (by decide), g 3 (by decide), g 4 (by decide)⟩
theorem zs_get {n i : Nat} (hi : i < n) : (ZS n)[i]? = some (.string ⟨#[]⟩) := by
  unfold ZS; simp [madeCells, hi, Nat.mod_one]
theorem zb_get {n i : Nat} (hi : i < n) : (ZB n)[i]? = some (.bool false) := by
  unfold ZB; simp [madeCells, hi, Nat.mod_one]
theorem talk_new (w : World) (n f frm : Nat) :
    Talk w ((((w.alloc (.cells #[.int .i64 (n : Int), .int .i64 (f : Int), .int .u8 (frm : Int), .slice (some ⟨w.heap.size + 1, 0, none⟩) n n, .slice (some ⟨w.heap.size + 1 + 1, 0, none⟩) n n, .slice (some ⟨w.heap.size + 1 + 1 + 1, 0, none⟩) n n, .slice none 0 0] 67)).alloc (.cells (Z5 n) 35)).alloc (.cells (ZS n) 9)).alloc (.cells (ZB n) 4)) n f frm ⟨fun _ => Vt.Cs.none, fun _ => Vt.none, fun _ => false, []⟩ (w.heap.size + 1) (w.heap.size + 1 + 1) (w.heap.size + 1 + 1 + 1) (.slice none 0 0) (fun _ => none) (fun _ => none) (fun _ => 0) (fun _ => 0) := by
  generalize hP : (Obj.cells #[.int .i64 (n : Int), .int .i64 (f : Int), .int .u8 (frm : Int), .slice (some ⟨w.heap.size + 1, 0, none⟩) n n, .slice (some ⟨w.heap.size + 1 + 1, 0, none⟩) n n, .slice (some ⟨w.heap.size + 1 + 1 + 1, 0, none⟩) n n, .slice none 0 0] 67) = oP
  have b1 : ∀ (W : World) o, Below W.heap.size W (W.alloc o) := fun W o => (Below.refl _ W).alloc (Nat.le_refl _) o
  have hp : ((((w.alloc oP).alloc (.cells (Z5 n) 35)).alloc (.cells (ZS n) 9)).alloc (.cells (ZB n) 4)).heap[w.heap.size]? = some oP := by
    rw [(b1 _ _).block _ (by simp <;> omega), (b1 _ _).block _ (by simp <;> omega), (b1 _ _).block _ (by simp)]
    exact heap_alloc_new w oP
  have hc : ((((w.alloc oP).alloc (.cells (Z5 n) 35)).alloc (.cells (ZS n) 9)).alloc (.cells (ZB n) 4)).heap[w.heap.size + 1]? = some (.cells (Z5 n) 35) := by
    rw [(b1 _ _).block _ (by simp <;> omega), (b1 _ _).block _ (by simp)]
    have := heap_alloc_new (w.alloc oP) (.cells (Z5 n) 35)
    rw [World.size_alloc] at this; exact this
  have hs : ((((w.alloc oP).alloc (.cells (Z5 n) 35)).alloc (.cells (ZS n) 9)).alloc (.cells (ZB n) 4)).heap[w.heap.size + 1 + 1]? = some (.cells (ZS n) 9) := by
    rw [(b1 _ _).block _ (by simp)]
    have := heap_alloc_new ((w.alloc oP).alloc (.cells (Z5 n) 35)) (.cells (ZS n) 9)
    rw [World.size_alloc, World.size_alloc] at this; exact this
  have hd : ((((w.alloc oP).alloc (.cells (Z5 n) 35)).alloc (.cells (ZS n) 9)).alloc (.cells (ZB n) 4)).heap[w.heap.size + 1 + 1 + 1]? = some (.cells (ZB n) 4) := by
    have := heap_alloc_new (((w.alloc oP).alloc (.cells (Z5 n) 35)).alloc (.cells (ZS n) 9)) (.cells (ZB n) 4)
    rw [World.size_alloc, World.size_alloc, World.size_alloc] at this; exact this
  have bl : Below w.heap.size w ((((w.alloc oP).alloc (.cells (Z5 n) 35)).alloc (.cells (ZS n) 9)).alloc (.cells (ZB n) 4)) := ((((Below.refl _ w).alloc (Nat.le_refl _) _).alloc (by simp) _).alloc (by simp; omega) _).alloc (by simp; omega) _
  have sz : ((((w.alloc oP).alloc (.cells (Z5 n) 35)).alloc (.cells (ZS n) 9)).alloc (.cells (ZB n) 4)).heap.size = w.heap.size + 1 + 1 + 1 + 1 := by simp
  generalize ((((w.alloc oP).alloc (.cells (Z5 n) 35)).alloc (.cells (ZS n) 9)).alloc (.cells (ZB n) 4)) = W at *
  subst hP
  exact ⟨cell_of_row W _ 0 _ 67 _ hp, cell_of_row W _ 1 _ 67 _ hp, cell_of_row W _ 2 _ 67 _ hp, cell_of_row W _ 3 _ 67 _ hp, cell_of_row W _ 4 _ 67 _ hp, cell_of_row W _ 5 _ 67 _ hp, cell_of_row W _ 6 _ 67 _ hp, fun j => frozen_of_row W _ j _ 67 hp,
    fun i hi => ⟨(cell_of_row W _ _ _ 35 _ hc).trans (z5_get hi).1, (cell_of_row W _ _ _ 35 _ hc).trans (z5_get hi).2.1, (cell_of_row W _ _ _ 35 _ hc).trans (z5_get hi).2.2.1, (cell_of_row W _ _ _ 35 _ hc).trans (z5_get hi).2.2.2.1, (cell_of_row W _ _ _ 35 _ hc).trans (z5_get hi).2.2.2.2⟩, fun j => frozen_of_row W _ j _ 35 hc,
    fun i hi => (cell_of_row W _ _ _ 9 _ hs).trans (zs_get hi), fun j => frozen_of_row W _ j _ 9 hs, fun i hi => (cell_of_row W _ _ _ 4 _ hd).trans (zb_get hi), fun j => frozen_of_row W _ j _ 4 hd, fun _ _ => .inl rfl, fun _ _ => .inl rfl, fun _ _ => ⟨(fun b hb => nomatch hb), (fun b hb => nomatch hb)⟩, ⟨by omega, by omega, by omega, by omega⟩, WRow.nil _ _, fun _ _ _ _ => ⟨(fun _ e => nomatch e), (fun _ e => nomatch e)⟩, (fun _ _ _ e => nomatch e), bl⟩

theorem w64_nat {a : Nat} (h : a < 300) : wrap64 (a : Int) = (a : Int) := by unfold wrap64; omega
theorem w64_succ {m n : Nat} (h : m < 200) (hn : n = m + 1) : wrap64 ((m : Int) + 1) = (n : Int) := by
  subst hn
  have e : ((m : Int) + 1) = ((m + 1 : Nat) : Int) := rfl
  rw [e]
  exact w64_nat (a := m + 1) (by omega)
theorem tmod_nat {a b c : Nat} (h : c = a % b) : (a : Int).tmod (b : Int) = (c : Int) := by subst h; exact (Int.ofNat_tmod a b).symm
theorem begun_nums {n0 fr0 n f frm : Nat} (hn : n = n0 % 7 + 1) (hf : f = Cn.faulty n) (hfr : frm = fr0 % n) : 1 ≤ n ∧ n ≤ 7 ∧ f ≤ n ∧ frm < n := by
  have a1 : 1 ≤ n := by clear hf hfr; omega
  have a2 : n ≤ 7 := by clear hf hfr; omega
  have a3 := (Vt.num7 a1 a2 hf).1
  exact ⟨a1, a2, Nat.le_of_lt a3, by rw [hfr]; exact Nat.mod_lt _ a1⟩
theorem nat_ne0 {n : Nat} (h : 1 ≤ n) : ((n : Int) == 0) = false := by
  have : ¬ (n : Int) = 0 := by omega
  simpa using this
/-- What begun answers. -/
def BegunPost (w : World) (n f frm : Nat) (body : ByteArray) (e : Ending) (w' : World) : Prop :=
  e = .returned (.pointer (some ⟨w.heap.size, 0, none⟩)) ∧ ∃ vw, Talk w w' n f frm (Vt.Tk.start n f frm body) (w.heap.size + 1) (w.heap.size + 1 + 1) (w.heap.size + 1 + 1 + 1) vw (fun _ => none) (fun _ => none) (fun _ => 0) (fun _ => 0)

set_option maxHeartbeats 16000000 in
set_option maxRecDepth 100000 in
theorem begun_any (n0 fr0 : Nat) (body : ByteArray) (w : World) (h8 : n0 < 256) (h9 : fr0 < 256) (n f frm : Nat) (hn : n = n0 % 7 + 1) (hf : f = Cn.faulty n) (hfr : frm = fr0 % n) :
    Calls Try.prog 23 #[.int .u8 (n0 : Nat), .int .u8 (fr0 : Nat), .string body] w (BegunPost w n f frm body) := by
  have FA : Aside (∀ W, Calls Try.prog 45 #[.int .i64 (n : Int)] W fun e w' => e = .returned (.int .i64 (f : Nat)) ∧ w' = W) := fun W => by rw [hf]; exact rfaulty_any n W
  obtain ⟨n1, n7, fn, hfn⟩ := begun_nums hn hf hfr
  have w1 : wrap64 (n0 : Int) = (n0 : Int) := w64_nat (Nat.lt_trans h8 (by decide))
  have w2 : wrap64 (fr0 : Int) = (fr0 : Int) := w64_nat (Nat.lt_trans h9 (by decide))
  obtain ⟨m, hm⟩ : ∃ m, m = n0 % 7 := ⟨_, rfl⟩
  have e1 : (n0 : Int).tmod 7 = (m : Int) := tmod_nat hm
  have e2 : wrap64 ((m : Int) + 1) = (n : Int) := w64_succ (Nat.lt_of_lt_of_le (by rw [hm]; exact Nat.mod_lt _ (by decide)) (show 7 ≤ 200 by decide)) (by rw [hm]; exact hn)
  have e3 : (fr0 : Int).tmod (n : Int) = (frm : Int) := tmod_nat hfr
  have e4 : ((n : Int) == 0) = false := nat_ne0 n1
  have M1 := make62 n n7
  have M2 := make63 n n7
  have M3 := make64 n n7
  clear hn hf hfr hm h8 h9
  have t1 : (0 : Int) ≤ (frm : Int) := by omega
  have t2 : (frm : Int) < 256 := by omega
  have TN : Aside (∀ q, Talk w (((((w.alloc (.cells #[.int .i64 (n : Int), .int .i64 (f : Int), .int .u8 (frm : Int), .slice (some ⟨w.heap.size + 1, 0, none⟩) n n, .slice (some ⟨w.heap.size + 1 + 1, 0, none⟩) n n, .slice (some ⟨w.heap.size + 1 + 1 + 1, 0, none⟩) n n, .slice none 0 0] 67)).alloc (.cells (Z5 n) 35)).alloc (.cells (ZS n) 9)).alloc (.cells (ZB n) 4)).drewN q) n f frm ⟨fun _ => Vt.Cs.none, fun _ => Vt.none, fun _ => false, []⟩ (w.heap.size + 1) (w.heap.size + 1 + 1) (w.heap.size + 1 + 1 + 1) (.slice none 0 0) (fun _ => none) (fun _ => none) (fun _ => 0) (fun _ => 0)) := fun q => (talk_new w n f frm).later (below_drew (Below.refl _ _) q)
  have HN : Aside (n ≤ 7 ∧ f ≤ n) := ⟨n7, fn⟩
  clear n7 fn n1
  by_cases hff : f ≤ frm
  · have t3 : (f : Int) ≤ (frm : Int) := by omega
    have RT : Aside (∀ w' vw, Talk w w' n f frm ⟨fun _ => Vt.Cs.none, fun _ => Vt.none, fun _ => false, [] ++ Vt.castL f n frm 1 body⟩ (w.heap.size + 1) (w.heap.size + 1 + 1) (w.heap.size + 1 + 1 + 1) vw (fun _ => none) (fun _ => none) (fun _ => 0) (fun _ => 0) → BegunPost w n f frm body (.returned (.pointer (some ⟨w.heap.size, 0, none⟩))) w') := fun w' vw hT => ⟨rfl, vw, by
      unfold Vt.Tk.start; rw [if_pos hff]; exact hT⟩
    generalize BegunPost w n f frm body = Q at RT ⊢
    have CA : Aside (∀ W, Talk w W n f frm ⟨fun _ => Vt.Cs.none, fun _ => Vt.none, fun _ => false, []⟩ (w.heap.size + 1) (w.heap.size + 1 + 1) (w.heap.size + 1 + 1 + 1) (.slice none 0 0) (fun _ => none) (fun _ => none) (fun _ => 0) (fun _ => 0) → Calls Try.prog 46 #[.pointer (some ⟨w.heap.size, 0, none⟩), .int .u8 (frm : Nat), .int .i64 1, .string body] W (CastPost w W n f frm ⟨fun _ => Vt.Cs.none, fun _ => Vt.none, fun _ => false, []⟩ (w.heap.size + 1) (w.heap.size + 1 + 1) (w.heap.size + 1 + 1 + 1) (.slice none 0 0) (fun _ => none) (fun _ => none) (fun _ => 0) (fun _ => 0) (Vt.castL f n frm 1 body))) := fun W hT => cast_any w n f frm ⟨fun _ => Vt.Cs.none, fun _ => Vt.none, fun _ => false, []⟩ (w.heap.size + 1) (w.heap.size + 1 + 1) (w.heap.size + 1 + 1 + 1) (.slice none 0 0) (fun _ => none) (fun _ => none) (fun _ => 0) (fun _ => 0) frm 1 body W HN.out.1 HN.out.2 (Nat.zero_le _) hT
    clear hff
    go_enter Try.func23, Try.ntmps23
    go_wp2_with fail
    refine (FA.out _).mono ?_
    rintro z w3 ⟨rfl, hw⟩
    replace hw := hw.symm; subst hw
    clear FA
    go_wp2_with fail
    go_quiet (fail)
    go_wp2_with fail
    refine (CA.out _ (TN.out _)).mono ?_
    rintro z w9 ⟨rfl, vw, hT, -, -, -⟩
    have Q1 : Aside (Q _ _) := RT.out w9 vw hT
    clear RT hT CA
    go_wp2
    exact Q1.out
  · have t3 : ¬ (f : Int) ≤ (frm : Int) := by omega
    have RT : Aside (∀ w', Talk w w' n f frm ⟨fun _ => Vt.Cs.none, fun _ => Vt.none, fun _ => false, []⟩ (w.heap.size + 1) (w.heap.size + 1 + 1) (w.heap.size + 1 + 1 + 1) (.slice none 0 0) (fun _ => none) (fun _ => none) (fun _ => 0) (fun _ => 0) → BegunPost w n f frm body (.returned (.pointer (some ⟨w.heap.size, 0, none⟩))) w') := fun w' hT => ⟨rfl, _, by
      unfold Vt.Tk.start; rw [if_neg hff]; exact hT⟩
    generalize BegunPost w n f frm body = Q at RT ⊢
    have Q1 : Aside (∀ q, Q (.returned (.pointer (some ⟨w.heap.size, 0, none⟩))) (((((w.alloc (.cells #[.int .i64 (n : Int), .int .i64 (f : Int), .int .u8 (frm : Int), .slice (some ⟨w.heap.size + 1, 0, none⟩) n n, .slice (some ⟨w.heap.size + 1 + 1, 0, none⟩) n n, .slice (some ⟨w.heap.size + 1 + 1 + 1, 0, none⟩) n n, .slice none 0 0] 67)).alloc (.cells (Z5 n) 35)).alloc (.cells (ZS n) 9)).alloc (.cells (ZB n) 4)).drewN q)) := fun q => RT.out _ (TN.out q)
    clear TN hff RT
    go_enter Try.func23, Try.ntmps23
    go_wp2_with fail
    refine (FA.out _).mono ?_
    rintro z w3 ⟨rfl, hw⟩
    replace hw := hw.symm; subst hw
    clear FA
    go_wp2_with fail
    go_quiet (fail)
    go_wp2
    exact Q1.out _
end Go.Proofs.Ytlekbbpancaenaa
