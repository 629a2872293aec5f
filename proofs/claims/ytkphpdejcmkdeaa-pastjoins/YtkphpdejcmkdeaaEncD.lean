/- What Encode gives, of any fields: their bytes, or the error. -/
import Derived.Test.YtkphpdejcmkdeaaEncC
namespace Go.Proofs.Ytkphpdejcmkdeaa
open Go.RowKit

/-- One field's four cells. -/
def FldAt (w : World) (b o : Nat) (f : Pk.Fld) : Prop :=
  w.cell? ⟨b, o, none⟩ = some (.int .i64 f.kind) ∧ w.cell? ⟨b, o + 1, none⟩ = some (.int .u64 (f.num.toNat : Int)) ∧
  w.cell? ⟨b, o + 2, none⟩ = some (.string f.text) ∧ w.cell? ⟨b, o + 3, none⟩ = some (.float .f64 f.real.toNat)

/-- Fields lie behind an address: four cells a field. -/
def AtP (w : World) (a : Option Addr) (l : List Pk.Fld) : Prop :=
  l = [] ∨ ∃ b off, a = some ⟨b, off, none⟩ ∧ ∀ j f, l[j]? = some f → FldAt w b (off + j * 4) f

theorem body_le {f : Pk.Fld} (h : Pk.may f = true) : (Pk.encB f).length ≤ 2012 := by
  have nl : ∀ x : Nat, x < 18446744073709551616 → (Pk.numB x).length ≤ 9 := fun x hx => by rw [numB_length]; have := nb_le x hx; omega
  obtain ⟨k, n, s, x⟩ := f
  by_cases h1 : k = 1
  · subst h1
    rw [Pk.encB_1, List.length_cons]
    have := nl _ n.toNat_lt
    omega
  · by_cases h2 : k = 2
    · subst h2
      unfold Pk.may at h
      simp only at h
      rw [if_neg (by decide), if_pos trivial] at h
      simp only [Bool.and_eq_true, decide_eq_true_eq] at h
      rw [Pk.encB_2, List.length_cons, List.length_append]
      have e : s.data.toList.length = s.size := Array.length_toList
      have := nl s.size (by omega)
      omega
    · have h3 : k = 3 := by
        unfold Pk.may at h
        simp only at h
        rw [if_neg h1, if_neg h2] at h
        by_cases h3 : k = 3
        · exact h3
        · rw [if_neg h3] at h; cases h
      subst h3
      rw [Pk.encB_3, List.length_cons, Pk.lo_length]
      omega

theorem fsB_le : ∀ {l : List Pk.Fld}, l.all Pk.may = true → (Pk.fsB l).length ≤ l.length * 2012
  | [], _ => by simp [Pk.fsB]
  | f :: l, h => by
    rw [List.all_cons, Bool.and_eq_true] at h
    have h1 := body_le h.1
    have h2 := fsB_le h.2
    have e : Pk.fsB (f :: l) = Pk.encB f ++ Pk.fsB l := by simp [Pk.fsB]
    rw [e, List.length_append, List.length_cons]
    omega

/-- The bytes when so many fields are laid. -/
def pre (l : List Pk.Fld) (k : Nat) : List UInt8 := UInt8.ofNat l.length :: Pk.fsB (l.take k)

theorem pre_next (l : List Pk.Fld) (k : Nat) (h : k < l.length) : pre l (k + 1) = pre l k ++ Pk.encB l[k] := by
  unfold pre Pk.fsB
  rw [List.take_succ_eq_append_getElem h, List.flatMap_append, List.cons_append]
  simp
theorem pre_all (l : List Pk.Fld) : pre l l.length = Pk.allB l := by unfold pre Pk.allB; rw [List.take_length]
theorem all_take {l : List Pk.Fld} (h : l.all Pk.may = true) (k : Nat) : (l.take k).all Pk.may = true := by
  rw [List.all_eq_true] at h ⊢
  exact fun x hx => h x (List.mem_of_mem_take hx)
theorem pre_le (l : List Pk.Fld) (k : Nat) (hk : k ≤ 200) (h : l.all Pk.may = true) : (pre l k).length ≤ 500000 := by
  have := fsB_le (all_take h k)
  rw [List.length_take] at this
  unfold pre
  rw [List.length_cons]
  omega
theorem may_of_all {l : List Pk.Fld} (h : l.all Pk.may = true) (k : Nat) (hk : k < l.length) : Pk.may l[k] = true := List.all_eq_true.1 h _ (List.getElem_mem hk)

theorem fldAt_later {w w' : World} {B b o : Nat} {f : Pk.Fld} (hb : Below B w w') (hB : B = w.heap.size) (h : FldAt w b o f) : FldAt w' b o f := by
  subst hB
  exact ⟨cell_later hb h.1, cell_later hb h.2.1, cell_later hb h.2.2.1, cell_later hb h.2.2.2⟩

theorem store_flt (a : Addr) (m : Mode) (b : Nat) (w : World) : (store a (.float .f64 b) m).run Try.prog w = stored Try.prog w a (.float .f64 b) m := run_store Try.prog w a _ m rfl

/-- What Encode is to give. -/
def EncPost (l : List Pk.Fld) (w : World) (e : Ending) (w' : World) : Prop :=
  ∃ v, e = .returned (.tuple #[v, .int .i64 (Pk.encE l : Nat)]) ∧ w'.ownsRow w.heap.size 5 1 v (Pk.encR l).length (bcs (Pk.encR l)) ∧ Below w.heap.size w w'

theorem encPost_arg {l : List Pk.Fld} {w w' : World} (h : l.all Pk.may = false) (hb : Below w.heap.size w w') : EncPost l w (.returned (.tuple #[.slice none 0 0, .int .i64 2])) w' := by
  have e : Pk.encE l = 2 := by unfold Pk.encE; rw [if_pos h]
  have r : Pk.encR l = [] := by unfold Pk.encR; rw [e]; rfl
  unfold EncPost
  rw [e, r]
  exact ⟨_, rfl, World.ownsRow_nil _ _ _ _, hb⟩
theorem encPost_big {l : List Pk.Fld} {w w' : World} (h : l.all Pk.may = true) (h2 : 200 < l.length ∨ 8000 < (Pk.allB l).length) (hb : Below w.heap.size w w') : EncPost l w (.returned (.tuple #[.slice none 0 0, .int .i64 3])) w' := by
  have e : Pk.encE l = 3 := by
    unfold Pk.encE
    rw [if_neg (by rw [h]; decide)]
    split
    · rfl
    · rw [if_pos (by omega)]
  have r : Pk.encR l = [] := by unfold Pk.encR; rw [e]; rfl
  unfold EncPost
  rw [e, r]
  exact ⟨_, rfl, World.ownsRow_nil _ _ _ _, hb⟩
theorem encPost_ok {l : List Pk.Fld} {w w' : World} {v : Value} {n : Nat} (h : l.all Pk.may = true) (h1 : l.length ≤ 200) (hn : n = (pre l l.length).length) (h2 : n ≤ 8000) (ho : w'.ownsRow w.heap.size 5 1 v n (bcs (pre l l.length))) (hb : Below w.heap.size w w') : EncPost l w (.returned (.tuple #[v, .int .i64 0])) w' := by
  rw [pre_all] at ho hn
  subst hn
  have e : Pk.encE l = 0 := Pk.encE_zero.2 ⟨h, h1, h2⟩
  have r : Pk.encR l = Pk.allB l := by unfold Pk.encR; rw [if_pos e]
  unfold EncPost
  rw [e, r]
  exact ⟨_, rfl, ho, hb⟩

set_option maxRecDepth 20000 in
set_option maxHeartbeats 4000000 in
theorem encode_any (a : Option Addr) (cap N : Nat) (l : List Pk.Fld) (w : World) (hN : Hid (l.length = N)) (hc : AtP w a l) (hl : N < 140737488355328) :
    Calls Try.prog 22 #[.slice a N cap] w (EncPost l w) := by
  have C : Aside (AtP w a l) := hc
  have hsf := fun a m b W => store_flt a m b W
  have M : Aside (∀ k (h : k < l.length) w1, _) := fun k h w1 => mayBe_any l[k] w1
  have PA : Aside (∀ w', l.all Pk.may = false → Below w.heap.size w w' → _) := fun w' h hb => @encPost_arg l w w' h hb
  have PB : Aside (∀ w', _ → _ → Below w.heap.size w w' → _) := fun w' h h2 hb => @encPost_big l w w' h h2 hb
  have PO : Aside (∀ w' v n, _ → _ → _ → _ → _ → Below w.heap.size w w' → _) := fun w' v n h h1 hn h2 ho hb => @encPost_ok l w w' v n h h1 hn h2 ho hb
  generalize EncPost l w = Q at PA PB PO ⊢
  obtain ⟨i0, hi, hz0, hz1, hz2⟩ := info_parts info5
  have I : Aside (Try.prog.info? 5 = some i0 ∧ i0.zero = some (.int .u8 0) ∧ i0.size = 1 ∧ i0.bytes = 1) := ⟨hi, hz0, hz1, hz2⟩
  clear hc hi hz0 hz1 hz2
  go_enter Try.func22, Try.ntmps22
  go_wp2_with fail
  go_loopw [2, 3, 11] (fun r2 r3 i wr => ∃ k : Nat, k ≤ N ∧ r2 = .slice none 0 0 ∧ r3 = .int .i64 0 ∧ i = .int .i64 k ∧ (l.take k).all Pk.may = true ∧ Below w.heap.size w wr) (fun _ _ i _ => N - (intOf i).toNat)
  case atStart => exact ⟨0, Nat.zero_le _, rfl, rfl, rfl, by simp, Below.refl _ _⟩
  case round =>
    obtain ⟨k, hk, rfl, rfl, rfl, hall, hb⟩ := hrel
    have H : Aside ((l.take k).all Pk.may = true) := hall
    clear hall
    by_cases hlt : k < N
    · have hk' : k < l.length := by rw [hN.out]; exact hlt
      rcases C.out with he | ⟨b, off, rfl, hcs⟩
      · exfalso; rw [he] at hk'; simp at hk'
      obtain ⟨c0, c1, c2, c3⟩ := fldAt_later hb rfl (hcs k l[k] (List.getElem?_eq_getElem hk'))
      have M1 : Aside (∀ w1, _) := fun w1 => M.out k hk' w1
      have H2 : Aside (Pk.may l[k] = true → (l.take (k + 1)).all Pk.may = true) := by
        intro h
        rw [List.take_succ_eq_append_getElem hk', List.all_append, H.out, List.all_cons, h]; rfl
      have H3 : Aside (Pk.may l[k] = false → l.all Pk.may = false) := by
        intro h
        cases hq : l.all Pk.may with
        | false => rfl
        | true => rw [may_of_all hq k hk'] at h; cases h
      generalize l[k].kind = fk at c0 M1
      generalize l[k].num.toNat = fn at c1 M1
      generalize l[k].text = ft at c2 M1
      generalize l[k].real.toNat = fr at c3 M1
      generalize Pk.may l[k] = mb at M1 H2 H3
      clear hcs H
      cases mb with
      | true =>
        go_wp2_with (go_at_call 34; refine (M1.out _).mono ?_; rintro e w2 ⟨rfl, hb2⟩)
        have hbb : Below w.heap.size w w2 := (hb.alloc hb.size _).trans (hb2.mono (by have := hb.size; simp; omega))
        clear hb2 hb c0 c1 c2 c3
        go_roundw
        case rel => exact ⟨k + 1, by omega, rfl, rfl, by go_num, H2.out trivial, hbb⟩
        case measure => simp [intOf]; omega
      | false =>
        go_wp2_with (go_at_call 34; refine (M1.out _).mono ?_; rintro e w2 ⟨rfl, hb2⟩)
        have hbb : Below w.heap.size w w2 := (hb.alloc hb.size _).trans (hb2.mono (by have := hb.size; simp; omega))
        have Q1 := PA.out w2 (H3.out trivial) hbb
        exact Q1
    · obtain rfl : k = N := by omega
      have HA : Aside (l.all Pk.may = true) := by have := H.out; rw [← hN.out, List.take_length] at this; exact this
      clear H
      by_cases h200 : 200 < k
      · have Q1 := PB.out wr HA.out (.inl (by rw [hN.out]; exact h200)) hb
        have t1 : (200 : Int) < (k : Int) := by omega
        go_wp2
        exact Q1
      · have t1 : ¬ (200 : Int) < (k : Int) := by omega
        have A : Aside (∀ j (h : j < l.length) v n bs w1, _ → _ → _ → _) := fun j h v n bs w1 hn hB hv => appendField_any l[j] v n w.heap.size bs w1 (may_of_all HA.out j h) hn hB hv
        have E0 : Aside (bcs (pre l 0) = [Value.int .u8 (k : Int)]) := by
          unfold Aside pre
          rw [hN.out]
          show [Value.int .u8 _] = _
          rw [byte_cell]; congr 2; omega
        have EN : Aside (∀ j (h : j < l.length), pre l (j + 1) = pre l j ++ Pk.encB l[j]) := fun j h => pre_next l j h
        have PL : Aside (∀ j, j ≤ k → (pre l j).length ≤ 500000) := fun j hj => pre_le l j (by omega) HA.out
        clear M PA
        obtain ⟨w0, hw0⟩ : ∃ x, x = wr := ⟨wr, rfl⟩
        subst hw0
        go_wp2_with fail
        go_loopw [6, 28] (fun v i wq => ∃ j : Nat, j ≤ k ∧ i = .int .i64 j ∧ wq.ownsRow w.heap.size 5 1 v (pre l j).length (bcs (pre l j)) ∧ Below w.heap.size w wq) (fun _ i _ => k - (intOf i).toNat)
        case atStart =>
          refine ⟨0, Nat.zero_le _, rfl, ?_, hb.alloc hb.size _⟩
          have := World.ownsRow_lit (base := w.heap.size) (e := 5) (size := 1) w0 #[Value.int .u8 (k : Int)] 1 hb.size (by decide) rfl
          rw [E0.out]
          exact this
        case round =>
          clear hb
          obtain ⟨j, hj, rfl, hown, hb⟩ := hrel
          have O : Aside (wr.ownsRow w.heap.size 5 1 u6 (pre l j).length (bcs (pre l j))) := hown
          clear hown
          by_cases hlt2 : j < k
          · have hk' : j < l.length := by rw [hN.out]; exact hlt2
            rcases C.out with he | ⟨b, off, rfl, hcs⟩
            · exfalso; rw [he] at hk'; simp at hk'
            obtain ⟨c0, c1, c2, c3⟩ := fldAt_later hb rfl (hcs j l[j] (List.getElem?_eq_getElem hk'))
            have A1 : Aside (∀ w1, _ → _ → _) := fun w1 h1 h2 => A.out j hk' u6 (pre l j).length (pre l j) w1 (by have := PL.out j hj; omega) h1 h2
            rw [← List.length_append, ← EN.out j hk'] at A1
            generalize l[j].kind = fk at c0 A1
            generalize l[j].num.toNat = fn at c1 A1
            generalize l[j].text = ft at c2 A1
            generalize l[j].real.toNat = fr at c3 A1
            clear hcs A
            go_wp2_with fail
            refine (A1.out _ (by have := hb.size; simp; omega) (O.out.alloc _)).mono ?_
            rintro e w2 ⟨v2, rfl, hown2, hb2⟩
            go_wp2
            have hbb : Below w.heap.size w w2 := (hb.alloc hb.size _).trans hb2
            clear hb2 hb c0 c1 c2 c3
            go_roundw
            case rel => exact ⟨j + 1, by omega, by go_num, hown2, hbb⟩
            case measure => simp [intOf]; omega
          · obtain rfl : j = k := by omega
            rcases O.out.2 with ⟨rfl, hz⟩ | ⟨g, gc, cur, rfl, _⟩
            · exfalso; simp [pre] at hz
            have hlen : Hid ((pre l j).length = (pre l l.length).length) := by show _ = _; rw [hN.out]
            generalize hP : (pre l j).length = p at O hlen
            by_cases h8 : 8000 < p
            · have Q1 := PB.out wr HA.out (.inr (by rw [← pre_all, hN.out, hP]; exact h8)) hb
              have t2 : (8000 : Int) < (p : Int) := by omega
              clear hP
              go_wp2
              exact Q1
            · have O2 := O.out
              rw [← hN.out] at O2
              have Q1 := PO.out wr _ p HA.out (by rw [hN.out]; omega) hlen.out (by omega) O2 hb
              have t2 : ¬ (8000 : Int) < (p : Int) := by omega
              clear hP O2
              go_wp2
              exact Q1

end Go.Proofs.Ytkphpdejcmkdeaa
