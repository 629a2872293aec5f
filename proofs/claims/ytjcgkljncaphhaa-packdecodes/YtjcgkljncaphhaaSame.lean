/- What Same gives: whether fields are the very same. -/
import Derived.Test.YtjcgkljncaphhaaOwn2
import Derived.Laws.StructEq
namespace Go.Proofs.Ytjcgkljncaphhaa
open Go.RowKit

/-- Two fields are told apart. -/
theorem neq48 (k k' : Int) (n n' r r' : Nat) (s s' : ByteArray) (w : World) :
    (binOp .neq 48 (.agg #[.int .i64 k, .int .u64 (n : Int), .string s, .int .u64 (r : Int)]) (.agg #[.int .i64 k', .int .u64 (n' : Int), .string s', .int .u64 (r' : Int)])).run Try.prog w =
      .ok (.bool (!(decide (k = k') && decide (n = n') && decide (s = s') && decide (r = r')))) w := by
  have u3 := Try.underlying3
  have a3 := Try.isAgg3
  have z3 := Try.sizeOf3
  have u46 := Try.underlying46
  have a46 := Try.isAgg46
  have z46 := Try.sizeOf46
  have u9 := Try.underlying9
  have a9 := Try.isAgg9
  have z9 := Try.sizeOf9
  have hS : Try.prog.underlying 48 = some (.struct (Try.prog.fieldsOf 48)) := by kernel_rfl
  have hp : Try.prog.stoodInHeld 48 = false := by kernel_rfl
  have hs : (s.toList == s'.toList) = decide (s = s') := by
    rw [ByteArray.toList_eq, ByteArray.toList_eq]
    by_cases h : s = s'
    · subst h; simp
    · rw [decide_eq_false h]
      have : ¬ s.data.toList = s'.data.toList := fun e => h (by cases s; cases s'; simp at e; rw [e])
      simpa using this
  rw [run_neq_struct, show (10000 : Nat) = 9999 + 1 from rfl, run_equalIn_agg w 9999 48 _ _ hS hp]
  simp only [Program.fieldsOf, Try.underlying48]
  go_simp
  by_cases h1 : k = k'
  · by_cases h2 : n = n'
    · by_cases h3 : s = s'
      · by_cases h4 : r = r'
        · simp [h1, h2, h3, h4]
        · simp [h1, h2, h3, h4]; omega
      · simp [h1, h2, h3]
    · have : ¬ (n : Int) = (n' : Int) := by omega
      simp [h1, h2, this]
  · simp [h1]

theorem guard48 (x y : Operand) (xs ys : Array Value) (w : World) : (eqGuard .neq 48 x y (.agg xs) (.agg ys)).run Try.prog w = .ok () w :=
  run_eqGuard_agg w .neq 48 x y xs ys (by kernel_rfl)

/-- Two fields are alike. -/
def eqF (f g : Pk.Fld) : Bool := decide (f.kind = g.kind) && decide (f.num.toNat = g.num.toNat) && decide (f.text = g.text) && decide (f.real.toNat = g.real.toNat)

theorem eqF_iff {f g : Pk.Fld} : eqF f g = true ↔ f = g := by
  unfold eqF
  simp only [Bool.and_eq_true, decide_eq_true_eq]
  constructor
  · rintro ⟨⟨⟨h1, h2⟩, h3⟩, h4⟩
    obtain ⟨k, n, s, r⟩ := f
    obtain ⟨k', n', s', r'⟩ := g
    simp only at h1 h2 h3 h4
    rw [h1, h3, UInt64.toNat_inj.1 h2, UInt64.toNat_inj.1 h4]
  · rintro rfl; exact ⟨⟨⟨rfl, rfl⟩, rfl⟩, rfl⟩

/-- Some draws later. -/
def Drew (w w' : World) : Prop := ∃ q, w' = w.drewN q
theorem drew_more {w w' : World} (h : Drew w w') (q : Nat) : Drew w (w'.drewN q) := by
  obtain ⟨p, rfl⟩ := h
  exact ⟨p + q, by rw [World.drewN_drewN]⟩
theorem refAt_drew {w w' : World} {b o : Nat} {f : Pk.Fld} (h : Drew w w') (hr : RefAt w b o f) : RefAt w' b o f := by
  obtain ⟨q, rfl⟩ := h
  exact hr

/-- Are they the very same? -/
def sameT : List Pk.Fld → List Pk.Fld → Bool
  | [], [] => true
  | f :: l, g :: k => eqF f g && sameT l k
  | _, _ => false
theorem sameT_iff : ∀ {l k : List Pk.Fld}, sameT l k = true ↔ l = k
  | [], [] => by simp [sameT]
  | [], _ :: _ => by simp [sameT]
  | _ :: _, [] => by simp [sameT]
  | f :: l, g :: k => by
    unfold sameT
    rw [Bool.and_eq_true, eqF_iff, sameT_iff, List.cons.injEq]
theorem sameT_of {l k : List Pk.Fld} {t : Bool} (h : t = true ↔ l = k) : t = sameT l k := by
  cases t with
  | true => exact (sameT_iff.2 (h.1 rfl)).symm
  | false =>
    cases e : sameT l k with
    | false => rfl
    | true => exact h.2 (sameT_iff.1 e)

set_option maxHeartbeats 2000000 in
theorem same_any (a c : Option Addr) (n m cap ccap : Nat) (l k : List Pk.Fld) (w : World) (hl : n ≤ 9223372036854775807) (hn : Hid (l.length = n)) (hm : Hid (k.length = m)) (ha : AtR w a l) (hc : AtR w c k) :
    Calls Try.prog 20 #[.slice a n cap, .slice c m ccap] w fun e w' => e = .returned (.bool (sameT l k)) ∧ ∃ q, w' = w.drewN q := by
  have C : Aside (AtR w a l ∧ AtR w c k) := ⟨ha, hc⟩
  have hq := fun a b c d e f g h W => neq48 a b c d e f g h W
  have hg := fun x y xs ys W => guard48 x y xs ys W
  generalize hQ : (fun (e : Ending) (w' : World) => e = .returned (.bool (sameT l k)) ∧ ∃ q, w' = w.drewN q) = Q
  have R : Aside (∀ t w', (t = true ↔ l = k) → (∃ q, w' = w.drewN q) → Q (.returned (.bool t)) w') := by
    intro t w' h1 h2; rw [← hQ, ← sameT_of h1]; exact ⟨rfl, h2⟩
  clear ha hc hQ
  by_cases hnm : n = m
  · subst hnm
    go_enter Try.func20, Try.ntmps20
    go_wp2_with fail
    go_loopw [5] (fun i wr => ∃ j : Nat, j ≤ n ∧ i = .int .i64 j ∧ l.take j = k.take j ∧ Drew w wr) (fun i _ => n - (intOf i).toNat)
    case atStart => exact ⟨0, Nat.zero_le _, rfl, rfl, ⟨0, rfl⟩⟩
    case round =>
      obtain ⟨j, hj, rfl, hall, hb⟩ := hrel
      have H : Aside (l.take j = k.take j) := hall
      clear hall
      by_cases hlt : j < n
      · have hk1 : j < l.length := by rw [hn.out]; exact hlt
        have hk2 : j < k.length := by rw [hm.out]; exact hlt
        rcases C.out.1 with he | ⟨b, off, rfl, hcs⟩
        · exfalso; rw [he] at hk1; simp at hk1
        rcases C.out.2 with he | ⟨b2, off2, rfl, hcs2⟩
        · exfalso; rw [he] at hk2; simp at hk2
        obtain ⟨c0, c1, c2, c3⟩ := refAt_drew hb (hcs j l[j] (List.getElem?_eq_getElem hk1))
        obtain ⟨d0, d1, d2, d3⟩ := refAt_drew hb (hcs2 j k[j] (List.getElem?_eq_getElem hk2))
        have E1 : Aside (eqF l[j] k[j] = true → l.take (j + 1) = k.take (j + 1)) := by
          intro he
          rw [List.take_succ_eq_append_getElem hk1, List.take_succ_eq_append_getElem hk2, H.out, eqF_iff.1 he]
        have E2 : Aside (eqF l[j] k[j] = false → (false = true ↔ l = k)) := by
          intro he
          constructor
          · intro h; cases h
          · rintro rfl
            rw [eqF_iff.2 rfl] at he; exact he.symm
        unfold eqF at E1 E2
        generalize l[j].kind = fk at c0 E1 E2
        generalize l[j].num.toNat = fn at c1 E1 E2
        generalize l[j].text = ft at c2 E1 E2
        generalize l[j].real.toNat = fr at c3 E1 E2
        generalize k[j].kind = gk at d0 E1 E2
        generalize k[j].num.toNat = gn at d1 E1 E2
        generalize k[j].text = gt at d2 E1 E2
        generalize k[j].real.toNat = gr at d3 E1 E2
        have hq1 := fun W => hq fk gk fn gn fr gr ft gt W
        generalize (decide (fk = gk) && decide (fn = gn) && decide (ft = gt) && decide (fr = gr)) = t at hq1 E1 E2
        have t1 : (j : Int) < (n : Int) := by omega
        have t0 : (0 : Int) ≤ (j : Int) := by omega
        clear hcs hcs2 H hq
        cases t with
        | true =>
          have EE : Aside (l.take (j + 1) = k.take (j + 1)) := E1.out rfl
          simp only [Bool.not_true] at hq1
          clear E1 E2 R
          go_wp2_with fail
          go_quiet (fail)
          go_wp2
          have hbb : ∀ q, Drew w (wr.drewN q) := fun q => drew_more hb q
          go_roundw
          case rel => exact ⟨j + 1, by omega, by go_num, EE.out, hbb _⟩
          case measure => simp [intOf]; omega
        | false =>
          have R1 : Aside (∀ q, Q (.returned (.bool false)) (wr.drewN q)) := fun q => R.out false _ (E2.out rfl) (drew_more hb q)
          simp only [Bool.not_false] at hq1
          clear E1 E2 R hb
          go_wp2_with fail
          go_quiet (fail)
          go_wp2
          exact R1.out _
      · obtain rfl : j = n := by omega
        have EE : Aside (true = true ↔ l = k) := ⟨fun _ => by
          have := H.out
          rw [List.take_of_length_le (by rw [hn.out]; exact Nat.le_refl _), List.take_of_length_le (by rw [hm.out]; exact Nat.le_refl _)] at this
          exact this, fun _ => rfl⟩
        have R1 := R.out true wr EE.out hb
        clear R
        go_wp2
        exact R1
  · have R1 := R.out false w ⟨fun h => (by cases h), fun h => (by exfalso; apply hnm; rw [← hn.out, ← hm.out, h])⟩ ⟨0, rfl⟩
    have hnm' : ((n : Int) != (m : Int)) = true := by
      have : ¬ (n : Int) = (m : Int) := by omega
      simpa using this
    clear R
    go_enter Try.func20, Try.ntmps20
    go_wp2
    exact R1

end Go.Proofs.Ytjcgkljncaphhaa
