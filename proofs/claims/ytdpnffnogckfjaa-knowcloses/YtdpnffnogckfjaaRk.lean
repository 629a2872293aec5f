/- What the document's own in, put, built, given, all and close give. -/
import Derived.Test.YtdpnffnogckfjaaLwE
import Derived.Deep.LoopGhost
namespace Go.Proofs.Ytdpnffnogckfjaa
open Go.RowKit

-- What the document's own in and put give.

set_option maxHeartbeats 4000000 in
theorem in_any (a : Option Addr) (n cap : Nat) (l : List (List UInt8)) (t : List UInt8) (w : World) (hn : l.length = n) (hn5 : n ≤ 5000000) (hl : AtS w a l) : Calls Try.prog 34 #[.slice a n cap, str t] w fun e w' => e = .returned (.bool (decide (t ∈ l))) ∧ w' = w := by
  have R : Aside (∀ b, b = decide (t ∈ l) → (fun (e : Ending) w' => e = .returned (.bool (decide (t ∈ l))) ∧ w' = w) (.returned (.bool b)) w) := by
    rintro b rfl; exact ⟨rfl, rfl⟩
  generalize (fun (e : Ending) w' => e = .returned (.bool (decide (t ∈ l))) ∧ w' = w) = Q at R ⊢
  have HN : Hid (l.length = n) := hn
  have C : Aside (AtS w a l) := hl
  have EQ : Aside (∀ y : List UInt8, ((⟨y.toArray⟩ : ByteArray).toList == (⟨t.toArray⟩ : ByteArray).toList) = decide (y = t)) := fun y => eq_lists _ _
  clear hl hn
  unfold str
  generalize (⟨t.toArray⟩ : ByteArray) = xt at *
  go_enter Try.func34, Try.ntmps34
  go_wp2_with fail
  go_loopw [5] (fun i wr => ∃ j : Nat, j ≤ n ∧ i = .int .i64 j ∧ t ∉ l.take j ∧ wr = w) (fun i _ => n - (intOf i).toNat)
  case atStart => exact ⟨0, Nat.zero_le _, rfl, by simp, rfl⟩
  case round =>
    obtain ⟨j, hj, rfl, hno, hw⟩ := hrel
    subst hw
    have NN : Aside (t ∉ l.take j) := hno
    clear hno
    by_cases hlt : j < n
    · have hjl : j < l.length := by rw [HN.out]; exact hlt
      obtain ⟨b, off, rfl, hcs⟩ : ∃ b off, a = some ⟨b, off, none⟩ ∧ ∀ i y, l[i]? = some y → wr.cell? ⟨b, off + i, none⟩ = some (str y) := by
        rcases C.out with e | h
        · rw [e] at hjl; simp at hjl
        · exact h
      have c0 := hcs j l[j] (List.getElem?_eq_getElem hjl)
      have te := EQ.out l[j]
      have u1 : (j : Int) < (n : Int) := by omega
      have u0 : (0 : Int) ≤ (j : Int) := by omega
      have T1 : Aside (l[j] ≠ t → t ∉ l.take (j + 1)) := by
        intro hne hin
        rw [List.take_succ_eq_append_getElem hjl] at hin
        rcases List.mem_append.1 hin with h | h
        · exact NN.out h
        · simp at h; exact hne h.symm
      have T2 : Aside (l[j] = t → t ∈ l) := fun e => e ▸ List.getElem_mem hjl
      clear hcs
      unfold str at c0
      by_cases he : l[j] = t
      · rw [decide_eq_true he] at te
        have Q1 := R.out true (decide_eq_true (T2.out he)).symm
        clear T1 T2 R he NN EQ
        generalize (⟨l[j].toArray⟩ : ByteArray) = z at *
        go_wp2
        exact Q1
      · rw [decide_eq_false he] at te
        have T3 : Aside (t ∉ l.take (j + 1)) := T1.out he
        clear T1 T2 he NN
        generalize (⟨l[j].toArray⟩ : ByteArray) = z at *
        go_wp2
        go_roundw
        case rel => exact ⟨j + 1, by omega, by go_num, T3.out, trivial⟩
        case measure => simp [intOf]; omega
    · obtain rfl : j = n := by omega
      have Q1 := R.out false (by
        have := NN.out
        rw [List.take_of_length_le (by rw [HN.out]; exact Nat.le_refl _)] at this
        exact (decide_eq_false this).symm)
      clear R NN EQ
      go_wp2
      exact Q1

/-- What is to come yet. -/
def rst (d : Bool) (r : List (List UInt8)) (t : List UInt8) : List (List UInt8) := if d then r else Tm.put r t
def PutPost (l : List (List UInt8)) (t : List UInt8) (w : World) (e : Ending) (w' : World) : Prop := ∃ v, e = .returned v ∧ w'.ownsRow w.heap.size 23 1 v (Tm.put l t).length (strs (Tm.put l t)) ∧ Below w.heap.size w w'

set_option maxRecDepth 20000 in
set_option maxHeartbeats 16000000 in
theorem put_any (a : Option Addr) (n cap : Nat) (l : List (List UInt8)) (t : List UInt8) (w : World) (hn : l.length = n) (hn5 : n ≤ 5000000) (hl : AtS w a l) : Calls Try.prog 46 #[.slice a n cap, str t] w (PutPost l t w) := by
  have R : Aside (∀ v w', w'.ownsRow w.heap.size 23 1 v (Tm.put l t).length (strs (Tm.put l t)) → Below w.heap.size w w' → PutPost l t w (.returned v) w') := fun v w' h1 h2 => ⟨v, rfl, h1, h2⟩
  generalize PutPost l t w = Q at R ⊢
  have HN : Hid (l.length = n) := hn
  have C : Aside (AtS w a l) := hl
  have EQ : Aside (∀ y : List UInt8, ((⟨y.toArray⟩ : ByteArray).toList == (⟨t.toArray⟩ : ByteArray).toList) = decide (y = t)) := fun y => eq_lists _ _
  have LS : Aside (∀ y : List UInt8, Op.bytesLess (⟨t.toArray⟩ : ByteArray).toList (⟨y.toArray⟩ : ByteArray).toList = decide (t < y)) := fun y => less_lists t y
  have ST : Hid (∀ o : List (List UInt8), strs o ++ [.string ⟨t.toArray⟩] = strs (o ++ [t])) := fun o => by rw [strs_append]; rfl
  obtain ⟨i0, hi, hz0, hz1, hz2⟩ := info_parts info22
  have I : Aside (Try.prog.info? 23 = some i0 ∧ i0.zero = some (.string ⟨#[]⟩) ∧ i0.size = 1 ∧ i0.bytes = 16) := ⟨hi, hz0, hz1, hz2⟩
  clear hl hn hi hz0 hz1 hz2
  unfold str
  generalize (⟨t.toArray⟩ : ByteArray) = xt at *
  go_enter Try.func46, Try.ntmps46
  go_wp2_with fail
  go_loopw [5, 6, 7] (fun v d i wr => ∃ (j : Nat) (db : Bool) (o : List (List UInt8)), j ≤ n ∧ i = .int .i64 j ∧ d = .bool db ∧ o.length ≤ j + db.toNat ∧ Tm.put l t = o ++ rst db (l.drop j) t ∧ wr.ownsRow w.heap.size 23 1 v o.length (strs o) ∧ Below w.heap.size w wr) (fun _ _ i _ => n - (intOf i).toNat)
  case atStart => exact ⟨0, false, [], Nat.zero_le _, rfl, rfl, by simp, rfl, World.ownsRow_nil _ _ _ _, Below.refl _ _⟩
  case round =>
    obtain ⟨j, db, o, hj, rfl, rfl, hol, hput, hown, hb⟩ := hrel
    have S : Aside (Tm.put l t = o ++ rst db (l.drop j) t ∧ wr.ownsRow w.heap.size 23 1 u5 o.length (strs o) ∧ Below w.heap.size w wr) := ⟨hput, hown, hb⟩
    have hol2 : o.length ≤ j + 1 := by cases db <;> simp at hol <;> omega
    clear hput hown hb
    by_cases hlt : j < n
    · have hjl : j < l.length := by rw [HN.out]; exact hlt
      have hdr : l.drop j = l[j] :: l.drop (j + 1) := List.drop_eq_getElem_cons hjl
      obtain ⟨b, off, rfl, hcs⟩ : ∃ b off, a = some ⟨b, off, none⟩ ∧ ∀ i y, l[i]? = some y → w.cell? ⟨b, off + i, none⟩ = some (str y) := by
        rcases C.out with e | h
        · rw [e] at hjl; simp at hjl
        · exact h
      have CS : Aside (∀ W, Below w.heap.size w W → W.cell? ⟨b, off + j, none⟩ = some (str l[j])) := fun W hb => cell_later hb (hcs j l[j] (List.getElem?_eq_getElem hjl))
      have c0 := CS.out wr S.out.2.2
      have te := EQ.out l[j]
      have ls := LS.out l[j]
      have u1 : (j : Int) < (n : Int) := by omega
      have u0 : (0 : Int) ≤ (j : Int) := by omega
      have SX : Hid (∀ o : List (List UInt8), strs o ++ [.string ⟨l[j].toArray⟩] = strs (o ++ [l[j]])) := fun o => by rw [strs_append]; rfl
      have hs2 : w.heap.size ≤ wr.heap.size := S.out.2.2.size
      have N0 : Aside (Tm.put l t = o ++ rst db (l[j] :: l.drop (j + 1)) t) := by
        have := S.out.1
        rw [hdr] at this
        exact this
      have O1 : Aside (wr.ownsRow w.heap.size 23 1 u5 o.length (strs o) ∧ Below w.heap.size w wr) := S.out.2
      clear hcs S hdr
      unfold str at c0 CS
      generalize l[j] = y at *
      generalize hr : l.drop (j + 1) = r at *
      have HR : Hid (l.drop (j + 1) = r) := hr
      clear hr
      -- how it goes on
      have key : (db = true ∧ o ++ rst db (y :: r) t = (o ++ [y]) ++ rst true r t) ∨ (db = false ∧ y = t ∧ o ++ rst db (y :: r) t = (o ++ [y]) ++ rst true r t) ∨
          (db = false ∧ y ≠ t ∧ t < y ∧ o ++ rst db (y :: r) t = (o ++ [t] ++ [y]) ++ rst true r t) ∨ (db = false ∧ y ≠ t ∧ ¬ t < y ∧ o ++ rst db (y :: r) t = (o ++ [y]) ++ rst false r t) := by
        cases db with
        | true => exact .inl ⟨rfl, by simp [rst]⟩
        | false =>
          right
          by_cases h1 : y = t
          · exact .inl ⟨rfl, h1, by simp [rst, Tm.put, h1]⟩
          · right
            by_cases h2 : t < y
            · exact .inl ⟨rfl, h1, h2, by simp [rst, Tm.put, h1, h2]⟩
            · exact .inr ⟨rfl, h1, h2, by simp [rst, Tm.put, h1, h2]⟩
      rcases key with ⟨rfl, e1⟩ | ⟨rfl, hy, e1⟩ | ⟨rfl, hy, hty, e1⟩ | ⟨rfl, hy, hty, e1⟩
      · have P1 : Aside (Tm.put l t = (o ++ [y]) ++ rst true r t) := by have := N0.out; rw [e1] at this; exact this
        clear e1 ls
        by_cases hy : y = t
        · rw [decide_eq_true hy] at te
          clear hy
          clear N0
          generalize (⟨y.toArray⟩ : ByteArray) = z at *
          go_wp2_with (at_builtin; refine wpList_append_own _ rfl _ _ 22 rfl w.heap.size 23 i0 (.string ⟨#[]⟩) 1 16 Try.underlying22 I.out.1 I.out.2.1 I.out.2.2.1 I.out.2.2.2 rfl (by decide) _ _ _ rfl (O1.out.1.alloc _) ⟨wr.heap.size, 0, none⟩ 1 1 [.string z] rfl rfl ?c1 ?c2 ?c3 ?c4 ?c5 ?_)
          case c1 => exact cell_new1 _ _ _
          case c2 => intro u hu; simp at hu; subst hu; rfl
          case c3 => unfold maxLen; omega
          case c4 => omega
          case c5 => simp; omega
          intro v3 w3 hown3 hgrow3 _
          rw [SX.out] at hown3
          have hb3 : Below w.heap.size w w3 := grown_below hs2 O1.out.1 O1.out.2 hgrow3
          have R3 : Aside (w3.ownsRow w.heap.size 23 1 v3 (o ++ [y]).length (strs (o ++ [y])) ∧ Below w.heap.size w w3) := ⟨by rw [List.length_append]; exact hown3, hb3⟩
          clear hgrow3 O1 hown3 hb3 c0 CS EQ LS
          go_wp2
          go_roundw
          case rel => exact ⟨j + 1, true, o ++ [y], by omega, by go_num, rfl, by simp at hol ⊢; omega, by rw [HR.out]; exact P1.out, R3.out.1, R3.out.2⟩
          case measure => simp [intOf]; omega
        · rw [decide_eq_false hy] at te
          clear hy
          clear N0
          generalize (⟨y.toArray⟩ : ByteArray) = z at *
          go_wp2_with (at_builtin; refine wpList_append_own _ rfl _ _ 22 rfl w.heap.size 23 i0 (.string ⟨#[]⟩) 1 16 Try.underlying22 I.out.1 I.out.2.1 I.out.2.2.1 I.out.2.2.2 rfl (by decide) _ _ _ rfl (O1.out.1.alloc _) ⟨wr.heap.size, 0, none⟩ 1 1 [.string z] rfl rfl ?c1 ?c2 ?c3 ?c4 ?c5 ?_)
          case c1 => exact cell_new1 _ _ _
          case c2 => intro u hu; simp at hu; subst hu; rfl
          case c3 => unfold maxLen; omega
          case c4 => omega
          case c5 => simp; omega
          intro v3 w3 hown3 hgrow3 _
          rw [SX.out] at hown3
          have hb3 : Below w.heap.size w w3 := grown_below hs2 O1.out.1 O1.out.2 hgrow3
          have R3 : Aside (w3.ownsRow w.heap.size 23 1 v3 (o ++ [y]).length (strs (o ++ [y])) ∧ Below w.heap.size w w3) := ⟨by rw [List.length_append]; exact hown3, hb3⟩
          clear hgrow3 O1 hown3 hb3 c0 CS EQ LS
          go_wp2
          go_roundw
          case rel => exact ⟨j + 1, true, o ++ [y], by omega, by go_num, rfl, by simp at hol ⊢; omega, by rw [HR.out]; exact P1.out, R3.out.1, R3.out.2⟩
          case measure => simp [intOf]; omega
      · have P1 : Aside (Tm.put l t = (o ++ [y]) ++ rst true r t) := by have := N0.out; rw [e1] at this; exact this
        rw [decide_eq_true hy] at te
        clear e1 hy ls
        clear N0
        generalize (⟨y.toArray⟩ : ByteArray) = z at *
        go_wp2_with (at_builtin; refine wpList_append_own _ rfl _ _ 22 rfl w.heap.size 23 i0 (.string ⟨#[]⟩) 1 16 Try.underlying22 I.out.1 I.out.2.1 I.out.2.2.1 I.out.2.2.2 rfl (by decide) _ _ _ rfl (O1.out.1.alloc _) ⟨wr.heap.size, 0, none⟩ 1 1 [.string z] rfl rfl ?c1 ?c2 ?c3 ?c4 ?c5 ?_)
        case c1 => exact cell_new1 _ _ _
        case c2 => intro u hu; simp at hu; subst hu; rfl
        case c3 => unfold maxLen; omega
        case c4 => omega
        case c5 => simp; omega
        intro v3 w3 hown3 hgrow3 _
        rw [SX.out] at hown3
        have hb3 : Below w.heap.size w w3 := grown_below hs2 O1.out.1 O1.out.2 hgrow3
        have R3 : Aside (w3.ownsRow w.heap.size 23 1 v3 (o ++ [y]).length (strs (o ++ [y])) ∧ Below w.heap.size w w3) := ⟨by rw [List.length_append]; exact hown3, hb3⟩
        clear hgrow3 O1 hown3 hb3 c0 CS EQ LS
        go_wp2
        go_roundw
        case rel => exact ⟨j + 1, true, o ++ [y], by omega, by go_num, rfl, by simp at hol ⊢; omega, by rw [HR.out]; exact P1.out, R3.out.1, R3.out.2⟩
        case measure => simp [intOf]; omega
      · have P1 : Aside (Tm.put l t = (o ++ [t] ++ [y]) ++ rst true r t) := by have := N0.out; rw [e1] at this; exact this
        rw [decide_eq_false hy] at te
        rw [decide_eq_true hty] at ls
        clear e1 hy hty
        clear N0
        generalize (⟨y.toArray⟩ : ByteArray) = z at *
        go_wp2_with (at_builtin; refine wpList_append_own _ rfl _ _ 22 rfl w.heap.size 23 i0 (.string ⟨#[]⟩) 1 16 Try.underlying22 I.out.1 I.out.2.1 I.out.2.2.1 I.out.2.2.2 rfl (by decide) _ _ _ rfl (O1.out.1.alloc _) ⟨wr.heap.size, 0, none⟩ 1 1 [.string xt] rfl rfl ?c1 ?c2 ?c3 ?c4 ?c5 ?_)
        case c1 => exact cell_new1 _ _ _
        case c2 => intro u hu; simp at hu; subst hu; rfl
        case c3 => unfold maxLen; omega
        case c4 => omega
        case c5 => simp; omega
        intro v3 w3 hown3 hgrow3 _
        rw [ST.out] at hown3
        have hb3 : Below w.heap.size w w3 := grown_below hs2 O1.out.1 O1.out.2 hgrow3
        have O3 : Aside (w3.ownsRow w.heap.size 23 1 v3 (o.length + 1) (strs (o ++ [t])) ∧ Below w.heap.size w w3) := ⟨hown3, hb3⟩
        have hs3 : w.heap.size ≤ w3.heap.size := hb3.size
        have c3 := CS.out w3 hb3
        clear hgrow3 O1 hown3 hb3 c0 CS EQ LS
        go_wp2_with (at_builtin; refine wpList_append_own _ rfl _ _ 22 rfl w.heap.size 23 i0 (.string ⟨#[]⟩) 1 16 Try.underlying22 I.out.1 I.out.2.1 I.out.2.2.1 I.out.2.2.2 rfl (by decide) _ _ _ rfl (O3.out.1.alloc _) ⟨w3.heap.size, 0, none⟩ 1 1 [.string z] rfl rfl ?d1 ?d2 ?d3 ?d4 ?d5 ?_)
        case d1 => exact cell_new1 _ _ _
        case d2 => intro u hu; simp at hu; subst hu; rfl
        case d3 => unfold maxLen; omega
        case d4 => omega
        case d5 => simp; omega
        intro v4 w4 hown4 hgrow4 _
        rw [SX.out] at hown4
        have hb4 : Below w.heap.size w w4 := grown_below hs3 O3.out.1 O3.out.2 hgrow4
        have R4 : Aside (w4.ownsRow w.heap.size 23 1 v4 (o ++ [t] ++ [y]).length (strs (o ++ [t] ++ [y])) ∧ Below w.heap.size w w4) := ⟨by rw [List.length_append, List.length_append]; exact hown4, hb4⟩
        clear hgrow4 O3 hown4 hb4 c3
        go_wp2
        go_roundw
        case rel => exact ⟨j + 1, true, o ++ [t] ++ [y], by omega, by go_num, rfl, by simp at hol ⊢; omega, by rw [HR.out]; exact P1.out, R4.out.1, R4.out.2⟩
        case measure => simp [intOf]; omega
      · have P1 : Aside (Tm.put l t = (o ++ [y]) ++ rst false r t) := by have := N0.out; rw [e1] at this; exact this
        rw [decide_eq_false hy] at te
        rw [decide_eq_false hty] at ls
        clear e1 hy hty
        clear N0
        generalize (⟨y.toArray⟩ : ByteArray) = z at *
        go_wp2_with (at_builtin; refine wpList_append_own _ rfl _ _ 22 rfl w.heap.size 23 i0 (.string ⟨#[]⟩) 1 16 Try.underlying22 I.out.1 I.out.2.1 I.out.2.2.1 I.out.2.2.2 rfl (by decide) _ _ _ rfl (O1.out.1.alloc _) ⟨wr.heap.size, 0, none⟩ 1 1 [.string z] rfl rfl ?c1 ?c2 ?c3 ?c4 ?c5 ?_)
        case c1 => exact cell_new1 _ _ _
        case c2 => intro u hu; simp at hu; subst hu; rfl
        case c3 => unfold maxLen; omega
        case c4 => omega
        case c5 => simp; omega
        intro v3 w3 hown3 hgrow3 _
        rw [SX.out] at hown3
        have hb3 : Below w.heap.size w w3 := grown_below hs2 O1.out.1 O1.out.2 hgrow3
        have R3 : Aside (w3.ownsRow w.heap.size 23 1 v3 (o ++ [y]).length (strs (o ++ [y])) ∧ Below w.heap.size w w3) := ⟨by rw [List.length_append]; exact hown3, hb3⟩
        clear hgrow3 O1 hown3 hb3 c0 CS EQ LS
        go_wp2
        go_roundw
        case rel => exact ⟨j + 1, false, o ++ [y], by omega, by go_num, rfl, by simp at hol ⊢; omega, by rw [HR.out]; exact P1.out, R3.out.1, R3.out.2⟩
        case measure => simp [intOf]; omega
    · obtain rfl : j = n := by omega
      have e1 : l.drop j = [] := List.drop_of_length_le (by rw [HN.out]; exact Nat.le_refl _)
      have S1 := S.out
      rw [e1] at S1
      cases db with
      | true =>
        have Q1 := R.out u5 wr (by
          have h := S1.1
          unfold rst at h
          rw [if_pos rfl, List.append_nil] at h
          rw [h]; exact S1.2.1) S1.2.2
        clear S S1 R EQ LS e1
        go_wp2
        exact Q1
      | false =>
        have hp : Tm.put l t = o ++ [t] := by
          have h := S1.1
          unfold rst at h
          rw [if_neg (by decide)] at h
          exact h
        have O1 : Aside (wr.ownsRow w.heap.size 23 1 u5 o.length (strs o) ∧ Below w.heap.size w wr) := S1.2
        have HP : Hid (Tm.put l t = o ++ [t]) := hp
        have hs2 : w.heap.size ≤ wr.heap.size := S1.2.2.size
        clear S S1 EQ LS e1 hp
        go_wp2_with (at_builtin; refine wpList_append_own _ rfl _ _ 22 rfl w.heap.size 23 i0 (.string ⟨#[]⟩) 1 16 Try.underlying22 I.out.1 I.out.2.1 I.out.2.2.1 I.out.2.2.2 rfl (by decide) _ _ _ rfl (O1.out.1.alloc _) ⟨wr.heap.size, 0, none⟩ 1 1 [.string xt] rfl rfl ?c1 ?c2 ?c3 ?c4 ?c5 ?_)
        case c1 => exact cell_new1 _ _ _
        case c2 => intro u hu; simp at hu; subst hu; rfl
        case c3 => unfold maxLen; omega
        case c4 => omega
        case c5 => simp; omega
        intro v3 w3 hown3 hgrow3 _
        rw [ST.out] at hown3
        have hb3 : Below w.heap.size w w3 := grown_below hs2 O1.out.1 O1.out.2 hgrow3
        have Q1 := R.out v3 w3 (by rw [HP.out, List.length_append]; exact hown3) hb3
        clear hgrow3 O1 hown3 hb3 R
        go_wp2
        exact Q1

-- What the document's own built gives.

set_option maxRecDepth 20000 in
set_option maxHeartbeats 8000000 in
theorem built_any (a : Option Addr) (n cap : Nat) (hv : List (List UInt8)) (t : List UInt8) (w : World) (hn : hv.length = n) (hn5 : n ≤ 5000000) (hl : AtS w a hv) : Calls Try.prog 47 #[.slice a n cap, str t] w fun e w' => e = .returned (.bool (Tm.builtB hv t)) ∧ Below w.heap.size w w' := by
  have R : Aside (∀ b w', b = Tm.builtB hv t → Below w.heap.size w w' → (fun (e : Ending) w' => e = .returned (.bool (Tm.builtB hv t)) ∧ Below w.heap.size w w') (.returned (.bool b)) w') := by
    rintro b w' rfl hb; exact ⟨rfl, hb⟩
  generalize (fun (e : Ending) w' => e = .returned (.bool (Tm.builtB hv t)) ∧ Below w.heap.size w w') = Q at R ⊢
  have PA : Aside (∀ W, Calls Try.prog 57 #[str t] W (PartsPost t W)) := fun W => rparts_any ⟨t.toArray⟩ W
  have IN : Aside (∀ p W, Below w.heap.size w W → Calls Try.prog 34 #[.slice a n cap, str p] W fun e w' => e = .returned (.bool (decide (p ∈ hv))) ∧ w' = W) := fun p W hb => in_any a n cap hv p W hn hn5 (atS_later hb hl)
  have m2 := Tm.partsOf_len t
  have KQ : (((Tm.kindOf t).toNat : Int) == 99) = decide (Tm.kindOf t = 99) := by
    rw [Bool.eq_iff_iff, decide_eq_true_eq, beq_iff_eq]
    constructor
    · intro e; exact UInt8.toNat_inj.1 (by simpa using (by omega : (Tm.kindOf t).toNat = 99))
    · intro e; rw [e]; rfl
  have BB : Aside (Tm.builtB hv t = ((Tm.partsOf t).all (fun p => decide (p ∈ hv)) && (decide (Tm.kindOf t = 99) || decide (0 < (Tm.partsOf t).length)))) := rfl
  unfold PartsPost at PA
  generalize Tm.partsOf t = ps at *
  generalize decide (Tm.kindOf t = 99) = kb at *
  generalize ((Tm.kindOf t).toNat : Int) = kk at *
  generalize Tm.chk t = cc at *
  obtain ⟨m, hm⟩ : ∃ m, m = ps.length := ⟨_, rfl⟩
  have HM : Hid (m = ps.length) := hm
  rw [← hm] at PA m2
  clear hn hl hm hn5
  unfold str at PA ⊢
  generalize (⟨t.toArray⟩ : ByteArray) = xt at *
  go_enter Try.func47, Try.ntmps47
  go_wp2_with fail
  refine (PA.out w).mono ?_
  rintro e w2 ⟨v, rfl, ho, hb⟩
  obtain ⟨pa, pc, rfl, -, -, hat⟩ := owns_strs ho
  have B2 : Aside (AtS w2 pa ps ∧ Below w.heap.size w w2) := ⟨hat, hb⟩
  clear PA ho hb hat
  go_wp2_with fail
  go_loopw [8] (fun i wr => ∃ j : Nat, j ≤ m ∧ i = .int .i64 j ∧ (ps.take j).all (fun p => decide (p ∈ hv)) = true ∧ wr = w2) (fun i _ => m - (intOf i).toNat)
  case atStart => exact ⟨0, Nat.zero_le _, rfl, rfl, rfl⟩
  case round =>
    obtain ⟨j, hj, rfl, hall, hw⟩ := hrel
    subst hw
    have S : Aside ((ps.take j).all (fun p => decide (p ∈ hv)) = true) := hall
    clear hall
    by_cases hlt : j < m
    · have hjl : j < ps.length := by rw [← HM.out]; exact hlt
      obtain ⟨b, off, rfl, hcs⟩ : ∃ b off, pa = some ⟨b, off, none⟩ ∧ ∀ i y, ps[i]? = some y → wr.cell? ⟨b, off + i, none⟩ = some (str y) := by
        rcases B2.out.1 with e | h
        · rw [e] at hjl; simp at hjl
        · exact h
      have c0 := hcs j ps[j] (List.getElem?_eq_getElem hjl)
      have I1 := IN.out ps[j] wr B2.out.2
      have u1 : (j : Int) < (m : Int) := by omega
      have u0 : (0 : Int) ≤ (j : Int) := by omega
      have T1 : Aside (ps[j] ∈ hv → (ps.take (j + 1)).all (fun p => decide (p ∈ hv)) = true) := by
        intro h
        rw [List.take_succ_eq_append_getElem hjl, List.all_append, S.out]
        simp [h]
      have T2 : Aside (ps[j] ∉ hv → false = Tm.builtB hv t) := by
        intro h
        rw [BB.out]
        have : ps.all (fun p => decide (p ∈ hv)) = false := by
          rw [List.all_eq_false]
          exact ⟨ps[j], List.getElem_mem hjl, by simp [h]⟩
        rw [this]; rfl
      clear hcs
      unfold str at c0 I1
      generalize ps[j] = y at *
      generalize (⟨y.toArray⟩ : ByteArray) = z at *
      by_cases hin : y ∈ hv
      · rw [decide_eq_true hin] at I1
        have T3 : Aside ((ps.take (j + 1)).all (fun p => decide (p ∈ hv)) = true) := T1.out hin
        clear T1 T2 hin S
        go_wp2_with fail
        refine I1.mono ?_
        rintro e w5 ⟨rfl, hw⟩
        replace hw := hw.symm; subst hw
        clear I1 c0
        go_wp2
        go_roundw
        case rel => exact ⟨j + 1, by omega, by go_num, T3.out, trivial⟩
        case measure => simp [intOf]; omega
      · rw [decide_eq_false hin] at I1
        have Q1 := R.out false wr (T2.out hin) B2.out.2
        clear T1 T2 hin S R BB
        go_wp2_with fail
        refine I1.mono ?_
        rintro e w5 ⟨rfl, hw⟩
        replace hw := hw.symm; subst hw
        clear I1 c0
        go_wp2
        exact Q1
    · obtain rfl : j = m := by omega
      have hall : ps.all (fun p => decide (p ∈ hv)) = true := by
        have := S.out
        rw [List.take_of_length_le (by rw [HM.out]; exact Nat.le_refl _)] at this
        exact this
      have Q1 := R.out (kb || decide (0 < j)) wr (by rw [BB.out, hall, HM.out]; rfl) B2.out.2
      clear R BB S hall
      cases kb with
      | true =>
        go_wp2
        exact Q1
      | false =>
        have e0 : decide ((0 : Int) < (j : Int)) = decide (0 < j) := by
          rw [Bool.eq_iff_iff, decide_eq_true_eq, decide_eq_true_eq]
          omega
        by_cases hj0 : 0 < j
        · rw [decide_eq_true hj0] at Q1
          have u1 : (0 : Int) < (j : Int) := by omega
          clear e0
          go_wp2
          exact Q1
        · rw [decide_eq_false hj0] at Q1
          have u1 : ¬ (0 : Int) < (j : Int) := by omega
          clear e0
          go_wp2
          exact Q1

-- What the document's own given gives.

theorem kind112 (k : UInt8) : ((k.toNat : Int) == 112) = decide (k = 112) := by
  rw [Bool.eq_iff_iff, decide_eq_true_eq, beq_iff_eq]
  constructor
  · intro e; exact UInt8.toNat_inj.1 (by simpa using (by omega : k.toNat = 112))
  · intro e; subst e; rfl
theorem kind115 (k : UInt8) : ((k.toNat : Int) == 115) = decide (k = 115) := by
  rw [Bool.eq_iff_iff, decide_eq_true_eq, beq_iff_eq]
  constructor
  · intro e; exact UInt8.toNat_inj.1 (by simpa using (by omega : k.toNat = 115))
  · intro e; subst e; rfl

set_option maxRecDepth 20000 in
set_option maxHeartbeats 16000000 in
theorem given_any (a : Option Addr) (n cap : Nat) (hv : List (List UInt8)) (t : List UInt8) (w : World) (hn : hv.length = n) (hn5 : n ≤ 5000000) (hl : AtS w a hv) : Calls Try.prog 48 #[.slice a n cap, str t] w fun e w' => e = .returned (.bool (Tm.givenB hv t)) ∧ Below w.heap.size w w' := by
  have R : Aside (∀ b w', b = Tm.givenB hv t → Below w.heap.size w w' → (fun (e : Ending) w' => e = .returned (.bool (Tm.givenB hv t)) ∧ Below w.heap.size w w') (.returned (.bool b)) w') := by
    rintro b w' rfl hb; exact ⟨rfl, hb⟩
  generalize (fun (e : Ending) w' => e = .returned (.bool (Tm.givenB hv t)) ∧ Below w.heap.size w w') = Q at R ⊢
  have IN : Aside (∀ p W, Below w.heap.size w W → Calls Try.prog 34 #[.slice a n cap, str p] W fun e w' => e = .returned (.bool (decide (p ∈ hv))) ∧ w' = W) := fun p W hb => in_any a n cap hv p W hn hn5 (atS_later hb hl)
  have EQ : Aside (∀ y : List UInt8, ((⟨y.toArray⟩ : ByteArray).toList == (⟨t.toArray⟩ : ByteArray).toList) = decide (y = t)) := fun y => eq_lists _ _
  have HN : Hid (hv.length = n) := hn
  have C : Aside (AtS w a hv) := hl
  clear hl hn
  unfold str
  generalize (⟨t.toArray⟩ : ByteArray) = xt at *
  go_enter Try.func48, Try.ntmps48
  go_wp2_with fail
  go_loopw [5] (fun i wr => ∃ j : Nat, j ≤ n ∧ i = .int .i64 j ∧ (hv.take j).any (Tm.tells hv t) = false ∧ Below w.heap.size w wr) (fun i _ => n - (intOf i).toNat)
  case atStart => exact ⟨0, Nat.zero_le _, rfl, rfl, Below.refl _ _⟩
  case round =>
    obtain ⟨j, hj, rfl, hno, hb⟩ := hrel
    have S : Aside ((hv.take j).any (Tm.tells hv t) = false ∧ Below w.heap.size w wr) := ⟨hno, hb⟩
    clear hno hb
    by_cases hlt : j < n
    · have hjl : j < hv.length := by rw [HN.out]; exact hlt
      obtain ⟨b, off, rfl, hcs⟩ : ∃ b off, a = some ⟨b, off, none⟩ ∧ ∀ i y, hv[i]? = some y → wr.cell? ⟨b, off + i, none⟩ = some (str y) := by
        rcases atS_later S.out.2 C.out with e | h
        · rw [e] at hjl; simp at hjl
        · exact h
      have c0 := hcs j hv[j] (List.getElem?_eq_getElem hjl)
      have PA : Aside (Calls Try.prog 57 #[str hv[j]] wr (PartsPost hv[j] wr)) := rparts_any ⟨hv[j].toArray⟩ wr
      have u1 : (j : Int) < (n : Int) := by omega
      have u0 : (0 : Int) ≤ (j : Int) := by omega
      have T1 : Aside (Tm.tells hv t hv[j] = false → (hv.take (j + 1)).any (Tm.tells hv t) = false) := by
        intro h
        rw [List.take_succ_eq_append_getElem hjl, List.any_append, S.out.1]
        simp [h]
      have T2 : Aside (Tm.tells hv t hv[j] = true → true = Tm.givenB hv t) := by
        intro h
        unfold Tm.givenB
        exact (List.any_eq_true.2 ⟨hv[j], List.getElem_mem hjl, h⟩).symm
      clear hcs
      unfold str at c0 PA
      unfold PartsPost at PA
      generalize hv[j] = y at *
      generalize (⟨y.toArray⟩ : ByteArray) = z at *
      have q1 := kind112 (Tm.kindOf y)
      have q2 := kind115 (Tm.kindOf y)
      generalize hcc : Tm.chk y = cc at *
      clear hcc
      by_cases k1 : Tm.kindOf y = 112
      · obtain ⟨x0, x1, hps⟩ := Tm.two_parts (.inl k1)
        have TL : Tm.tells hv t y = (decide (x0 = t) || decide (x1 = t)) := by
          unfold Tm.tells
          rw [hps, k1]
          simp
        rw [hps] at PA
        rw [TL] at T1 T2
        rw [decide_eq_true k1] at q1
        rw [decide_eq_false (show ¬ Tm.kindOf y = 115 by rw [k1]; decide)] at q2
        have e0 := EQ.out x0
        have e1 := EQ.out x1
        clear k1 hps TL IN EQ
        generalize ((Tm.kindOf y).toNat : Int) = kk at *
        go_wp2_with fail
        refine PA.out.mono ?_
        rintro e w2 ⟨v, rfl, ho, hb2⟩
        have BB : Aside (Below w.heap.size w w2) := later2 S.out.2 hb2
        obtain ⟨pa, pc, rfl, -, -, hat⟩ := owns_strs ho
        obtain ⟨pb, po, rfl, hpc⟩ : ∃ b off, pa = some ⟨b, off, none⟩ ∧ ∀ i y, [x0, x1][i]? = some y → w2.cell? ⟨b, off + i, none⟩ = some (str y) := by
          rcases hat with e | h
          · cases e
          · exact h
        have d0 := hpc 0 x0 rfl
        have d1 := hpc 1 x1 rfl
        rw [Nat.add_zero] at d0
        clear PA ho hb2 hpc S c0
        simp only [List.length_cons, List.length_nil, Nat.zero_add, Nat.reduceAdd]
        unfold str at d0 d1
        by_cases h0 : x0 = t
        · rw [decide_eq_true h0] at e0 T2
          have Q1 := R.out true w2 (T2.out rfl) BB.out
          clear T1 T2 R h0
          generalize (⟨x0.toArray⟩ : ByteArray) = z0 at *
          generalize (⟨x1.toArray⟩ : ByteArray) = z1 at *
          go_wp2
          exact Q1
        · rw [decide_eq_false h0] at e0 T1 T2
          by_cases h1 : x1 = t
          · rw [decide_eq_true h1] at e1 T2
            have Q1 := R.out true w2 (T2.out rfl) BB.out
            clear T1 T2 R h0 h1
            generalize (⟨x0.toArray⟩ : ByteArray) = z0 at *
            generalize (⟨x1.toArray⟩ : ByteArray) = z1 at *
            go_wp2
            exact Q1
          · rw [decide_eq_false h1] at e1 T1
            have T3 : Aside ((hv.take (j + 1)).any (Tm.tells hv t) = false) := T1.out rfl
            clear T1 T2 h0 h1
            generalize (⟨x0.toArray⟩ : ByteArray) = z0 at *
            generalize (⟨x1.toArray⟩ : ByteArray) = z1 at *
            go_wp2
            go_roundw
            case rel => exact ⟨j + 1, by omega, by go_num, T3.out, BB.out⟩
            case measure => simp [intOf]; omega
      · by_cases k2 : Tm.kindOf y = 115
        · obtain ⟨x0, x1, hps⟩ := Tm.two_parts (.inr k2)
          have TL : Tm.tells hv t y = (decide (x1 = t) && decide (x0 ∈ hv)) := by
            unfold Tm.tells
            rw [hps, k2]
            simp
          rw [hps] at PA
          rw [TL] at T1 T2
          rw [decide_eq_false k1] at q1
          rw [decide_eq_true k2] at q2
          have e1 := EQ.out x1
          clear k1 k2 hps TL EQ
          generalize ((Tm.kindOf y).toNat : Int) = kk at *
          go_wp2_with fail
          refine PA.out.mono ?_
          rintro e w2 ⟨v, rfl, ho, hb2⟩
          have BB : Aside (Below w.heap.size w w2) := later2 S.out.2 hb2
          obtain ⟨pa, pc, rfl, -, -, hat⟩ := owns_strs ho
          obtain ⟨pb, po, rfl, hpc⟩ : ∃ b off, pa = some ⟨b, off, none⟩ ∧ ∀ i y, [x0, x1][i]? = some y → w2.cell? ⟨b, off + i, none⟩ = some (str y) := by
            rcases hat with e | h
            · cases e
            · exact h
          have d0 := hpc 0 x0 rfl
          have d1 := hpc 1 x1 rfl
          rw [Nat.add_zero] at d0
          have I1 := IN.out x0 w2 BB.out
          clear PA ho hb2 hpc S c0 IN
          simp only [List.length_cons, List.length_nil, Nat.zero_add, Nat.reduceAdd]
          unfold str at d0 d1 I1
          by_cases h1 : x1 = t
          · rw [decide_eq_true h1] at e1 T1 T2
            by_cases h0 : x0 ∈ hv
            · rw [decide_eq_true h0] at I1 T2
              have Q1 := R.out true w2 (T2.out rfl) BB.out
              clear T1 T2 R h0 h1
              generalize (⟨x0.toArray⟩ : ByteArray) = z0 at *
              generalize (⟨x1.toArray⟩ : ByteArray) = z1 at *
              go_wp2_with fail
              refine I1.mono ?_
              rintro e w5 ⟨rfl, hw⟩
              replace hw := hw.symm; subst hw
              clear I1
              go_wp2
              exact Q1
            · rw [decide_eq_false h0] at I1 T1
              have T3 : Aside ((hv.take (j + 1)).any (Tm.tells hv t) = false) := T1.out rfl
              clear T1 T2 h0 h1
              generalize (⟨x0.toArray⟩ : ByteArray) = z0 at *
              generalize (⟨x1.toArray⟩ : ByteArray) = z1 at *
              go_wp2_with fail
              refine I1.mono ?_
              rintro e w5 ⟨rfl, hw⟩
              replace hw := hw.symm; subst hw
              clear I1
              go_wp2
              go_roundw
              case rel => exact ⟨j + 1, by omega, by go_num, T3.out, BB.out⟩
              case measure => simp [intOf]; omega
          · rw [decide_eq_false h1] at e1 T1
            have T3 : Aside ((hv.take (j + 1)).any (Tm.tells hv t) = false) := T1.out rfl
            clear T1 T2 h1 I1
            generalize (⟨x0.toArray⟩ : ByteArray) = z0 at *
            generalize (⟨x1.toArray⟩ : ByteArray) = z1 at *
            go_wp2
            go_roundw
            case rel => exact ⟨j + 1, by omega, by go_num, T3.out, BB.out⟩
            case measure => simp [intOf]; omega
        · have TL : Tm.tells hv t y = false := by
            unfold Tm.tells
            simp [k1, k2]
          have T3 : Aside ((hv.take (j + 1)).any (Tm.tells hv t) = false) := T1.out TL
          rw [decide_eq_false k1] at q1
          rw [decide_eq_false k2] at q2
          clear k1 k2 TL T1 T2 IN EQ R
          generalize ((Tm.kindOf y).toNat : Int) = kk at *
          go_wp2_with fail
          refine PA.out.mono ?_
          rintro e w2 ⟨v, rfl, ho, hb2⟩
          have BB : Aside (Below w.heap.size w w2) := later2 S.out.2 hb2
          obtain ⟨pa, pc, rfl, -, -, -⟩ := owns_strs ho
          clear PA ho hb2 S c0
          go_wp2
          go_roundw
          case rel => exact ⟨j + 1, by omega, by go_num, T3.out, BB.out⟩
          case measure => simp [intOf]; omega
    · obtain rfl : j = n := by omega
      have Q1 := R.out false wr (by
        have := S.out.1
        rw [List.take_of_length_le (by rw [HN.out]; exact Nat.le_refl _)] at this
        exact this.symm) S.out.2
      clear R S IN EQ
      go_wp2
      exact Q1

-- What the document's own all gives.

def AllPost (l : List (List UInt8)) (w : World) (e : Ending) (w' : World) : Prop := ∃ v, e = .returned v ∧ w'.ownsRow w.heap.size 23 1 v (Tm.allL l).length (strs (Tm.allL l)) ∧ Below w.heap.size w w'
theorem all_step {l : List (List UInt8)} {j : Nat} (h : j < l.length) : Tm.allL (l.take (j + 1)) = Tm.puts (Tm.allL (l.take j)) (Tm.subsOf l[j]) := by
  unfold Tm.allL
  rw [List.take_succ_eq_append_getElem h, List.foldl_append]; rfl
theorem puts_step {o ss : List (List UInt8)} {i : Nat} (h : i < ss.length) : Tm.puts o (ss.take (i + 1)) = Tm.put (Tm.puts o (ss.take i)) ss[i] := by
  unfold Tm.puts
  rw [List.take_succ_eq_append_getElem h, List.foldl_append]; rfl
theorem put_len_le (l : List (List UInt8)) (t : List UInt8) : (Tm.put l t).length ≤ l.length + 1 := by
  induction l with
  | nil => simp [Tm.put]
  | cons x l ih =>
    unfold Tm.put
    split
    · simp
    · split
      · simp
      · simp; exact ih
theorem puts_len_le (ss o : List (List UInt8)) : (Tm.puts o ss).length ≤ o.length + ss.length := by
  unfold Tm.puts
  induction ss generalizing o with
  | nil => simp
  | cons x ss ih =>
    have := ih (Tm.put o x)
    have := put_len_le o x
    simp only [List.foldl_cons, List.length_cons]
    omega
theorem all_len_le (l : List (List UInt8)) : (Tm.allL l).length ≤ 2000 * l.length := by
  have key : ∀ (l o : List (List UInt8)), (l.foldl (fun out x => Tm.puts out (Tm.subsOf x)) o).length ≤ o.length + 2000 * l.length := by
    intro l
    induction l with
    | nil => intro o; simp
    | cons x l ih =>
      intro o
      have h1 := ih (Tm.puts o (Tm.subsOf x))
      have h2 := puts_len_le (Tm.subsOf x) o
      have h3 := Tm.subsOf_len x
      simp only [List.foldl_cons, List.length_cons]
      omega
  have := key l []
  unfold Tm.allL
  simpa using this

set_option maxRecDepth 20000 in
set_option maxHeartbeats 16000000 in
theorem all_any (a : Option Addr) (n cap : Nat) (l : List (List UInt8)) (w : World) (hn : l.length = n) (hn5 : n ≤ 300) (hl : AtS w a l) : Calls Try.prog 31 #[.slice a n cap] w (AllPost l w) := by
  have R : Aside (∀ v w', w'.ownsRow w.heap.size 23 1 v (Tm.allL l).length (strs (Tm.allL l)) → Below w.heap.size w w' → AllPost l w (.returned v) w') := fun v w' h1 h2 => ⟨v, rfl, h1, h2⟩
  generalize AllPost l w = Q at R ⊢
  have HN : Hid (l.length = n) := hn
  have C : Aside (AtS w a l) := hl
  clear hl hn
  go_enter Try.func31, Try.ntmps31
  go_wp2_with fail
  go_loopw [3, 4] (fun v i wr => ∃ j : Nat, j ≤ n ∧ i = .int .i64 j ∧ wr.ownsRow w.heap.size 23 1 v (Tm.allL (l.take j)).length (strs (Tm.allL (l.take j))) ∧ Below w.heap.size w wr) (fun _ i _ => n - (intOf i).toNat)
  case atStart => exact ⟨0, Nat.zero_le _, rfl, World.ownsRow_nil _ _ _ _, Below.refl _ _⟩
  case round =>
    obtain ⟨j, hj, rfl, hown, hb⟩ := hrel
    have S : Aside (wr.ownsRow w.heap.size 23 1 u3 (Tm.allL (l.take j)).length (strs (Tm.allL (l.take j))) ∧ Below w.heap.size w wr) := ⟨hown, hb⟩
    clear hown hb
    by_cases hlt : j < n
    · have hjl : j < l.length := by rw [HN.out]; exact hlt
      obtain ⟨b, off, rfl, hcs⟩ : ∃ b off, a = some ⟨b, off, none⟩ ∧ ∀ i y, l[i]? = some y → wr.cell? ⟨b, off + i, none⟩ = some (str y) := by
        rcases atS_later S.out.2 C.out with e | h
        · rw [e] at hjl; simp at hjl
        · exact h
      have c0 := hcs j l[j] (List.getElem?_eq_getElem hjl)
      have SB : Aside (Calls Try.prog 24 #[str l[j]] wr (SubsPost l[j] wr)) := rsubs_any ⟨l[j].toArray⟩ wr
      have AS : Hid (Tm.allL (l.take (j + 1)) = Tm.puts (Tm.allL (l.take j)) (Tm.subsOf l[j])) := all_step hjl
      have AL : (Tm.allL (l.take j)).length ≤ 600000 := by
        have := all_len_le (l.take j)
        rw [List.length_take] at this
        omega
      have SL := Tm.subsOf_len l[j]
      have u1 : (j : Int) < (n : Int) := by omega
      have u0 : (0 : Int) ≤ (j : Int) := by omega
      clear hcs
      obtain ⟨wo, rfl⟩ : ∃ x, x = wr := ⟨wr, rfl⟩
      unfold str at c0 SB
      unfold SubsPost at SB
      generalize l[j] = y at *
      generalize (⟨y.toArray⟩ : ByteArray) = z at *
      generalize Tm.chk y = cc at *
      generalize Tm.subsOf y = ss at *
      generalize Tm.allL (l.take j) = o at *
      obtain ⟨m, hm⟩ : ∃ m, m = ss.length := ⟨_, rfl⟩
      have HM : Hid (m = ss.length) := hm
      rw [← hm] at SB SL
      clear hm
      go_wp2_with fail
      refine SB.out.mono ?_
      rintro e w2 ⟨v, rfl, ho, hb2⟩
      obtain ⟨sa, sc, rfl, -, -, hat⟩ := owns_strs ho
      have D2 : Aside (AtS w2 sa ss ∧ w2.ownsRow w.heap.size 23 1 u3 o.length (strs o) ∧ Below w.heap.size w w2) := ⟨hat, owns_later hb2 S.out.1, later2 S.out.2 hb2⟩
      clear SB ho hb2 hat S c0
      go_wp2_with fail
      go_loopw [3, 7] (fun v i wr => ∃ q : Nat, q ≤ m ∧ i = .int .i64 q ∧ AtS wr sa ss ∧ wr.ownsRow w.heap.size 23 1 v (Tm.puts o (ss.take q)).length (strs (Tm.puts o (ss.take q))) ∧ Below w.heap.size w wr) (fun _ i _ => m - (intOf i).toNat)
      case atStart => exact ⟨0, Nat.zero_le _, rfl, D2.out.1, D2.out.2.1, D2.out.2.2⟩
      case round =>
        obtain ⟨q, hq, rfl, hat, hown, hb⟩ := hrel
        have S2 : Aside (AtS wr sa ss ∧ wr.ownsRow w.heap.size 23 1 u3 (Tm.puts o (ss.take q)).length (strs (Tm.puts o (ss.take q))) ∧ Below w.heap.size w wr) := ⟨hat, hown, hb⟩
        clear hat hown hb D2
        by_cases hql : q < m
        · have hqs : q < ss.length := by rw [← HM.out]; exact hql
          obtain ⟨pb, po, rfl, hcs⟩ : ∃ b off, sa = some ⟨b, off, none⟩ ∧ ∀ i y, ss[i]? = some y → wr.cell? ⟨b, off + i, none⟩ = some (str y) := by
            rcases S2.out.1 with e | h
            · rw [e] at hqs; simp at hqs
            · exact h
          have d0 := hcs q ss[q] (List.getElem?_eq_getElem hqs)
          obtain ⟨va, vc, rfl, -, -, hva⟩ := owns_strs S2.out.2.1
          have PL : (Tm.puts o (ss.take q)).length ≤ 700000 := by
            have := puts_len_le (ss.take q) o
            rw [List.length_take] at this
            omega
          have PT : Aside (Calls Try.prog 46 #[.slice va (Tm.puts o (ss.take q)).length vc, str ss[q]] wr (PutPost (Tm.puts o (ss.take q)) ss[q] wr)) := put_any va _ vc _ ss[q] wr rfl (by omega) hva
          have PS : Hid (Tm.puts o (ss.take (q + 1)) = Tm.put (Tm.puts o (ss.take q)) ss[q]) := puts_step hqs
          have v1 : (q : Int) < (m : Int) := by omega
          have v0 : (0 : Int) ≤ (q : Int) := by omega
          clear hcs hva PL
          unfold str at d0 PT
          unfold PutPost at PT
          generalize ss[q] = y2 at *
          generalize (⟨y2.toArray⟩ : ByteArray) = z2 at *
          generalize Tm.puts o (ss.take q) = oq at *
          generalize oq.length = oql at *
          go_wp2_with fail
          refine PT.out.mono ?_
          rintro e w5 ⟨v5, rfl, ho5, hb5⟩
          have R5 : Aside (AtS w5 (some ⟨pb, po, none⟩) ss ∧ w5.ownsRow w.heap.size 23 1 v5 (Tm.puts o (ss.take (q + 1))).length (strs (Tm.puts o (ss.take (q + 1)))) ∧ Below w.heap.size w w5) := by
            refine ⟨atS_later hb5 S2.out.1, ?_, later2 S2.out.2.2 hb5⟩
            rw [PS.out]
            exact owns_mono ho5 S2.out.2.2.size
          clear PT ho5 hb5 S2 d0
          go_wp2
          go_roundw
          case rel => exact ⟨q + 1, by omega, by go_num, R5.out.1, R5.out.2.1, R5.out.2.2⟩
          case measure => simp [intOf]; omega
        · obtain rfl : q = m := by omega
          have R5 : Aside (wr.ownsRow w.heap.size 23 1 u3 (Tm.allL (l.take (j + 1))).length (strs (Tm.allL (l.take (j + 1)))) ∧ Below w.heap.size w wr) := by
            have h := S2.out.2
            rw [List.take_of_length_le (by rw [HM.out]; exact Nat.le_refl _), ← AS.out] at h
            exact h
          obtain ⟨va, vc, rfl, -, -, -⟩ := owns_strs R5.out.1
          clear S2
          go_wp2
          go_roundw
          case rel => exact ⟨j + 1, by omega, by go_num, R5.out.1, R5.out.2⟩
          case measure => simp [intOf]; omega
    · obtain rfl : j = n := by omega
      have Q1 := R.out u3 wr (by
        have := S.out.1
        rw [List.take_of_length_le (by rw [HN.out]; exact Nat.le_refl _)] at this
        exact this) S.out.2
      clear R S
      go_wp2
      exact Q1

-- What the document's own close gives.

namespace Tm
theorem sweep_step {U h : List (List UInt8)} {i : Nat} (hi : i < U.length) : sweep (U.take (i + 1)) h = step1 (sweep (U.take i) h) U[i] := by
  unfold sweep
  rw [List.take_succ_eq_append_getElem hi, List.foldl_append]; rfl
theorem step1_sum {U h : List (List UInt8)} {t : List UInt8} (ht : t ∈ U) : (step1 h t).length + lack U (step1 h t) ≤ h.length + lack U h := by
  unfold step1
  split
  · rename_i hh
    have h1 := put_len hh.1
    have h2 := lack_less (U := U) (h := h) (k := put h t) (fun x hx => mem_put.2 (.inr hx)) ht hh.1 (mem_put.2 (.inl rfl))
    omega
  · exact Nat.le_refl _
theorem sweep_sum {U V h : List (List UInt8)} (hv : ∀ t ∈ V, t ∈ U) : (sweep V h).length + lack U (sweep V h) ≤ h.length + lack U h := by
  unfold sweep
  induction V generalizing h with
  | nil => exact Nat.le_refl _
  | cons t V ih => exact Nat.le_trans (ih (fun x hx => hv x (by simp [hx]))) (step1_sum (hv t (by simp)))
theorem closeF_end {U h : List (List UInt8)} (hl : (sweep U h).length = h.length) : closeF (U.length + 1) U h = h := by
  unfold closeF; rw [if_pos hl]
theorem closeF_next {U h : List (List UInt8)} (hl : (sweep U h).length ≠ h.length) : closeF (U.length + 1) U (sweep U h) = closeF (U.length + 1) U h := by
  have h1 := sweep_lack hl
  have h2 := lack_le U h
  rw [closeF_fuel (U.length + 1) U.length U (sweep U h) (by omega) (by omega)]
  conv => rhs; unfold closeF
  rw [if_neg hl]
end Tm

def ClosePost (l U : List (List UInt8)) (w : World) (e : Ending) (w' : World) : Prop := ∃ v, e = .returned v ∧ w'.ownsRow w.heap.size 23 1 v (Tm.closeL l U).length (strs (Tm.closeL l U)) ∧ Below w.heap.size w w'

set_option maxRecDepth 20000 in
set_option maxHeartbeats 16000000 in
theorem close_any (a : Option Addr) (n cap : Nat) (l : List (List UInt8)) (ua : Option Addr) (un ucap : Nat) (U : List (List UInt8)) (w : World) (hn : l.length = n) (hn5 : n ≤ 300) (hl : AtS w a l)
    (hun : U.length = un) (hun5 : un ≤ 1000000) (hu : AtS w ua U) : Calls Try.prog 30 #[.slice a n cap, .slice ua un ucap] w (ClosePost l U w) := by
  have R : Aside (∀ v w', w'.ownsRow w.heap.size 23 1 v (Tm.closeL l U).length (strs (Tm.closeL l U)) → Below w.heap.size w w' → ClosePost l U w (.returned v) w') := fun v w' h1 h2 => ⟨v, rfl, h1, h2⟩
  generalize ClosePost l U w = Q at R ⊢
  have HN : Hid (l.length = n) := hn
  have HU : Hid (U.length = un) := hun
  have C : Aside (AtS w a l) := hl
  have D : Aside (AtS w ua U) := hu
  clear hl hn hu hun
  go_enter Try.func30, Try.ntmps30
  go_wp2_with fail
  go_loopw [5, 6] (fun v i wr => ∃ j : Nat, j ≤ n ∧ i = .int .i64 j ∧ wr.ownsRow w.heap.size 23 1 v (Tm.puts [] (l.take j)).length (strs (Tm.puts [] (l.take j))) ∧ Below w.heap.size w wr) (fun _ i _ => n - (intOf i).toNat)
  case atStart => exact ⟨0, Nat.zero_le _, rfl, World.ownsRow_nil _ _ _ _, Below.refl _ _⟩
  case round =>
    obtain ⟨j, hj, rfl, hown, hb⟩ := hrel
    have S : Aside (wr.ownsRow w.heap.size 23 1 u5 (Tm.puts [] (l.take j)).length (strs (Tm.puts [] (l.take j))) ∧ Below w.heap.size w wr) := ⟨hown, hb⟩
    clear hown hb
    by_cases hlt : j < n
    · have hjl : j < l.length := by rw [HN.out]; exact hlt
      obtain ⟨b, off, rfl, hcs⟩ : ∃ b off, a = some ⟨b, off, none⟩ ∧ ∀ i y, l[i]? = some y → wr.cell? ⟨b, off + i, none⟩ = some (str y) := by
        rcases atS_later S.out.2 C.out with e | h
        · rw [e] at hjl; simp at hjl
        · exact h
      have c0 := hcs j l[j] (List.getElem?_eq_getElem hjl)
      obtain ⟨va, vc, rfl, -, -, hva⟩ := owns_strs S.out.1
      have PL : (Tm.puts [] (l.take j)).length ≤ 700000 := by
        have := puts_len_le (l.take j) []
        rw [List.length_take, List.length_nil] at this
        omega
      have PT : Aside (Calls Try.prog 46 #[.slice va (Tm.puts [] (l.take j)).length vc, str l[j]] wr (PutPost (Tm.puts [] (l.take j)) l[j] wr)) := put_any va _ vc _ l[j] wr rfl (by omega) hva
      have PS : Hid (Tm.puts [] (l.take (j + 1)) = Tm.put (Tm.puts [] (l.take j)) l[j]) := puts_step hjl
      have v1 : (j : Int) < (n : Int) := by omega
      have v0 : (0 : Int) ≤ (j : Int) := by omega
      clear hcs hva PL R D
      unfold str at c0 PT
      unfold PutPost at PT
      generalize l[j] = y2 at *
      generalize (⟨y2.toArray⟩ : ByteArray) = z2 at *
      generalize Tm.puts [] (l.take j) = oq at *
      generalize oq.length = oql at *
      go_wp2_with fail
      refine PT.out.mono ?_
      rintro e w5 ⟨v5, rfl, ho5, hb5⟩
      have R5 : Aside (w5.ownsRow w.heap.size 23 1 v5 (Tm.puts [] (l.take (j + 1))).length (strs (Tm.puts [] (l.take (j + 1)))) ∧ Below w.heap.size w w5) := by
        refine ⟨?_, later2 S.out.2 hb5⟩
        rw [PS.out]
        exact owns_mono ho5 S.out.2.size
      clear PT ho5 hb5 S c0
      go_wp2
      go_roundw
      case rel => exact ⟨j + 1, by omega, by go_num, R5.out.1, R5.out.2⟩
      case measure => simp [intOf]; omega
    · obtain rfl : j = n := by omega
      have S1 : Aside (wr.ownsRow w.heap.size 23 1 u5 (Tm.puts [] l).length (strs (Tm.puts [] l)) ∧ Below w.heap.size w wr) := by
        have h := S.out
        rw [List.take_of_length_le (by rw [HN.out]; exact Nat.le_refl _)] at h
        exact h
      have S0 : Aside ((Tm.puts [] l).length + Tm.lack U (Tm.puts [] l) ≤ j + un) := by
        have h1 := puts_len_le l []
        have h2 := Tm.lack_le U (Tm.puts [] l)
        rw [HN.out, List.length_nil] at h1
        rw [HU.out] at h2
        show _ ≤ _
        omega
      clear S C
      go_wp2_with fail
      go_loopg [5] (Tm.lack U (Tm.puts [] l)) (fun k v wr => ∃ h : List (List UInt8), Tm.lack U h = k ∧ h.length + Tm.lack U h ≤ j + un ∧ Tm.closeF (U.length + 1) U h = Tm.closeL l U ∧ wr.ownsRow w.heap.size 23 1 v h.length (strs h) ∧ Below w.heap.size w wr)
      case atStart => exact ⟨_, rfl, S0.out, rfl, S1.out⟩
      case round =>
        obtain ⟨h, hk, hs, hc, ho, hb⟩ := hrel
        clear S1 S0
        obtain ⟨va, vc, rfl, -, -, -⟩ := owns_strs ho
        have K : Aside (Tm.lack U h = gk ∧ h.length + Tm.lack U h ≤ j + un ∧ Tm.closeF (U.length + 1) U h = Tm.closeL l U) := ⟨hk, hs, hc⟩
        have S : Aside (Go.World.ownsRow wr w.heap.size 23 1 (.slice va h.length vc) h.length (strs h) ∧ Below w.heap.size w wr) := ⟨ho, hb⟩
        obtain ⟨nh, hnh⟩ : ∃ x, x = h.length := ⟨_, rfl⟩
        have HH : Hid (nh = h.length) := hnh
        have hnb : nh ≤ 2000000 := by omega
        rw [← hnh] at S ⊢
        clear hk hs hc ho hb hnh
        obtain ⟨g0, rfl⟩ : ∃ x, x = gk := ⟨gk, rfl⟩
        go_wp2_with fail
        go_loopg [5, 8] un (fun k v i wr => ∃ q : Nat, q ≤ un ∧ k = un - q ∧ i = .int .i64 q ∧ wr.ownsRow w.heap.size 23 1 v (Tm.sweep (U.take q) h).length (strs (Tm.sweep (U.take q) h)) ∧ Below w.heap.size w wr)
        case atStart => exact ⟨0, Nat.zero_le _, by omega, rfl, by
          have := S.out.1
          rw [HH.out] at this ⊢
          exact this, S.out.2⟩
        case round =>
          obtain ⟨q, hq, hkq, rfl, hown, hb⟩ := hrel
          clear S
          have KQ : Aside (gk = un - q) := hkq
          have T : Aside (wr.ownsRow w.heap.size 23 1 u5 (Tm.sweep (U.take q) h).length (strs (Tm.sweep (U.take q) h)) ∧ Below w.heap.size w wr) := ⟨hown, hb⟩
          have SB : Hid ((Tm.sweep (U.take q) h).length ≤ 2000000) := by
            have h1 := Tm.sweep_sum (U := U) (V := U.take q) (h := h) (fun t ht => List.mem_of_mem_take ht)
            have h2 := K.out.2.1
            show _ ≤ _
            omega
          clear hkq hown hb
          by_cases hlt2 : q < un
          · have hqs : q < U.length := by rw [HU.out]; exact hlt2
            obtain ⟨pb, po, rfl, hcs⟩ : ∃ b off, ua = some ⟨b, off, none⟩ ∧ ∀ i y, U[i]? = some y → wr.cell? ⟨b, off + i, none⟩ = some (str y) := by
              rcases atS_later T.out.2 D.out with e | h
              · rw [e] at hqs; simp at hqs
              · exact h
            have d0 := hcs q U[q] (List.getElem?_eq_getElem hqs)
            obtain ⟨sa, sc, rfl, -, -, hsa⟩ := owns_strs T.out.1
            have IN : Aside (Calls Try.prog 34 #[.slice sa (Tm.sweep (U.take q) h).length sc, str U[q]] wr fun e w' => e = .returned (.bool (decide (U[q] ∈ Tm.sweep (U.take q) h))) ∧ w' = wr) := in_any sa _ sc _ U[q] wr rfl (Nat.le_trans SB.out (by decide)) hsa
            have BU : Aside (∀ W, Below wr.heap.size wr W → Calls Try.prog 47 #[.slice sa (Tm.sweep (U.take q) h).length sc, str U[q]] W fun e w' => e = .returned (.bool (Tm.builtB (Tm.sweep (U.take q) h) U[q])) ∧ Below W.heap.size W w') := fun W hW => built_any sa _ sc _ U[q] W rfl (Nat.le_trans SB.out (by decide)) (atS_later hW hsa)
            have GI : Aside (∀ W, Below wr.heap.size wr W → Calls Try.prog 48 #[.slice sa (Tm.sweep (U.take q) h).length sc, str U[q]] W fun e w' => e = .returned (.bool (Tm.givenB (Tm.sweep (U.take q) h) U[q])) ∧ Below W.heap.size W w') := fun W hW => given_any sa _ sc _ U[q] W rfl (Nat.le_trans SB.out (by decide)) (atS_later hW hsa)
            have PT : Aside (∀ W, Below wr.heap.size wr W → Calls Try.prog 46 #[.slice sa (Tm.sweep (U.take q) h).length sc, str U[q]] W (PutPost (Tm.sweep (U.take q) h) U[q] W)) := fun W hW => put_any sa _ sc _ U[q] W rfl (Nat.le_trans SB.out (by decide)) (atS_later hW hsa)
            have PS : Hid (Tm.sweep (U.take (q + 1)) h = Tm.step1 (Tm.sweep (U.take q) h) U[q]) := Tm.sweep_step hqs
            have LATE : Aside (∀ W, Below wr.heap.size wr W → Go.World.ownsRow W w.heap.size 23 1 (.slice sa (Tm.sweep (U.take q) h).length sc) (Tm.sweep (U.take q) h).length (strs (Tm.sweep (U.take q) h)) ∧ Below w.heap.size w W) := fun W hW => ⟨owns_later hW T.out.1, later2 T.out.2 hW⟩
            have v1 : (q : Int) < (un : Int) := by omega
            have v0 : (0 : Int) ≤ (q : Int) := by omega
            have FIN : Aside (∀ v W, Go.World.ownsRow W w.heap.size 23 1 v (Tm.step1 (Tm.sweep (U.take q) h) U[q]).length (strs (Tm.step1 (Tm.sweep (U.take q) h) U[q])) → Below w.heap.size w W → ∃ q' : Nat, q' ≤ un ∧ un - (q + 1) = un - q' ∧ Value.int .i64 ((q + 1 : Nat) : Int) = .int .i64 q' ∧ W.ownsRow w.heap.size 23 1 v (Tm.sweep (U.take q') h).length (strs (Tm.sweep (U.take q') h)) ∧ Below w.heap.size w W) := by
              intro v W h1 h2
              exact ⟨q + 1, by omega, rfl, rfl, by rw [PS.out]; exact h1, h2⟩
            have ME : Aside (un - (q + 1) < gk) := by
              have := KQ.out
              show _ < _
              omega
            clear hcs hsa PS T SB R K D
            unfold str at d0 IN BU GI PT
            unfold PutPost at PT
            unfold Tm.step1 at FIN
            generalize U[q] = y at *
            generalize (⟨y.toArray⟩ : ByteArray) = z at *
            generalize Tm.sweep (U.take q) h = sq at *
            by_cases m1 : y ∈ sq
            · rw [decide_eq_true m1] at IN
              rw [if_neg (fun h => h.1 m1)] at FIN
              have L0 := LATE.out wr (Below.refl _ _)
              have F0 : Aside (Go.World.ownsRow wr w.heap.size 23 1 (.slice sa sq.length sc) sq.length (strs sq) ∧ Below w.heap.size w wr) := L0
              clear L0 LATE BU GI PT m1
              generalize sq.length = sl at *
              go_wp2_with fail
              refine IN.out.mono ?_
              rintro e w5 ⟨rfl, hw⟩
              replace hw := hw.symm; subst hw
              clear IN
              go_wp2
              go_roundg (un - (q + 1))
              case rel => exact (by go_num : Value.int .i64 ((q + 1 : Nat) : Int) = _) ▸ FIN.out _ _ F0.out.1 F0.out.2
              case measure => exact ME.out
            · rw [decide_eq_false m1] at IN
              cases hbu : Tm.builtB sq y with
              | true =>
                rw [hbu] at BU
                rw [if_pos ⟨m1, by rw [hbu]; rfl⟩] at FIN
                have B1 := BU.out wr (Below.refl _ _)
                clear m1 hbu BU
                generalize hsl : sq.length = sl at *
                clear hsl
                go_wp2_with fail
                refine IN.out.mono ?_
                rintro e w5 ⟨rfl, hw⟩
                replace hw := hw.symm; subst hw
                clear IN
                go_wp2_with fail
                refine B1.mono ?_
                rintro e w6 ⟨rfl, hb6⟩
                clear B1
                have F1 : Aside (Below wr.heap.size wr w6) := hb6
                have P1 := PT.out w6 F1.out
                have WB : Aside (Below w.heap.size w w6) := (LATE.out w6 F1.out).2
                clear PT LATE GI F1 hb6
                go_wp2_with fail
                refine P1.mono ?_
                rintro e w8 ⟨v8, rfl, ho8, hb8⟩
                have R8 : Aside (w8.ownsRow w.heap.size 23 1 v8 (Tm.put sq y).length (strs (Tm.put sq y)) ∧ Below w.heap.size w w8) := ⟨owns_mono ho8 WB.out.size, later2 WB.out hb8⟩
                clear P1 ho8 hb8 WB d0
                go_wp2
                go_roundg (un - (q + 1))
                case rel => exact (by go_num : Value.int .i64 ((q + 1 : Nat) : Int) = _) ▸ FIN.out _ _ R8.out.1 R8.out.2
                case measure => exact ME.out
              | false =>
                rw [hbu] at BU
                have B1 := BU.out wr (Below.refl _ _)
                cases hgi : Tm.givenB sq y with
                | true =>
                  rw [hgi] at GI
                  rw [if_pos ⟨m1, by rw [hbu, hgi]; rfl⟩] at FIN
                  clear m1 hbu BU hgi
                  generalize hsl : sq.length = sl at *
                  clear hsl
                  go_wp2_with fail
                  refine IN.out.mono ?_
                  rintro e w5 ⟨rfl, hw⟩
                  replace hw := hw.symm; subst hw
                  clear IN
                  go_wp2_with fail
                  refine B1.mono ?_
                  rintro e w6 ⟨rfl, hb6⟩
                  have G1 := GI.out w6 hb6
                  clear B1 GI
                  go_wp2_with fail
                  refine G1.mono ?_
                  rintro e w7 ⟨rfl, hb7⟩
                  clear G1
                  have F1 : Aside (Below wr.heap.size wr w7) := later2 hb6 hb7
                  have P1 := PT.out w7 F1.out
                  have WB : Aside (Below w.heap.size w w7) := (LATE.out w7 F1.out).2
                  clear PT LATE F1 hb6 hb7
                  go_wp2_with fail
                  refine P1.mono ?_
                  rintro e w8 ⟨v8, rfl, ho8, hb8⟩
                  have R8 : Aside (w8.ownsRow w.heap.size 23 1 v8 (Tm.put sq y).length (strs (Tm.put sq y)) ∧ Below w.heap.size w w8) := ⟨owns_mono ho8 WB.out.size, later2 WB.out hb8⟩
                  clear P1 ho8 hb8 WB d0
                  go_wp2
                  go_roundg (un - (q + 1))
                  case rel => exact (by go_num : Value.int .i64 ((q + 1 : Nat) : Int) = _) ▸ FIN.out _ _ R8.out.1 R8.out.2
                  case measure => exact ME.out
                | false =>
                  rw [hgi] at GI
                  rw [if_neg (fun h => by have := h.2; rw [hbu, hgi] at this; cases this)] at FIN
                  clear m1 hbu BU hgi PT
                  generalize hsl : sq.length = sl at *
                  clear hsl
                  go_wp2_with fail
                  refine IN.out.mono ?_
                  rintro e w5 ⟨rfl, hw⟩
                  replace hw := hw.symm; subst hw
                  clear IN
                  go_wp2_with fail
                  refine B1.mono ?_
                  rintro e w6 ⟨rfl, hb6⟩
                  have G1 := GI.out w6 hb6
                  clear B1 GI
                  go_wp2_with fail
                  refine G1.mono ?_
                  rintro e w7 ⟨rfl, hb7⟩
                  have R8 : Aside (Go.World.ownsRow w7 w.heap.size 23 1 (.slice sa sl sc) sl (strs sq) ∧ Below w.heap.size w w7) := LATE.out w7 (later2 hb6 hb7)
                  clear G1 LATE hb6 hb7 d0
                  go_wp2
                  go_roundg (un - (q + 1))
                  case rel => exact (by go_num : Value.int .i64 ((q + 1 : Nat) : Int) = _) ▸ FIN.out _ _ R8.out.1 R8.out.2
                  case measure => exact ME.out
          · obtain rfl : q = un := by omega
            have T1 : Aside (wr.ownsRow w.heap.size 23 1 u5 (Tm.sweep U h).length (strs (Tm.sweep U h)) ∧ Below w.heap.size w wr) := by
              have := T.out
              rw [List.take_of_length_le (by rw [HU.out]; exact Nat.le_refl _)] at this
              exact this
            have SM : Aside ((Tm.sweep U h).length + Tm.lack U (Tm.sweep U h) ≤ j + q) := Nat.le_trans (Tm.sweep_sum (fun t ht => ht)) K.out.2.1
            obtain ⟨sa, sc, rfl, -, -, -⟩ := owns_strs T1.out.1
            clear T SB D
            by_cases hle : (Tm.sweep U h).length = h.length
            · have e1 : Tm.closeL l U = Tm.sweep U h := by
                rw [← K.out.2.2, Tm.closeF_end hle, (Tm.sweep_same hle).1]
              have e2 : (Tm.sweep U h).length = nh := by rw [HH.out]; exact hle
              have Q1 := R.out (.slice sa (Tm.sweep U h).length sc) wr (by rw [e1]; exact T1.out.1) T1.out.2
              rw [e2] at Q1 ⊢
              clear e1 e2 hle T1 SM R K
              go_wp2
              exact Q1
            · have LK : Aside (Tm.lack U (Tm.sweep U h) < g0) := by
                have := Tm.sweep_lack hle
                rw [K.out.1] at this
                exact this
              have CF : Aside (Tm.closeF (U.length + 1) U (Tm.sweep U h) = Tm.closeL l U) := (Tm.closeF_next hle).trans K.out.2.2
              have e2 : ¬ (Tm.sweep U h).length = nh := by rw [HH.out]; exact hle
              clear K hle R
              generalize Tm.sweep U h = sq at *
              obtain ⟨sl, hsl⟩ : ∃ x, x = sq.length := ⟨_, rfl⟩
              have HSL : Hid (sl = sq.length) := hsl
              rw [← hsl] at e2 ⊢
              have e3 : ((sl : Int) == (nh : Int)) = false := by
                rw [Bool.eq_false_iff]
                intro e
                exact e2 (by have := eq_of_beq e; omega)
              have e4 : ¬ (sl : Int) = (nh : Int) := by omega
              clear hsl e2
              go_wp2
              go_roundg (Tm.lack U sq)
              case rel => exact ⟨sq, rfl, SM.out, CF.out, by
                have := T1.out.1
                rw [HSL.out]
                exact this, T1.out.2⟩
              case measure => exact LK.out

end Go.Proofs.Ytdpnffnogckfjaa
