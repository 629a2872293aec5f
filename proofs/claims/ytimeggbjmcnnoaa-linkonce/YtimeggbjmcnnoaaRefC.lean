/- What the document's own Depth and Check give. -/
import Derived.Test.YtimeggbjmcnnoaaRefB
import Derived.Test.YtimeggbjmcnnoaaOwn
namespace Go.Proofs.Ytimeggbjmcnnoaa
open Go.RowKit

namespace Tm
/-- How deep it goes below some terms, each at its level. -/
def reach : List (T × Nat) → Nat
  | [] => 0
  | (t, l) :: r => max (l + depth t - 1) (reach r)
/-- What is still to be gone through, with its levels. -/
def pend (P : List (T × Nat)) : List UInt8 := texts (P.map Prod.fst)
def DInv (L : List UInt8) (D : Nat) (p top : Nat) (P : List (T × Nat)) : Prop :=
  wfs (P.map Prod.fst) ∧ L.drop p = pend P ∧ max top (reach P) = D
theorem depth_pos (t : T) : 1 ≤ depth t := by rw [depth_kids]; omega
theorem reach_kids (l : List T) (lv : Nat) (P : List (T × Nat)) : max lv (reach (l.map (fun x => (x, lv + 1)) ++ P)) = max (lv + maxd l) (reach P) := by
  induction l with
  | nil => simp [maxd]
  | cons x l ih =>
    simp only [List.map_cons, List.cons_append, reach, maxd]
    omega
theorem pend_len : ∀ P : List (T × Nat), wfs (P.map Prod.fst) → P.length ≤ (pend P).length
  | [], _ => by simp
  | (t, l) :: r, hw => by
    have h := wfs_cons.1 hw
    have h1 : 0 < (text t).length := text_pos h.1
    have h2 := pend_len r h.2
    show r.length + 1 ≤ (texts (t :: r.map Prod.fst)).length
    rw [texts_cons, List.length_append]
    unfold pend at h2
    omega
/-- One step: the parts come ahead of the others, one level deeper. -/
theorem dInv_step {L : List UInt8} {D p top lv : Nat} {t : T} {P : List (T × Nat)} (h : DInv L D p top ((t, lv) :: P)) :
    0 < own (L.drop p) ∧ ar (L.drop p) = (kids t).length ∧ DInv L D (p + own (L.drop p)) (max top lv) ((kids t).map (fun x => (x, lv + 1)) ++ P) := by
  obtain ⟨hw, he, hm⟩ := h
  obtain ⟨w1, w2⟩ := wfs_cons.1 (show wfs (t :: P.map Prod.fst) from hw)
  have e2 : L.drop p = text t ++ (texts (P.map Prod.fst) ++ []) := by
    rw [he]; show texts (t :: P.map Prod.fst) = _; rw [texts_cons, List.append_nil]
  have e3 : L.drop p = texts (t :: P.map Prod.fst) ++ [] := by rw [he, List.append_nil]; rfl
  obtain ⟨s1, s2, s3, s4⟩ := wf_step w1 (texts (P.map Prod.fst) ++ [])
  rw [← e2] at s1 s2
  have hd := drop_step w1 (P.map Prod.fst) []
  rw [← e3, List.append_nil] at hd
  have hmap : ((kids t).map (fun x => (x, lv + 1)) ++ P).map Prod.fst = kids t ++ P.map Prod.fst := by
    rw [List.map_append, List.map_map]; congr 1; exact List.map_id _
  refine ⟨by omega, s2, by rw [hmap]; exact wfs_append.2 ⟨s4, w2⟩, ?_, ?_⟩
  · unfold pend; rw [hmap, ← List.drop_drop]; exact hd
  · have hk := reach_kids (kids t) lv P
    have hd := depth_kids t
    rw [← hm]
    simp only [reach]
    omega
theorem reach_head (t : T) (lv : Nat) (P : List (T × Nat)) : lv ≤ reach ((t, lv) :: P) := by
  have := depth_pos t
  simp [reach]; omega
end Tm

/-- Levels that wait, the last first. -/
def lvls (P : List (Tm.T × Nat)) : List Value := (P.map fun x => Value.int .i64 (x.2 : Int)).reverse
theorem lvls_cons (t : Tm.T) (l : Nat) (P : List (Tm.T × Nat)) : lvls ((t, l) :: P) = lvls P ++ [.int .i64 (l : Int)] := by simp [lvls]
theorem lvls_len (P : List (Tm.T × Nat)) : (lvls P).length = P.length := by simp [lvls]

set_option maxHeartbeats 4000000 in
theorem depth_any (s : ByteArray) (t : Tm.T) (w : World) (hs : s.size ≤ 2000) (ht : Tm.tree s.data.toList = some t) :
    Calls Try.prog 24 #[.string s] w fun e w' => e = .returned (.int .i64 (Tm.depth t : Nat)) ∧ Below w.heap.size w w' := by
  obtain ⟨hwf, htx⟩ := Tm.tree_some.1 ht
  have hD : Tm.depth t ≤ 2000 := by
    have := Tm.depth_le t hwf
    rw [htx] at this; simp at this; omega
  have S0 : Aside (Tm.DInv s.data.toList (Tm.depth t) 0 0 [(t, 1)]) :=
    ⟨by simp [Tm.wfs, hwf], by rw [List.drop_zero, ← htx]; simp [Tm.pend, Tm.texts], by simp [Tm.reach]⟩
  obtain ⟨i0, hi, hz0, hz1, hz2⟩ := info_parts info3
  have I : Aside (Try.prog.info? 3 = some i0 ∧ i0.zero = some (.int .i64 0) ∧ i0.size = 1 ∧ i0.bytes = 8) := ⟨hi, hz0, hz1, hz2⟩
  have hQ : Aside (∀ w' d, d = Tm.depth t → Below w.heap.size w w' → (fun (e : Ending) w' => e = .returned (.int .i64 (Tm.depth t : Nat)) ∧ Below w.heap.size w w') (.returned (.int .i64 (d : Nat))) w') := fun w' d hd hb => ⟨by rw [hd], hb⟩
  generalize (fun (e : Ending) w' => e = .returned (.int .i64 (Tm.depth t : Nat)) ∧ Below w.heap.size w w') = Q at hQ ⊢
  generalize Tm.depth t = D at *
  clear hi hz0 hz1 hz2 ht hwf htx
  go_enter Try.func24, Try.ntmps24
  go_wp2_with fail
  go_loopw [3, 4, 5, 6] (fun st tp at' lv wr => ∃ (p top l : Nat) (u : Tm.T) (P : List (Tm.T × Nat)), p ≤ s.size ∧ top ≤ D ∧ tp = .int .i64 top ∧ at' = .int .i64 p ∧ lv = .int .i64 l ∧ Tm.DInv s.data.toList D p top ((u, l) :: P) ∧ wr.ownsRow w.heap.size 3 1 st P.length (lvls P) ∧ Below w.heap.size w wr) (fun _ _ at' _ _ => s.size - (intOf at').toNat)
  case atStart => exact ⟨0, 0, 1, t, [], Nat.zero_le _, Nat.zero_le _, rfl, rfl, rfl, S0.out, World.ownsRow_nil _ _ _ _, Below.refl _ _⟩
  case round =>
    obtain ⟨p, top, l, u, P, hp, htop, rfl, rfl, rfl, hinv, hown, hb⟩ := hrel
    obtain ⟨ho, har, hnx⟩ := Tm.dInv_step hinv
    have hlD : l ≤ D := by have := hinv.2.2; have := Tm.reach_head u l P; omega
    have hPl : P.length + 1 ≤ s.size := by
      have := Tm.pend_len _ hinv.1
      rw [← hinv.2.1, List.length_drop] at this
      simp at this; omega
    have hol := Tm.own_le (s.data.toList.drop p)
    rcases hd : s.data.toList.drop p with _ | ⟨c, r⟩
    · rw [hd] at ho; exact absurd ho (by simp [Tm.own])
    have hlen := drop_len hd hp
    have X := fun W => idx hd W
    have hN := fun W => need_any c W
    rw [hd] at ho har hnx hol
    rw [need_own (r := r) (by omega)] at hN
    have hO := fun W => own_any s p (c :: r) W hp (by omega) hd
    rw [show Tm.ar (c :: r) = Tm.ar1 c from rfl] at har
    rw [har] at hN
    have O : Aside (wr.ownsRow w.heap.size 3 1 u3 P.length (lvls P) ∧ Below w.heap.size w wr) := ⟨hown, hb⟩
    have hmx : ∀ (W : World) (ts : Array TypeId) (ty : TypeId), (Builtin.max_ ts ty #[.int .i64 (top : Int), .int .i64 (l : Int)]).run Try.prog W = .ok (.int .i64 ((max top l : Nat) : Int)) W := by
      intro W ts ty
      rw [run_max_int2]
      congr 2
      split <;> omega
    have hmt : max top l ≤ D := by omega
    generalize max top l = mt at *
    generalize Tm.own (c :: r) = n at *
    generalize (c :: r).length = m at *
    generalize c.toNat = cc at *
    have P1 : Aside (∀ W, _) := hN
    have P2 : Aside (∀ W, _) := hO
    have hk2 : (Tm.kids u).length ≤ 2 := by rw [← har]; exact Tm.ar1_le c
    clear hN hO hd hown hb S0 hinv har
    have hs0 : w.heap.size ≤ wr.heap.size := O.out.2.size
    match hku : Tm.kids u with
    | [] =>
      rw [hku] at hnx P1
      have V : Aside (Tm.DInv s.data.toList D (p + n) mt P) := hnx
      clear hnx
      have P1' : Aside (∀ W, Calls Try.prog 41 #[.int .u8 (cc : Int)] W fun e w' => e = .returned (.int .i64 0) ∧ w' = W) := P1.out
      cases P with
      | nil =>
        have e1 : mt = D := by have := V.out.2.2; simp [Tm.reach] at this; omega
        have Q1 := hQ.out wr mt e1 O.out.2
        have e2 : u3 = .slice none 0 0 ∨ ∃ g cap, u3 = .slice (some ⟨g, 0, none⟩) 0 cap := by
          rcases O.out.1.2 with ⟨h, _⟩ | ⟨g, cap, cur, h, _⟩
          · exact .inl h
          · exact .inr ⟨g, cap, h⟩
        rcases e2 with rfl | ⟨g, cap, rfl⟩
        all_goals
          clear hQ V O e1
          go_wp2_with fail
          refine (P1'.out wr).mono ?_
          rintro e w1 ⟨rfl, hw⟩
          replace hw := hw.symm; subst hw
          go_wp2_with fail
          refine (P2.out wr).mono ?_
          rintro e w1 ⟨rfl, hw⟩
          replace hw := hw.symm; subst hw
          go_wp2
          exact Q1
      | cons y P =>
        obtain ⟨t2, l2⟩ := y
        have hl2 : l2 ≤ D := by have := V.out.2.2; have := Tm.reach_head t2 l2 P; omega
        have O2 := O.out.1
        rw [lvls_cons, List.length_cons] at O2
        obtain ⟨g, cap, rfl⟩ : ∃ g cap, u3 = .slice (some ⟨g, 0, none⟩) (P.length + 1) cap := by
          rcases O2.2 with ⟨_, h⟩ | ⟨g, cap, cur, h, _⟩
          · omega
          · exact ⟨g, cap, h⟩
        obtain ⟨O3, c3, hcap⟩ := owns_pop O2
        have OO : Aside (wr.ownsRow w.heap.size 3 1 (.slice (some ⟨g, 0, none⟩) P.length cap) P.length (lvls P) ∧ Below w.heap.size w wr) := ⟨O3, O.out.2⟩
        rw [List.length_cons] at hPl
        have tq : (((P.length + 1 : Nat) : Int) == 0) = false := by
          have : ¬ ((P.length + 1 : Nat) : Int) = 0 := by omega
          simpa using this
        have e1 : ((P.length + 1 : Nat) : Int) - 1 = (P.length : Int) := by omega
        obtain ⟨q, hq⟩ : ∃ q, q = P.length := ⟨_, rfl⟩
        have HQ : Hid (q = P.length) := hq
        rw [← hq] at OO hPl tq e1 c3 hcap
        rw [← hq]
        clear hq
        clear hQ O O2 O3
        go_wp2_with fail
        refine (P1'.out wr).mono ?_
        rintro e w1 ⟨rfl, hw⟩
        replace hw := hw.symm; subst hw
        go_wp2_with fail
        refine (P2.out wr).mono ?_
        rintro e w1 ⟨rfl, hw⟩
        replace hw := hw.symm; subst hw
        go_wp2
        go_roundw
        case rel => exact ⟨p + n, mt, l2, t2, P, by omega, hmt, by first | rfl | trivial, by go_num, by first | rfl | trivial, V.out, by rw [← HQ.out]; exact OO.out.1, OO.out.2⟩
        case measure => simp [intOf]; omega
    | [a] =>
      rw [hku] at hnx P1
      have V : Aside (Tm.DInv s.data.toList D (p + n) mt ((a, l + 1) :: P)) := hnx
      clear hnx
      have P1' : Aside (∀ W, Calls Try.prog 41 #[.int .u8 (cc : Int)] W fun e w' => e = .returned (.int .i64 1) ∧ w' = W) := P1.out
      go_wp2_with fail
      refine (P1'.out wr).mono ?_
      rintro e w1 ⟨rfl, hw⟩
      replace hw := hw.symm; subst hw
      go_wp2_with fail
      refine (P2.out wr).mono ?_
      rintro e w1 ⟨rfl, hw⟩
      replace hw := hw.symm; subst hw
      go_wp2
      go_roundw
      case rel => exact ⟨p + n, mt, l + 1, a, P, by omega, hmt, by first | rfl | trivial, by go_num, by go_num, V.out, O.out.1, O.out.2⟩
      case measure => simp [intOf]; omega
    | [a, b] =>
      rw [hku] at hnx P1
      have V : Aside (Tm.DInv s.data.toList D (p + n) mt ((a, l + 1) :: (b, l + 1) :: P)) := hnx
      clear hnx
      have P1' : Aside (∀ W, Calls Try.prog 41 #[.int .u8 (cc : Int)] W fun e w' => e = .returned (.int .i64 2) ∧ w' = W) := P1.out
      go_wp2_with fail
      refine (P1'.out wr).mono ?_
      rintro e w1 ⟨rfl, hw⟩
      replace hw := hw.symm; subst hw
      go_wp2_with fail
      refine (P2.out wr).mono ?_
      rintro e w1 ⟨rfl, hw⟩
      replace hw := hw.symm; subst hw
      go_wp2_with (at_builtin; refine wpList_append_own _ rfl _ _ 83 rfl w.heap.size 3 i0 (.int .i64 0) 1 8 Try.underlying83 I.out.1 I.out.2.1 I.out.2.2.1 I.out.2.2.2 rfl (by decide) _ _ _ rfl (O.out.1.alloc _) ⟨wr.heap.size, 0, none⟩ 1 1 [.int .i64 ((l : Int) + 1)] rfl rfl ?c1 ?c2 ?c3 ?c4 ?c5 ?_)
      case c1 => exact cell_new1 _ _ _
      case c2 => intro u hu; simp at hu; subst hu; rfl
      case c3 => unfold maxLen; omega
      case c4 => omega
      case c5 => simp; omega
      intro v3 w3 hown3 hgrow3 _
      have hb3 : Below w.heap.size w w3 := grown_below hs0 O.out.1 O.out.2 hgrow3
      have hown4 : w3.ownsRow w.heap.size 3 1 v3 ((b, l + 1) :: P).length (lvls ((b, l + 1) :: P)) := by
        rw [lvls_cons]; exact hown3
      have OO : Aside (w3.ownsRow w.heap.size 3 1 v3 ((b, l + 1) :: P).length (lvls ((b, l + 1) :: P)) ∧ Below w.heap.size w w3) := ⟨hown4, hb3⟩
      clear hown3 hown4 hb3 hgrow3
      go_wp2
      go_roundw
      case rel => exact ⟨p + n, mt, l + 1, a, (b, l + 1) :: P, by omega, hmt, by first | rfl | trivial, by go_num, by go_num, V.out, OO.out.1, OO.out.2⟩
      case measure => simp [intOf]; omega
    | a :: b :: c :: q =>
      exfalso
      rw [hku] at hk2
      simp at hk2

end Go.Proofs.Ytimeggbjmcnnoaa
