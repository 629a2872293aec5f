/- The document's own: ballots with one vote more. -/
import Derived.Test.YtlekbbpancaenaaVtU
namespace Go.Proofs.Ytlekbbpancaenaa
open Go.RowKit Go.Shelf

namespace Vt
def anyX (l : Bal) (x : ByteArray) : Bool := l.any fun b => decide (b.1 = x)
theorem anyX_app (l : Bal) (b : ByteArray × Nat) (x : ByteArray) : anyX (l ++ [b]) x = (anyX l x || decide (b.1 = x)) := by unfold anyX; simp
theorem with_app_in {l : Bal} {id : Nat} {x : ByteArray} (b : ByteArray × Nat) (h : anyX l x = true) : withB (l ++ [b]) id x = withB l id x ++ [b] := by
  induction l with
  | nil => cases h
  | cons a l ih =>
    show withB (a :: (l ++ [b])) id x = _
    unfold withB
    by_cases ha : a.1 = x
    · rw [if_pos ha, if_pos ha]; rfl
    · rw [if_neg ha, if_neg ha, ih (by unfold anyX at h ⊢; simpa [ha] using h)]; rfl
theorem with_app_out {l : Bal} {id s : Nat} {x : ByteArray} (h : anyX l x = false) : withB (l ++ [(x, s)]) id x = l ++ [(x, Cn.withS s id)] := by
  induction l with
  | nil => simp [withB]
  | cons a l ih =>
    have ha : ¬ a.1 = x := fun e => by unfold anyX at h; simp [e] at h
    show withB (a :: (l ++ [(x, s)])) id x = _
    unfold withB
    rw [if_neg ha, ih (by unfold anyX at h ⊢; simpa [ha] using h)]; rfl
theorem with_out {l : Bal} {id : Nat} {x : ByteArray} (h : anyX l x = false) : withB l id x = l ++ [(x, Cn.withS 0 id)] := by
  induction l with
  | nil => rfl
  | cons a l ih =>
    have ha : ¬ a.1 = x := fun e => by unfold anyX at h; simp [e] at h
    unfold withB
    rw [if_neg ha, ih (by unfold anyX at h ⊢; simpa [ha] using h)]; rfl
/-- How far with has come behind k ballots. -/
def wk (l : Bal) (id : Nat) (x : ByteArray) (k : Nat) : Bal := if anyX (l.take k) x then withB (l.take k) id x else l.take k
theorem wk_len_le (l : Bal) (id : Nat) (x : ByteArray) (k : Nat) (hk : k ≤ l.length) : (wk l id x k).length ≤ k + 1 := by
  unfold wk; split
  · have := len_with (l.take k) id x; rw [List.length_take] at this; omega
  · rw [List.length_take]; omega
theorem wk_old {l : Bal} {id k s : Nat} {x y : ByteArray} (h : l[k]? = some (y, s)) (hd : anyX (l.take k) x = true) : wk l id x (k + 1) = wk l id x k ++ [(y, s)] ∧ anyX (l.take (k + 1)) x = true := by
  have e : l.take (k + 1) = l.take k ++ [(y, s)] := by rw [List.take_add_one, h]; rfl
  have ha : anyX (l.take (k + 1)) x = true := by rw [e, anyX_app, hd]; rfl
  refine ⟨?_, ha⟩
  unfold wk
  rw [if_pos ha, if_pos hd, e, with_app_in _ hd]
theorem wk_other {l : Bal} {id k s : Nat} {x y : ByteArray} (h : l[k]? = some (y, s)) (hd : anyX (l.take k) x = false) (hy : y ≠ x) : wk l id x (k + 1) = wk l id x k ++ [(y, s)] ∧ anyX (l.take (k + 1)) x = false := by
  have e : l.take (k + 1) = l.take k ++ [(y, s)] := by rw [List.take_add_one, h]; rfl
  have ha : anyX (l.take (k + 1)) x = false := by rw [e, anyX_app, hd]; simp [hy]
  refine ⟨?_, ha⟩
  unfold wk
  rw [if_neg (by rw [ha]; simp), if_neg (by rw [hd]; simp), e]
theorem wk_here {l : Bal} {id k s : Nat} {x : ByteArray} (h : l[k]? = some (x, s)) (hd : anyX (l.take k) x = false) : wk l id x (k + 1) = wk l id x k ++ [(x, Cn.withS s id)] ∧ anyX (l.take (k + 1)) x = true := by
  have e : l.take (k + 1) = l.take k ++ [(x, s)] := by rw [List.take_add_one, h]; rfl
  have ha : anyX (l.take (k + 1)) x = true := by rw [e, anyX_app, hd]; simp
  refine ⟨?_, ha⟩
  unfold wk
  rw [if_pos ha, if_neg (by rw [hd]; simp), e, with_app_out hd]
end Vt

def RWith (w : World) (l : Vt.Bal) (e : Ending) (w' : World) : Prop := ∃ a c, e = .returned (.slice a l.length c) ∧ w'.ownsRow w.heap.size 86 2 (.slice a l.length c) l.length (Vt.balC l) ∧ Below w.heap.size w w'
theorem info86w : (Try.prog.info? 86).map (fun i => (i.zero, i.size, i.bytes)) = some (some (.agg #[.string ⟨#[]⟩, .int .u16 0]), 2, 24) := by kernel_rfl
theorem rwith_out {w w' : World} {v : Value} {n : Nat} {l : Vt.Bal} (h : w'.ownsRow w.heap.size 86 2 v n (Vt.balC l)) (hb : Below w.heap.size w w') : RWith w l (.returned v) w' := by
  obtain ⟨a, c, rfl, hl, -⟩ := Vt.own_at h
  subst hl
  exact ⟨a, c, rfl, h, hb⟩

set_option maxHeartbeats 8000000 in
set_option maxRecDepth 100000 in
theorem rwithb_any (a : Option Addr) (c : Nat) (l : Vt.Bal) (id : Nat) (x : ByteArray) (w : World) (h : Vt.At w a l) (hs : Vt.Small l) (hn : l.length ≤ 900) (h8 : id < 256) :
    Calls Try.prog 63 #[.slice a l.length c, .int .u8 (id : Nat), .string x] w (RWith w (Vt.withB l id x)) := by
  obtain ⟨i0, hi, hz0, hz1, hz2⟩ := info_parts info86w
  have I : Aside (Try.prog.info? 86 = some i0 ∧ i0.zero = some (.agg #[.string ⟨#[]⟩, .int .u16 0]) ∧ i0.size = 2 ∧ i0.bytes = 24) := ⟨hi, hz0, hz1, hz2⟩
  clear hi hz0 hz1 hz2
  have HA : Aside (Vt.At w a l ∧ Vt.Small l) := ⟨h, hs⟩
  have WW : Aside (∀ s W, s < 65536 → Calls Try.prog 71 #[.int .u16 (s : Nat), .int .u8 (id : Nat)] W fun e w' => e = .returned (.int .u16 (Cn.withS s id : Nat)) ∧ w' = W) := fun s W h6 => rwith_any s id W h6 h8
  have RT : Aside (∀ v n w', w'.ownsRow w.heap.size 86 2 v n (Vt.balC (Vt.withB l id x)) → Below w.heap.size w w' → RWith w (Vt.withB l id x) (.returned v) w') := fun v n w' h1 h2 => rwith_out h1 h2
  generalize RWith w (Vt.withB l id x) = Q at RT ⊢
  clear h hs h8
  obtain ⟨n, hn'⟩ : ∃ n : Nat, n = l.length := ⟨_, rfl⟩
  rw [← hn'] at hn ⊢
  have HN : Aside (n = l.length) := hn'
  clear hn'
  go_enter Try.func63, Try.ntmps63
  go_wp2_with fail
  go_loopw [7, 8, 9] (fun out dn i wr => ∃ k g q m, k ≤ n ∧ m ≤ k + 1 ∧ i = .int .i64 (k : Nat) ∧ dn = .bool (Vt.anyX (l.take k) x) ∧ out = .slice g m q ∧ Aside (wr.ownsRow w.heap.size 86 2 (.slice g m q) m (Vt.balC (Vt.wk l id x k)) ∧ Below w.heap.size w wr)) (fun _ _ i _ => n - (intOf i).toNat)
  case atStart => exact ⟨0, none, 0, 0, Nat.zero_le _, by omega, rfl, rfl, rfl, World.ownsRow_nil _ _ _ _, Below.refl _ w⟩
  case round =>
    obtain ⟨k, g, q, m, hk, hm, rfl, rfl, rfl, hC⟩ := hrel
    have HB : Aside (Below w.heap.size w wr) := hC.out.2
    have OW : Aside (wr.ownsRow w.heap.size 86 2 (.slice g m q) m (Vt.balC (Vt.wk l id x k))) := hC.out.1
    clear hC
    by_cases hlt : k < n
    · have t1 : (k : Int) < (n : Int) := by omega
      have t2 : (0 : Int) ≤ (k : Int) := by omega
      obtain ⟨bb, hbb⟩ : ∃ bb, l[k]? = some bb := ⟨_, List.getElem?_eq_getElem (HN.out ▸ hlt)⟩
      obtain ⟨bx, bs⟩ := bb
      obtain ⟨gb, of, rfl, o0, o1⟩ := at_cell (HA.out.1.later HB.out) hbb
      have ol := World.block_lt_of_cell? _ _ o0
      dsimp only at ol
      have S6 : Aside (bs < 65536) := HA.out.2 _ (List.mem_of_getElem? hbb)
      have eb := eq_arr bx x
      have hl1 := Vt.wk_len_le l id x (k + 1) (by have := HN.out; omega)
      cases hA0 : Vt.anyX (l.take k) x with
      | true =>
        have hA : Aside (Vt.anyX (l.take k) x = true) := hA0
        clear hA0 eb
        have ST : Aside (Vt.balC (Vt.wk l id x k) ++ [.string bx, .int .u16 (bs : Int)] = Vt.balC (Vt.wk l id x (k + 1)) ∧ Vt.anyX (l.take (k + 1)) x = true) := by
          obtain ⟨q1, q2⟩ := Vt.wk_old (id := id) hbb hA.out
          exact ⟨by rw [q1, Vt.balC_append]; rfl, q2⟩
        clear hbb
        go_wp2_with (at_builtin; refine wpList_append_own _ rfl _ _ 22 rfl w.heap.size 86 i0 (.agg #[.string ⟨#[]⟩, .int .u16 0]) 2 24 Try.underlying22 I.out.1 I.out.2.1 I.out.2.2.1 I.out.2.2.2 rfl (by decide) _ _ _ rfl ((OW.out.alloc _).alloc _) ⟨wr.heap.size + 1, 0, none⟩ 1 1 [.string bx, .int .u16 (bs : Int)] rfl rfl ?c1 ?c2 ?c3 ?c4 ?c5 ?_)
        case c1 => have := cell_new2 (wr.alloc (.cells #[.string bx, .int .u16 (bs : Int)] 86)) (.string bx) (.int .u16 (bs : Int)) 86; rw [World.size_alloc] at this; exact this
        case c2 => intro u hu; simp at hu; rcases hu with rfl | rfl <;> rfl
        case c3 => unfold maxLen; omega
        case c4 => omega
        case c5 => have := HB.out.size; simp; omega
        intro v' wn hown hgrow _
        rw [ST.out.1] at hown
        obtain ⟨g2, q2, rfl, -, -⟩ := Vt.own_at hown
        have NX : Aside (wn.ownsRow w.heap.size 86 2 (.slice g2 (m + 1) q2) (m + 1) (Vt.balC (Vt.wk l id x (k + 1))) ∧ Below w.heap.size w wn ∧ m + 1 ≤ k + 1 + 1) := by
          have bl : Below w.heap.size w ((wr.alloc (.cells #[.string bx, .int .u16 (bs : Int)] 86)).alloc (.cells #[.string bx, .int .u16 (bs : Int)] 86)) := (HB.out.alloc HB.out.size _).alloc (by have := HB.out.size; simp; omega) _
          exact ⟨hown, bl.grown hgrow (by have := HB.out.size; simp; omega) (fun j hj => (OW.out.lt j hj).1), by omega⟩
        clear hown hgrow OW
        go_wp2
        go_roundw
        case rel => exact ⟨k + 1, g2, q2, m + 1, by omega, NX.out.2.2, by go_num, by rw [ST.out.2], rfl, NX.out.1, NX.out.2.1⟩
        case measure => simp [intOf]; omega
      | false =>
        have hA : Aside (Vt.anyX (l.take k) x = false) := hA0
        clear hA0
        by_cases hx : bx = x
        · rw [decide_eq_true hx] at eb
          subst hx
          have WC : Aside (∀ W, _) := fun W => WW.out bs W S6.out
          obtain ⟨ws, hws⟩ : ∃ ws, ws = Cn.withS bs id := ⟨_, rfl⟩
          rw [← hws] at WC
          have ST : Aside (Vt.balC (Vt.wk l id bx k) ++ [.string bx, .int .u16 (ws : Int)] = Vt.balC (Vt.wk l id bx (k + 1)) ∧ Vt.anyX (l.take (k + 1)) bx = true) := by
            obtain ⟨q1, q2⟩ := Vt.wk_here (id := id) hbb hA.out
            exact ⟨by rw [q1, ← hws, Vt.balC_append]; rfl, q2⟩
          clear hbb hws
          go_wp2_with fail
          refine (WC.out _).mono ?_
          rintro z w9 ⟨rfl, hw⟩
          replace hw := hw.symm; subst hw
          clear WC
          go_wp2_with (at_builtin; refine wpList_append_own _ rfl _ _ 22 rfl w.heap.size 86 i0 (.agg #[.string ⟨#[]⟩, .int .u16 0]) 2 24 Try.underlying22 I.out.1 I.out.2.1 I.out.2.2.1 I.out.2.2.2 rfl (by decide) _ _ _ rfl ((OW.out.alloc _).alloc _) ⟨wr.heap.size + 1, 0, none⟩ 1 1 [.string bx, .int .u16 (ws : Int)] rfl rfl ?c1 ?c2 ?c3 ?c4 ?c5 ?_)
          case c1 => have := cell_new2 (wr.alloc (.cells #[.string bx, .int .u16 (ws : Int)] 86)) (.string bx) (.int .u16 (ws : Int)) 86; rw [World.size_alloc] at this; exact this
          case c2 => intro u hu; simp at hu; rcases hu with rfl | rfl <;> rfl
          case c3 => unfold maxLen; omega
          case c4 => omega
          case c5 => have := HB.out.size; simp; omega
          intro v' wn hown hgrow _
          rw [ST.out.1] at hown
          obtain ⟨g2, q2, rfl, -, -⟩ := Vt.own_at hown
          have NX : Aside (wn.ownsRow w.heap.size 86 2 (.slice g2 (m + 1) q2) (m + 1) (Vt.balC (Vt.wk l id bx (k + 1))) ∧ Below w.heap.size w wn ∧ m + 1 ≤ k + 1 + 1) := by
            have bl : Below w.heap.size w ((wr.alloc (.cells #[.string bx, .int .u16 (ws : Int)] 86)).alloc (.cells #[.string bx, .int .u16 (ws : Int)] 86)) := (HB.out.alloc HB.out.size _).alloc (by have := HB.out.size; simp; omega) _
            exact ⟨hown, bl.grown hgrow (by have := HB.out.size; simp; omega) (fun j hj => (OW.out.lt j hj).1), by omega⟩
          clear hown hgrow OW
          go_wp2
          go_roundw
          case rel => exact ⟨k + 1, g2, q2, m + 1, by omega, NX.out.2.2, by go_num, by rw [ST.out.2], rfl, NX.out.1, NX.out.2.1⟩
          case measure => simp [intOf]; omega
        · rw [decide_eq_false hx] at eb
          have ST : Aside (Vt.balC (Vt.wk l id x k) ++ [.string bx, .int .u16 (bs : Int)] = Vt.balC (Vt.wk l id x (k + 1)) ∧ Vt.anyX (l.take (k + 1)) x = false) := by
            obtain ⟨q1, q2⟩ := Vt.wk_other (id := id) hbb hA.out hx
            exact ⟨by rw [q1, Vt.balC_append]; rfl, q2⟩
          clear hbb
          go_wp2_with (at_builtin; refine wpList_append_own _ rfl _ _ 22 rfl w.heap.size 86 i0 (.agg #[.string ⟨#[]⟩, .int .u16 0]) 2 24 Try.underlying22 I.out.1 I.out.2.1 I.out.2.2.1 I.out.2.2.2 rfl (by decide) _ _ _ rfl ((OW.out.alloc _).alloc _) ⟨wr.heap.size + 1, 0, none⟩ 1 1 [.string bx, .int .u16 (bs : Int)] rfl rfl ?c1 ?c2 ?c3 ?c4 ?c5 ?_)
          case c1 => have := cell_new2 (wr.alloc (.cells #[.string bx, .int .u16 (bs : Int)] 86)) (.string bx) (.int .u16 (bs : Int)) 86; rw [World.size_alloc] at this; exact this
          case c2 => intro u hu; simp at hu; rcases hu with rfl | rfl <;> rfl
          case c3 => unfold maxLen; omega
          case c4 => omega
          case c5 => have := HB.out.size; simp; omega
          intro v' wn hown hgrow _
          rw [ST.out.1] at hown
          obtain ⟨g2, q2, rfl, -, -⟩ := Vt.own_at hown
          have NX : Aside (wn.ownsRow w.heap.size 86 2 (.slice g2 (m + 1) q2) (m + 1) (Vt.balC (Vt.wk l id x (k + 1))) ∧ Below w.heap.size w wn ∧ m + 1 ≤ k + 1 + 1) := by
            have bl : Below w.heap.size w ((wr.alloc (.cells #[.string bx, .int .u16 (bs : Int)] 86)).alloc (.cells #[.string bx, .int .u16 (bs : Int)] 86)) := (HB.out.alloc HB.out.size _).alloc (by have := HB.out.size; simp; omega) _
            exact ⟨hown, bl.grown hgrow (by have := HB.out.size; simp; omega) (fun j hj => (OW.out.lt j hj).1), by omega⟩
          clear hown hgrow OW
          go_wp2
          go_roundw
          case rel => exact ⟨k + 1, g2, q2, m + 1, by omega, NX.out.2.2, by go_num, by rw [ST.out.2], rfl, NX.out.1, NX.out.2.1⟩
          case measure => simp [intOf]; omega
    · obtain rfl : k = n := by omega
      cases hA0 : Vt.anyX (l.take k) x with
      | true =>
        have E : Vt.wk l id x k = Vt.withB l id x := by unfold Vt.wk; rw [if_pos hA0, HN.out, List.take_length]
        have Q1 : Aside (Q (.returned (.slice g m q)) wr) := RT.out _ m wr (by rw [← E]; exact OW.out) HB.out
        clear E hA0 RT OW
        go_wp2
        exact Q1.out
      | false =>
        have WC : Aside (∀ W, _) := fun W => WW.out 0 W (by decide)
        have E : Vt.withB l id x = Vt.wk l id x k ++ [(x, Cn.withS 0 id)] := by
          unfold Vt.wk; rw [if_neg (by rw [hA0]; simp), HN.out, List.take_length]
          rw [HN.out, List.take_length] at hA0
          exact Vt.with_out hA0
        rw [E, Vt.balC_append] at RT
        generalize Cn.withS 0 id = ws at WC RT
        clear E hA0
        go_wp2_with fail
        refine (WC.out _).mono ?_
        rintro z w9 ⟨rfl, hw⟩
        replace hw := hw.symm; subst hw
        clear WC
        go_wp2_with (at_builtin; refine wpList_append_own _ rfl _ _ 22 rfl w.heap.size 86 i0 (.agg #[.string ⟨#[]⟩, .int .u16 0]) 2 24 Try.underlying22 I.out.1 I.out.2.1 I.out.2.2.1 I.out.2.2.2 rfl (by decide) _ _ _ rfl (OW.out.alloc _) ⟨wr.heap.size, 0, none⟩ 1 1 [.string x, .int .u16 (ws : Int)] rfl rfl ?c1 ?c2 ?c3 ?c4 ?c5 ?_)
        case c1 => exact cell_new2 _ _ _ _
        case c2 => intro u hu; simp at hu; rcases hu with rfl | rfl <;> rfl
        case c3 => unfold maxLen; omega
        case c4 => omega
        case c5 => have := HB.out.size; simp; omega
        intro v' wn hown hgrow _
        have Q1 : Aside (Q (.returned v') wn) := RT.out v' (m + 1) wn hown ((HB.out.alloc HB.out.size _).grown hgrow (by have := HB.out.size; simp; omega) (fun j hj => (OW.out.lt j hj).1))
        clear RT hown hgrow OW
        go_wp2
        exact Q1.out
end Go.Proofs.Ytlekbbpancaenaa
