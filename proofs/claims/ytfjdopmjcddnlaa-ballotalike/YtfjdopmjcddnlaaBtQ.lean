/- The walk of BallotAlike. -/
import Derived.Test.YtfjdopmjcddnlaaBtM
import Derived.BigQuiet
set_option linter.unusedVariables false
namespace Go.Proofs.Ytfjdopmjcddnlaa
open Go.RowKit Cn Rl Bt

namespace Bt
theorem puts_append (v : Int) (s : Nat) (b : List Ct) : ∀ (l a : List Ct), putsL v s l (a ++ b) = putsL v s (putsL v s l a) b
  | l, [] => rfl
  | l, c :: a => puts_append v s b (putL v s l c) a
theorem puts_small2 (v : Int) (s : Nat) (a b : List Ct) : (putsL v s (putsL v s [] a) b).length ≤ 16 := by rw [← puts_append]; exact puts_small v s _
theorem alike_fin {v : Int} {s : Nat} {others l : List Ct} {x y : Bool × Nat} (hs : s < 65536) (hW : (putsL v s [] others).length ≤ faulty (sizeS s : Nat)) (hx : chosen v s (putsL v s [] l) = some x) (hy : chosen v s (putsL v s (putsL v s [] others) l) = some y) : x = y := by
  have hr : rightB v s = true := ((chosen_some hs).1 hx).1.1
  have h0 : RightX v s [] := right_nil hr
  have h1 : RightX v s (putsL v s [] others) := puts_right h0
  refine chosen_alike hs (W := putsL v s [] others) (puts_like (fun c hc => ⟨fun h => absurd h (List.not_mem_nil), fun h => absurd rfl (hc c h)⟩) h0 h1) hW hx hy
end Bt
/-- Two boxes of one view. -/
def QS (w W : World) (v : Int) (s M b7 b8 : Nat) (a1 : Option Addr) (c1 : Nat) (la : List Ct) (a2 : Option Addr) (c2 : Nat) (lb : List Ct) : Prop :=
  P2 W w.heap.size 25 (.int .i64 v) (.int .u16 (s : Int)) ∧ X3 W b7 37 (.int .i64 v) (.int .u16 (s : Int)) (.slice a1 la.length c1) ∧ X3 W b8 37 (.int .i64 v) (.int .u16 (s : Int)) (.slice a2 lb.length c2) ∧ AtC W a1 la ∧ AtC W a2 lb ∧ Fr M a1 ∧ Fr M a2 ∧ Below w.heap.size w W ∧ M ≤ W.heap.size ∧ (w.heap.size < b7 ∧ w.heap.size < b8 ∧ b7 < M ∧ b8 < M ∧ b7 ≠ b8)
theorem QS.later {w W W' : World} {v : Int} {s M b7 b8 : Nat} {a1 a2 : Option Addr} {c1 c2 : Nat} {la lb : List Ct} (h : QS w W v s M b7 b8 a1 c1 la a2 c2 lb) (hb : Below W.heap.size W W') : QS w W' v s M b7 b8 a1 c1 la a2 c2 lb := by
  obtain ⟨h1, h2, h3, h4, h5, h6, h7, h8, h9, h10⟩ := h
  exact ⟨h1.later hb, h2.later hb, h3.later hb, h4.later hb, h5.later hb, h6, h7, below_step h8 hb, Nat.le_trans h9 hb.size, h10⟩
theorem P2_far3 {w : World} {b b' : Nat} {t : TypeId} {x y : Value} (h : P2 w b t x y) (hne : b ≠ b') (u0 u1 u2 : Value) : P2 (((w.setCell ⟨b', 0, none⟩ u0).setCell ⟨b', 1, none⟩ u1).setCell ⟨b', 2, none⟩ u2) b t x y := ((h.far hne _).far hne _).far hne _
theorem X3_far3 {w : World} {b b' : Nat} {t : TypeId} {x y z : Value} (h : X3 w b t x y z) (hne : b ≠ b') (u0 u1 u2 : Value) : X3 (((w.setCell ⟨b', 0, none⟩ u0).setCell ⟨b', 1, none⟩ u1).setCell ⟨b', 2, none⟩ u2) b t x y z := ((h.far hne _).far hne _).far hne _
theorem QS.put1 {w W : World} {v : Int} {s M b7 b8 n' : Nat} {a1 a2 a' : Option Addr} {c1 c2 c' : Nat} {la lb l' : List Ct} (h : QS w W v s M b7 b8 a1 c1 la a2 c2 lb) (hat : AtC W a' l') (hf : Fr M a') (hn : n' = l'.length) :
    QS w (((W.setCell ⟨b7, 0, none⟩ (.int .i64 v)).setCell ⟨b7, 1, none⟩ (.int .u16 (s : Int))).setCell ⟨b7, 2, none⟩ (.slice a' n' c')) v s M b7 b8 a' c' l' a2 c2 lb := by
  subst hn
  obtain ⟨h1, h2, h3, h4, h5, h6, h7, h8, h9, k1, k2, k3, k4, k5⟩ := h
  exact ⟨P2_far3 h1 (by omega) _ _ _, h2.set _ _ _, X3_far3 h3 (fun e => k5 e.symm) _ _ _, hat.set3 hf k3 _ _ _, h5.set3 h7 k3 _ _ _, hf, h7, below_set3 h8 (by omega) _ _ _, by simpa using h9, k1, k2, k3, k4, k5⟩
theorem QS.put2 {w W : World} {v : Int} {s M b7 b8 n' : Nat} {a1 a2 a' : Option Addr} {c1 c2 c' : Nat} {la lb l' : List Ct} (h : QS w W v s M b7 b8 a1 c1 la a2 c2 lb) (hat : AtC W a' l') (hf : Fr M a') (hn : n' = l'.length) :
    QS w (((W.setCell ⟨b8, 0, none⟩ (.int .i64 v)).setCell ⟨b8, 1, none⟩ (.int .u16 (s : Int))).setCell ⟨b8, 2, none⟩ (.slice a' n' c')) v s M b7 b8 a1 c1 la a' c' l' := by
  subst hn
  obtain ⟨h1, h2, h3, h4, h5, h6, h7, h8, h9, k1, k2, k3, k4, k5⟩ := h
  exact ⟨P2_far3 h1 (by omega) _ _ _, X3_far3 h2 k5 _ _ _, h3.set _ _ _, h4.set3 h6 k4 _ _ _, hat.set3 hf k4 _ _ _, h6, hf, below_set3 h8 (by omega) _ _ _, by simpa using h9, k1, k2, k3, k4, k5⟩

set_option maxHeartbeats 8000000 in
set_option maxRecDepth 100000 in
theorem alike_walk (v : Int) (s : Nat) (a : Option Addr) (c : Nat) (L : List Ct) (oa : Option Addr) (oc : Nat) (O : List Ct) (w : World) (hl : AtC w a L) (ho : AtC w oa O) (hs : s < 65536) :
    Calls Try.prog 6 #[.agg #[.int .i64 v, .int .u16 (s : Int)], .slice a L.length c, .slice oa O.length oc] w fun e w' => e = .returned (.bool true) ∧ Below w.heap.size w w' := by
  have C8 : Aside (∀ W, _) := alive_any
  have C11 : Aside (∀ (z : Ct) (W : World), _) := theirs_box
  obtain ⟨n, en⟩ : ∃ n, n = L.length := ⟨_, rfl⟩
  obtain ⟨m, em⟩ : ∃ m, m = O.length := ⟨_, rfl⟩
  rw [← en, ← em]
  have HL : Aside (AtC w a L ∧ n = L.length ∧ s < 65536) := ⟨hl, en, hs⟩
  have HO : Aside (AtC w oa O ∧ m = O.length) := ⟨ho, em⟩
  clear hl en hs ho em
  obtain ⟨V, hV⟩ : ∃ V, V = w.alloc (.cells #[.int .i64 v, .int .u16 (s : Int)] 25) := ⟨_, rfl⟩
  have X : Aside (P2 V w.heap.size 25 (.int .i64 v) (.int .u16 (s : Int)) ∧ Below w.heap.size w V) := by
    rw [hV]; exact ⟨P2.new w _ _ _, below_one w _⟩
  go_enter Try.func6, Try.ntmps6
  go_wp2_with fail
  rw [← hV]
  clear hV
  go_wp2_with (go_at_call 8; refine (C8.out _).mono ?_; rintro e w1 ⟨rfl, hb⟩; have Y : Aside (P2 w1 w.heap.size 25 (.int .i64 v) (.int .u16 (s : Int)) ∧ Below w.heap.size w w1) := ⟨X.out.1.later hb, below_step X.out.2 hb⟩; clear hb X C8)
  obtain ⟨i0, i1⟩ := Y.out.1.cells
  have j0 := fun o => cell_later (below_one w1 o) i0; have j1 := fun o => cell_later (below_one w1 o) i1
  have l0 := fun o o' => cell_later (below_one (w1.alloc o) o') (j0 o); have l1 := fun o o' => cell_later (below_one (w1.alloc o) o') (j1 o)
  have kw : w.heap.size ≠ w1.heap.size := Nat.ne_of_lt Y.out.1.lt
  go_upto_region 3 with fail
  go_cut [7, 8] (fun s7 s8 wx => ∃ M b7 b8 : Nat, s7 = .pointer (some ⟨b7, 0, none⟩) ∧ s8 = .pointer (some ⟨b8, 0, none⟩) ∧ Aside (QS w wx v s M b7 b8 none 0 [] none 0 []))
  case first =>
    go_region
    all_goals
      go_wp2_with fail
      go_meet
      first
        | exact ⟨w1.heap.size + 1 + 1, w1.heap.size, w1.heap.size + 1, rfl, rfl, ((Y.out.1.alloc _).alloc _).later (Below.refl _ _).drew, ((X3.new w1 _ _ _ _).alloc _).later (Below.refl _ _).drew, (X3.new1 w1 _ _ _ _ _).later (Below.refl _ _).drew, .inl rfl, .inl rfl, Fr.nil _, Fr.nil _, ((Y.out.2.alloc Y.out.2.size _).alloc (by have := Y.out.2.size; simp; omega) _).drew, by simp, by have := Y.out.1.lt; omega⟩
        | exact ⟨w1.heap.size + 1 + 1, w1.heap.size + 1, w1.heap.size, rfl, rfl, ((Y.out.1.alloc _).alloc _).later (Below.refl _ _).drew, (X3.new1 w1 _ _ _ _ _).later (Below.refl _ _).drew, ((X3.new w1 _ _ _ _).alloc _).later (Below.refl _ _).drew, .inl rfl, .inl rfl, Fr.nil _, Fr.nil _, ((Y.out.2.alloc Y.out.2.size _).alloc (by have := Y.out.2.size; simp; omega) _).drew, by simp, by have := Y.out.1.lt; omega⟩
  case rest =>
  obtain ⟨M, b7, b8, rfl, rfl, H0⟩ := hcut
  clear i0 i1 j0 j1 l0 l1 kw Y
  by_cases hbig : (60 : Int) < (n : Int) ∨ (60 : Int) < (m : Int)
  · have FB : Aside (Below w.heap.size w wc) := H0.out.2.2.2.2.2.2.2.1
    clear H0
    by_cases hb1 : (60 : Int) < (n : Int)
    · go_wp2_with fail
      go_ret
      exact ⟨rfl, FB.out⟩
    · have hb2 : (60 : Int) < (m : Int) := by omega
      go_wp2_with fail
      go_ret
      exact ⟨rfl, FB.out⟩
  have hb1 : ¬ (60 : Int) < (n : Int) := by omega
  have hb2 : ¬ (60 : Int) < (m : Int) := by omega
  clear hbig
  go_wp2_with fail
  go_loopg [33] m (fun g s33 wr => ∃ (k : Nat) (a2 : Option Addr) (c2 : Nat), s33 = .int .i64 (k : Nat) ∧ k ≤ m ∧ m - k ≤ g ∧ Aside (QS w wr v s M b7 b8 none 0 [] a2 c2 (putsL v s [] (O.take k))))
  case atStart => exact ⟨0, none, 0, rfl, Nat.zero_le _, by omega, H0.out⟩
  case round =>
    obtain ⟨k, a2, c2, rfl, hk, hg, HS⟩ := hrel
    by_cases hlt : k < m
    · have t1 : (k : Int) < (m : Int) := by omega
      have t0 : (0 : Int) ≤ (k : Int) := by omega
      obtain ⟨e, hke⟩ : ∃ e, O[k]? = some e := ⟨_, List.getElem?_eq_getElem (by have := HO.out.2; omega)⟩
      obtain ⟨lb, hlb⟩ : ∃ lb, lb = putsL v s [] (O.take k) := ⟨_, rfl⟩
      have PN : Aside (putsL v s [] (O.take (k + 1)) = putL v s lb e ∧ lb.length ≤ 16) := ⟨by rw [hlb]; exact puts_take [] hke, by rw [hlb]; exact puts_small v s _⟩
      rw [← hlb] at HS
      clear hlb
      obtain ⟨b, off, rfl, y0, y1, y2⟩ := AtC.get (HO.out.1.later HS.out.2.2.2.2.2.2.2.1) hke
      clear hke
      obtain ⟨n0, hn0⟩ : ∃ n0, n0 = lb.length := ⟨_, rfl⟩
      obtain ⟨n1, hn1⟩ : ∃ n1, n1 = (putL v s lb e).length := ⟨_, rfl⟩
      have P9 : Aside (∀ (W : World) (a' : Option Addr) (c' : Nat), AtC W a' lb → Calls Try.prog 9 #[.agg #[.int .i64 v, .int .u16 (s : Int), .slice a' n0 c'], .agg #[.int .u8 (e.1 : Int), .bool e.2.1, .int .u8 (e.2.2 : Int)]] W fun z w' => ∃ a2 c2, z = .returned (.tuple #[.agg #[.int .i64 v, .int .u16 (s : Int), .slice a2 n1 c2], .int .i64 (putE v s lb e : Nat)]) ∧ AtC w' a2 (putL v s lb e) ∧ Below W.heap.size W w' ∧ n1 ≤ c2 ∧ Fr W.heap.size a2) := fun W a' c' h => by rw [hn0, hn1]; exact put_box v s a' c' lb e W h HL.out.2.2 PN.out.2
      generalize putE v s lb e = pe at P9
      have N1 : Aside (n1 = (putL v s lb e).length) := hn1
      clear hn1
      go_wp2_with fail
      clear y0 y1 y2
      obtain ⟨U, hU⟩ : ∃ U, U = wr.alloc (.cells #[.int .u8 (e.1 : Int), .bool e.2.1, .int .u8 (e.2.2 : Int)] 32) := ⟨_, rfl⟩
      rw [← hU]
      have HU : Aside (QS w U v s M b7 b8 none 0 [] a2 c2 lb) := by rw [hU]; exact HS.out.later (below_one _ _)
      have CX : Aside (X3 U wr.heap.size 32 (.int .u8 (e.1 : Int)) (.bool e.2.1) (.int .u8 (e.2.2 : Int))) := by rw [hU]; exact X3.new wr _ _ _ _
      have BX : Aside (X3 U b8 37 (.int .i64 v) (.int .u16 (s : Int)) (.slice a2 n0 c2)) := by rw [hn0]; exact HU.out.2.2.1
      have ATL : Aside (AtC U a2 lb) := HU.out.2.2.2.2.1
      clear hU hn0 HS
      obtain ⟨x0, x1, x2⟩ := BX.out.cells
      obtain ⟨y0, y1, y2⟩ := CX.out.cells
      have f0 := BX.out.frozen 0; have f1 := BX.out.frozen 1; have f2 := BX.out.frozen 2
      have BQ : Aside (Below U.heap.size U U.drew) := (Below.refl _ U).drew
      go_region_with (first
        | (go_at_call 11; (with_reducible refine (C11.out e U.drew).mono ?_); rintro e' w1 ⟨rfl, hb⟩; have YA : Aside (Below U.heap.size U w1) := below_step BQ.out hb; clear hb x0 x1 x2 y0 y1 y2 f0 f1 f2; obtain ⟨x0, x1, x2⟩ := (BX.out.later YA.out).cells; obtain ⟨y0, y1, y2⟩ := (CX.out.later YA.out).cells; have f0 := (BX.out.later YA.out).frozen 0; have f1 := (BX.out.later YA.out).frozen 1; have f2 := (BX.out.later YA.out).frozen 2)
        | (go_at_call 9; (with_reducible refine (P9.out w1 a2 c2 (ATL.out.later YA.out)).mono ?_); rintro e' w2 ⟨a9, c9, rfl, hat, hb, hc, hf⟩; have ZA : Aside (Below U.heap.size U w2 ∧ AtC w2 a9 (putL v s lb e) ∧ Fr U.heap.size a9) := ⟨below_step YA.out hb, hat, hf.mono YA.out.size⟩; clear hat hb hc hf x0 x1 x2 y0 y1 y2 f0 f1 f2; obtain ⟨x0, x1, x2⟩ := (BX.out.later ZA.out.1).cells; obtain ⟨y0, y1, y2⟩ := (CX.out.later ZA.out.1).cells; have f0 := (BX.out.later ZA.out.1).frozen 0; have f1 := (BX.out.later ZA.out.1).frozen 1; have f2 := (BX.out.later ZA.out.1).frozen 2))
      all_goals
        have ES : Aside _ := (HU.out.later ZA.out.1).put2 (c' := c9) ZA.out.2.1 (ZA.out.2.2.mono HU.out.2.2.2.2.2.2.2.2.1) N1.out
        go_wp2_with fail
        go_roundg (m - (k + 1))
        case measure => omega
        case rel => exact ⟨k + 1, a9, c9, by go_num, by omega, Nat.le_refl _, by rw [PN.out.1]; exact ES.out⟩
    · obtain rfl : k = m := by omega
      obtain ⟨lb, hlb⟩ : ∃ lb, lb = putsL v s [] O := ⟨_, rfl⟩
      have HT : Aside (QS w wr v s M b7 b8 none 0 [] a2 c2 lb) := by rw [hlb]; have := HS.out; rw [List.take_of_length_le (Nat.le_of_eq HO.out.2.symm)] at this; exact this
      have LB : Aside (lb = putsL v s [] O) := hlb
      clear hlb HS
      obtain ⟨n0, hn0⟩ : ∃ n0, n0 = lb.length := ⟨_, rfl⟩
      have N0 : Aside (n0 = lb.length) := hn0
      clear hn0
      obtain ⟨sz, hsz⟩ : ∃ sz, sz = sizeS s := ⟨_, rfl⟩
      obtain ⟨fy, hfy⟩ : ∃ fy, fy = faulty (sz : Nat) := ⟨_, rfl⟩
      have C19 : Aside (∀ W, Calls Try.prog 19 #[.int .u16 (s : Int)] W fun e w' => e = .returned (.int .i64 (sz : Nat)) ∧ Below W.heap.size W w') := fun W => by rw [hsz]; exact rsize_any s W HL.out.2.2
      have C22 : Aside (∀ W, Calls Try.prog 22 #[.int .i64 (sz : Nat)] W fun e w' => e = .returned (.int .i64 (fy : Nat)) ∧ w' = W) := fun W => by rw [hfy]; exact rfaulty_any sz W
      have FY : Aside (fy = faulty (sizeS s : Nat)) := by show _ = _; rw [hfy, hsz]
      clear hsz hfy
      have p2 : ∀ p : Bw wr, p.w'.cell? ⟨b8, 2, none⟩ = some (.slice a2 n0 c2) := fun p => by rw [N0.out]; exact (HT.out.2.2.1.later p.h).cells.2.2
      have o1 : ∀ p : Bw wr, p.w'.cell? ⟨w.heap.size, 1, none⟩ = some (.int .u16 (s : Int)) := fun p => (HT.out.1.later p.h).cells.2
      by_cases hbf : (fy : Int) < (n0 : Int)
      · have FB : Aside (∀ p : Bw wr, Below w.heap.size w p.w') := fun p => below_step HT.out.2.2.2.2.2.2.2.1 p.h
        clear HT C11
        have hne := Bw.some wr
        go_wp2_with fail
        refine wp_region_wq (by kernel_rfl) (by kernel_rfl) ?_
        repeat (refine wq_step (fun K hK => ?_); go_simp; first | (refine hK _ ?_; clear hK K) | (apply Exists.intro; refine ⟨fun _ => ?_, hK _ ?_⟩; (first | (go_at_call 19; exact Calls.bw_of (C19.out _)) | (go_at_call 22; exact Calls.bw_same (C22.out _))); clear hK K))
        refine wq_nil ?_
        intro _ hw'
        obtain ⟨pq, hw''⟩ := hw'
        subst hw''
        go_wp2_with fail
        go_ret
        exact ⟨rfl, FB.out pq⟩
      · have WL : Aside (lb.length ≤ faulty (sizeS s : Nat)) := by have h1 := N0.out; have h2 := FY.out; show _ ≤ _; omega
        have hbn : ¬ fy < n0 := by omega
        have HP : Aside (∀ p : Bw wr, QS w p.w' v s M b7 b8 none 0 [] a2 c2 lb) := fun p => HT.out.later p.h
        clear HT
        have hne := Bw.some wr
        go_wp2_with fail
        refine wp_region_wq (by kernel_rfl) (by kernel_rfl) ?_
        repeat (refine wq_step (fun K hK => ?_); go_simp; first | (refine hK _ ?_; clear hK K) | (apply Exists.intro; refine ⟨fun _ => ?_, hK _ ?_⟩; (first | (go_at_call 19; exact Calls.bw_of (C19.out _)) | (go_at_call 22; exact Calls.bw_same (C22.out _))); clear hK K))
        refine wq_nil ?_
        intro _ hw'
        obtain ⟨pq, hw''⟩ := hw'
        subst hw''
        have HV : Aside (QS w pq.w' v s M b7 b8 none 0 [] a2 c2 lb) := HP.out pq
        clear HP p2 o1 C19 C22
        go_wp2_with fail
        generalize pq.w' = V2 at HV ⊢
        have hn60 : n ≤ 60 := by omega
        clear hbf hb1 hb2 hlt hk hg hne hbn
        go_loopg [55] n (fun g s55 wr2 => ∃ (k2 : Nat) (a1 : Option Addr) (c1 : Nat) (a3 : Option Addr) (c3 : Nat), s55 = .int .i64 (k2 : Nat) ∧ k2 ≤ n ∧ n - k2 ≤ g ∧ Aside (QS w wr2 v s M b7 b8 a1 c1 (putsL v s [] (L.take k2)) a3 c3 (putsL v s lb (L.take k2))))
        case atStart => exact ⟨0, none, 0, a2, c2, rfl, Nat.zero_le _, by omega, HV.out⟩
        case round =>
          obtain ⟨k2, a1, c1, a3, c3, rfl, hk2, hg2, HS⟩ := hrel
          by_cases hlt2 : k2 < n
          · have t1 : (k2 : Int) < (n : Int) := by omega
            have t0 : (0 : Int) ≤ (k2 : Int) := by omega
            obtain ⟨e, hke⟩ : ∃ e, L[k2]? = some e := ⟨_, List.getElem?_eq_getElem (by have := HL.out.2.1; omega)⟩
            obtain ⟨la, hla⟩ : ∃ la, la = putsL v s [] (L.take k2) := ⟨_, rfl⟩
            obtain ⟨ld, hld⟩ : ∃ ld, ld = putsL v s lb (L.take k2) := ⟨_, rfl⟩
            have PN : Aside ((putsL v s [] (L.take (k2 + 1)) = putL v s la e ∧ la.length ≤ 16) ∧ putsL v s lb (L.take (k2 + 1)) = putL v s ld e ∧ ld.length ≤ 16) := ⟨⟨by rw [hla]; exact puts_take [] hke, by rw [hla]; exact puts_small v s _⟩, by rw [hld]; exact puts_take lb hke, by rw [hld, LB.out]; exact puts_small2 v s _ _⟩
            rw [← hla, ← hld] at HS
            clear hla hld
            obtain ⟨b, off, rfl, y0, y1, y2⟩ := AtC.get (HL.out.1.later HS.out.2.2.2.2.2.2.2.1) hke
            clear hke
            obtain ⟨na, hna⟩ : ∃ na, na = la.length := ⟨_, rfl⟩
            obtain ⟨nb, hnb⟩ : ∃ nb, nb = (putL v s la e).length := ⟨_, rfl⟩
            obtain ⟨nc, hnc⟩ : ∃ nc, nc = ld.length := ⟨_, rfl⟩
            obtain ⟨nd, hnd⟩ : ∃ nd, nd = (putL v s ld e).length := ⟨_, rfl⟩
            have P9 : Aside (∀ (W : World) (a' : Option Addr) (c' : Nat), AtC W a' la → Calls Try.prog 9 #[.agg #[.int .i64 v, .int .u16 (s : Int), .slice a' na c'], .agg #[.int .u8 (e.1 : Int), .bool e.2.1, .int .u8 (e.2.2 : Int)]] W fun z w' => ∃ a2 c2, z = .returned (.tuple #[.agg #[.int .i64 v, .int .u16 (s : Int), .slice a2 nb c2], .int .i64 (putE v s la e : Nat)]) ∧ AtC w' a2 (putL v s la e) ∧ Below W.heap.size W w' ∧ nb ≤ c2 ∧ Fr W.heap.size a2) := fun W a' c' h => by rw [hna, hnb]; exact put_box v s a' c' la e W h HL.out.2.2 PN.out.1.2
            have R9 : Aside (∀ (W : World) (a' : Option Addr) (c' : Nat), AtC W a' ld → Calls Try.prog 9 #[.agg #[.int .i64 v, .int .u16 (s : Int), .slice a' nc c'], .agg #[.int .u8 (e.1 : Int), .bool e.2.1, .int .u8 (e.2.2 : Int)]] W fun z w' => ∃ a2 c2, z = .returned (.tuple #[.agg #[.int .i64 v, .int .u16 (s : Int), .slice a2 nd c2], .int .i64 (putE v s ld e : Nat)]) ∧ AtC w' a2 (putL v s ld e) ∧ Below W.heap.size W w' ∧ nd ≤ c2 ∧ Fr W.heap.size a2) := fun W a' c' h => by rw [hnc, hnd]; exact put_box v s a' c' ld e W h HL.out.2.2 PN.out.2.2
            generalize putE v s la e = pe at P9
            generalize putE v s ld e = qe at R9
            have N1 : Aside (nb = (putL v s la e).length ∧ nd = (putL v s ld e).length) := ⟨hnb, hnd⟩
            clear hnb hnd
            go_upto_region 16 with fail
            clear y0 y1 y2
            obtain ⟨U, hU⟩ : ∃ U, U = wr.alloc (.cells #[.int .u8 (e.1 : Int), .bool e.2.1, .int .u8 (e.2.2 : Int)] 32) := ⟨_, rfl⟩
            rw [← hU]
            have HU : Aside (QS w U v s M b7 b8 a1 c1 la a3 c3 ld) := by rw [hU]; exact HS.out.later (below_one _ _)
            have CX : Aside (X3 U wr.heap.size 32 (.int .u8 (e.1 : Int)) (.bool e.2.1) (.int .u8 (e.2.2 : Int))) := by rw [hU]; exact X3.new wr _ _ _ _
            have CN : Aside (b7 ≠ wr.heap.size ∧ b8 ≠ wr.heap.size) := ⟨Nat.ne_of_lt HS.out.2.1.lt, Nat.ne_of_lt HS.out.2.2.1.lt⟩
            have NC : Aside (nc = ld.length) := hnc
            clear hnc
            go_cut [] (fun wx => ∃ (a9 : Option Addr) (c9 : Nat), Aside (QS w wx v s M b7 b8 a9 c9 (putL v s la e) a3 c3 ld ∧ X3 wx wr.heap.size 32 (.int .u8 (e.1 : Int)) (.bool e.2.1) (.int .u8 (e.2.2 : Int))))
            case first =>
              have BX : Aside (X3 U b7 37 (.int .i64 v) (.int .u16 (s : Int)) (.slice a1 na c1)) := by rw [hna]; exact HU.out.2.1
              have ATL : Aside (AtC U a1 la) := HU.out.2.2.2.1
              clear hU hna HS R9
              obtain ⟨x0, x1, x2⟩ := BX.out.cells
              obtain ⟨y0, y1, y2⟩ := CX.out.cells
              have f0 := BX.out.frozen 0; have f1 := BX.out.frozen 1; have f2 := BX.out.frozen 2
              have BQ : Aside (Below U.heap.size U U.drew) := (Below.refl _ U).drew
              go_region_with (first
                | (go_at_call 11; (with_reducible refine (C11.out e U.drew).mono ?_); rintro e' w1 ⟨rfl, hb⟩; have YA : Aside (Below U.heap.size U w1) := below_step BQ.out hb; clear hb x0 x1 x2 y0 y1 y2 f0 f1 f2; obtain ⟨x0, x1, x2⟩ := (BX.out.later YA.out).cells; obtain ⟨y0, y1, y2⟩ := (CX.out.later YA.out).cells; have f0 := (BX.out.later YA.out).frozen 0; have f1 := (BX.out.later YA.out).frozen 1; have f2 := (BX.out.later YA.out).frozen 2)
                | (go_at_call 9; (with_reducible refine (P9.out w1 a1 c1 (ATL.out.later YA.out)).mono ?_); rintro e' w2 ⟨a9, c9, rfl, hat, hb, hc, hf⟩; have ZA : Aside (Below U.heap.size U w2 ∧ AtC w2 a9 (putL v s la e) ∧ Fr U.heap.size a9) := ⟨below_step YA.out hb, hat, hf.mono YA.out.size⟩; clear hat hb hc hf x0 x1 x2 y0 y1 y2 f0 f1 f2; obtain ⟨x0, x1, x2⟩ := (BX.out.later ZA.out.1).cells; obtain ⟨y0, y1, y2⟩ := (CX.out.later ZA.out.1).cells; have f0 := (BX.out.later ZA.out.1).frozen 0; have f1 := (BX.out.later ZA.out.1).frozen 1; have f2 := (BX.out.later ZA.out.1).frozen 2))
              all_goals
                go_wp2_with fail
                go_meet
                have ES : Aside _ := (HU.out.later ZA.out.1).put1 (c' := c9) ZA.out.2.1 (ZA.out.2.2.mono HU.out.2.2.2.2.2.2.2.2.1) N1.out.1
                exact ⟨a9, c9, ES.out, X3_far3 (CX.out.later ZA.out.1) (fun e => CN.out.1 e.symm) _ _ _⟩
            case rest =>
            clear hna hU P9
            obtain ⟨a4, c4, HE⟩ := hcut
            go_wp2_with fail
            obtain ⟨U2, hU2⟩ : ∃ U2, U2 = wc := ⟨_, rfl⟩
            rw [← hU2] at HE ⊢
            clear hU2
            have HU2 : Aside (QS w U2 v s M b7 b8 a4 c4 (putL v s la e) a3 c3 ld) := HE.out.1
            clear HU CX
            have CX : Aside (X3 U2 wr.heap.size 32 (.int .u8 (e.1 : Int)) (.bool e.2.1) (.int .u8 (e.2.2 : Int))) := HE.out.2
            have BX : Aside (X3 U2 b8 37 (.int .i64 v) (.int .u16 (s : Int)) (.slice a3 nc c3)) := by rw [NC.out]; exact HU2.out.2.2.1
            have ATL : Aside (AtC U2 a3 ld) := HU2.out.2.2.2.2.1
            clear HE HS
            obtain ⟨x0, x1, x2⟩ := BX.out.cells
            obtain ⟨y0, y1, y2⟩ := CX.out.cells
            have f0 := BX.out.frozen 0; have f1 := BX.out.frozen 1; have f2 := BX.out.frozen 2
            have BQ : Aside (Below U2.heap.size U2 U2.drew) := (Below.refl _ U2).drew
            go_region_with (first
              | (go_at_call 11; (with_reducible refine (C11.out e U2.drew).mono ?_); rintro e' w1 ⟨rfl, hb⟩; have YA : Aside (Below U2.heap.size U2 w1) := below_step BQ.out hb; clear hb x0 x1 x2 y0 y1 y2 f0 f1 f2; obtain ⟨x0, x1, x2⟩ := (BX.out.later YA.out).cells; obtain ⟨y0, y1, y2⟩ := (CX.out.later YA.out).cells; have f0 := (BX.out.later YA.out).frozen 0; have f1 := (BX.out.later YA.out).frozen 1; have f2 := (BX.out.later YA.out).frozen 2)
              | (go_at_call 9; (with_reducible refine (R9.out w1 a3 c3 (ATL.out.later YA.out)).mono ?_); rintro e' w2 ⟨a9, c9, rfl, hat, hb, hc, hf⟩; have ZA : Aside (Below U2.heap.size U2 w2 ∧ AtC w2 a9 (putL v s ld e) ∧ Fr U2.heap.size a9) := ⟨below_step YA.out hb, hat, hf.mono YA.out.size⟩; clear hat hb hc hf x0 x1 x2 y0 y1 y2 f0 f1 f2; obtain ⟨x0, x1, x2⟩ := (BX.out.later ZA.out.1).cells; obtain ⟨y0, y1, y2⟩ := (CX.out.later ZA.out.1).cells; have f0 := (BX.out.later ZA.out.1).frozen 0; have f1 := (BX.out.later ZA.out.1).frozen 1; have f2 := (BX.out.later ZA.out.1).frozen 2))
            all_goals
              have ES : Aside _ := (HU2.out.later ZA.out.1).put2 (c' := c9) ZA.out.2.1 (ZA.out.2.2.mono HU2.out.2.2.2.2.2.2.2.2.1) N1.out.2
              go_wp2_with fail
              go_roundg (n - (k2 + 1))
              case measure => omega
              case rel => exact ⟨k2 + 1, a4, c4, a9, c9, by go_num, by omega, Nat.le_refl _, by rw [PN.out.1.1, PN.out.2.1]; exact ES.out⟩
          · obtain rfl : k2 = n := by omega
            obtain ⟨la, hla⟩ : ∃ la, la = putsL v s [] L := ⟨_, rfl⟩
            obtain ⟨ld, hld⟩ : ∃ ld, ld = putsL v s lb L := ⟨_, rfl⟩
            have HR : Aside (QS w wr v s M b7 b8 a1 c1 la a3 c3 ld) := by have := HS.out; rw [List.take_of_length_le (Nat.le_of_eq HL.out.2.1.symm), ← hla, ← hld] at this; exact this
            have LS : Aside (la.length ≤ 16 ∧ ld.length ≤ 16) := ⟨by rw [hla]; exact puts_small v s _, by rw [hld, LB.out]; exact puts_small2 v s _ _⟩
            have AF : Aside (∀ x y, chosen v s la = some x → chosen v s ld = some y → x = y) := fun x y h1 h2 => by
              rw [hla] at h1; rw [hld, LB.out] at h2
              exact alike_fin HL.out.2.2 (by rw [← LB.out]; exact WL.out) h1 h2
            clear hla hld HS C11
            obtain ⟨x0, x1, x2⟩ := HR.out.2.1.cells
            have HRA : Aside (AtC wr a1 la) := HR.out.2.2.2.1
            have D1 : Aside (∀ W, AtC W a1 la → Calls Try.prog 13 #[.agg #[.int .i64 v, .int .u16 (s : Int), .slice a1 la.length c1]] W fun e w' => e = .returned (.tuple #[.agg #[.bool (chA (chosen v s la)), .int .u8 (chI (chosen v s la) : Int)], .bool (chB (chosen v s la))]) ∧ Below W.heap.size W w') := fun W h => chosen_box v s a1 c1 la W h HL.out.2.2 LS.out.1
            have D2 : Aside (∀ W, AtC W a3 ld → Calls Try.prog 13 #[.agg #[.int .i64 v, .int .u16 (s : Int), .slice a3 ld.length c3]] W fun e w' => e = .returned (.tuple #[.agg #[.bool (chA (chosen v s ld)), .int .u8 (chI (chosen v s ld) : Int)], .bool (chB (chosen v s ld))]) ∧ Below W.heap.size W w') := fun W h => chosen_box v s a3 c3 ld W h HL.out.2.2 LS.out.2
            generalize chosen v s la = o1 at AF D1
            generalize chosen v s ld = o2 at AF D2
            obtain ⟨ca, hca⟩ : ∃ ca, ca = chA o1 := ⟨_, rfl⟩
            obtain ⟨ci, hci⟩ : ∃ ci, ci = chI o1 := ⟨_, rfl⟩
            obtain ⟨da, hda⟩ : ∃ da, da = chA o2 := ⟨_, rfl⟩
            obtain ⟨di, hdi⟩ : ∃ di, di = chI o2 := ⟨_, rfl⟩
            rw [← hca, ← hci] at D1
            rw [← hda, ← hdi] at D2
            have EQ : Aside (chB o1 = true → chB o2 = true → ca = da ∧ ci = di) := fun h1 h2 => by
              cases o1 with
              | none => cases h1
              | some x =>
                cases o2 with
                | none => cases h2
                | some y => have := AF.out x y rfl rfl; subst this; exact ⟨hca.trans hda.symm, hci.trans hdi.symm⟩
            clear hca hci hda hdi AF
            have q1 := fun W => eql42 ca da ci di W
            have g1 := fun x y xs ys W => eql42_guard x y xs ys W
            cases hb1' : chB o1 with
            | false =>
              rw [hb1'] at D1
              clear EQ q1 g1
              generalize chB o2 = bo2 at D2
              go_wp2_with (first
                | (go_at_call 13; (with_reducible refine (D1.out _ HRA.out).mono ?_); rintro e' w3 ⟨rfl, hb⟩; have H3 : Aside (QS w (w3.alloc (.cells #[.bool ca, .int .u8 (ci : Int)] 42)) v s M b7 b8 a1 c1 la a3 c3 ld ∧ P2 (w3.alloc (.cells #[.bool ca, .int .u8 (ci : Int)] 42)) w3.heap.size 42 (.bool ca) (.int .u8 (ci : Int))) := ⟨(HR.out.later hb).later (below_one _ _), P2.new _ _ _ _⟩; have H3A : Aside (AtC (w3.alloc (.cells #[.bool ca, .int .u8 (ci : Int)] 42)) a3 ld) := H3.out.1.2.2.2.2.1; clear hb x0 x1 x2; obtain ⟨x0, x1, x2⟩ := H3.out.1.2.2.1.cells)
                | (go_at_call 13; (with_reducible refine (D2.out _ H3A.out).mono ?_); rintro e' w4 ⟨rfl, hb⟩; have H4 : Aside (Below w.heap.size w (w4.alloc (.cells #[.bool da, .int .u8 (di : Int)] 42)) ∧ P2 (w4.alloc (.cells #[.bool da, .int .u8 (di : Int)] 42)) w3.heap.size 42 (.bool ca) (.int .u8 (ci : Int))) := ⟨(below_step H3.out.1.2.2.2.2.2.2.2.1 hb).alloc (below_step H3.out.1.2.2.2.2.2.2.2.1 hb).size _, (H3.out.2.later hb).alloc _⟩; clear hb x0 x1 x2)
                | fail)
              go_ret
              exact ⟨rfl, H4.out.1⟩
            | true =>
              rw [hb1'] at D1
              cases hb2' : chB o2 with
              | false =>
                rw [hb2'] at D2
                clear EQ q1 g1
                go_wp2_with (first
                  | (go_at_call 13; (with_reducible refine (D1.out _ HRA.out).mono ?_); rintro e' w3 ⟨rfl, hb⟩; have H3 : Aside (QS w (w3.alloc (.cells #[.bool ca, .int .u8 (ci : Int)] 42)) v s M b7 b8 a1 c1 la a3 c3 ld ∧ P2 (w3.alloc (.cells #[.bool ca, .int .u8 (ci : Int)] 42)) w3.heap.size 42 (.bool ca) (.int .u8 (ci : Int))) := ⟨(HR.out.later hb).later (below_one _ _), P2.new _ _ _ _⟩; have H3A : Aside (AtC (w3.alloc (.cells #[.bool ca, .int .u8 (ci : Int)] 42)) a3 ld) := H3.out.1.2.2.2.2.1; clear hb x0 x1 x2; obtain ⟨x0, x1, x2⟩ := H3.out.1.2.2.1.cells; obtain ⟨d0, d1⟩ := H3.out.2.cells)
                  | (go_at_call 13; (with_reducible refine (D2.out _ H3A.out).mono ?_); rintro e' w4 ⟨rfl, hb⟩; have H4 : Aside (Below w.heap.size w (w4.alloc (.cells #[.bool da, .int .u8 (di : Int)] 42)) ∧ P2 (w4.alloc (.cells #[.bool da, .int .u8 (di : Int)] 42)) w3.heap.size 42 (.bool ca) (.int .u8 (ci : Int))) := ⟨(below_step H3.out.1.2.2.2.2.2.2.2.1 hb).alloc (below_step H3.out.1.2.2.2.2.2.2.2.1 hb).size _, (H3.out.2.later hb).alloc _⟩; clear hb x0 x1 x2 d0 d1; obtain ⟨d0, d1⟩ := H4.out.2.cells)
                  | fail)
                go_ret
                exact ⟨rfl, H4.out.1⟩
              | true =>
                rw [hb2'] at D2
                obtain ⟨rfl, rfl⟩ := EQ.out hb1' hb2'
                rw [decide_eq_true ⟨rfl, rfl⟩] at q1
                clear EQ
                go_wp2_with (first
                  | (go_at_call 13; (with_reducible refine (D1.out _ HRA.out).mono ?_); rintro e' w3 ⟨rfl, hb⟩; have H3 : Aside (QS w (w3.alloc (.cells #[.bool ca, .int .u8 (ci : Int)] 42)) v s M b7 b8 a1 c1 la a3 c3 ld ∧ P2 (w3.alloc (.cells #[.bool ca, .int .u8 (ci : Int)] 42)) w3.heap.size 42 (.bool ca) (.int .u8 (ci : Int))) := ⟨(HR.out.later hb).later (below_one _ _), P2.new _ _ _ _⟩; have H3A : Aside (AtC (w3.alloc (.cells #[.bool ca, .int .u8 (ci : Int)] 42)) a3 ld) := H3.out.1.2.2.2.2.1; clear hb x0 x1 x2; obtain ⟨x0, x1, x2⟩ := H3.out.1.2.2.1.cells; obtain ⟨d0, d1⟩ := H3.out.2.cells)
                  | (go_at_call 13; (with_reducible refine (D2.out _ H3A.out).mono ?_); rintro e' w4 ⟨rfl, hb⟩; have H4 : Aside (Below w.heap.size w (w4.alloc (.cells #[.bool ca, .int .u8 (ci : Int)] 42)) ∧ P2 (w4.alloc (.cells #[.bool ca, .int .u8 (ci : Int)] 42)) w3.heap.size 42 (.bool ca) (.int .u8 (ci : Int))) := ⟨(below_step H3.out.1.2.2.2.2.2.2.2.1 hb).alloc (below_step H3.out.1.2.2.2.2.2.2.2.1 hb).size _, (H3.out.2.later hb).alloc _⟩; clear hb x0 x1 x2 d0 d1; obtain ⟨d0, d1⟩ := H4.out.2.cells)
                  | fail)
                go_ret
                exact ⟨rfl, H4.out.1⟩
end Go.Proofs.Ytfjdopmjcddnlaa
