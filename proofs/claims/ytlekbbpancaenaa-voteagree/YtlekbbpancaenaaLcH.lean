/- The walk of VoteAgree: no two honest members deliver unlike bodies, nor any of them twice; if the sender is honest, it is what was sent. -/
import Derived.Test.YtlekbbpancaenaaTkH
import Derived.Test.YtlekbbpancaenaaTkE
import Derived.Test.YtlekbbpancaenaaTkP
namespace Go.Proofs.Ytlekbbpancaenaa
open Go.RowKit Go.Shelf

namespace Vt
/-- How many ballots, how many votes under way. -/
def Lim (K : Nat) (s : Tk) : Prop := (∀ i, (s.cs i).echoes.length ≤ K ∧ (s.cs i).readies.length ≤ K) ∧ s.way.length ≤ 7 * (K + 1)
theorem lim_more {K : Nat} {s : Tk} (h : Lim K s) : Lim (K + 1) s := ⟨fun i => ⟨Nat.le_succ_of_le (h.1 i).1, Nat.le_succ_of_le (h.1 i).2⟩, by have := h.2; omega⟩
theorem lim_come {K n f frm : Nat} {s : Tk} {u : Und} (h7 : n ≤ 7) (h : Lim K s) : Lim (K + 1) (come n f frm s u) := by
  have hl := take_len (s.cs u.to) (2 ^ n - 1) frm u.kind u.who u.body
  have ho := outs_len' (s.cs u.to) (2 ^ n - 1) frm u.kind u.who u.body
  unfold come
  generalize take (s.cs u.to) (2 ^ n - 1) frm u.kind u.who u.body = t at *
  refine ⟨fun i => ?_, ?_⟩
  · dsimp only
    by_cases e : i = u.to
    · subst e; rw [upd_self]; have := h.1 u.to; omega
    · rw [upd_ne _ _ e]; have := h.1 i; omega
  · dsimp only
    rw [List.length_append]
    have hc : (t.outs.flatMap fun o => castL f n u.to (o.1 : Nat) o.2).length ≤ 7 := by
      match hO : t.outs, ho with
      | [], _ => simp
      | [o], _ => simp only [List.flatMap_cons, List.flatMap_nil, List.append_nil]; rw [castL_len]; omega
    have := h.2
    omega
theorem lim_cut {K i : Nat} {s : Tk} (h : Lim K s) : Lim K { s with way := s.way.eraseIdx i } := ⟨h.1, Nat.le_trans (List.length_eraseIdx_le _ _) h.2⟩
theorem inv_cut {n f frm : Nat} {sent : ByteArray} {ech rdy : Nat → Option ByteArray} {s : Tk} (h : Inv n f frm sent ech rdy s) (i : Nat) : Inv n f frm sent ech rdy { s with way := s.way.eraseIdx i } :=
  ⟨h.e, h.r, h.ve, h.vr, fun u hu => h.way u (List.mem_of_mem_eraseIdx hu), h.q, h.h, h.d, h.t⟩
end Vt

/-- A step of a play over a talk that agrees: it goes on so. -/
def Going (w0 : World) (n f frm : Nat) (sent : ByteArray) (cb sb db K : Nat) (w : World) : Prop :=
  ∃ s vw a1 a2 k1 k2 ech rdy, Talk w0 w n f frm s cb sb db vw a1 a2 k1 k2 ∧ Vt.Inv n f frm sent ech rdy s ∧ Vt.Lim K s
theorem step_going {w0 w : World} {n f frm cb sb db K : Nat} {sent : ByteArray} (h1 : 1 ≤ n) (h7 : n ≤ 7) (hf : f = Cn.faulty n) (hK : K ≤ 500) (p : Ply) (b1 : p.at_ < 65536) (b2 : p.to < 256) (b3 : p.who < 256) (h : Going w0 n f frm sent cb sb db K w) :
    Calls Try.prog 24 #[.pointer (some ⟨w0.heap.size, 0, none⟩), .agg #[.bool p.lie, .int .u16 (p.at_ : Nat), .int .u8 (p.to : Nat), .int .i64 p.kind, .int .u8 (p.who : Nat), .string p.body]] w fun e w' => e = .returned (.bool true) ∧ Going w0 n f frm sent cb sb db (K + 1) w' := by
  obtain ⟨s, vw, a1, a2, k1, k2, ech, rdy, hT, hI, hL⟩ := h
  have hfn := (Vt.num7 h1 h7 hf).1
  have hway : s.way.length ≤ 50000 := by have := hL.2; omega
  have hlen : ∀ i, (s.cs i).echoes.length ≤ 900 ∧ (s.cs i).readies.length ≤ 900 := fun i => by have := hL.1 i; omega
  obtain ⟨lie, pa, pt, kind, pw, body⟩ := p
  dsimp only at b1 b2 b3 ⊢
  cases lie with
  | true =>
    by_cases hf0 : f = 0
    · refine (step_none w0 n f frm s cb sb db vw a1 a2 k1 k2 pa pt pw kind body w h1 h7 hfn hway b1 b2 b3 hf0 hT).mono ?_
      rintro e w' ⟨rfl, vw', x1, x2, y1, y2, T⟩
      exact ⟨rfl, s, vw', x1, x2, y1, y2, ech, rdy, T, hI, Vt.lim_more hL⟩
    · have hton : f + pt % (n - f) < n := by have := Nat.mod_lt pt (show 0 < n - f by omega); omega
      have hM : Vt.May n f frm sent ech rdy ⟨f + pt % (n - f), pw % f, kind, body⟩ := ⟨Nat.le_add_right _ _, hton, .inl (Nat.mod_lt _ (by omega))⟩
      obtain ⟨hd, ech', rdy', hI'⟩ := Vt.inv_come h1 h7 hf hI hM
      refine (step_lie w0 n f frm s cb sb db vw a1 a2 k1 k2 pa pt pw kind body w h1 h7 hfn hway b1 b2 b3 (by omega) (f + pt % (n - f)) (pw % f) rfl rfl (hlen _) hd hT).mono ?_
      rintro e w' ⟨rfl, vw', x1, x2, y1, y2, T⟩
      exact ⟨rfl, _, vw', x1, x2, y1, y2, ech', rdy', T, hI', Vt.lim_come h7 hL⟩
  | false =>
    by_cases hl : s.way.length = 0
    · refine (step_idle w0 n f frm s cb sb db vw a1 a2 k1 k2 pa pt pw kind body w h1 h7 hfn hway b1 b2 b3 hl hT).mono ?_
      rintro e w' ⟨rfl, vw', x1, x2, y1, y2, T⟩
      exact ⟨rfl, s, vw', x1, x2, y1, y2, ech, rdy, T, hI, Vt.lim_more hL⟩
    · have hlt : pa % s.way.length < s.way.length := Nat.mod_lt _ (by omega)
      obtain ⟨u, hu⟩ : ∃ u, s.way[pa % s.way.length]? = some u := ⟨_, List.getElem?_eq_getElem hlt⟩
      have hW := hI.way u (List.mem_of_getElem? hu)
      have hM : Vt.May n f frm sent ech rdy u := ⟨hW.1, hW.2.1, .inr hW⟩
      obtain ⟨hd, ech', rdy', hI'⟩ := Vt.inv_come h1 h7 hf (Vt.inv_cut hI (pa % s.way.length)) hM
      refine (step_way w0 n f frm s cb sb db vw a1 a2 k1 k2 pa pt pw kind body w h1 h7 hfn hway b1 b2 b3 (pa % s.way.length) u (by omega) rfl hu hW.2.1 (by have := hW.2.2.2.1; omega) (hlen _) hd hT).mono ?_
      rintro e w' ⟨rfl, vw', x1, x2, y1, y2, T⟩
      exact ⟨rfl, _, vw', x1, x2, y1, y2, ech', rdy', T, hI', Vt.lim_come h7 (Vt.lim_cut hL)⟩
theorem agree_going {w0 w : World} {n f frm cb sb db K : Nat} {sent : ByteArray} (h1 : 1 ≤ n) (h7 : n ≤ 7) (hf : f = Cn.faulty n) (hfr : frm < n) (h : Going w0 n f frm sent cb sb db K w) :
    Calls Try.prog 25 #[.pointer (some ⟨w0.heap.size, 0, none⟩), .string sent] w fun e w' => e = .returned (.bool true) ∧ Going w0 n f frm sent cb sb db K w' := by
  obtain ⟨s, vw, a1, a2, k1, k2, ech, rdy, hT, hI, hL⟩ := h
  refine (agree_any w0 n f frm s cb sb db vw a1 a2 k1 k2 sent w h7 (Nat.le_of_lt (Vt.num7 h1 h7 hf).1) hfr (Vt.inv_agree h1 h7 hf hI) hT).mono ?_
  rintro e w' ⟨rfl, q, rfl⟩
  exact ⟨rfl, s, vw, a1, a2, k1, k2, ech, rdy, hT.later (below_drew (Below.refl _ w) q), hI, hL⟩
theorem begun_going {w : World} {n0 fr0 n f frm : Nat} {body : ByteArray} (h8 : n0 < 256) (h9 : fr0 < 256) (hn : n = n0 % 7 + 1) (hf : f = Cn.faulty n) (hfr : frm = fr0 % n) :
    Calls Try.prog 23 #[.int .u8 (n0 : Nat), .int .u8 (fr0 : Nat), .string body] w fun e w' => e = .returned (.pointer (some ⟨w.heap.size, 0, none⟩)) ∧ Going w n f frm body (w.heap.size + 1) (w.heap.size + 1 + 1) (w.heap.size + 1 + 1 + 1) 0 w' := by
  refine (begun_any n0 fr0 body w h8 h9 n f frm hn hf hfr).mono ?_
  rintro e w' ⟨rfl, vw, hT⟩
  have hx := begun_nums hn hf hfr
  refine ⟨rfl, _, vw, _, _, _, _, _, _, hT, Vt.inv_start hx.2.2.2, fun _ => ⟨Nat.zero_le _, Nat.zero_le _⟩, ?_⟩
  unfold Vt.Tk.start
  dsimp only
  split
  · rw [castL_len]; omega
  · simp
theorem Going.below {w0 w : World} {n f frm cb sb db K : Nat} {sent : ByteArray} (h : Going w0 n f frm sent cb sb db K w) : Below w0.heap.size w0 w := by
  obtain ⟨s, vw, a1, a2, k1, k2, ech, rdy, hT, _⟩ := h
  exact hT.below
theorem Going.later {w0 w w' : World} {n f frm cb sb db K : Nat} {sent : ByteArray} (h : Going w0 n f frm sent cb sb db K w) (hb : Below w.heap.size w w') : Going w0 n f frm sent cb sb db K w' := by
  obtain ⟨s, vw, a1, a2, k1, k2, ech, rdy, hT, hI, hL⟩ := h
  exact ⟨s, vw, a1, a2, k1, k2, ech, rdy, hT.later hb, hI, hL⟩
theorem Going.more {w0 w : World} {n f frm cb sb db K : Nat} {sent : ByteArray} (h : Going w0 n f frm sent cb sb db K w) : Going w0 n f frm sent cb sb db (K + 1) w := by
  obtain ⟨s, vw, a1, a2, k1, k2, ech, rdy, hT, hI, hL⟩ := h
  exact ⟨s, vw, a1, a2, k1, k2, ech, rdy, hT, hI, Vt.lim_more hL⟩

set_option maxHeartbeats 16000000 in
set_option maxRecDepth 100000 in
theorem agree_walk (d0 d1 : Nat) (body : ByteArray) (a : Option Addr) (cap : Nat) (l : List Ply) (w : World) (h0 : d0 < 256) (h1 : d1 < 256) (hl : AtP w a l) (hb : ∀ p ∈ l, p.at_ < 65536 ∧ p.to < 256 ∧ p.who < 256) :
    Calls Try.prog 5 #[.agg #[.int .u8 (d0 : Nat), .int .u8 (d1 : Nat)], .string body, .slice a l.length cap] w fun e w' => e = .returned (.bool true) ∧ Below w.heap.size w w' := by
  have AL : Aside (∀ W, _) := fun W => alive_any W
  have B0 : Aside (∀ o, Below w.heap.size w (w.alloc o)) := fun o => (Below.refl _ w).alloc (Nat.le_refl _) o
  by_cases hx : (100 : Int) < (body.size : Int)
  · clear hl hb
    go_enter Try.func5, Try.ntmps5
    go_wp2_with fail
    refine (AL.out _).mono ?_
    rintro z w1 ⟨rfl, hb1⟩
    have B1 : Aside (Below w.heap.size w w1) := below_step (B0.out _) hb1
    clear hb1 AL B0
    go_wp2
    go_ret
    exact ⟨rfl, B1.out⟩
  by_cases hy : (400 : Int) < (l.length : Int)
  · clear hl hb
    go_enter Try.func5, Try.ntmps5
    go_wp2_with fail
    refine (AL.out _).mono ?_
    rintro z w1 ⟨rfl, hb1⟩
    have B1 : Aside (Below w.heap.size w w1) := below_step (B0.out _) hb1
    clear hb1 AL B0
    go_wp2
    go_ret
    exact ⟨rfl, B1.out⟩
  obtain ⟨n, hn⟩ : ∃ n, n = d0 % 7 + 1 := ⟨_, rfl⟩
  obtain ⟨f, hf⟩ : ∃ f, f = Cn.faulty n := ⟨_, rfl⟩
  obtain ⟨frm, hfr⟩ : ∃ frm, frm = d1 % n := ⟨_, rfl⟩
  obtain ⟨g1, g7, -, gf⟩ := begun_nums hn hf hfr
  obtain ⟨L, hL⟩ : ∃ L : Nat, L = l.length := ⟨_, rfl⟩
  have BG : Aside (∀ W, _) := fun (W : World) => begun_going (w := W) (body := body) h0 h1 hn hf hfr
  have SG : Aside (∀ w0 cb sb db K (p : Ply) W, K ≤ 500 → p ∈ l → Going w0 n f frm body cb sb db K W → _) := fun (w0 : World) (cb sb db K : Nat) (p : Ply) (W : World) (hK : K ≤ 500) (hp : p ∈ l) (hG : Going w0 n f frm body cb sb db K W) => step_going g1 g7 hf hK p (hb p hp).1 (hb p hp).2.1 (hb p hp).2.2 hG
  have AG : Aside (∀ w0 cb sb db K W, Going w0 n f frm body cb sb db K W → _) := fun (w0 : World) (cb sb db K : Nat) (W : World) (hG : Going w0 n f frm body cb sb db K W) => agree_going g1 g7 hf gf hG
  have L0 : Aside (AtP w a l) := hl
  have HL : Aside (L = l.length) := hL
  rw [← hL] at hy ⊢
  have hL4 : L ≤ 400 := Nat.le_of_not_lt fun h => hy (Int.ofNat_lt.2 h)
  have bx : (w.alloc (.cells #[.int .u8 (d0 : Int), .int .u8 (d1 : Int)] 53)).cell? ⟨w.heap.size, 0, none⟩ = some (.int .u8 (d0 : Int)) := World.cell?_alloc_at _ _ _ _ rfl
  have by_ : (w.alloc (.cells #[.int .u8 (d0 : Int), .int .u8 (d1 : Int)] 53)).cell? ⟨w.heap.size, 1, none⟩ = some (.int .u8 (d1 : Int)) := World.cell?_alloc_at _ _ _ _ rfl
  have BX : Aside (∀ W, Below (w.alloc (.cells #[.int .u8 (d0 : Int), .int .u8 (d1 : Int)] 53)).heap.size (w.alloc (.cells #[.int .u8 (d0 : Int), .int .u8 (d1 : Int)] 53)) W → W.cell? ⟨w.heap.size, 0, none⟩ = some (.int .u8 (d0 : Int)) ∧ W.cell? ⟨w.heap.size, 1, none⟩ = some (.int .u8 (d1 : Int))) := fun W hb => ⟨cell_later hb bx, cell_later hb by_⟩
  clear hn hf hfr hl hb hL g1 g7 gf h0 h1 bx by_
  go_enter Try.func5, Try.ntmps5
  go_wp2_with fail
  refine (AL.out _).mono ?_
  rintro z w1 ⟨rfl, hb1⟩
  have B1 : Aside (Below w.heap.size w w1) := below_step (B0.out _) hb1
  obtain ⟨c0, c1⟩ := BX.out w1 hb1
  have cl := World.block_lt_of_cell? _ _ c0
  dsimp only at cl
  clear hb1 AL B0 BX
  go_wp2_with fail
  refine (BG.out w1).mono ?_
  rintro z w2 ⟨rfl, hG0⟩
  have G0 : Aside (Going w1 n f frm body (w1.heap.size + 1) (w1.heap.size + 1 + 1) (w1.heap.size + 1 + 1 + 1) 0 w2) := hG0
  clear hG0 BG c0 c1 cl
  go_wp2_with fail
  go_loopw [31] (fun j wr => ∃ k, k ≤ L ∧ j = .int .i64 (k : Nat) ∧ Aside (Going w1 n f frm body (w1.heap.size + 1) (w1.heap.size + 1 + 1) (w1.heap.size + 1 + 1 + 1) k wr)) (fun j _ => L - (intOf j).toNat)
  case atStart => exact ⟨0, Nat.zero_le _, rfl, G0.out⟩
  case round =>
    obtain ⟨k, hk, rfl, hG⟩ := hrel
    clear G0
    by_cases hlt : k < L
    · have t1 : (k : Int) < (L : Int) := Int.ofNat_lt.2 hlt
      have t2 : (0 : Int) ≤ (k : Int) := Int.natCast_nonneg _
      have t3 : (k : Int) < 400 := by omega
      obtain ⟨p, hp⟩ : ∃ p, l[k]? = some p := ⟨_, List.getElem?_eq_getElem (HL.out ▸ hlt)⟩
      have MP : Aside (p ∈ l) := List.mem_of_getElem? hp
      obtain ⟨b, off, rfl, hc⟩ : ∃ b off, a = some ⟨b, off, none⟩ ∧ ∀ (j : Nat) (p : Ply), l[j]? = some p → wr.cell? ⟨b, off + j * 6, none⟩ = some (.bool p.lie) ∧ wr.cell? ⟨b, off + j * 6 + 1, none⟩ = some (.int .u16 (p.at_ : Int)) ∧ wr.cell? ⟨b, off + j * 6 + 2, none⟩ = some (.int .u8 (p.to : Int)) ∧ wr.cell? ⟨b, off + j * 6 + 3, none⟩ = some (.int .i64 p.kind) ∧ wr.cell? ⟨b, off + j * 6 + 4, none⟩ = some (.int .u8 (p.who : Int)) ∧ wr.cell? ⟨b, off + j * 6 + 5, none⟩ = some (.string p.body) := by
        rcases L0.out.later (below_step B1.out hG.out.below) with hh | hh
        · rw [hh] at hp; cases hp
        · exact hh
      obtain ⟨v0, v1, v2, v3, v4, v5⟩ := hc k p hp
      have vl := World.block_lt_of_cell? _ _ v0
      dsimp only at vl
      have GA : Aside (∀ o, Going w1 n f frm body (w1.heap.size + 1) (w1.heap.size + 1 + 1) (w1.heap.size + 1 + 1 + 1) k (wr.alloc o)) := fun o => hG.out.later ((Below.refl _ wr).alloc (Nat.le_refl _) o)
      clear hc hp hG
      by_cases hx2 : (100 : Int) < (p.body.size : Int)
      · have GM : Aside (∀ o, Going w1 n f frm body (w1.heap.size + 1) (w1.heap.size + 1 + 1) (w1.heap.size + 1 + 1 + 1) (k + 1) (wr.alloc o)) := fun o => (GA.out o).more
        clear SG AG GA
        go_wp2
        go_roundw
        case rel => exact ⟨k + 1, by omega, by go_num, GM.out _⟩
        case measure => simp [intOf]; omega
      · go_wp2_with fail
        refine (SG.out w1 _ _ _ k p _ (by omega) MP.out (GA.out _)).mono ?_
        rintro z w5 ⟨rfl, hG5⟩
        have G5 : Aside (Going w1 n f frm body (w1.heap.size + 1) (w1.heap.size + 1 + 1) (w1.heap.size + 1 + 1 + 1) (k + 1) w5) := hG5
        clear hG5 GA SG v0 v1 v2 v3 v4 v5 vl
        go_wp2_with fail
        refine (AG.out w1 _ _ _ (k + 1) w5 G5.out).mono ?_
        rintro z w6 ⟨rfl, hG6⟩
        have G6 : Aside (Going w1 n f frm body (w1.heap.size + 1) (w1.heap.size + 1 + 1) (w1.heap.size + 1 + 1 + 1) (k + 1) w6) := hG6
        clear hG6 G5 AG
        go_wp2
        go_roundw
        case rel => exact ⟨k + 1, by omega, by go_num, G6.out⟩
        case measure => simp [intOf]; omega
    · obtain rfl : k = L := by omega
      have B9 : Aside (Below w.heap.size w wr) := below_step B1.out hG.out.below
      clear hG SG AG
      go_wp2
      go_ret
      exact ⟨rfl, B9.out⟩
end Go.Proofs.Ytlekbbpancaenaa
