/- The walk of VoteAll: if all that honest members cast comes in the end, either all of them deliver or none does; all do, if the sender is honest. -/
import Derived.Test.YtlekbbpancaenaaTkH
import Derived.Test.YtlekbbpancaenaaTkE
import Derived.Test.YtlekbbpancaenaaTkP
import Derived.Test.YtlekbbpancaenaaBrC
import Derived.Deep.LoopGhost
import Derived.Deep.QuietTactic
namespace Go.Proofs.Ytlekbbpancaenaa
open Go.RowKit Go.Shelf
set_option linter.unusedVariables false

namespace Vt
theorem mem_erase {l : List Und} {i : Nat} {u v : Und} (hu : l[i]? = some u) (hv : v ∈ l) : v ∈ l.eraseIdx i ∨ v = u := by
  obtain ⟨j, hj, e⟩ := List.getElem_of_mem hv
  by_cases hij : j = i
  · subst hij
    rw [List.getElem?_eq_getElem hj] at hu
    exact .inr (e.symm.trans (Option.some.inj hu))
  · left
    rw [List.eraseIdx_eq_take_drop_succ]
    rcases Nat.lt_or_gt_of_ne hij with h | h
    · exact List.mem_append_left _ (by rw [← e]; exact List.mem_take_iff_getElem.2 ⟨j, by omega, rfl⟩)
    · refine List.mem_append_right _ ?_
      rw [← e]
      exact List.mem_drop_iff_getElem.2 ⟨j - (i + 1), by omega, by congr 1; omega⟩
theorem tot_cut {n f frm i : Nat} {sent : ByteArray} {ech rdy : Nat → Option ByteArray} {s : Tk} {u : Und} (h : Tot n f frm sent ech rdy s (fun _ => False)) (hu : s.way[i]? = some u) : Tot n f frm sent ech rdy { s with way := s.way.eraseIdx i } (fun v => v = u) := by
  have g : ∀ v, (v ∈ s.way ∨ False) → (v ∈ s.way.eraseIdx i ∨ v = u) := fun v hv => by
    rcases hv with hv | hv
    · exact mem_erase hu hv
    · exact hv.elim
  exact ⟨fun a j b c => (h.snd a j b c).imp_left (g _), fun i' b a1 a2 hb j c1 c2 => (h.ec i' b a1 a2 hb j c1 c2).imp_left (g _), fun i' b a1 a2 hb j c1 c2 => (h.rd i' b a1 a2 hb j c1 c2).imp_left (g _), h.eb, h.rb, h.few, h.dn, h.pe, h.pr⟩
theorem inv_cut2 {n f frm : Nat} {sent : ByteArray} {ech rdy : Nat → Option ByteArray} {s : Tk} (h : Inv n f frm sent ech rdy s) (i : Nat) : Inv n f frm sent ech rdy { s with way := s.way.eraseIdx i } :=
  ⟨h.e, h.r, h.ve, h.vr, fun u hu => h.way u (List.mem_of_mem_eraseIdx hu), h.q, h.h, h.d, h.t⟩
theorem mu_cut {n f i : Nat} {s : Tk} (hi : i < s.way.length) : mu n f { s with way := s.way.eraseIdx i } + 1 = mu n f s := by
  unfold mu
  dsimp only
  rw [List.length_eraseIdx_of_lt hi]
  omega
/-- All that holds of a talk. -/
structure Al (n f frm : Nat) (sent : ByteArray) (ech rdy : Nat → Option ByteArray) (s : Tk) : Prop where
  i : Inv n f frm sent ech rdy s
  t : Tot n f frm sent ech rdy s (fun _ => False)
  v : VLen s
theorem al_body {n f frm : Nat} {sent : ByteArray} {ech rdy : Nat → Option ByteArray} {s : Tk} {u : Und} (h : Al n f frm sent ech rdy s) (hs : sent.size ≤ 100) (hu : u ∈ s.way) : u.body.size ≤ 1000 := by
  obtain ⟨_, _, _, _, ⟨_, _, e⟩ | ⟨_, e⟩ | ⟨_, e⟩⟩ := h.i.way u hu
  · rw [e]; omega
  · exact h.t.eb _ _ e
  · exact h.t.rb _ _ e
theorem al_lie {n f frm : Nat} {sent : ByteArray} {ech rdy : Nat → Option ByteArray} {s : Tk} {u : Und} (h1 : 1 ≤ n) (h7 : n ≤ 7) (hf : f = Cn.faulty n) (hfr : frm < n) (hs : sent.size ≤ 100) (h : Al n f frm sent ech rdy s) (hto : f ≤ u.to ∧ u.to < n) (hw : u.who < f) (hb : u.body.size ≤ 1000) :
    ((take (s.cs u.to) (2 ^ n - 1) frm u.kind u.who u.body).is = true → s.done u.to = false) ∧ ∃ ech' rdy', Al n f frm sent ech' rdy' (come n f frm s u) ∧ mu n f (come n f frm s u) ≤ mu n f s := by
  obtain ⟨hd, ech', rdy', hI, hE, hR⟩ := inv_come2 h1 h7 hf h.i ⟨hto.1, hto.2, .inl hw⟩
  exact ⟨hd, ech', rdy', ⟨hI, tot_come h7 hfr (by omega) hb hto h.t (fun _ x => x.elim) hE hR, vlen_come u h.v⟩, mu_come h7 hto⟩
theorem al_way {n f frm i : Nat} {sent : ByteArray} {ech rdy : Nat → Option ByteArray} {s : Tk} {u : Und} (h1 : 1 ≤ n) (h7 : n ≤ 7) (hf : f = Cn.faulty n) (hfr : frm < n) (hs : sent.size ≤ 100) (h : Al n f frm sent ech rdy s) (hu : s.way[i]? = some u) :
    (u.to < n ∧ u.who < n) ∧ ((take (s.cs u.to) (2 ^ n - 1) frm u.kind u.who u.body).is = true → s.done u.to = false) ∧ ∃ ech' rdy', Al n f frm sent ech' rdy' (come n f frm { s with way := s.way.eraseIdx i } u) ∧ mu n f (come n f frm { s with way := s.way.eraseIdx i } u) + 1 ≤ mu n f s := by
  have hW := h.i.way u (List.mem_of_getElem? hu)
  have hto : f ≤ u.to ∧ u.to < n := ⟨hW.1, hW.2.1⟩
  obtain ⟨hd, ech', rdy', hI, hE, hR⟩ := inv_come2 h1 h7 hf (inv_cut2 h.i i) ⟨hW.1, hW.2.1, .inr hW⟩
  have hm := mu_come (s := { s with way := s.way.eraseIdx i }) (frm := frm) h7 hto
  have hc := mu_cut (n := n) (f := f) (s := s) (List.getElem?_eq_some_iff.1 hu).1
  refine ⟨⟨hW.2.1, hW.2.2.2.1⟩, hd, ech', rdy', ⟨hI, tot_come h7 hfr (by omega) (al_body h hs (List.mem_of_getElem? hu)) hto (tot_cut h.t hu) (fun _ x => x) hE hR, vlen_come u h.v⟩, by omega⟩
theorem al_start {n f frm : Nat} {sent : ByteArray} (hfr : frm < n) : Al n f frm sent (fun _ => Option.none) (fun _ => Option.none) (Tk.start n f frm sent) := ⟨inv_start hfr, tot_start, vlen_start n f frm sent⟩
theorem mu_start {n f frm : Nat} {sent : ByteArray} (h7 : n ≤ 7) : mu n f (Tk.start n f frm sent) ≤ 200 := by
  have c : ∀ p : Nat → Bool, (List.range' f (n - f)).countP p ≤ 7 := fun p => by
    have := List.countP_le_length (p := p) (l := List.range' f (n - f))
    rw [List.length_range'] at this
    omega
  have w : (Tk.start n f frm sent).way.length ≤ 7 := by
    unfold Tk.start
    dsimp only
    split
    · rw [castL_len]; omega
    · simp
  have c1 := c (fun i => !((Tk.start n f frm sent).cs i).echoed)
  have c2 := c (fun i => !((Tk.start n f frm sent).cs i).readied)
  unfold mu
  omega
theorem al_len {n f frm : Nat} {sent : ByteArray} {ech rdy : Nat → Option ByteArray} {s : Tk} (h : Al n f frm sent ech rdy s) (i : Nat) : (s.cs i).echoes.length ≤ 900 ∧ (s.cs i).readies.length ≤ 900 := by
  have h1 := h.v i
  have h2 := vc_le (s.cs i).echoes
  have h3 := vc_le (s.cs i).readies
  omega
theorem mu_way {n f : Nat} {s : Tk} (h : mu n f s ≤ 200) : s.way.length ≤ 200 := by unfold mu at h; omega
end Vt

def GoA (w0 : World) (n f frm : Nat) (sent : ByteArray) (cb sb db : Nat) (m : Nat) (w : World) : Prop :=
  ∃ s vw a1 a2 k1 k2 ech rdy, Talk w0 w n f frm s cb sb db vw a1 a2 k1 k2 ∧ Vt.Al n f frm sent ech rdy s ∧ Vt.mu n f s = m ∧ m ≤ 200
theorem GoA.below {w0 w : World} {n f frm cb sb db m : Nat} {sent : ByteArray} (h : GoA w0 n f frm sent cb sb db m w) : Below w0.heap.size w0 w := by
  obtain ⟨s, vw, a1, a2, k1, k2, ech, rdy, hT, _⟩ := h
  exact hT.below
theorem GoA.later {w0 w w' : World} {n f frm cb sb db m : Nat} {sent : ByteArray} (h : GoA w0 n f frm sent cb sb db m w) (hb : Below w.heap.size w w') : GoA w0 n f frm sent cb sb db m w' := by
  obtain ⟨s, vw, a1, a2, k1, k2, ech, rdy, hT, r⟩ := h
  exact ⟨s, vw, a1, a2, k1, k2, ech, rdy, hT.later hb, r⟩
theorem step_goA {w0 w : World} {n f frm cb sb db m : Nat} {sent : ByteArray} (h1 : 1 ≤ n) (h7 : n ≤ 7) (hf : f = Cn.faulty n) (hfr : frm < n) (hs : sent.size ≤ 100) (p : Ply) (hpb : p.body.size ≤ 100) (b1 : p.at_ < 65536) (b2 : p.to < 256) (b3 : p.who < 256) (h : GoA w0 n f frm sent cb sb db m w) :
    Calls Try.prog 24 #[.pointer (some ⟨w0.heap.size, 0, none⟩), .agg #[.bool p.lie, .int .u16 (p.at_ : Nat), .int .u8 (p.to : Nat), .int .i64 p.kind, .int .u8 (p.who : Nat), .string p.body]] w fun e w' => e = .returned (.bool true) ∧ ∃ m', GoA w0 n f frm sent cb sb db m' w' := by
  obtain ⟨s, vw, a1, a2, k1, k2, ech, rdy, hT, hA, rfl, hm⟩ := h
  have hfn := (Vt.num7 h1 h7 hf).1
  have hway : s.way.length ≤ 50000 := by have := Vt.mu_way hm; omega
  obtain ⟨lie, pa, pt, kind, pw, body⟩ := p
  dsimp only at b1 b2 b3 hpb ⊢
  cases lie with
  | true =>
    by_cases hf0 : f = 0
    · refine (step_none w0 n f frm s cb sb db vw a1 a2 k1 k2 pa pt pw kind body w h1 h7 hfn hway b1 b2 b3 hf0 hT).mono ?_
      rintro e w' ⟨rfl, vw', x1, x2, y1, y2, T⟩
      exact ⟨rfl, _, s, vw', x1, x2, y1, y2, ech, rdy, T, hA, rfl, hm⟩
    · have hton : f + pt % (n - f) < n := by have := Nat.mod_lt pt (show 0 < n - f by omega); omega
      obtain ⟨hd, ech', rdy', hA', hmu⟩ := Vt.al_lie (u := ⟨f + pt % (n - f), pw % f, kind, body⟩) h1 h7 hf hfr hs hA ⟨Nat.le_add_right _ _, hton⟩ (Nat.mod_lt _ (by omega)) (Nat.le_trans hpb (by decide))
      refine (step_lie w0 n f frm s cb sb db vw a1 a2 k1 k2 pa pt pw kind body w h1 h7 hfn hway b1 b2 b3 (by omega) (f + pt % (n - f)) (pw % f) rfl rfl (Vt.al_len hA _) hd hT).mono ?_
      rintro e w' ⟨rfl, vw', x1, x2, y1, y2, T⟩
      exact ⟨rfl, _, _, vw', x1, x2, y1, y2, ech', rdy', T, hA', rfl, Nat.le_trans hmu hm⟩
  | false =>
    by_cases hl : s.way.length = 0
    · refine (step_idle w0 n f frm s cb sb db vw a1 a2 k1 k2 pa pt pw kind body w h1 h7 hfn hway b1 b2 b3 hl hT).mono ?_
      rintro e w' ⟨rfl, vw', x1, x2, y1, y2, T⟩
      exact ⟨rfl, _, s, vw', x1, x2, y1, y2, ech, rdy, T, hA, rfl, hm⟩
    · have hlt : pa % s.way.length < s.way.length := Nat.mod_lt _ (by omega)
      obtain ⟨u, hu⟩ : ∃ u, s.way[pa % s.way.length]? = some u := ⟨_, List.getElem?_eq_getElem hlt⟩
      obtain ⟨hun, hd, ech', rdy', hA', hmu⟩ := Vt.al_way h1 h7 hf hfr hs hA hu
      refine (step_way w0 n f frm s cb sb db vw a1 a2 k1 k2 pa pt pw kind body w h1 h7 hfn hway b1 b2 b3 (pa % s.way.length) u (by omega) rfl hu hun.1 (by omega) (Vt.al_len hA _) hd hT).mono ?_
      rintro e w' ⟨rfl, vw', x1, x2, y1, y2, T⟩
      exact ⟨rfl, _, _, vw', x1, x2, y1, y2, ech', rdy', T, hA', rfl, by omega⟩
theorem begun_goA {w : World} {n0 fr0 n f frm : Nat} {body : ByteArray} (h8 : n0 < 256) (h9 : fr0 < 256) (hn : n = n0 % 7 + 1) (hf : f = Cn.faulty n) (hfr : frm = fr0 % n) :
    Calls Try.prog 23 #[.int .u8 (n0 : Nat), .int .u8 (fr0 : Nat), .string body] w fun e w' => e = .returned (.pointer (some ⟨w.heap.size, 0, none⟩)) ∧ ∃ m, GoA w n f frm body (w.heap.size + 1) (w.heap.size + 1 + 1) (w.heap.size + 1 + 1 + 1) m w' := by
  refine (begun_any n0 fr0 body w h8 h9 n f frm hn hf hfr).mono ?_
  rintro e w' ⟨rfl, vw, hT⟩
  have hx := begun_nums hn hf hfr
  exact ⟨rfl, _, _, vw, _, _, _, _, _, _, hT, Vt.al_start hx.2.2.2, rfl, Vt.mu_start hx.2.1⟩
set_option maxRecDepth 100000 in
/-- The first vote taken off the row. -/
theorem tail_row {w : World} {B g o L cap : Nat} {l : List Vt.Und} (h : WRow w B (.slice (some ⟨g, o, none⟩) L cap) L (wayC l)) (hl : l.length = L) (hL : 0 < L) :
    ∃ o', (∀ W, (Instr.slice 65 (.slice (some ⟨g, o, none⟩) L cap) (some (.int .i64 1)) none none).run Try.prog W = .ok (.slice (some ⟨g, o', none⟩) (L - 1) (cap - 1)) W) ∧
      (∀ W, (Instr.sliceAt 65 (.slice (some ⟨g, o, none⟩) L cap) (some (.int .i64 1)) none none).run Try.prog W = .ok (.slice (some ⟨g, o', none⟩) (L - 1) (cap - 1)) W) ∧ WRow w B (.slice (some ⟨g, o', none⟩) (L - 1) (cap - 1)) (L - 1) (wayC (l.eraseIdx 0)) := by
  have hs : ∀ W, (sizeOf 69).run Try.prog W = .ok 4 W := fun W => by kernel_rfl
  rcases h.2 with ⟨e, _⟩ | ⟨g2, o2, cap2, cur, e, hbg, hg, hnc, hcm, hcs, htake⟩
  · cases e
  obtain ⟨e1, -, e3⟩ := Value.slice.inj e
  obtain ⟨rfl, rfl, _⟩ := Addr.mk.inj (Option.some.inj e1)
  subst e3
  have hE : l.eraseIdx 0 = l.drop 1 := by rw [List.eraseIdx_eq_take_drop_succ]; rfl
  have hlen : (wayC (l.eraseIdx 0)).length = (L - 1) * 4 := by rw [wayC_len, hE, List.length_drop, hl]
  obtain ⟨o', ho', hrow⟩ : ∃ o', (if cap = 1 then (some ⟨g, o, none⟩ : Option Addr) else (some ⟨g, o, none⟩ : Option Addr).map (·.add (1 * 4))) = some ⟨g, o', none⟩ ∧ WRow w B (.slice (some ⟨g, o', none⟩) (L - 1) (cap - 1)) (L - 1) (wayC (l.eraseIdx 0)) := by
    by_cases hc : cap = 1
    · have hL1 : L = 1 := by omega
      refine ⟨o, if_pos hc, hlen, .inr ⟨g, o, cap - 1, cur, rfl, hbg, hg, by omega, by omega, by omega, ?_⟩⟩
      rw [hL1] at hlen ⊢
      have hz : wayC (l.eraseIdx 0) = [] := List.eq_nil_of_length_eq_zero (by simpa using hlen)
      rw [hz]
      simp
    · refine ⟨o + 4, ?_, hlen, .inr ⟨g, o + 4, cap - 1, cur, rfl, hbg, hg, by omega, by omega, by omega, ?_⟩⟩
      · rw [if_neg hc]
        show some ((⟨g, o, none⟩ : Addr).add 4) = _
        rw [add_cell]
      · have hd : (wayC l).drop (1 * 4) = wayC (l.drop 1) := wayC_drop l 1
        rw [hE, ← hd, ← htake, List.drop_take, List.drop_drop]
        congr 1
        omega
  have e2 : ∀ W, (Instr.slice 65 (.slice (some ⟨g, o, none⟩) L cap) (some (.int .i64 1)) none none).run Try.prog W = .ok (.slice (some ⟨g, o', none⟩) (L - 1) (cap - 1)) W := fun W => by
    rw [run_slice_l (P := Try.prog) (w := W) 65 (some ⟨g, o, none⟩) L cap Try.underlying65 .i64 1 (by decide) (by omega)]
    show ((sizeOf 69).run Try.prog W).andThen _ = _
    rw [hs]
    show Result.ok (sliced (some ⟨g, o, none⟩) 1 L cap 4) W = _
    unfold sliced
    rw [ho']
  exact ⟨o', e2, fun W => by rw [run_sliceAt_slice (P := Try.prog) (w := W) 65 _ _ _ _ Try.underlying65]; exact e2 W, hrow⟩
end Go.Proofs.Ytlekbbpancaenaa
