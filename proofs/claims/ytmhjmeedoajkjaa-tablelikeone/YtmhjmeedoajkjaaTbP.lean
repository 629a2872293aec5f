/- A table that shares no list with the one given (anew). -/
import Derived.Test.YtmhjmeedoajkjaaTbO
set_option linter.unusedVariables false
namespace Go.Proofs.Ytmhjmeedoajkjaa
open Go.RowKit Go.Shelf

theorem X19.set18 {w : World} {b : Nat} {t : TypeId} {v : Int} {ms : Nat} {bs : Nat → Nat} {s : Value} (h : X19 w b t v ms bs s) (s' : Value) : X19 (w.setCell ⟨b, 18, none⟩ s') b t v ms bs s' := row_set h s'
theorem X19.zero (w : World) : X19 (w.alloc (.cells #[.int .i64 0, .int .u16 0, .int .u16 0, .int .u16 0, .int .u16 0, .int .u16 0, .int .u16 0, .int .u16 0, .int .u16 0, .int .u16 0, .int .u16 0, .int .u16 0, .int .u16 0, .int .u16 0, .int .u16 0, .int .u16 0, .int .u16 0, .int .u16 0, .slice none 0 0] 30)) w.heap.size 30 0 0 (fun _ => 0) (.slice none 0 0) := X19.new w 30 0 0 (fun _ => 0) _
theorem load_tab {w : World} {b : Nat} {t : TypeId} {v : Int} {ms : Nat} {bs : Nat → Nat} {s : Value} (h : X19 w b t v ms bs s) : Sem.run Try.prog (loadCellsFrom ⟨b, 0, none⟩ 0 19 #[]) w = .ok (tabL v ms bs s) w := by
  have := run_loadCellsFrom_list Try.prog w ⟨b, 0, none⟩ (tabL v ms bs s).toList 19 rfl (fun j u hj => by rw [Addr.add_lit]; exact tabL_cells h j u hj)
  simpa using this
theorem results_cell {P : Program} {fn : Func} {tmps : Array Value} {w : World} {a : Tmp} {t k b : Nat} {arr : Array Value} (h : fn.results = #[.cell a t]) (hp : tmps.getD a undef = .pointer (some ⟨b, 0, none⟩))
    (aE : (isAgg t).run P w = .ok true w) (zE : (Go.sizeOf t).run P w = .ok k w) (hl : Sem.run P (loadCellsFrom ⟨b, 0, none⟩ 0 k #[]) w = .ok arr w) : (results fn tmps).run P w = .ok (.agg arr) w := by
  have e : (loadVar t ⟨b, 0, none⟩).run P w = .ok (.agg arr) w := by simp [loadVar, aE, zE, loadCells, hl]
  generalize (⟨b, 0, none⟩ : Addr) = q at *
  have hp2 : tmps[a]?.getD undef = .pointer (some q) := by simpa using hp
  simp [results, h, hp2, asAddr, e]

/-- The ballots of an open broadcast lie in blocks from B on. -/
def FrE (B : Nat) (e : En) : Prop := (e.o.c.echoes ≠ [] → ∀ ad, e.a1 = some ad → B ≤ ad.block) ∧ (e.o.c.readies ≠ [] → ∀ ad, e.a2 = some ad → B ≤ ad.block)
theorem at_lt {w : World} {a : Option Addr} {l : Vt.Bal} (h : Vt.At w a l) (hl : l ≠ []) (ad : Addr) (ha : a = some ad) : ad.block < w.heap.size := by
  rcases h with h | ⟨b, off, h, hc⟩
  · exact absurd h hl
  · rw [ha] at h; cases h
    cases l with
    | nil => exact absurd rfl hl
    | cons d r => exact Vt.At.block hc
theorem offs_old {w : World} {e : En} (h : EnAt w e) {g : Nat} (hg : w.heap.size ≤ g) : Offs g e :=
  ⟨fun hl ad ha => by have := at_lt h.at_.e hl ad ha; omega, fun hl ad ha => by have := at_lt h.at_.r hl ad ha; omega⟩
theorem Two.fresh {w2 : World} {B : Nat} {e : En} {ga gb : Option Addr} {ca cb : Nat} (h2 : Two B w2 (.slice ga e.o.c.echoes.length ca) (.slice gb e.o.c.readies.length cb) e.o.c.echoes e.o.c.readies) : FrE B (moved e ga ca gb cb) :=
  ⟨fun _ ad ha => (h2.1.lt ad.block (by show Value.ownBlock (.slice ga _ _) = _; rw [show ga = some ad from ha]; rfl)).1, fun _ ad ha => (h2.2.1.lt ad.block (by show Value.ownBlock (.slice gb _ _) = _; rw [show gb = some ad from ha]; rfl)).1⟩

theorem fr_offs {B g : Nat} {e : En} (h : FrE B e) (hg : g < B) : Offs g e := ⟨fun hl ad ha => by have := h.1 hl ad ha; omega, fun hl ad ha => by have := h.2 hl ad ha; omega⟩
theorem OwnT.cells {B b : Nat} {v : Value} {es : List En} : ∀ (vs : List Value) (o : Nat) {w : World}, OwnT w B v es → v.ownBlock ≠ some b → (∀ e ∈ es, Offs b e) → OwnT (w.setCells b o vs) B v es
  | [], _, _, h, _, _ => h
  | u :: r, o, w, h, h1, h2 => OwnT.cells r (o + 1) (h.far h1 h2 u) h1 h2
/-- How far the loop of anew came. -/
def Anewed (w : World) (l : List En) (v : Int) (ms : Nat) (bs : Nat → Nat) (p : Option Addr) (n q : Nat) (i : Value) (wr : World) : Prop :=
  ∃ (k : Nat) (es : List En), k ≤ n ∧ i = .int .i64 k ∧ ops es = ops l ∧ es.length = n ∧ OwnT wr (w.heap.size + 2) (.slice p n q) es ∧ (∀ j e, j < k → es[j]? = some e → FrE (w.heap.size + 2) e) ∧
    X19 wr w.heap.size 30 v ms bs (.slice p n q) ∧ X19 wr (w.heap.size + 1) 30 0 0 (fun _ => 0) (.slice none 0 0) ∧ Below w.heap.size w wr ∧ w.heap.size + 2 ≤ wr.heap.size
/-- What anew answers. -/
def Anew8 (w : World) (l : List En) (v : Int) (ms : Nat) (bs : Nat → Nat) (x : Ending) (w' : World) : Prop :=
  ∃ (p : Option Addr) (q : Nat) (es : List En), x = .returned (.agg (tabL v ms bs (.slice p l.length q))) ∧ ops es = ops l ∧ es.length = l.length ∧ OwnT w' (w.heap.size + 2) (.slice p l.length q) es ∧ (∀ e ∈ es, FrE (w.heap.size + 2) e) ∧ Below w.heap.size w w'

set_option maxHeartbeats 8000000 in
set_option maxRecDepth 100000 in
theorem anew8_any (v : Int) (ms : Nat) (bs : Nat → Nat) (a : Option Addr) (c : Nat) (l : List En) (w : World) (hr : AtR w a l) (he : ∀ e ∈ l, EnAt w e) (hn : l.length ≤ 500) :
    Calls Try.prog 18 #[.agg (tabL v ms bs (.slice a l.length c))] w (Anew8 w l v ms bs) := by
  have RZ : Aside (∀ p q es w', ops es = ops l → es.length = l.length → OwnT w' (w.heap.size + 2) (.slice p l.length q) es → (∀ e ∈ es, FrE (w.heap.size + 2) e) → Below w.heap.size w w' → Anew8 w l v ms bs (.returned (.agg (tabL v ms bs (.slice p l.length q)))) w') := fun p q es w' h1 h2 h3 h4 h5 => ⟨p, q, es, rfl, h1, h2, h3, h4, h5⟩
  generalize Anew8 w l v ms bs = Q at RZ ⊢
  obtain ⟨V, hV⟩ : ∃ V, V = (w.alloc (.cells (tabL v ms bs (.slice a l.length c)) 30)).alloc (.cells #[.int .i64 0, .int .u16 0, .int .u16 0, .int .u16 0, .int .u16 0, .int .u16 0, .int .u16 0, .int .u16 0, .int .u16 0, .int .u16 0, .int .u16 0, .int .u16 0, .int .u16 0, .int .u16 0, .int .u16 0, .int .u16 0, .int .u16 0, .int .u16 0, .slice none 0 0] 30) := ⟨_, rfl⟩
  have XV : Aside (X19 V w.heap.size 30 v ms bs (.slice a l.length c) ∧ X19 V (w.heap.size + 1) 30 0 0 (fun _ => 0) (.slice none 0 0) ∧ Below w.heap.size w V ∧ V.heap.size = w.heap.size + 2) := by
    rw [hV]
    refine ⟨(X19.new w 30 v ms bs _).alloc _, ?_, ((Below.refl _ w).alloc (Nat.le_refl _) _).alloc (by simp) _, by simp⟩
    have := X19.zero (w.alloc (.cells (tabL v ms bs (.slice a l.length c)) 30))
    rwa [World.size_alloc] at this
  have HC := clone7_any a c l V (hr.later XV.out.2.2.1) (by omega)
  have HE0 : Aside (∀ e ∈ l, EnAt w e) := he
  have HE : Aside (∀ e ∈ l, EnAt V e) := fun e h => (he e h).later XV.out.2.2.1
  have x18 := XV.out.1.cells.2.2.2.2.2.2.2.2.2.2.2.2.2.2.2.2.2.2
  rw [hV] at x18
  obtain ⟨n, en⟩ : ∃ n, n = l.length := ⟨_, rfl⟩
  rw [← en] at HC hn RZ XV hV x18 ⊢
  have HN : Aside (n = l.length) := en
  clear hr he en
  go_enter Try.func18, Try.ntmps18
  go_wp2_with fail
  rw [← hV]
  clear hV x18
  refine HC.mono ?_
  rintro e w1 ⟨v1, rfl, ho, hb1⟩
  obtain ⟨p, q, rfl⟩ : ∃ p q, v1 = .slice p n q := by
    rcases ho.2 with ⟨rfl, h0⟩ | ⟨g, cap, cur, rfl, _⟩
    · rw [h0]; exact ⟨none, 0, rfl⟩
    · exact ⟨_, _, rfl⟩
  have hsz := XV.out.2.2.2
  have X1 := XV.out.1.later hb1
  have ST : Aside (Anewed w l v ms bs p n q (.int .i64 0) (w1.setCell ⟨w.heap.size, 18, none⟩ (.slice p n q))) := by
    have hne : (Value.slice p n q).ownBlock ≠ some w.heap.size := fun e => by have := (ho.lt _ e).1; omega
    refine ⟨0, l, by omega, rfl, rfl, HN.out.symm, ?_, fun j e hj => by omega, X1.set18 _, (XV.out.2.1.later hb1).far (by omega) _, (below_step XV.out.2.2.1 hb1).setCell (Nat.le_refl _) _, by have := hb1.size; simp; omega⟩
    refine ⟨?_, fun e hm => ((HE.out e hm).later hb1).set (offs_old (HE0.out e hm) (Nat.le_refl _)) _, fun g hg e hm => offs_old (HE.out e hm) (ho.lt g hg).1⟩
    · have := own_far ho hne (.slice p n q) (j := 18)
      rw [hsz] at this
      rw [← HN.out]; exact this
  have y18 := X1.cells.2.2.2.2.2.2.2.2.2.2.2.2.2.2.2.2.2.2
  have z18 := X1.frozen 18
  clear HC ho hb1 X1 hsz HE HE0
  go_wp2_with fail
  clear y18 z18
  generalize w1.setCell ⟨w.heap.size, 18, none⟩ (.slice p n q) = w2 at ST ⊢
  go_loopw [3, 4, 12] (fun _ _ i wr => Anewed w l v ms bs p n q i wr) (fun _ _ i _ => n - (intOf i).toNat)
  case atStart => exact ST.out
  case round =>
    obtain ⟨k, es, hk, rfl, hops, hlen, hown, hfr, hx, hx2, hbe, hsz⟩ := hrel
    have W : Aside (ops es = ops l ∧ es.length = n ∧ OwnT wr (w.heap.size + 2) (.slice p n q) es ∧ (∀ j e, j < k → es[j]? = some e → FrE (w.heap.size + 2) e) ∧ X19 wr w.heap.size 30 v ms bs (.slice p n q) ∧ X19 wr (w.heap.size + 1) 30 0 0 (fun _ => 0) (.slice none 0 0) ∧ Below w.heap.size w wr ∧ w.heap.size + 2 ≤ wr.heap.size) := ⟨hops, hlen, hown, hfr, hx, hx2, hbe, hsz⟩
    clear hops hlen hown hfr hx hx2 hbe hsz ST
    by_cases hlt : k < n
    · obtain ⟨e, hek⟩ : ∃ e, es[k]? = some e := ⟨_, List.getElem?_eq_getElem (by rw [W.out.2.1]; exact hlt)⟩
      obtain ⟨g, rfl⟩ : ∃ g, p = some ⟨g, 0, none⟩ := by
        rcases W.out.2.2.1.row.2 with ⟨h, h0⟩ | ⟨g, cap, cur, h, _⟩
        · rw [W.out.2.1] at h0; omega
        · cases h; exact ⟨g, rfl⟩
      have EK : Aside (es[k]? = some e) := hek
      have hrow := W.out.2.2.1.row
      rw [W.out.2.1] at hrow
      have hcell : ∀ i u, i < 7 → (encE e)[i]? = some u → wr.cell? ⟨g, k * 7 + i, none⟩ = some u := fun i u hi hu => by
        rw [hrow.cellAt (k * 7 + i) (by omega), rowC_get hek hi]; exact hu
      have c5 := hcell 5 _ (by decide) rfl
      have c6 := hcell 6 _ (by decide) rfl
      have hfz : ∀ i, wr.frozen? ⟨g, i, none⟩ = false := fun i => by
        rcases hrow.2 with ⟨h, _⟩ | ⟨g', cap, cur, h, _, hh, _⟩
        · cases h
        · cases h; exact frozen_of_row wr g i _ 50 hh
      have hgB : w.heap.size + 2 ≤ g := (hrow.lt g rfl).1
      have hgw : g < wr.heap.size := (hrow.lt g rfl).2
      have GG : Aside (w.heap.size + 2 ≤ g ∧ g < wr.heap.size ∧ wr.ownsRow (w.heap.size + 2) 50 7 (.slice (some ⟨g, 0, none⟩) n q) n (rowC es)) := ⟨hgB, hgw, hrow⟩
      have y18 := W.out.2.2.2.2.1.cells.2.2.2.2.2.2.2.2.2.2.2.2.2.2.2.2.2.2
      have ea := W.out.2.2.1.ats e (List.mem_of_getElem? hek)
      obtain ⟨a1, hA1⟩ : ∃ a1, a1 = e.a1 := ⟨_, rfl⟩
      obtain ⟨a2, hA2⟩ : ∃ a2, a2 = e.a2 := ⟨_, rfl⟩
      obtain ⟨k1, hk1⟩ : ∃ k1, k1 = e.k1 := ⟨_, rfl⟩
      obtain ⟨k2, hk2⟩ : ∃ k2, k2 = e.k2 := ⟨_, rfl⟩
      obtain ⟨l1, hl1⟩ : ∃ l1, l1 = e.o.c.echoes := ⟨_, rfl⟩
      obtain ⟨l2, hl2⟩ : ∃ l2, l2 = e.o.c.readies := ⟨_, rfl⟩
      have K1 : Aside (∀ W, Below wr.heap.size wr W → Calls Try.prog 37 #[.slice a1 l1.length k1] W fun e w' => ∃ v', e = .returned v' ∧ w'.ownsRow W.heap.size 94 2 v' l1.length (Vt.balC l1) ∧ Below W.heap.size W w') := fun W hb => clone_any a1 k1 l1 W (by rw [hA1, hl1]; exact ea.at_.e.later hb) (by rw [hl1]; have := ea.at_.n1; omega)
      have K2 : Aside (∀ W, Below wr.heap.size wr W → Calls Try.prog 37 #[.slice a2 l2.length k2] W fun e w' => ∃ v', e = .returned v' ∧ w'.ownsRow W.heap.size 94 2 v' l2.length (Vt.balC l2) ∧ Below W.heap.size W w') := fun W hb => clone_any a2 k2 l2 W (by rw [hA2, hl2]; exact ea.at_.r.later hb) (by rw [hl2]; have := ea.at_.n2; omega)
      have EL : Aside (l1 = e.o.c.echoes ∧ l2 = e.o.c.readies) := ⟨hl1, hl2⟩
      have c5' : wr.cell? ⟨g, k * 7 + 2 + 3, none⟩ = some (.slice a1 l1.length k1) := by rw [hA1, hl1, hk1]; exact c5
      have c6' : wr.cell? ⟨g, k * 7 + 2 + 4, none⟩ = some (.slice a2 l2.length k2) := by rw [hA2, hl2, hk2]; exact c6
      have t1 : (k : Int) < (n : Int) := by omega
      have t0 : (0 : Int) ≤ (k : Int) := by omega
      clear c5 c6 hcell hrow hgB hgw ea hA1 hA2 hk1 hk2 hl1 hl2 hek
      go_wp2_with fail
      go_region_with
        (first
          | (go_at_call 37; refine (K1.out wr.drew (Below.refl _ wr).drew).mono ?_; rintro e1 w3 ⟨v3, rfl, o1, b1⟩; obtain ⟨ga, ca, rfl, -, -⟩ := Vt.own_at o1; have Y1 : Aside (Below wr.heap.size wr w3 ∧ w3.ownsRow wr.heap.size 94 2 (.slice ga l1.length ca) l1.length (Vt.balC l1) ∧ wr.heap.size ≤ w3.heap.size) := ⟨below_step (Below.refl _ wr).drew b1, o1, b1.size⟩; have d6 := cell_later (w := wr.drew) b1 c6'; clear o1 b1)
          | (go_at_call 37; refine (K2.out w3 Y1.out.1).mono ?_; rintro e2 w4 ⟨v4, rfl, o2, b2⟩; obtain ⟨gb, cb, rfl, -, -⟩ := Vt.own_at o2; have Y2 : Aside (Below wr.heap.size wr w4 ∧ Two wr.heap.size w4 (.slice ga l1.length ca) (.slice gb l2.length cb) l1 l2) := ⟨below_step Y1.out.1 b2, two_apart Y1.out.2.1 o2 b2 Y1.out.2.2⟩; have g5 := cell_later Y2.out.1 c5'; have g6 := cell_later Y2.out.1 c6'; have gf : ∀ i, w4.frozen? ⟨g, i, none⟩ = false := (fun i => (Y2.out.1.frozen (p := ⟨g, i, none⟩) GG.out.2.1).trans (hfz i)); clear o2 b2)
          | fail)
      all_goals
        clear K1 K2 d6 g5 g6 gf Y1 c5' c6' hfz y18
        go_wp2
        go_roundw
        case rel =>
          obtain ⟨e1, e2⟩ := EL.out
          subst e1 e2
          have hO := OwnT.clone W.out.2.2.1 W.out.2.1 EK.out Y2.out.1 Y2.out.2
          refine ⟨k + 1, es.set k (moved e ga ca gb cb), by omega, by go_num, (ops_set (e' := moved e ga ca gb cb) EK.out rfl).trans W.out.1, by rw [List.length_set]; exact W.out.2.1, hO, fun j x hj hx => ?_, ?_, ?_, ?_, ?_⟩
          · by_cases hjk : j = k
            · subst hjk
              rw [List.getElem?_set_self (by rw [W.out.2.1]; exact hlt)] at hx
              cases hx
              have := Two.fresh Y2.out.2
              exact ⟨fun a b c => by have := this.1 a b c; have := W.out.2.2.2.2.2.2.2; omega, fun a b c => by have := this.2 a b c; have := W.out.2.2.2.2.2.2.2; omega⟩
            · rw [List.getElem?_set_ne (fun e => hjk e.symm)] at hx
              exact W.out.2.2.2.1 j x (by omega) hx
          · exact ((W.out.2.2.2.2.1.later Y2.out.1).far (by have := GG.out.1; omega) _).far (by have := GG.out.1; omega) _
          · exact ((W.out.2.2.2.2.2.1.later Y2.out.1).far (by have := GG.out.1; omega) _).far (by have := GG.out.1; omega) _
          · exact ((below_step W.out.2.2.2.2.2.2.1 Y2.out.1).setCell (p := ⟨g, k * 7 + 5, none⟩) (by have := GG.out.1; show w.heap.size ≤ g; omega) _).setCell (p := ⟨g, k * 7 + 6, none⟩) (by have := GG.out.1; show w.heap.size ≤ g; omega) _
          · have := Y2.out.1.size; have := W.out.2.2.2.2.2.2.2; simp; omega
        case measure => simp [intOf]; omega
    · obtain rfl : k = n := by omega
      have XX : Aside (X19 wr w.heap.size 30 v ms bs (.slice p k q)) := W.out.2.2.2.2.1
      have X2 : Aside (X19 wr (w.heap.size + 1) 30 0 0 (fun _ => 0) (.slice none 0 0)) := W.out.2.2.2.2.2.1
      go_wp2_with (first
        | (with_reducible refine wpList_tab XX.out rfl _ rfl rfl ?_)
        | (with_reducible refine wpList_tab_store X2.out rfl _ _ rfl rfl rfl ?_))
      have Z : X19 (wr.setCells (w.heap.size + 1) 0 (tabL v ms bs (.slice p k q)).toList) (w.heap.size + 1) 30 v ms bs (.slice p k q) := X2.out.whole
      refine bodyPost_ret (results_cell rfl rfl (Try.isAgg30 _) (Try.sizeOf30 _) (load_tab Z)) rfl (RZ.out p q es _ W.out.1 W.out.2.1 ?_ (fun e he => ?_) ?_)
      · have hbk : (Value.slice p k q).ownBlock ≠ some (w.heap.size + 1) := fun e => by have := (W.out.2.2.1.row.lt _ e).1; omega
        refine OwnT.cells _ _ W.out.2.2.1 hbk (fun e he => ?_)
        obtain ⟨j, hj, rfl⟩ := List.getElem_of_mem he
        exact fr_offs (W.out.2.2.2.1 j _ (by rw [← W.out.2.1]; exact hj) (List.getElem?_eq_getElem hj)) (by omega)
      · obtain ⟨j, hj, rfl⟩ := List.getElem_of_mem he
        exact W.out.2.2.2.1 j _ (by rw [← W.out.2.1]; exact hj) (List.getElem?_eq_getElem hj)
      · exact below_cells _ _ W.out.2.2.2.2.2.2.1 (by omega)
end Go.Proofs.Ytmhjmeedoajkjaa
