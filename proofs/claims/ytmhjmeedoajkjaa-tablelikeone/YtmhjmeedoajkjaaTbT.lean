/- A vote in a table (Take). -/
import Derived.Test.YtmhjmeedoajkjaaTbU
set_option linter.unusedVariables false
namespace Go.Proofs.Ytmhjmeedoajkjaa
open Go.RowKit Go.Shelf

theorem ST5_own {p : Option Addr} {n q k : Nat} {ad : Addr} (hk : (Value.slice p n q).ownBlock = some k) (hp : p = some ad) : ad.block = k := by
  subst hp
  unfold Value.ownBlock at hk
  simpa using hk

set_option maxHeartbeats 8000000 in
set_option maxRecDepth 100000 in
theorem take8_any (v : Int) (ms : Nat) (bs : Nat → Nat) (a : Option Addr) (c : Nat) (l : List En) (nv : Int) (nf : Nat) (ns : Int) (kind : Int) (id : Nat) (x : ByteArray) (w : World) (t : Tb.TTold) (hr : AtR w a l) (he : ∀ e ∈ l, EnAt w e) (hn : l.length ≤ 500) (hms : ms < 65536) (hb16 : ∀ i, i < 16 → bs i < 65536) (hnf : nf < 256) (hl9 : ∀ e ∈ l, e.o.c.echoes.length ≤ 800 ∧ e.o.c.readies.length ≤ 800)
    (ht1 : Tb.Rt ⟨v, ms, bs, ops l⟩ → t = Tb.take ⟨v, ms, bs, ops l⟩ nv nf ns kind id x) (ht2 : ¬ Tb.Rt ⟨v, ms, bs, ops l⟩ → t = Tb.errT ⟨v, ms, bs, ops l⟩ 2) :
    Calls Try.prog 9 #[.agg (tabL v ms bs (.slice a l.length c)), .agg #[.int .i64 nv, .int .u8 (nf : Int), .int .i64 ns], .int .i64 kind, .int .u8 (id : Nat), .string x] w (TkPost w t) := by
  obtain ⟨T, hT⟩ : ∃ T : Tb.Tab, T = ⟨v, ms, bs, ops l⟩ := ⟨_, rfl⟩
  rw [← hT] at ht1 ht2
  have TT : Aside ((Tb.Rt T → t = Tb.take T nv nf ns kind id x) ∧ (¬ Tb.Rt T → t = Tb.errT T 2)) := ⟨ht1, ht2⟩
  have TV : Aside (T = ⟨v, ms, bs, ops l⟩) := hT
  have EZ : Aside (∀ e p q es w', t = Tb.errT T e → ops es = ops l → OwnT w' w.heap.size (.slice p es.length q) es → (∀ e ∈ es, FrE w.heap.size e) → Below w.heap.size w w' → TkPost w t (.returned (.tuple #[.agg (tabL v ms bs (.slice p es.length q)), .slice none 0 0, .string Vt.none, .bool false, .int .i64 (e : Int)])) w') := fun e p q es w' h0 h1 h2 h3 h4 => by
    rw [h0]
    have := tk_err (T := T) (e := e) (p := p) (q := q) (es := es) (w := w) (w' := w') (by rw [h1, hT]) h2 h3 h4
    rw [hT] at this ⊢; exact this
  have OZ : Aside (∀ p q es ao co w', ops es = t.t.opn → OwnT w' w.heap.size (.slice p es.length q) es → (∀ e ∈ es, FrE w.heap.size e) → AtO w' ao t.outs → Fr w.heap.size ao → Below w.heap.size w w' → TkPost w t (.returned (.tuple #[.agg (tabL t.t.view t.t.ms t.t.base (.slice p es.length q)), .slice ao t.outs.length co, .string t.body, .bool t.is, .int .i64 (t.e : Int)])) w') := fun p q es ao co w' h1 h2 h3 h4 h5 h6 => ⟨p, q, es, ao, co, rfl, h1, h2, h3, h4, h5, h6⟩
  generalize TkPost w t = Q at EZ OZ ⊢
  obtain ⟨V, hV⟩ : ∃ V, V = ((w.alloc (.cells (tabL v ms bs (.slice a l.length c)) 30)).alloc (.cells #[.int .i64 nv, .int .u8 (nf : Int), .int .i64 ns] 33)).alloc (.cells #[.int .i64 0, .int .u16 0, .int .u16 0, .int .u16 0, .int .u16 0, .int .u16 0, .int .u16 0, .int .u16 0, .int .u16 0, .int .u16 0, .int .u16 0, .int .u16 0, .int .u16 0, .int .u16 0, .int .u16 0, .int .u16 0, .int .u16 0, .int .u16 0, .slice none 0 0] 30) := ⟨_, rfl⟩
  have XV : Aside (X19 V w.heap.size 30 v ms bs (.slice a l.length c) ∧ V.heap[w.heap.size + 1]? = some (.cells #[.int .i64 nv, .int .u8 (nf : Int), .int .i64 ns] 33 (0, 0)) ∧ X19 V (w.heap.size + 2) 30 0 0 (fun _ => 0) (.slice none 0 0) ∧ Below w.heap.size w V ∧ V.heap.size = w.heap.size + 3) := by
    rw [hV]
    refine ⟨((X19.new w 30 v ms bs _).alloc _).alloc _, ?_, ?_, (((Below.refl _ w).alloc (Nat.le_refl _) _).alloc (by simp) _).alloc (by simp; omega) _, by simp⟩
    · have := heap_alloc_new (w.alloc (.cells (tabL v ms bs (.slice a l.length c)) 30)) (.cells #[.int .i64 nv, .int .u8 (nf : Int), .int .i64 ns] 33)
      rw [World.size_alloc] at this
      exact (((Below.refl _ _).alloc (Nat.le_refl _) _).block _ (Array.getElem?_eq_some_iff.1 this).1).trans this
    · have := X19.zero ((w.alloc (.cells (tabL v ms bs (.slice a l.length c)) 30)).alloc (.cells #[.int .i64 nv, .int .u8 (nf : Int), .int .i64 ns] 33))
      rwa [World.size_alloc, World.size_alloc] at this
  have HA := anew8_any v ms bs a c l V (hr.later XV.out.2.2.2.1) (fun e h => (he e h).later XV.out.2.2.2.1) hn
  have HR : Aside (∀ W, Below w.heap.size w W → Calls Try.prog 19 #[.agg (tabL v ms bs (.slice a l.length c)), .agg #[.int .i64 nv, .int .u8 (nf : Int), .int .i64 ns]] W (RfPost T nv nf ns W)) := fun W hb => by
    rw [hT]; exact refused_any v ms bs a c l nv nf ns W (hr.later hb) (fun e h => (he e h).later hb) hn hms hb16 hnf
  have HL9 : Aside (∀ e ∈ l, e.o.c.echoes.length ≤ 800 ∧ e.o.c.readies.length ≤ 800) := hl9
  have IN : Aside (AtR w a l ∧ (∀ e ∈ l, EnAt w e) ∧ l.length ≤ 500 ∧ ms < 65536 ∧ (∀ i, i < 16 → bs i < 65536) ∧ nf < 256) := ⟨hr, he, hn, hms, hb16, hnf⟩
  have X0 : Aside (X19 (((w.alloc (.cells (tabL v ms bs (.slice a l.length c)) 30)).alloc (.cells #[.int .i64 nv, .int .u8 (nf : Int), .int .i64 ns] 33)).alloc (.cells #[.int .i64 0, .int .u16 0, .int .u16 0, .int .u16 0, .int .u16 0, .int .u16 0, .int .u16 0, .int .u16 0, .int .u16 0, .int .u16 0, .int .u16 0, .int .u16 0, .int .u16 0, .int .u16 0, .int .u16 0, .int .u16 0, .int .u16 0, .int .u16 0, .slice none 0 0] 30)) w.heap.size 30 v ms bs (.slice a l.length c)) := by rw [← hV]; exact XV.out.1
  obtain ⟨n, en⟩ : ∃ n, n = l.length := ⟨_, rfl⟩
  have NL : Aside (n = l.length) := en
  unfold Anew8 at HA
  rw [← en] at HA HR XV X0 hV ⊢
  clear hl9 hr he hn hms hb16 hnf ht1 ht2 hT en
  go_enter Try.func9, Try.ntmps9
  go_wp2_with (with_reducible refine wpList_tab X0.out rfl _ rfl rfl ?_)
  rw [← hV]
  clear hV X0
  refine HA.mono ?_
  rintro e w1 ⟨p, q, es, rfl, hops, hlen, hown, hfr, hb1⟩
  have Z15 : Aside (X19 (w1.alloc (.cells #[.int .i64 0, .int .u16 0, .int .u16 0, .int .u16 0, .int .u16 0, .int .u16 0, .int .u16 0, .int .u16 0, .int .u16 0, .int .u16 0, .int .u16 0, .int .u16 0, .int .u16 0, .int .u16 0, .int .u16 0, .int .u16 0, .int .u16 0, .int .u16 0, .slice none 0 0] 30)) w1.heap.size 30 0 0 (fun _ => 0) (.slice none 0 0)) := X19.zero w1
  have S1 : Aside (ops es = ops l ∧ es.length = n ∧ OwnT w1 (V.heap.size + 2) (.slice p n q) es ∧ (∀ e ∈ es, FrE (V.heap.size + 2) e) ∧ Below V.heap.size V w1) := ⟨hops, hlen, hown, hfr, hb1⟩
  clear hops hlen hown hfr hb1 HA
  go_wp2_with (first
    | ((with_reducible refine wpList_tab_store Z15.out rfl _ _ rfl rfl rfl ?_)
       obtain ⟨W2, hW2⟩ : ∃ W2, W2 = (w1.alloc (.cells #[.int .i64 0, .int .u16 0, .int .u16 0, .int .u16 0, .int .u16 0, .int .u16 0, .int .u16 0, .int .u16 0, .int .u16 0, .int .u16 0, .int .u16 0, .int .u16 0, .int .u16 0, .int .u16 0, .int .u16 0, .int .u16 0, .int .u16 0, .int .u16 0, .slice none 0 0] 30)).setCells w1.heap.size 0 (tabL v ms bs (.slice p n q)).toList := ⟨_, rfl⟩
       rw [← hW2]
       have hb12 : Below w1.heap.size w1 W2 := by rw [hW2]; exact below_cells _ _ ((Below.refl _ w1).alloc (Nat.le_refl _) _) (Nat.le_refl _)
       have hbV : Below V.heap.size V W2 := below_step S1.out.2.2.2.2 hb12
       have ST2 : Aside (X19 W2 w.heap.size 30 v ms bs (.slice a n c) ∧ W2.heap[w.heap.size + 1]? = some (.cells #[.int .i64 nv, .int .u8 (nf : Int), .int .i64 ns] 33 (0, 0)) ∧ X19 W2 (w.heap.size + 2) 30 0 0 (fun _ => 0) (.slice none 0 0) ∧ X19 W2 w1.heap.size 30 v ms bs (.slice p n q) ∧ OwnT W2 (w.heap.size + 5) (.slice p n q) es ∧ (∀ e ∈ es, FrE (w.heap.size + 5) e) ∧ Below w.heap.size w W2 ∧ w.heap.size + 3 ≤ w1.heap.size ∧ (∀ a, p = some a → a.block < w1.heap.size)) := by
         refine ⟨XV.out.1.later hbV, (hbV.block _ (Array.getElem?_eq_some_iff.1 XV.out.2.1).1).trans XV.out.2.1, XV.out.2.2.1.later hbV, ?_, (S1.out.2.2.1.later hb12).from_ (by have := XV.out.2.2.2.2; omega), fun e he => (S1.out.2.2.2.1 e he).from_ (by have := XV.out.2.2.2.2; omega), below_step XV.out.2.2.2.1 hbV, by have := XV.out.2.2.2.2; have := S1.out.2.2.2.2.size; omega, fun a ha => (S1.out.2.2.1.row.lt a.block (by rw [ha]; rfl)).2⟩
         rw [hW2]; exact Z15.out.whole
       have n0 := cell_of_row W2 _ 0 _ 33 _ ST2.out.2.1
       have n1 := cell_of_row W2 _ 1 _ 33 _ ST2.out.2.1
       have n2 := cell_of_row W2 _ 2 _ 33 _ ST2.out.2.1
       simp at n0 n1 n2
       have EO : Aside (∀ e ∈ es, Offs w1.heap.size e) := fun e he => offs_old (S1.out.2.2.1.ats e he) (Nat.le_refl _)
       have ES : Aside (ops es = ops l ∧ es.length = n) := ⟨S1.out.1, S1.out.2.1⟩
       clear hb12 hbV hW2 S1 Z15 XV)
    | (with_reducible refine wpList_tab ST2.out.1 rfl _ rfl rfl ?_))
  refine (HR.out W2 ST2.out.2.2.2.2.2.2.1).mono ?_
  rintro e3 w3 ⟨k, rfl, hk1, hk2, hb3⟩
  have ST3 : Aside (X19 w3 w.heap.size 30 v ms bs (.slice a n c) ∧ w3.heap[w.heap.size + 1]? = some (.cells #[.int .i64 nv, .int .u8 (nf : Int), .int .i64 ns] 33 (0, 0)) ∧ X19 w3 (w.heap.size + 1 + 1) 30 0 0 (fun _ => 0) (.slice none 0 0) ∧ X19 w3 w1.heap.size 30 v ms bs (.slice p n q) ∧ OwnT w3 (w.heap.size + 5) (.slice p n q) es ∧ (∀ e ∈ es, FrE (w.heap.size + 5) e) ∧ Below w.heap.size w w3 ∧ w.heap.size + 3 ≤ w1.heap.size ∧ (∀ a, p = some a → a.block < w1.heap.size)) :=
    ⟨ST2.out.1.later hb3, (hb3.block _ (Array.getElem?_eq_some_iff.1 ST2.out.2.1).1).trans ST2.out.2.1, ST2.out.2.2.1.later hb3, ST2.out.2.2.2.1.later hb3, ST2.out.2.2.2.2.1.later hb3, ST2.out.2.2.2.2.2.1, below_step ST2.out.2.2.2.2.2.2.1 hb3, ST2.out.2.2.2.2.2.2.2⟩
  have PB : Aside ((Value.slice p n q).ownBlock ≠ some (w.heap.size + 1 + 1) ∧ ∀ e ∈ es, Offs (w.heap.size + 1 + 1) e) :=
    ⟨fun e => by have := (ST3.out.2.2.2.2.1.row.lt _ e).1; omega, fun e he => fr_offs (ST3.out.2.2.2.2.2.1 e he) (by omega)⟩
  have m0 := cell_of_row w3 _ 0 _ 33 _ ST3.out.2.1
  have m1 := cell_of_row w3 _ 1 _ 33 _ ST3.out.2.1
  have m2 := cell_of_row w3 _ 2 _ 33 _ ST3.out.2.1
  simp at m0 m1 m2
  clear hb3 n0 n1 n2 ST2 HR
  have KK : Aside ((Tb.Rt T → k = Tb.may T nv nf ns) ∧ (¬ Tb.Rt T → k = 2)) := ⟨hk1, hk2⟩
  clear hk1 hk2
  by_cases hk0 : k = 0
  · have hR : Tb.Rt T := by
      by_cases hR : Tb.Rt T
      · exact hR
      · have := KK.out.2 hR; omega
    have RT : Aside (Tb.Rt T ∧ Tb.may T nv nf ns = 0 ∧ t = Tb.take T nv nf ns kind id x) := ⟨hR, by rw [← KK.out.1 hR]; exact hk0, TT.out.1 hR⟩
    subst hk0
    have HP : Aside (∀ W, Below w.heap.size w W → Calls Try.prog 20 #[.slice a n c, .int .u8 (nf : Int), .int .i64 ns] W fun e w' => e = .returned (.tuple #[.int .i64 (pos l nf ns : Nat), .bool (fnd l nf ns)]) ∧ Below W.heap.size W w') := fun W hb => by
      rw [NL.out]
      exact place8_any a c l nf ns W (IN.out.1.later hb) (by have := hR.srt; rw [TV.out] at this; exact this) (by have := IN.out.2.2.1; omega)
    have y18 := (ST3.out.1.alloc (.cells #[.bool false, .bool false, .bool false, .slice none 0 0, .slice none 0 0] 48)).cells.2.2.2.2.2.2.2.2.2.2.2.2.2.2.2.2.2.2
    have NA : Aside ((w3.alloc (.cells #[.bool false, .bool false, .bool false, .slice none 0 0, .slice none 0 0] 48)).heap[w.heap.size + 1]? = some (.cells #[.int .i64 nv, .int .u8 (nf : Int), .int .i64 ns] 33 (0, 0))) :=
      (((Below.refl _ w3).alloc (Nat.le_refl _) _).block _ (Array.getElem?_eq_some_iff.1 ST3.out.2.1).1).trans ST3.out.2.1
    have k1 := cell_of_row _ _ 1 _ 33 _ NA.out
    have k2 := cell_of_row _ _ 2 _ 33 _ NA.out
    simp at k1 k2
    clear hR m0 m1 m2 KK TT NA
    go_wp2_with fail
    refine (HP.out _ (ST3.out.2.2.2.2.2.2.1.alloc (by have := ST3.out.2.2.2.2.2.2.1.size; omega) _)).mono ?_
    rintro e5 w5 ⟨rfl, hb5⟩
    have hb35 : Below w3.heap.size w3 w5 := below_step ((Below.refl _ w3).alloc (Nat.le_refl _) _) hb5
    have ST5 : Aside (X19 w5 w.heap.size 30 v ms bs (.slice a n c) ∧ w5.heap[w.heap.size + 1]? = some (.cells #[.int .i64 nv, .int .u8 (nf : Int), .int .i64 ns] 33 (0, 0)) ∧ X19 w5 (w.heap.size + 1 + 1) 30 0 0 (fun _ => 0) (.slice none 0 0) ∧ X19 w5 w1.heap.size 30 v ms bs (.slice p n q) ∧ OwnT w5 (w.heap.size + 5) (.slice p n q) es ∧ (∀ e ∈ es, FrE (w.heap.size + 5) e) ∧ Below w.heap.size w w5 ∧ (w.heap.size + 3 ≤ w1.heap.size ∧ w1.heap.size < w3.heap.size ∧ w3.heap.size < w5.heap.size ∧ (∀ a, p = some a → a.block < w1.heap.size)) ∧ CaseIn w5 w3.heap.size Vt.Cs.none none none 0 0 ∧ AtR w5 a l ∧ (∀ e ∈ l, EnAt w5 e)) := by
      have hb := below_step ST3.out.2.2.2.2.2.2.1 hb35
      refine ⟨ST3.out.1.later hb35, (hb35.block _ (Array.getElem?_eq_some_iff.1 ST3.out.2.1).1).trans ST3.out.2.1, ST3.out.2.2.1.later hb35, ST3.out.2.2.2.1.later hb35, ST3.out.2.2.2.2.1.later hb35, ST3.out.2.2.2.2.2.1, hb, ⟨ST3.out.2.2.2.2.2.2.2.1, ST3.out.2.2.2.1.lt, ?_, ST3.out.2.2.2.2.2.2.2.2⟩, (CaseIn.zero w3).later hb5, IN.out.1.later hb, fun e he => (IN.out.2.1 e he).later hb⟩
      have := hb5.size; simp at this; omega
    have j1 := cell_of_row w5 _ 1 _ 33 _ ST5.out.2.1
    have j2 := cell_of_row w5 _ 2 _ 33 _ ST5.out.2.1
    simp at j1 j2
    clear hb5 hb35 y18 k1 k2 HP
    have FD : Aside ((∀ e, l[pos l nf ns]? = some e → fnd l nf ns = Tb.isN nf ns e.o) ∧ (l[pos l nf ns]? = none → fnd l nf ns = false)) := by
      refine ⟨fun e h => ?_, fun h => ?_⟩ <;> unfold fnd <;> rw [h]
    obtain ⟨ps, hps⟩ : ∃ ps, ps = pos l nf ns := ⟨_, rfl⟩
    rcases hfd : fnd l nf ns with _ | _
    · have PN : Aside (Tb.findC T.opn nf ns = Vt.Cs.none ∧ (∀ c, Tb.putO T.opn ⟨nf, ns, c⟩ = T.opn.take ps ++ ⟨nf, ns, c⟩ :: T.opn.drop ps) ∧ ps ≤ n) := by
        have hs : Tb.Srt (ops l) := by have := RT.out.1.srt; rw [TV.out] at this; exact this
        have h := Tb.at_none hs (f := nf) (s := ns) (fun o ho => by
          rcases hk : l[pos l nf ns]? with _ | e
          · have h2 := ho
            change (ops l)[pos l nf ns]? = some o at h2
            unfold ops at h2; rw [List.getElem?_map, hk] at h2; cases h2
          · have h1 := FD.out.1 e hk
            rw [hfd] at h1
            change (ops l)[pos l nf ns]? = some o at ho
            rw [ops_get hk] at ho; cases ho; exact h1.symm)
        rw [TV.out]
        refine ⟨h.1, ?_, ?_⟩
        · rw [hps]; exact h.2.1
        · rw [hps, NL.out, ← ops_len l]; exact List.countP_le_length
      rw [← hps]
      clear hfd FD hps
      have c0 := ST5.out.2.2.2.2.2.2.2.2.1.1.cells
      obtain ⟨c0, c1, c2, c3, c4⟩ := c0
      have x1 := ST5.out.1.cells.2.1
      simp [Vt.Cs.none] at c0 c1 c2 c3 c4
      go_wp2_with fail
      obtain ⟨u, hu⟩ : ∃ u, Vt.take Vt.Cs.none ms nf kind id x = u := ⟨_, rfl⟩
      have US : Aside (u.c.Small ∧ u.c.echoes.length ≤ 900 ∧ u.c.readies.length ≤ 900) := by
        have h1 := Vt.take_small none_small ms nf kind id x
        have h2 := Vt.take_len Vt.Cs.none ms nf kind id x
        rw [hu] at h1 h2
        have e0 : Vt.Cs.none.echoes.length = 0 := rfl
        have e1 : Vt.Cs.none.readies.length = 0 := rfl
        exact ⟨h1, by omega, by omega⟩
      have hT6 := fun W => take_let (c := Vt.Cs.none) (a1 := none) (a2 := none) (c1 := 0) (c2 := 0) (w := W) hu ⟨.inl rfl, .inl rfl, none_small, Nat.zero_le _, Nat.zero_le _⟩ IN.out.2.2.2.1
      have Y1 := ST5.out.2.1
      have Y2 := ST5.out.2.2.1
      have Y3 := ST5.out.2.2.2.1
      have Y4 := ST5.out.2.2.2.2.1
      have Y5 := ST5.out.2.2.2.2.2.2.1
      have FR5 : ∀ ad, Fr w5.heap.size ad → Fr w5.heap.size ad := fun _ h => h
      obtain ⟨LL, hLL⟩ : ∃ LL, LL = (ops es).take ps ++ ⟨nf, ns, u.c⟩ :: (ops es).drop ps := ⟨_, rfl⟩
      have UE : Aside ((u.e ≠ 0 → t = Tb.errT T u.e) ∧ (u.e = 0 → t = ⟨⟨v, ms, Tb.updB bs nf (Tb.closeO nf LL.length LL (bs nf)).2, (Tb.closeO nf LL.length LL (bs nf)).1⟩, u.outs, u.body, u.is, 0⟩) ∧ Tb.Srt LL) := by
        have h1 : Vt.take (Tb.findC T.opn nf ns) T.ms nf kind id x = u := by rw [PN.out.1, TV.out]; exact hu
        have h2 : Tb.putO T.opn ⟨nf, ns, u.c⟩ = LL := by rw [PN.out.2.1 u.c, hLL, ES.out.1, TV.out]
        refine ⟨fun h => by rw [RT.out.2.2]; exact Tb.take_err RT.out.2.1 h1 h, fun h => ?_, ?_⟩
        · rw [RT.out.2.2, Tb.take_ok RT.out.2.1 h1 h h2, TV.out]
        · have := Tb.put_srt RT.out.1.srt ⟨nf, ns, u.c⟩
          rw [h2] at this; exact this
      have HLL : Aside (LL = (ops es).take ps ++ ⟨nf, ns, u.c⟩ :: (ops es).drop ps) := hLL
      clear hu hLL
      refine (hT6 _).mono ?_
      clear hT6
      rintro z w6 ⟨b1, k1, b2, k2, ao, co, rfl, hA⟩
      have C6 : Aside (C5 w6 w3.heap.size (.bool false) (.bool false) (.bool false) (.slice none 0 0) (.slice none 0 0)) := ST5.out.2.2.2.2.2.2.2.2.1.1.later hA.out.2.2.2.1
      obtain ⟨W7, hW7⟩ : ∃ W7, W7 = w6.setCells w3.heap.size 0 [.bool u.c.echoed, .bool u.c.readied, .bool u.c.done, .slice b1 u.c.echoes.length k1, .slice b2 u.c.readies.length k2] := ⟨_, rfl⟩
      have SZ : Aside (w.heap.size + 3 ≤ w1.heap.size ∧ w1.heap.size < w3.heap.size ∧ w3.heap.size < w5.heap.size ∧ w5.heap.size ≤ W7.heap.size ∧ (∀ k, (Value.slice p n q).ownBlock = some k → w.heap.size + 5 ≤ k ∧ k < w1.heap.size)) := by
        have h0 := ST5.out.2.2.2.2.2.2.2.1
        refine ⟨h0.1, h0.2.1, h0.2.2.1, ?_, fun k hk => ⟨(ST5.out.2.2.2.2.1.row.lt k hk).1, ?_⟩⟩
        · have h1 := (below_cells (B := 0) [.bool u.c.echoed, .bool u.c.readied, .bool u.c.done, .slice b1 u.c.echoes.length k1, .slice b2 u.c.readies.length k2] 0 (b := w3.heap.size) (Below.refl 0 w6) (Nat.zero_le _)).size
          rw [← hW7] at h1
          have h2 := hA.out.2.2.2.1.size
          
          omega
        · cases hp : p with
          | none => rw [hp] at hk; cases hk
          | some ad => have := h0.2.2.2 ad hp; have hk2 : ad.block = k := ST5_own (p := p) hk hp; omega
      have ST7 : Aside (X19 W7 (w.heap.size + 1 + 1) 30 0 0 (fun _ => 0) (.slice none 0 0) ∧ W7.heap[w.heap.size + 1]? = some (.cells #[.int .i64 nv, .int .u8 (nf : Int), .int .i64 ns] 33 (0, 0)) ∧ X19 W7 w1.heap.size 30 v ms bs (.slice p n q) ∧ OwnT W7 (w.heap.size + 5) (.slice p n q) es ∧ Below w.heap.size w W7 ∧ C5 W7 w3.heap.size (.bool u.c.echoed) (.bool u.c.readied) (.bool u.c.done) (.slice b1 u.c.echoes.length k1) (.slice b2 u.c.readies.length k2) ∧ Vt.At W7 b1 u.c.echoes ∧ Vt.At W7 b2 u.c.readies ∧ AtO W7 ao u.outs ∧ Fr w5.heap.size b1 ∧ Fr w5.heap.size b2 ∧ Fr w5.heap.size ao) := by
        have s1 := SZ.out.1
        have s2 := SZ.out.2.1
        have s3 := SZ.out.2.2.1
        rw [hW7]
        refine ⟨(heap_cells_far _ _ _ (by omega)).trans (Y2.later hA.out.2.2.2.1), (heap_cells_far _ _ _ (by omega)).trans ((hA.out.2.2.2.1.block _ (Array.getElem?_eq_some_iff.1 Y1).1).trans Y1), (heap_cells_far _ _ _ (by omega)).trans (Y3.later hA.out.2.2.2.1), ?_, below_cells _ _ (below_step Y5 hA.out.2.2.2.1) (by omega), C6.out.whole _ _ _ _ _, ?_, ?_, ?_, FR5 _ hA.out.2.2.2.2.1, FR5 _ hA.out.2.2.2.2.2.1, FR5 _ hA.out.2.2.2.2.2.2⟩
        · exact OwnT.cells _ _ (Y4.later hA.out.2.2.2.1) (fun e => by have := (SZ.out.2.2.2.2 _ e).2; omega) (fun e he => offs_old (ST3.out.2.2.2.2.1.ats e he) (Nat.le_refl _))
        · exact At.kp hA.out.1 ((Kp.refl _ _).sets fun ad e hl => by have := FR5 _ hA.out.2.2.2.2.1 ad e; omega)
        · exact At.kp hA.out.2.1 ((Kp.refl _ _).sets fun ad e hl => by have := FR5 _ hA.out.2.2.2.2.2.1 ad e; omega)
        · exact AtO.kp hA.out.2.2.1 ((Kp.refl _ _).sets fun ad e hl => by have := FR5 _ hA.out.2.2.2.2.2.2 ad e; omega)
      have z0 := C6.out.frozen
      clear Y1 Y2 Y3 Y4 Y5 FR5 hA z0
      by_cases hue : u.e = 0
      · have t0 := UE.out.2.1 hue
        have hk0 : ((u.e : Nat) : Int) = 0 := by omega
        have c18 := ST7.out.2.2.1.cells.2.2.2.2.2.2.2.2.2.2.2.2.2.2.2.2.2.2
        have m1 := cell_of_row W7 _ 1 _ 33 _ ST7.out.2.1
        have m2 := cell_of_row W7 _ 2 _ 33 _ ST7.out.2.1
        simp at m1 m2
        have hbd := fun W => build50 nf ns W
        go_wp2_with ((with_reducible refine wpList_case_store C6.out rfl _ _ rfl rfl rfl ?_); rw [← hW7]; clear hW7 C6 c0 c1 c2 c3 c4 x1 j1 j2)
        have e21 : (encE (fresh nf ns)).toArray = #[.int .u8 (nf : Int), .int .i64 ns, .bool false, .bool false, .bool false, .slice none 0 0, .slice none 0 0] := rfl
        have HV := heap_alloc_new W7 (.cells #[.int .u8 (nf : Int), .int .i64 ns, .bool false, .bool false, .bool false, .slice none 0 0, .slice none 0 0] 50)
        rw [← e21] at HV
        have hbA : Below W7.heap.size W7 (W7.alloc (.cells #[.int .u8 (nf : Int), .int .i64 ns, .bool false, .bool false, .bool false, .slice none 0 0, .slice none 0 0] 50)) := (Below.refl _ W7).alloc (Nat.le_refl _) _
        have hszA : (W7.alloc (.cells #[.int .u8 (nf : Int), .int .i64 ns, .bool false, .bool false, .bool false, .slice none 0 0, .slice none 0 0] 50)).heap.size = W7.heap.size + 1 := by simp
        have hsz := SZ.out
        refine (insert_own (w.heap.size + 5) n q ps W7.heap.size 1 nf ns p es _ (by have := hsz; omega) (ST7.out.2.2.2.1.later hbA) ES.out.2 (by have := IN.out.2.2.1; have := NL.out; omega) PN.out.2.2 IN.out.2.2.2.2.2 HV (fun ad e he => by have := hsz.2.2.2.2 ad.block (by rw [e]; rfl); omega)).mono ?_
        rintro e8 w8 ⟨p8, q8, rfl, hown8, hgr8, hob8⟩
        obtain ⟨g, rfl⟩ := OwnT.addr (k := ps) hown8 (by rw [List.length_append, List.length_cons, List.length_take, List.length_drop]; have := PN.out.2.2; have := ES.out.2; omega)
        have HG : Aside (w.heap.size + 5 ≤ g ∧ (g < w1.heap.size ∨ g = W7.heap.size + 1)) := by
          refine ⟨(hown8.row.lt g rfl).1, ?_⟩
          rcases hob8 with h | h
          · exact .inl (hsz.2.2.2.2 g (by rw [← h]; rfl)).2
          · right; rw [hszA] at h; exact Option.some.inj h
        obtain ⟨W9, hW9⟩ : ∃ W9, W9 = w8.setCell ⟨w1.heap.size, 18, none⟩ (.slice (some ⟨g, 0, none⟩) (n + 1) q8) := ⟨_, rfl⟩
        have rr : ∀ k, w1.heap.size ≤ k → (Value.slice p n q).ownBlock ≠ some k := fun k hk e => by have := (hsz.2.2.2.2 k e).2; omega
        have rl : ∀ k, k < w.heap.size + 5 → (Value.slice p n q).ownBlock ≠ some k := fun k hk e => by have := (hsz.2.2.2.2 k e).1; omega
        have X8 : Aside (X19 w8 w1.heap.size 30 v ms bs (.slice p n q)) := (ST7.out.2.2.1.later hbA).grown hgr8 (fun e => rr _ (Nat.le_refl _) e.symm)
        have hb8 : Below w.heap.size w w8 := below_of_grown (ST7.out.2.2.2.2.1.alloc (by omega) _) hgr8 (by rw [hszA]; omega) (fun k hk => by have := (hsz.2.2.2.2 k hk).1; omega)
        have KP : ∀ ad, Fr w5.heap.size ad → Kp W7 W9 ad := fun ad hf => by
          rw [hW9]
          exact ((Kp.refl W7 ad).below (Nat.le_refl _) hbA).grown (by rw [hszA]; omega) hgr8 (fun a e hl he => rr a.block (by have := hf a e; omega) he.symm) |>.set (fun a e hl => by have := hf a e; omega)
        have ST9 : Aside (X19 W9 (w.heap.size + 1 + 1) 30 0 0 (fun _ => 0) (.slice none 0 0) ∧ W9.heap[w.heap.size + 1]? = some (.cells #[.int .i64 nv, .int .u8 (nf : Int), .int .i64 ns] 33 (0, 0)) ∧ X19 W9 w1.heap.size 30 v ms bs (.slice (some ⟨g, 0, none⟩) (n + 1) q8) ∧ OwnT W9 (w.heap.size + 5) (.slice (some ⟨g, 0, none⟩) (n + 1) q8) (es.take ps ++ fresh nf ns :: es.drop ps) ∧ Below w.heap.size w W9 ∧ C5 W9 w3.heap.size (.bool u.c.echoed) (.bool u.c.readied) (.bool u.c.done) (.slice b1 u.c.echoes.length k1) (.slice b2 u.c.readies.length k2) ∧ Vt.At W9 b1 u.c.echoes ∧ Vt.At W9 b2 u.c.readies ∧ Kp W7 W9 ao ∧ W7.heap.size ≤ W9.heap.size) := by
          refine ⟨?_, ?_, ?_, ?_, ?_, ?_, At.kp ST7.out.2.2.2.2.2.2.1 (KP _ ST7.out.2.2.2.2.2.2.2.2.2.1), At.kp ST7.out.2.2.2.2.2.2.2.1 (KP _ ST7.out.2.2.2.2.2.2.2.2.2.2.1), KP _ ST7.out.2.2.2.2.2.2.2.2.2.2.2, ?_⟩
          · rw [hW9]
            exact ((ST7.out.1.later hbA).grown hgr8 (fun e => rl _ (by omega) e.symm)).far (by omega) _
          · rw [hW9]
            have h1 := (hbA.block _ (Array.getElem?_eq_some_iff.1 ST7.out.2.1).1).trans ST7.out.2.1
            exact (row_far (by omega) _).trans ((hgr8.block _ (Array.getElem?_eq_some_iff.1 h1).1 (fun e => rl _ (by omega) e.symm)).trans h1)
          · rw [hW9]; exact X8.out.set18 _
          · rw [hW9]
            refine hown8.far (fun e => ?_) (fun y hy => ?_) _
            · have := HG.out.2; have e2 : g = w1.heap.size := Option.some.inj e; omega
            · rcases List.mem_append.1 hy with hy | hy
              · exact EO.out y (List.mem_of_mem_take hy)
              · rcases List.mem_cons.1 hy with rfl | hy
                · exact fresh_offs _ _ _
                · exact EO.out y (List.mem_of_mem_drop hy)
          · rw [hW9]; exact hb8.setCell (p := ⟨w1.heap.size, 18, none⟩) (by show w.heap.size ≤ w1.heap.size; omega) _
          · rw [hW9]
            exact ((show C5 w8 _ _ _ _ _ _ from (hgr8.block _ (ST7.out.2.2.2.2.2.1.later hbA).lt (fun e => rr _ (by omega) e.symm)).trans (ST7.out.2.2.2.2.2.1.later hbA)).far (by omega) _)
          · rw [hW9]; have h1 := hgr8.size; rw [hszA] at h1; simp; omega
        have KU : Aside (EnAt W9 ⟨⟨nf, ns, u.c⟩, b1, k1, b2, k2⟩ ∧ Offs g ⟨⟨nf, ns, u.c⟩, b1, k1, b2, k2⟩) := by
          refine ⟨⟨⟨ST9.out.2.2.2.2.2.2.1, ST9.out.2.2.2.2.2.2.2.1, US.out.1, US.out.2.1, US.out.2.2⟩, IN.out.2.2.2.2.2⟩, fun hl ad e => ?_, fun hl ad e => ?_⟩
          · have h1 := ST7.out.2.2.2.2.2.2.2.2.2.1 ad e
            have h2 := at_lt ST7.out.2.2.2.2.2.2.1 hl ad e
            have := HG.out.2; have := SZ.out; omega
          · have h1 := ST7.out.2.2.2.2.2.2.2.2.2.2.1 ad e
            have h2 := at_lt ST7.out.2.2.2.2.2.2.2.1 hl ad e
            have := HG.out.2; have := SZ.out; omega
        obtain ⟨W10, hW10⟩ : ∃ W10, W10 = W9.setCells g (ps * 7 + 2) [.bool u.c.echoed, .bool u.c.readied, .bool u.c.done, .slice b1 u.c.echoes.length k1, .slice b2 u.c.readies.length k2] := ⟨_, rfl⟩
        have hlE : (es.take ps ++ fresh nf ns :: es.drop ps).length = (n + 1) := by rw [List.length_append, List.length_cons, List.length_take, List.length_drop]; have := PN.out.2.2; have := ES.out.2; omega
        obtain ⟨E1, hE1⟩ : ∃ E1, E1 = (es.take ps ++ fresh nf ns :: es.drop ps).set ps ⟨⟨nf, ns, u.c⟩, b1, k1, b2, k2⟩ := ⟨_, rfl⟩
        have XT : Aside (X19 W10 (w.heap.size + 1 + 1) 30 0 0 (fun _ => 0) (.slice none 0 0) ∧ W10.heap[w.heap.size + 1]? = some (.cells #[.int .i64 nv, .int .u8 (nf : Int), .int .i64 ns] 33 (0, 0)) ∧ X19 W10 w1.heap.size 30 v ms bs (.slice (some ⟨g, 0, none⟩) (n + 1) q8) ∧ OwnT W10 (w.heap.size + 5) (.slice (some ⟨g, 0, none⟩) (n + 1) q8) E1 ∧ Below w.heap.size w W10 ∧ Kp W7 W10 ao ∧ W7.heap.size ≤ W10.heap.size ∧ ops E1 = LL ∧ E1.length = (n + 1) ∧ (∀ e ∈ E1, FrE (w.heap.size + 5) e)) := by
          have hg := HG.out
          have hs := SZ.out
          rw [hW10]
          refine ⟨(heap_cells_far _ _ _ (by omega)).trans ST9.out.1, (heap_cells_far _ _ _ (by omega)).trans ST9.out.2.1, (heap_cells_far _ _ _ (by omega)).trans ST9.out.2.2.1, ?_, below_cells _ _ ST9.out.2.2.2.2.1 (by omega), ST9.out.2.2.2.2.2.2.2.2.1.sets (fun a e hl => by have := ST7.out.2.2.2.2.2.2.2.2.2.2.2 a e; omega), ?_, ?_, by rw [hE1, List.length_set]; exact hlE, fun y hy => ?_⟩
          · rw [hE1]
            have hgk : (es.take ps ++ fresh nf ns :: es.drop ps)[ps]? = some (fresh nf ns) := ins_get _ (by rw [ES.out.2]; exact PN.out.2.2) _
            have hpt := OwnT.put5 (e' := (⟨⟨nf, ns, u.c⟩, b1, k1, b2, k2⟩ : En)) ST9.out.2.2.2.1 hlE hgk rfl rfl KU.out.1 KU.out.2
            exact hpt
          · have h1 := (below_cells (B := 0) [.bool u.c.echoed, .bool u.c.readied, .bool u.c.done, .slice b1 u.c.echoes.length k1, .slice b2 u.c.readies.length k2] (ps * 7 + 2) (b := g) (Below.refl 0 W9) (Nat.zero_le _)).size
            have := ST9.out.2.2.2.2.2.2.2.2.2; omega
          · rw [hE1, HLL.out]; rw [ops_put, ops_ins, ins_set _ (by rw [ops_len, ES.out.2]; exact PN.out.2.2)]
          · rw [hE1] at hy
            rcases List.mem_or_eq_of_mem_set hy with hy | rfl
            · rcases List.mem_append.1 hy with hy | hy
              · exact ST3.out.2.2.2.2.2.1 y (List.mem_of_mem_take hy)
              · rcases List.mem_cons.1 hy with rfl | hy
                · exact fresh_fr _ _ _
                · exact ST3.out.2.2.2.2.2.1 y (List.mem_of_mem_drop hy)
            · exact ⟨fun _ ad e => by have := ST7.out.2.2.2.2.2.2.2.2.2.1 ad e; omega, fun _ ad e => by have := ST7.out.2.2.2.2.2.2.2.2.2.2.1 ad e; omega⟩
        have tz0 : (0 : Int) ≤ (ps : Int) := by omega
        have hps1 : ps < (n + 1) := by have := PN.out.2.2; omega
        have tz1 : (ps : Int) < (((n + 1) : Nat) : Int) := by omega
        have tz2 : (ps : Int) < (n : Int) + 1 := by omega
        have C9 : Aside (C5 (w8.setCell ⟨w1.heap.size, 18, none⟩ (.slice (some ⟨g, 0, none⟩) (n + 1) q8)) w3.heap.size (.bool u.c.echoed) (.bool u.c.readied) (.bool u.c.done) (.slice b1 u.c.echoes.length k1) (.slice b2 u.c.readies.length k2)) := by first | exact ST9.out.2.2.2.2.2.1 | (rw [← hW9]; exact ST9.out.2.2.2.2.2.1)
        have OW9 : Aside (OwnT W9 (w.heap.size + 5) (.slice (some ⟨g, 0, none⟩) (n + 1) q8) (es.take ps ++ fresh nf ns :: es.drop ps)) := ST9.out.2.2.2.1
        have hpsE : ps < (es.take ps ++ fresh nf ns :: es.drop ps).length := by rw [hlE]; exact hps1
        have mm := cell_of_row W10 _ 1 _ 33 _ XT.out.2.1
        simp at mm
        have x18 := X8.out.cells.2.2.2.2.2.2.2.2.2.2.2.2.2.2.2.2.2.2
        have zf18 := X8.out.frozen 18
        clear KP rr rl hb8 hown8 hgr8 hob8 hsz hszA hbA HV e21 X8 hlE c18 m1 m2
        go_wp2_with (first
          | ((with_reducible refine wpList_case_load C9.out rfl _ rfl rfl ?_); rw [← hW9]; clear hW9 C9 x18 zf18)
          | ((with_reducible refine wpList_case_put OW9.out hpsE rfl _ _ rfl rfl rfl ?_); rw [← hW10]; clear hW10 OW9)
          | (with_reducible refine wpList_tab XT.out.2.2.1 rfl _ rfl rfl ?_))
        have hnf16 : nf < 16 := Tb.has_lt (Tb.may_zero RT.out.2.1).2.1
        have hbn : bs nf ≤ 1000 := by have := (RT.out.1.base nf hnf16).1; rw [TV.out] at this; exact this
        refine (closed_any v ms bs (some ⟨g, 0, none⟩) (n + 1) q8 nf (w.heap.size + 5) E1 W10 XT.out.2.2.2.1 XT.out.2.2.2.2.2.2.2.2.1 (by have := IN.out.2.2.1; have := NL.out; omega) (by rw [XT.out.2.2.2.2.2.2.2.1]; exact UE.out.2.2) hnf16 hbn).mono ?_
        rintro e11 w11 hx
        have hdn := tk_done (ao := ao) (outs := u.outs) (W7 := W7) hx XT.out.2.2.2.2.2.2.2.2.2 ST7.out.2.2.2.2.2.2.2.2.1 XT.out.2.2.2.2.2.1 (fun ad e hl => by have := ST7.out.2.2.2.2.2.2.2.2.2.2.2 ad e; have := HG.out; have := SZ.out; omega) XT.out.2.2.2.2.2.2.1 XT.out.2.2.2.2.1 HG.out.1
        rw [XT.out.2.2.2.2.2.2.2.1] at hdn
        obtain ⟨es2, rfl, hg11, hops, hfin⟩ := hdn
        have X11 : X19 w11 (w.heap.size + 1 + 1) 30 0 0 (fun _ => 0) (.slice none 0 0) := XT.out.1.grown hg11 (fun e => by have := Option.some.inj e; have := HG.out.1; omega)
        obtain ⟨D, hD⟩ : ∃ D, D = Tb.closeO nf LL.length LL (bs nf) := ⟨_, rfl⟩
        rw [← hD] at hops t0 ⊢
        have FN : Aside (Q (.returned (.tuple #[.agg (tabL v ms (Tb.updB bs nf D.2) (.slice (some ⟨g, 0, none⟩) es2.length q8)), .slice ao u.outs.length co, .string u.body, .bool u.is, .int .i64 0])) (w11.setCells (w.heap.size + 1 + 1) 0 (tabL v ms (Tb.updB bs nf D.2) (.slice (some ⟨g, 0, none⟩) es2.length q8)).toList)) := by
          obtain ⟨f1, f2, f3, f4⟩ := hfin (tabL v ms (Tb.updB bs nf D.2) (.slice (some ⟨g, 0, none⟩) es2.length q8)).toList
          have := OZ.out (some ⟨g, 0, none⟩) q8 es2 ao co _ (by rw [t0]; exact hops) f1 f2 (by rw [t0]; exact f3) (fun ad e => by have := ST7.out.2.2.2.2.2.2.2.2.2.2.2 ad e; have := SZ.out; omega) f4
          rw [t0] at this; exact this
        clear hx hfin hops hD TV EZ OZ IN NL ES UE HLL SZ XT ST7 ST9 HG KU US t0
        go_wp2_with (with_reducible refine wpList_tab_store X11 rfl _ _ rfl rfl rfl ?_)
        exact bodyPost_ret (results_cell5 rfl rfl (Try.isAgg30 _) (Try.sizeOf30 _) (load_tab X11.whole)) rfl FN.out
      · have hkz : ¬ (((u.e : Nat) : Int) = 0) := by omega
        have FN : Aside (Q (.returned (.tuple #[.agg (tabL v ms bs (.slice p n q)), .slice none 0 0, .string Vt.none, .bool false, .int .i64 (u.e : Int)])) (W7.setCells (w.heap.size + 1 + 1) 0 (tabL v ms bs (.slice p n q)).toList)) := by
          have s1 := SZ.out.1
          have := EZ.out u.e p q es (W7.setCells (w.heap.size + 1 + 1) 0 (tabL v ms bs (.slice p n q)).toList) (UE.out.1 hue) ES.out.1 (by rw [ES.out.2]; exact (ST7.out.2.2.2.1.cells _ _ PB.out.1 PB.out.2).from_ (by omega)) (fun e he => (ST3.out.2.2.2.2.2.1 e he).from_ (by omega)) (below_cells _ _ ST7.out.2.2.2.2.1 (by omega))
          rw [ES.out.2] at this; exact this
        clear TV EZ OZ IN NL ES UE HLL SZ
        go_wp2_with (first
          | ((with_reducible refine wpList_case_store C6.out rfl _ _ rfl rfl rfl ?_); rw [← hW7]; clear hW7 C6)
          | (with_reducible refine wpList_tab ST7.out.2.2.1 rfl _ rfl rfl ?_)
          | (with_reducible refine wpList_tab_store ST7.out.1 rfl _ _ rfl rfl rfl ?_))
        exact bodyPost_ret (results_cell5 rfl rfl (Try.isAgg30 _) (Try.sizeOf30 _) (load_tab ST7.out.1.whole)) rfl FN.out
    · obtain ⟨eo, hk⟩ : ∃ e, l[pos l nf ns]? = some e := by
        rcases hk : l[pos l nf ns]? with _ | e
        · have := FD.out.2 hk; rw [hfd] at this; cases this
        · exact ⟨e, rfl⟩
      have hisn : Tb.isN nf ns eo.o = true := by have := FD.out.1 eo hk; rw [hfd] at this; exact this.symm
      have PF : Aside (Tb.findC T.opn nf ns = eo.o.c ∧ (∀ c, Tb.putO T.opn ⟨nf, ns, c⟩ = T.opn.set ps ⟨nf, ns, c⟩) ∧ l[ps]? = some eo ∧ ps < n) := by
        have hs : Tb.Srt (ops l) := by have := RT.out.1.srt; rw [TV.out] at this; exact this
        have h := Tb.at_found hs (f := nf) (s := ns) (o := eo.o) (ops_get hk) hisn
        rw [TV.out]
        exact ⟨h.1, by rw [hps]; exact h.2.1, by rw [hps]; exact hk, by rw [hps, NL.out]; exact (List.getElem?_eq_some_iff.1 hk).1⟩
      rw [← hps] at hk ⊢
      obtain ⟨b9, off9, rfl, hcr⟩ : ∃ b off, a = some ⟨b, off, none⟩ ∧ ∀ j u, (rowC l)[j]? = some u → w5.cell? ⟨b, off + j, none⟩ = some u := by
        rcases ST5.out.2.2.2.2.2.2.2.2.2.1 with h | h
        · rw [h] at hk; simp at hk
        · exact h
      have HC : Aside ((∀ j u, (rowC l)[j]? = some u → w5.cell? ⟨b9, off9 + j, none⟩ = some u) ∧ l[ps]? = some eo) := ⟨hcr, hk⟩
      have EW : Aside (EnAt w eo ∧ eo.o.c.echoes.length ≤ 800 ∧ eo.o.c.readies.length ≤ 800) := ⟨IN.out.2.1 eo (List.mem_of_getElem? hk), HL9.out eo (List.mem_of_getElem? hk)⟩
      have E0F : Aside (∃ e0, es[ps]? = some e0 ∧ nf = e0.o.frm ∧ ns = e0.o.seq) := by
        have h1 : (ops es)[ps]? = some eo.o := by rw [ES.out.1]; exact ops_get hk
        unfold ops at h1
        rw [List.getElem?_map] at h1
        cases h2 : es[ps]? with
        | none => rw [h2] at h1; cases h1
        | some e0 =>
          rw [h2] at h1
          have h3 : e0.o = eo.o := Option.some.inj h1
          have h4 := Tb.isN_iff.1 hisn
          exact ⟨e0, rfl, by rw [h3]; exact h4.1.symm, by rw [h3]; exact h4.2.symm⟩
      have PN : Aside (Tb.findC T.opn nf ns = eo.o.c ∧ (∀ c, Tb.putO T.opn ⟨nf, ns, c⟩ = T.opn.set ps ⟨nf, ns, c⟩) ∧ ps < n) := ⟨PF.out.1, PF.out.2.1, PF.out.2.2.2⟩
      have ty0 : (0 : Int) ≤ (ps : Int) := by omega
      have ty1 : (ps : Int) < (n : Int) := by have := PF.out.2.2.2; omega
      clear hfd FD hps hk hisn PF hcr
      obtain ⟨u, hu⟩ : ∃ u, Vt.take eo.o.c ms nf kind id x = u := ⟨_, rfl⟩
      have US : Aside (u.c.Small ∧ u.c.echoes.length ≤ 900 ∧ u.c.readies.length ≤ 900) := by
        have h1 := Vt.take_small EW.out.1.at_.small ms nf kind id x
        have h2 := Vt.take_len eo.o.c ms nf kind id x
        rw [hu] at h1 h2
        have := EW.out.2.1
        have := EW.out.2.2
        exact ⟨h1, by omega, by omega⟩
      have C5o : Aside (C5 w5 w3.heap.size (.bool false) (.bool false) (.bool false) (.slice none 0 0) (.slice none 0 0)) := ST5.out.2.2.2.2.2.2.2.2.1.1
      obtain ⟨W5, hW5⟩ : ∃ W5, W5 = w5.setCells w3.heap.size 0 [.bool eo.o.c.echoed, .bool eo.o.c.readied, .bool eo.o.c.done, .slice eo.a1 eo.o.c.echoes.length eo.k1, .slice eo.a2 eo.o.c.readies.length eo.k2] := ⟨_, rfl⟩
      have hSV : w5.heap.size ≤ W5.heap.size := by
        rw [hW5]; exact (below_cells (B := 0) [.bool eo.o.c.echoed, .bool eo.o.c.readied, .bool eo.o.c.done, .slice eo.a1 eo.o.c.echoes.length eo.k1, .slice eo.a2 eo.o.c.readies.length eo.k2] 0 (b := w3.heap.size) (Below.refl 0 w5) (Nat.zero_le _)).size
      have CB : Aside (C5 W5 w3.heap.size (.bool eo.o.c.echoed) (.bool eo.o.c.readied) (.bool eo.o.c.done) (.slice eo.a1 eo.o.c.echoes.length eo.k1) (.slice eo.a2 eo.o.c.readies.length eo.k2)) := by rw [hW5]; exact C5o.out.whole _ _ _ _ _
      have CS : Aside (CsAt W5 eo.o.c eo.a1 eo.a2) := by
        have h := EW.out.1.at_
        have hs := ST5.out.2.2.2.2.2.2.2.1
        have h2 := (EW.out.1.later ST5.out.2.2.2.2.2.2.1).at_
        rw [hW5]
        exact ⟨At.sets (fun hl ad e => by have := at_lt h.e hl ad e; omega) _ _ h2.e, At.sets (fun hl ad e => by have := at_lt h.r hl ad e; omega) _ _ h2.r, h.small, h.n1, h.n2⟩
      have hT6 : Aside (Calls Try.prog 16 #[.agg #[.bool eo.o.c.echoed, .bool eo.o.c.readied, .bool eo.o.c.done, .slice eo.a1 eo.o.c.echoes.length eo.k1, .slice eo.a2 eo.o.c.readies.length eo.k2], .int .u16 (ms : Nat), .int .u8 (nf : Nat), .int .i64 kind, .int .u8 (id : Nat), .string x] W5 _) := take_let (c1 := eo.k1) (c2 := eo.k2) hu CS.out IN.out.2.2.2.1
      have x1 := ST5.out.1.cells.2.1
      have x18 := ST5.out.1.cells.2.2.2.2.2.2.2.2.2.2.2.2.2.2.2.2.2.2
      have hs5 := ST5.out.2.2.2.2.2.2.2.1
      have Y0 : Aside (X19 W5 w.heap.size 30 v ms bs (.slice (some ⟨b9, off9, none⟩) n c)) := by rw [hW5]; exact (heap_cells_far _ _ _ (by omega)).trans ST5.out.1
      have YY : Aside (W5.heap[w.heap.size + 1]? = some (.cells #[.int .i64 nv, .int .u8 (nf : Int), .int .i64 ns] 33 (0, 0)) ∧ X19 W5 (w.heap.size + 1 + 1) 30 0 0 (fun _ => 0) (.slice none 0 0) ∧ X19 W5 w1.heap.size 30 v ms bs (.slice p n q) ∧ OwnT W5 (w.heap.size + 5) (.slice p n q) es ∧ Below w.heap.size w W5) := by
        rw [hW5]
        refine ⟨(heap_cells_far _ _ _ (by omega)).trans ST5.out.2.1, (heap_cells_far _ _ _ (by omega)).trans ST5.out.2.2.1, (heap_cells_far _ _ _ (by omega)).trans ST5.out.2.2.2.1, ?_, below_cells _ _ ST5.out.2.2.2.2.2.2.1 (by omega)⟩
        exact OwnT.cells _ _ ST5.out.2.2.2.2.1 (fun e => by have := (ST3.out.2.2.2.2.1.row.lt _ e).2; omega) (fun e he => offs_old (ST3.out.2.2.2.2.1.ats e he) (Nat.le_refl _))
      have y1 := Y0.out.cells.2.1
      have jj1 := cell_of_row W5 _ 1 _ 33 _ YY.out.1
      simp at jj1
      clear hs5
      go_wp2_with (first
        | (with_reducible refine wpList_case_get HC.out.1 HC.out.2 rfl _ rfl rfl ?_)
        | ((with_reducible refine wpList_case_store C5o.out rfl _ _ rfl rfl rfl ?_); rw [← hW5]; clear hW5 C5o x1 x18 j1 j2)
        | (with_reducible refine wpList_case_load CB.out rfl _ rfl rfl ?_))
      have FR5 : ∀ ad, Fr W5.heap.size ad → Fr w5.heap.size ad := fun _ h a e => Nat.le_trans hSV (h a e)
      obtain ⟨Y1, Y2, Y3, Y4, Y5⟩ := YY.out
      obtain ⟨LL, hLL⟩ : ∃ LL, LL = (ops es).set ps ⟨nf, ns, u.c⟩ := ⟨_, rfl⟩
      have UE : Aside ((u.e ≠ 0 → t = Tb.errT T u.e) ∧ (u.e = 0 → t = ⟨⟨v, ms, Tb.updB bs nf (Tb.closeO nf LL.length LL (bs nf)).2, (Tb.closeO nf LL.length LL (bs nf)).1⟩, u.outs, u.body, u.is, 0⟩) ∧ Tb.Srt LL) := by
        have h1 : Vt.take (Tb.findC T.opn nf ns) T.ms nf kind id x = u := by rw [PN.out.1, TV.out]; exact hu
        have h2 : Tb.putO T.opn ⟨nf, ns, u.c⟩ = LL := by rw [PN.out.2.1 u.c, hLL, ES.out.1, TV.out]
        refine ⟨fun h => by rw [RT.out.2.2]; exact Tb.take_err RT.out.2.1 h1 h, fun h => ?_, ?_⟩
        · rw [RT.out.2.2, Tb.take_ok RT.out.2.1 h1 h h2, TV.out]
        · have := Tb.put_srt RT.out.1.srt ⟨nf, ns, u.c⟩
          rw [h2] at this; exact this
      have HLL : Aside (LL = (ops es).set ps ⟨nf, ns, u.c⟩) := hLL
      clear hu hLL
      refine hT6.out.mono ?_ -- W5
      clear hT6 y1 jj1
      rintro z w6 ⟨b1, k1, b2, k2, ao, co, rfl, hA⟩
      have C6 : Aside (C5 w6 w3.heap.size (.bool eo.o.c.echoed) (.bool eo.o.c.readied) (.bool eo.o.c.done) (.slice eo.a1 eo.o.c.echoes.length eo.k1) (.slice eo.a2 eo.o.c.readies.length eo.k2)) := CB.out.later hA.out.2.2.2.1
      obtain ⟨W7, hW7⟩ : ∃ W7, W7 = w6.setCells w3.heap.size 0 [.bool u.c.echoed, .bool u.c.readied, .bool u.c.done, .slice b1 u.c.echoes.length k1, .slice b2 u.c.readies.length k2] := ⟨_, rfl⟩
      have SZ : Aside (w.heap.size + 3 ≤ w1.heap.size ∧ w1.heap.size < w3.heap.size ∧ w3.heap.size < w5.heap.size ∧ w5.heap.size ≤ W7.heap.size ∧ (∀ k, (Value.slice p n q).ownBlock = some k → w.heap.size + 5 ≤ k ∧ k < w1.heap.size)) := by
        have h0 := ST5.out.2.2.2.2.2.2.2.1
        refine ⟨h0.1, h0.2.1, h0.2.2.1, ?_, fun k hk => ⟨(ST5.out.2.2.2.2.1.row.lt k hk).1, ?_⟩⟩
        · have h1 := (below_cells (B := 0) [.bool u.c.echoed, .bool u.c.readied, .bool u.c.done, .slice b1 u.c.echoes.length k1, .slice b2 u.c.readies.length k2] 0 (b := w3.heap.size) (Below.refl 0 w6) (Nat.zero_le _)).size
          rw [← hW7] at h1
          have h2 := hA.out.2.2.2.1.size
          have h3 := hSV
          omega
        · cases hp : p with
          | none => rw [hp] at hk; cases hk
          | some ad => have := h0.2.2.2 ad hp; have hk2 : ad.block = k := ST5_own (p := p) hk hp; omega
      have ST7 : Aside (X19 W7 (w.heap.size + 1 + 1) 30 0 0 (fun _ => 0) (.slice none 0 0) ∧ W7.heap[w.heap.size + 1]? = some (.cells #[.int .i64 nv, .int .u8 (nf : Int), .int .i64 ns] 33 (0, 0)) ∧ X19 W7 w1.heap.size 30 v ms bs (.slice p n q) ∧ OwnT W7 (w.heap.size + 5) (.slice p n q) es ∧ Below w.heap.size w W7 ∧ C5 W7 w3.heap.size (.bool u.c.echoed) (.bool u.c.readied) (.bool u.c.done) (.slice b1 u.c.echoes.length k1) (.slice b2 u.c.readies.length k2) ∧ Vt.At W7 b1 u.c.echoes ∧ Vt.At W7 b2 u.c.readies ∧ AtO W7 ao u.outs ∧ Fr w5.heap.size b1 ∧ Fr w5.heap.size b2 ∧ Fr w5.heap.size ao) := by
        have s1 := SZ.out.1
        have s2 := SZ.out.2.1
        have s3 := SZ.out.2.2.1
        rw [hW7]
        refine ⟨(heap_cells_far _ _ _ (by omega)).trans (Y2.later hA.out.2.2.2.1), (heap_cells_far _ _ _ (by omega)).trans ((hA.out.2.2.2.1.block _ (Array.getElem?_eq_some_iff.1 Y1).1).trans Y1), (heap_cells_far _ _ _ (by omega)).trans (Y3.later hA.out.2.2.2.1), ?_, below_cells _ _ (below_step Y5 hA.out.2.2.2.1) (by omega), C6.out.whole _ _ _ _ _, ?_, ?_, ?_, FR5 _ hA.out.2.2.2.2.1, FR5 _ hA.out.2.2.2.2.2.1, FR5 _ hA.out.2.2.2.2.2.2⟩
        · exact OwnT.cells _ _ (Y4.later hA.out.2.2.2.1) (fun e => by have := (SZ.out.2.2.2.2 _ e).2; omega) (fun e he => offs_old (ST3.out.2.2.2.2.1.ats e he) (Nat.le_refl _))
        · exact At.kp hA.out.1 ((Kp.refl _ _).sets fun ad e hl => by have := FR5 _ hA.out.2.2.2.2.1 ad e; omega)
        · exact At.kp hA.out.2.1 ((Kp.refl _ _).sets fun ad e hl => by have := FR5 _ hA.out.2.2.2.2.2.1 ad e; omega)
        · exact AtO.kp hA.out.2.2.1 ((Kp.refl _ _).sets fun ad e hl => by have := FR5 _ hA.out.2.2.2.2.2.2 ad e; omega)
      have z0 := C6.out.frozen
      clear Y1 Y2 Y3 Y4 Y5 FR5 hA z0
      by_cases hue : u.e = 0
      · have t0 := UE.out.2.1 hue
        have hk0 : ((u.e : Nat) : Int) = 0 := by omega
        obtain ⟨g, rfl⟩ := OwnT.addr (k := ps) ST7.out.2.2.2.1 (by rw [ES.out.2]; exact PN.out.2.2)
        have HG : Aside (w.heap.size + 5 ≤ g ∧ (g < w1.heap.size ∨ g = W7.heap.size + 1)) := ⟨(SZ.out.2.2.2.2 g rfl).1, .inl (SZ.out.2.2.2.2 g rfl).2⟩
        have c18 := ST7.out.2.2.1.cells.2.2.2.2.2.2.2.2.2.2.2.2.2.2.2.2.2.2
        obtain ⟨W9, hW9⟩ : ∃ W9, W9 = W7 := ⟨_, rfl⟩
        have ST9 : Aside (X19 W9 (w.heap.size + 1 + 1) 30 0 0 (fun _ => 0) (.slice none 0 0) ∧ W9.heap[w.heap.size + 1]? = some (.cells #[.int .i64 nv, .int .u8 (nf : Int), .int .i64 ns] 33 (0, 0)) ∧ X19 W9 w1.heap.size 30 v ms bs (.slice (some ⟨g, 0, none⟩) n q) ∧ OwnT W9 (w.heap.size + 5) (.slice (some ⟨g, 0, none⟩) n q) es ∧ Below w.heap.size w W9 ∧ C5 W9 w3.heap.size (.bool u.c.echoed) (.bool u.c.readied) (.bool u.c.done) (.slice b1 u.c.echoes.length k1) (.slice b2 u.c.readies.length k2) ∧ Vt.At W9 b1 u.c.echoes ∧ Vt.At W9 b2 u.c.readies ∧ Kp W7 W9 ao ∧ W7.heap.size ≤ W9.heap.size) := by
          rw [hW9]
          exact ⟨ST7.out.1, ST7.out.2.1, ST7.out.2.2.1, ST7.out.2.2.2.1, ST7.out.2.2.2.2.1, ST7.out.2.2.2.2.2.1, ST7.out.2.2.2.2.2.2.1, ST7.out.2.2.2.2.2.2.2.1, Kp.refl _ _, Nat.le_refl _⟩
        obtain ⟨e0, hg0, hf0, hs0⟩ := E0F.out
        have KU : Aside (EnAt W9 ⟨⟨nf, ns, u.c⟩, b1, k1, b2, k2⟩ ∧ Offs g ⟨⟨nf, ns, u.c⟩, b1, k1, b2, k2⟩) := by
          refine ⟨⟨⟨ST9.out.2.2.2.2.2.2.1, ST9.out.2.2.2.2.2.2.2.1, US.out.1, US.out.2.1, US.out.2.2⟩, IN.out.2.2.2.2.2⟩, fun hl ad e => ?_, fun hl ad e => ?_⟩
          · have h1 := ST7.out.2.2.2.2.2.2.2.2.2.1 ad e
            have h2 := at_lt ST7.out.2.2.2.2.2.2.1 hl ad e
            have := HG.out.2; have := SZ.out; omega
          · have h1 := ST7.out.2.2.2.2.2.2.2.2.2.2.1 ad e
            have h2 := at_lt ST7.out.2.2.2.2.2.2.2.1 hl ad e
            have := HG.out.2; have := SZ.out; omega
        obtain ⟨W10, hW10⟩ : ∃ W10, W10 = W9.setCells g (ps * 7 + 2) [.bool u.c.echoed, .bool u.c.readied, .bool u.c.done, .slice b1 u.c.echoes.length k1, .slice b2 u.c.readies.length k2] := ⟨_, rfl⟩
        have hlE : (es).length = n := ES.out.2
        obtain ⟨E1, hE1⟩ : ∃ E1, E1 = (es).set ps ⟨⟨nf, ns, u.c⟩, b1, k1, b2, k2⟩ := ⟨_, rfl⟩
        have XT : Aside (X19 W10 (w.heap.size + 1 + 1) 30 0 0 (fun _ => 0) (.slice none 0 0) ∧ W10.heap[w.heap.size + 1]? = some (.cells #[.int .i64 nv, .int .u8 (nf : Int), .int .i64 ns] 33 (0, 0)) ∧ X19 W10 w1.heap.size 30 v ms bs (.slice (some ⟨g, 0, none⟩) n q) ∧ OwnT W10 (w.heap.size + 5) (.slice (some ⟨g, 0, none⟩) n q) E1 ∧ Below w.heap.size w W10 ∧ Kp W7 W10 ao ∧ W7.heap.size ≤ W10.heap.size ∧ ops E1 = LL ∧ E1.length = n ∧ (∀ e ∈ E1, FrE (w.heap.size + 5) e)) := by
          have hg := HG.out
          have hs := SZ.out
          rw [hW10]
          refine ⟨(heap_cells_far _ _ _ (by omega)).trans ST9.out.1, (heap_cells_far _ _ _ (by omega)).trans ST9.out.2.1, (heap_cells_far _ _ _ (by omega)).trans ST9.out.2.2.1, ?_, below_cells _ _ ST9.out.2.2.2.2.1 (by omega), ST9.out.2.2.2.2.2.2.2.2.1.sets (fun a e hl => by have := ST7.out.2.2.2.2.2.2.2.2.2.2.2 a e; omega), ?_, ?_, by rw [hE1, List.length_set]; exact hlE, fun y hy => ?_⟩
          · rw [hE1]
            have hgk : (es)[ps]? = some e0 := hg0
            have hpt := OwnT.put5 (e' := (⟨⟨nf, ns, u.c⟩, b1, k1, b2, k2⟩ : En)) ST9.out.2.2.2.1 hlE hgk hf0 hs0 KU.out.1 KU.out.2
            exact hpt
          · have h1 := (below_cells (B := 0) [.bool u.c.echoed, .bool u.c.readied, .bool u.c.done, .slice b1 u.c.echoes.length k1, .slice b2 u.c.readies.length k2] (ps * 7 + 2) (b := g) (Below.refl 0 W9) (Nat.zero_le _)).size
            have := ST9.out.2.2.2.2.2.2.2.2.2; omega
          · rw [hE1, HLL.out]; rw [ops_put]
          · rw [hE1] at hy
            rcases List.mem_or_eq_of_mem_set hy with hy | rfl
            · exact ST3.out.2.2.2.2.2.1 y hy
            · exact ⟨fun _ ad e => by have := ST7.out.2.2.2.2.2.2.2.2.2.1 ad e; omega, fun _ ad e => by have := ST7.out.2.2.2.2.2.2.2.2.2.2.1 ad e; omega⟩
        have tz0 : (0 : Int) ≤ (ps : Int) := by omega
        have hps1 : ps < n := by have := PN.out.2.2; omega
        have tz1 : (ps : Int) < ((n : Nat) : Int) := by omega
        have tz2 : (ps : Int) < (n : Int) + 1 := by omega
        have C9 : Aside (C5 W7 w3.heap.size (.bool u.c.echoed) (.bool u.c.readied) (.bool u.c.done) (.slice b1 u.c.echoes.length k1) (.slice b2 u.c.readies.length k2)) := by first | exact ST9.out.2.2.2.2.2.1 | (rw [← hW9]; exact ST9.out.2.2.2.2.2.1)
        have OW9 : Aside (OwnT W9 (w.heap.size + 5) (.slice (some ⟨g, 0, none⟩) n q) (es)) := ST9.out.2.2.2.1
        have hpsE : ps < (es).length := by rw [hlE]; exact hps1
        have mm := cell_of_row W10 _ 1 _ 33 _ XT.out.2.1
        simp at mm
        clear hlE hg0 hf0 hs0 e0
        go_wp2_with (first
          | ((with_reducible refine wpList_case_store C6.out rfl _ _ rfl rfl rfl ?_); rw [← hW7]; clear hW7 C6)
          | ((with_reducible refine wpList_case_load C9.out rfl _ rfl rfl ?_); rw [← hW9]; clear hW9 C9 c18)
          | ((with_reducible refine wpList_case_put OW9.out hpsE rfl _ _ rfl rfl rfl ?_); rw [← hW10]; clear hW10 OW9)
          | (with_reducible refine wpList_tab XT.out.2.2.1 rfl _ rfl rfl ?_))
        have hnf16 : nf < 16 := Tb.has_lt (Tb.may_zero RT.out.2.1).2.1
        have hbn : bs nf ≤ 1000 := by have := (RT.out.1.base nf hnf16).1; rw [TV.out] at this; exact this
        refine (closed_any v ms bs (some ⟨g, 0, none⟩) n q nf (w.heap.size + 5) E1 W10 XT.out.2.2.2.1 XT.out.2.2.2.2.2.2.2.2.1 (by have := IN.out.2.2.1; have := NL.out; omega) (by rw [XT.out.2.2.2.2.2.2.2.1]; exact UE.out.2.2) hnf16 hbn).mono ?_
        rintro e11 w11 hx
        have hdn := tk_done (ao := ao) (outs := u.outs) (W7 := W7) hx XT.out.2.2.2.2.2.2.2.2.2 ST7.out.2.2.2.2.2.2.2.2.1 XT.out.2.2.2.2.2.1 (fun ad e hl => by have := ST7.out.2.2.2.2.2.2.2.2.2.2.2 ad e; have := HG.out; have := SZ.out; omega) XT.out.2.2.2.2.2.2.1 XT.out.2.2.2.2.1 HG.out.1
        rw [XT.out.2.2.2.2.2.2.2.1] at hdn
        obtain ⟨es2, rfl, hg11, hops, hfin⟩ := hdn
        have X11 : X19 w11 (w.heap.size + 1 + 1) 30 0 0 (fun _ => 0) (.slice none 0 0) := XT.out.1.grown hg11 (fun e => by have := Option.some.inj e; have := HG.out.1; omega)
        obtain ⟨D, hD⟩ : ∃ D, D = Tb.closeO nf LL.length LL (bs nf) := ⟨_, rfl⟩
        rw [← hD] at hops t0 ⊢
        have FN : Aside (Q (.returned (.tuple #[.agg (tabL v ms (Tb.updB bs nf D.2) (.slice (some ⟨g, 0, none⟩) es2.length q)), .slice ao u.outs.length co, .string u.body, .bool u.is, .int .i64 0])) (w11.setCells (w.heap.size + 1 + 1) 0 (tabL v ms (Tb.updB bs nf D.2) (.slice (some ⟨g, 0, none⟩) es2.length q)).toList)) := by
          obtain ⟨f1, f2, f3, f4⟩ := hfin (tabL v ms (Tb.updB bs nf D.2) (.slice (some ⟨g, 0, none⟩) es2.length q)).toList
          have := OZ.out (some ⟨g, 0, none⟩) q es2 ao co _ (by rw [t0]; exact hops) f1 f2 (by rw [t0]; exact f3) (fun ad e => by have := ST7.out.2.2.2.2.2.2.2.2.2.2.2 ad e; have := SZ.out; omega) f4
          rw [t0] at this; exact this
        clear hx hfin hops hD TV EZ OZ IN NL ES UE HLL SZ XT ST7 ST9 HG KU US t0
        go_wp2_with (with_reducible refine wpList_tab_store X11 rfl _ _ rfl rfl rfl ?_)
        exact bodyPost_ret (results_cell5 rfl rfl (Try.isAgg30 _) (Try.sizeOf30 _) (load_tab X11.whole)) rfl FN.out
      · have hkz : ¬ (((u.e : Nat) : Int) = 0) := by omega
        have FN : Aside (Q (.returned (.tuple #[.agg (tabL v ms bs (.slice p n q)), .slice none 0 0, .string Vt.none, .bool false, .int .i64 (u.e : Int)])) (W7.setCells (w.heap.size + 1 + 1) 0 (tabL v ms bs (.slice p n q)).toList)) := by
          have s1 := SZ.out.1
          have := EZ.out u.e p q es (W7.setCells (w.heap.size + 1 + 1) 0 (tabL v ms bs (.slice p n q)).toList) (UE.out.1 hue) ES.out.1 (by rw [ES.out.2]; exact (ST7.out.2.2.2.1.cells _ _ PB.out.1 PB.out.2).from_ (by omega)) (fun e he => (ST3.out.2.2.2.2.2.1 e he).from_ (by omega)) (below_cells _ _ ST7.out.2.2.2.2.1 (by omega))
          rw [ES.out.2] at this; exact this
        clear TV EZ OZ IN NL ES UE HLL SZ
        go_wp2_with (first
          | ((with_reducible refine wpList_case_store C6.out rfl _ _ rfl rfl rfl ?_); rw [← hW7]; clear hW7 C6)
          | (with_reducible refine wpList_tab ST7.out.2.2.1 rfl _ rfl rfl ?_)
          | (with_reducible refine wpList_tab_store ST7.out.1 rfl _ _ rfl rfl rfl ?_))
        exact bodyPost_ret (results_cell5 rfl rfl (Try.isAgg30 _) (Try.sizeOf30 _) (load_tab ST7.out.1.whole)) rfl FN.out
  · have hkz : ¬ ((k : Int) = 0) := by omega
    have tE : t = Tb.errT T k := by
      by_cases hR : Tb.Rt T
      · rw [TT.out.1 hR]; unfold Tb.take; rw [← KK.out.1 hR, if_pos hk0]
      · rw [TT.out.2 hR, KK.out.2 hR]
    have FN : Aside (Q (.returned (.tuple #[.agg (tabL v ms bs (.slice p n q)), .slice none 0 0, .string Vt.none, .bool false, .int .i64 (k : Int)])) (w3.setCells (w.heap.size + 1 + 1) 0 (tabL v ms bs (.slice p n q)).toList)) := by
      have := EZ.out k p q es (w3.setCells (w.heap.size + 1 + 1) 0 (tabL v ms bs (.slice p n q)).toList) tE ES.out.1 (by rw [ES.out.2]; exact (ST3.out.2.2.2.2.1.cells _ _ PB.out.1 PB.out.2).from_ (by omega)) (fun e he => (ST3.out.2.2.2.2.2.1 e he).from_ (by omega)) (below_cells _ _ ST3.out.2.2.2.2.2.2.1 (by omega))
      rw [ES.out.2] at this; exact this
    clear tE TT KK TV EZ OZ IN NL ES
    go_wp2_with (first
      | (with_reducible refine wpList_tab ST3.out.2.2.2.1 rfl _ rfl rfl ?_)
      | (with_reducible refine wpList_tab_store ST3.out.2.2.1 rfl _ _ rfl rfl rfl ?_))
    exact bodyPost_ret (results_cell5 rfl rfl (Try.isAgg30 _) (Try.sizeOf30 _) (load_tab ST3.out.2.2.1.whole)) rfl FN.out
end Go.Proofs.Ytmhjmeedoajkjaa
