/- What has been done without a gap is let go of (closed). -/
import Derived.Test.YtmhjmeedoajkjaaTbP
import Derived.Deep.LoopGhost
set_option linter.unusedVariables false
namespace Go.Proofs.Ytmhjmeedoajkjaa
open Go.RowKit Go.Shelf

theorem At.grew {w w' : World} {a : Option Addr} {l : Vt.Bal} {r : Option Nat} (h : Vt.At w a l) (hb : w.grownBy w' r) (hg : l ≠ [] → ∀ ad, a = some ad → some ad.block ≠ r) : Vt.At w' a l := by
  rcases h with rfl | ⟨b, off, rfl, hc⟩
  · exact .inl rfl
  · by_cases hl : l = []
    · exact .inl hl
    · refine .inr ⟨b, off, rfl, fun i v hi => ?_⟩
      have h0 := hc i v hi
      rw [World.cell?_of_block (w := w) (hb.block b (World.block_lt_of_cell? w _ h0) (hg hl _ rfl))]
      exact h0
/-- The cases' ballots of an open broadcast lie in no block that may be written. -/
def OffsR (r : Option Nat) (e : En) : Prop := (e.o.c.echoes ≠ [] → ∀ ad, e.a1 = some ad → some ad.block ≠ r) ∧ (e.o.c.readies ≠ [] → ∀ ad, e.a2 = some ad → some ad.block ≠ r)
theorem EnAt.grown {w w' : World} {e : En} {r : Option Nat} (h : EnAt w e) (hb : w.grownBy w' r) (ho : OffsR r e) : EnAt w' e :=
  ⟨⟨At.grew h.at_.e hb ho.1, At.grew h.at_.r hb ho.2, h.at_.small, h.at_.n1, h.at_.n2⟩, h.frm⟩
theorem X19.grown {w w' : World} {b : Nat} {t : TypeId} {v : Int} {ms : Nat} {bs : Nat → Nat} {s : Value} {r : Option Nat} (h : X19 w b t v ms bs s) (hb : w.grownBy w' r) (hne : some b ≠ r) : X19 w' b t v ms bs s := (hb.block b h.lt hne).trans h
theorem below_grown {w w' : World} {r : Option Nat} (h : Below w.heap.size w w') : w.grownBy w' r := ⟨h.os, h.tape, h.output, h.size, fun k hk _ => h.block k hk⟩
theorem grown_step {a b c : World} {r : Option Nat} (h : a.grownBy b r) (k : b.grownBy c r) : a.grownBy c r :=
  ⟨k.os.trans h.os, k.tape.trans h.tape, k.output.trans h.output, Nat.le_trans h.size k.size, fun i hi hne => (k.block i (Nat.lt_of_lt_of_le hi h.size) hne).trans (h.block i hi hne)⟩
theorem grown_set {a b : World} {r : Option Nat} (h : a.grownBy b r) {g j : Nat} (hg : a.heap.size ≤ g ∨ some g = r) (u : Value) : a.grownBy (b.setCell ⟨g, j, none⟩ u) r :=
  ⟨h.os, h.tape, h.output, by simpa using h.size, fun k hk hne => by
    have hkg : k ≠ g := by
      rintro rfl
      rcases hg with hg | hg
      · omega
      · exact hne hg
    exact (Below.heap_setCell _ _ _ k (by simpa using hkg)).trans (h.block k hk hne)⟩
theorem grown_setCells {a : World} {r : Option Nat} {g : Nat} (hg : a.heap.size ≤ g ∨ some g = r) : ∀ (vs : List Value) (o : Nat) {b : World}, a.grownBy b r → a.grownBy (b.setCells g o vs) r
  | [], _, _, h => h
  | v :: l, o, b, h => grown_setCells hg l (o + 1) (grown_set h hg v)
theorem OwnT.offsR {w : World} {B : Nat} {v : Value} {es : List En} (h : OwnT w B v es) {e : En} (he : e ∈ es) : OffsR v.ownBlock e := by
  cases hv : v.ownBlock with
  | none => exact ⟨fun _ _ _ h => (nomatch h), fun _ _ _ h => (nomatch h)⟩
  | some g =>
    have := h.off g hv e he
    exact ⟨fun a b c d => this.1 a b c (Option.some.inj d), fun a b c d => this.2 a b c (Option.some.inj d)⟩

theorem tabL_base (v : Int) (ms : Nat) (bs : Nat → Nat) (s : Value) {f : Nat} (b : Nat) (hf : f < 16) : (tabL v ms bs s).setIfInBounds (2 + f) (.int .u16 (b : Int)) = tabL v ms (Tb.updB bs f b) s := by
  have : f = 0 ∨ f = 1 ∨ f = 2 ∨ f = 3 ∨ f = 4 ∨ f = 5 ∨ f = 6 ∨ f = 7 ∨ f = 8 ∨ f = 9 ∨ f = 10 ∨ f = 11 ∨ f = 12 ∨ f = 13 ∨ f = 14 ∨ f = 15 := by omega
  rcases this with rfl | rfl | rfl | rfl | rfl | rfl | rfl | rfl | rfl | rfl | rfl | rfl | rfl | rfl | rfl | rfl <;> rfl
theorem X19.setb {w : World} {b : Nat} {t : TypeId} {v : Int} {ms : Nat} {bs : Nat → Nat} {s : Value} (h : X19 w b t v ms bs s) {f : Nat} (k : Nat) (hf : f < 16) : X19 (w.setCell ⟨b, 2 + f, none⟩ (.int .u16 (k : Int))) b t v ms (Tb.updB bs f k) s := by
  have := row_set h (j := 2 + f) (.int .u16 (k : Int))
  rw [tabL_base v ms bs s k hf] at this; exact this
theorem ops_rem (l : List En) (i : Nat) : ops (l.take i ++ l.drop (i + 1)) = (ops l).take i ++ (ops l).drop (i + 1) := by
  unfold ops; rw [List.map_append, List.map_take, List.map_drop]

/-- The state of the loop of closed. -/
structure ClS (f : Nat) (es0 : List En) (b0 n0 : Nat) (es : List En) (b : Nat) : Prop where
  srt : Tb.Srt (ops es)
  same : Tb.closeO f (ops es0).length (ops es0) b0 = Tb.closeO f (ops es).length (ops es) b
  sub : ∀ e ∈ es, e ∈ es0
  sum : b + es.length ≤ b0 + n0
  len : es.length ≤ n0
def Cls (w : World) (B : Nat) (f : Nat) (es0 : List En) (b0 n0 : Nat) (v : Int) (ms : Nat) (bs : Nat → Nat) (p : Option Addr) (q : Nat) (m : Nat) (wr : World) : Prop :=
  ∃ (es : List En) (b : Nat), es.length = m ∧ ClS f es0 b0 n0 es b ∧ OwnT wr B (.slice p m q) es ∧ X19 wr w.heap.size 30 v ms (Tb.updB bs f b) (.slice p m q) ∧ X19 wr (w.heap.size + 1) 30 0 0 (fun _ => 0) (.slice none 0 0) ∧ w.grownBy wr (p.map (·.block))
/-- What closed answers. -/
def ClPost (w : World) (B : Nat) (f : Nat) (es0 : List En) (v : Int) (ms : Nat) (bs : Nat → Nat) (p : Option Addr) (q : Nat) (x : Ending) (w' : World) : Prop :=
  ∃ (es : List En), x = .returned (.agg (tabL v ms (Tb.updB bs f (Tb.closeO f (ops es0).length (ops es0) (bs f)).2) (.slice p es.length q))) ∧ ops es = (Tb.closeO f (ops es0).length (ops es0) (bs f)).1 ∧ (∀ e ∈ es, e ∈ es0) ∧ OwnT w' B (.slice p es.length q) es ∧ w.grownBy w' (p.map (·.block))

set_option maxHeartbeats 8000000 in
set_option maxRecDepth 100000 in
theorem closed_any (v : Int) (ms : Nat) (bs : Nat → Nat) (p : Option Addr) (n q f B : Nat) (es0 : List En) (w : World) (ho : OwnT w B (.slice p n q) es0) (hn : es0.length = n) (hn5 : n ≤ 600) (hs : Tb.Srt (ops es0)) (hf : f < 16) (hbf : bs f ≤ 1000) :
    Calls Try.prog 22 #[.agg (tabL v ms bs (.slice p n q)), .int .u8 (f : Int)] w (ClPost w B f es0 v ms bs p q) := by
  have RZ : Aside (∀ es b w', ClS f es0 (bs f) n es b → (Tb.findC (ops es) f (b : Int)).done = false → OwnT w' B (.slice p es.length q) es → w.grownBy w' (p.map (·.block)) → ClPost w B f es0 v ms bs p q (.returned (.agg (tabL v ms (Tb.updB bs f b) (.slice p es.length q)))) w') := fun es b w' hc hd h1 h2 => by
    have hst := Tb.close_stop hd (ops es).length
    refine ⟨es, ?_, ?_, hc.sub, h1, h2⟩
    · rw [hc.same, hst]
    · rw [hc.same, hst]
  generalize ClPost w B f es0 v ms bs p q = Q at RZ ⊢
  obtain ⟨V, hV⟩ : ∃ V, V = (w.alloc (.cells (tabL v ms bs (.slice p n q)) 30)).alloc (.cells #[.int .i64 0, .int .u16 0, .int .u16 0, .int .u16 0, .int .u16 0, .int .u16 0, .int .u16 0, .int .u16 0, .int .u16 0, .int .u16 0, .int .u16 0, .int .u16 0, .int .u16 0, .int .u16 0, .int .u16 0, .int .u16 0, .int .u16 0, .int .u16 0, .slice none 0 0] 30) := ⟨_, rfl⟩
  have ST0 : Aside (Cls w B f es0 (bs f) n v ms bs p q n V) := by
    have hb : Below w.heap.size w V := by rw [hV]; exact ((Below.refl _ w).alloc (Nat.le_refl _) _).alloc (by simp) _
    refine ⟨es0, bs f, hn, ⟨hs, rfl, fun _ h => h, by omega, by omega⟩, ho.later hb, ?_, ?_, below_grown hb⟩
    · rw [Tb.updB_self, hV]; exact (X19.new w 30 v ms bs _).alloc _
    · rw [hV]
      have := X19.zero (w.alloc (.cells (tabL v ms bs (.slice p n q)) 30))
      rwa [World.size_alloc] at this
  have EO0 : Aside (∀ e ∈ es0, Offs w.heap.size e) := fun e he => offs_old (ho.ats e he) (Nat.le_refl _)
  have EOF : Aside (∀ e ∈ es0, Offs (w.heap.size + 1) e) := fun e he => offs_old (ho.ats e he) (by omega)
  have PB : Aside (∀ g, p = some g → g.block < w.heap.size) := fun g hg => (ho.row.lt g.block (by rw [hg]; rfl)).2
  have hf0 : (0 : Int) ≤ (f : Int) := by omega
  have hf1 : (f : Int) < 16 := by omega
  go_enter Try.func22, Try.ntmps22
  go_wp2_with fail
  rw [← hV]
  clear hV ho hs
  go_loopg [5, 6] n (fun m _ _ wr => Aside (Cls w B f es0 (bs f) n v ms bs p q m wr))
  case atStart => exact ST0.out
  case round =>
    obtain ⟨m, hm⟩ : ∃ m, m = gk := ⟨_, rfl⟩
    subst hm
    obtain ⟨es, b, hlen, hc, how, hx, hx2, hgr⟩ := hrel.out
    clear hrel ST0
    obtain ⟨wv, hwv⟩ : ∃ wv, wv = wr := ⟨_, rfl⟩
    subst hwv
    have hrow := own_row how.row
    have hsum := hc.sum
    have hlen2 := hc.len
    have hb16 : b ≤ 1600 := by omega
    have hat : AtR wv p es := hrow.2.1
    have C20 : Aside (∀ t : Bw wv, Calls Try.prog 20 #[.slice p m q, .int .u8 (f : Int), .int .i64 ((b : Nat) : Int)] t.w' fun e w' => e = .returned (.tuple #[.int .i64 (pos es f (b : Int) : Nat), .bool (fnd es f (b : Int))]) ∧ Below t.w'.heap.size t.w' w') := fun t => by
      have := place8_any p q es f (b : Int) t.w' (hat.later t.h) hc.srt (by omega)
      rw [hlen] at this; exact this
    have ST : Aside (ClS f es0 (bs f) n es b ∧ OwnT wv B (.slice p m q) es ∧ X19 wv w.heap.size 30 v ms (Tb.updB bs f b) (.slice p m q) ∧ X19 wv (w.heap.size + 1) 30 0 0 (fun _ => 0) (.slice none 0 0) ∧ w.grownBy wv (p.map (·.block)) ∧ es.length = m ∧ AtR wv p es) := ⟨hc, how, hx, hx2, hgr, hlen, hat⟩
    have p18 : ∀ t : Bw wv, t.w'.cell? ⟨w.heap.size, 18, none⟩ = some (.slice p m q) := fun t => (hx.later t.h).cells.2.2.2.2.2.2.2.2.2.2.2.2.2.2.2.2.2.2
    have pb : ∀ t : Bw wv, t.w'.cell? ⟨w.heap.size, 2 + f, none⟩ = some (.int .u16 ((b : Nat) : Int)) := fun t => by
      have := (hx.later t.h).base hf
      rw [Tb.updB_at] at this; exact this
    have hwb : wrap64 (b : Int) = (b : Int) := by unfold wrap64; omega
    have hwb2 : IntKind.i64.wrap (b : Int) = (b : Int) := by rw [IntKind.wrap_i64]; omega
    have hwb3 : IntKind.u16.wrap ((b : Int) + 1) = (b : Int) + 1 := by rw [IntKind.wrap_u16]; omega
    clear hc how hx hx2 hgr hlen hrow hsum hat hlen2
    go_wp2_with fail
    have hne := Bw.some wv
    refine wp_region_wq (by kernel_rfl) (by kernel_rfl) ?_
    (refine wq_step (fun K hK => ?_); go_simp; refine hK _ ?_; clear hK K)
    (refine wq_step (fun K hK => ?_); go_simp; refine hK _ ?_; clear hK K)
    (refine wq_step (fun K hK => ?_); go_simp; refine hK _ ?_; clear hK K)
    (refine wq_step (fun K hK => ?_); go_simp; refine hK _ ?_; clear hK K)
    (refine wq_step (fun K hK => ?_); go_simp; refine hK _ ?_; clear hK K)
    (refine wq_step (fun K hK => ?_); go_simp; refine hK _ ?_; clear hK K)
    (refine wq_step (fun K hK => ?_); go_simp; refine hK _ ?_; clear hK K)
    (refine wq_step (fun K hK => ?_); go_simp; refine hK _ ?_; clear hK K)
    (refine wq_step (fun K hK => ?_); go_simp; first | (refine hK _ ?_; clear hK K) | (apply Exists.intro; refine ⟨fun _ => ?_, hK _ ?_⟩; (go_at_call 20; exact Calls.bw_of (C20.out _)); clear hK K))
    (refine wq_step (fun K hK => ?_); go_simp; refine hK _ ?_; clear hK K)
    (refine wq_step (fun K hK => ?_); go_simp; refine hK _ ?_; clear hK K)
    (refine wq_step (fun K hK => ?_); go_simp; refine hK _ ?_; clear hK K)
    (refine wq_step (fun K hK => ?_); go_simp; refine hK _ ?_; clear hK K)
    (refine wq_step (fun K hK => ?_); go_simp; refine hK _ ?_; clear hK K)
    refine wq_nil ?_
    intro _ hw'
    obtain ⟨pq, hw''⟩ := hw'
    subst hw''
    obtain ⟨u, hu⟩ : ∃ u, u = pq.w' := ⟨_, rfl⟩
    have T4 : Aside (X19 u w.heap.size 30 v ms (Tb.updB bs f b) (.slice p m q) ∧ X19 u (w.heap.size + 1) 30 0 0 (fun _ => 0) (.slice none 0 0) ∧ OwnT u B (.slice p m q) es ∧ w.grownBy u (p.map (·.block)) ∧ AtR u p es) := by
      rw [hu]
      exact ⟨ST.out.2.2.1.later pq.h, ST.out.2.2.2.1.later pq.h, ST.out.2.1.later pq.h, grown_step ST.out.2.2.2.2.1 (below_grown pq.h), ST.out.2.2.2.2.2.2.later pq.h⟩
    have CC : Aside (ClS f es0 (bs f) n es b ∧ es.length = m) := ⟨ST.out.1, ST.out.2.2.2.2.2.1⟩
    rw [← hu]
    clear hu hne p18 pb C20 ST
    have hK : ∀ e, es[pos es f (b : Int)]? = some e → fnd es f (b : Int) = Tb.isN f (b : Int) e.o := fun e he => by unfold fnd; rw [he]
    have hN : es[pos es f (b : Int)]? = none → fnd es f (b : Int) = false := fun he => by unfold fnd; rw [he]
    have FD : Aside ((∀ e, es[pos es f (b : Int)]? = some e → fnd es f (b : Int) = Tb.isN f (b : Int) e.o) ∧ (es[pos es f (b : Int)]? = none → fnd es f (b : Int) = false)) := ⟨hK, hN⟩
    clear hK hN
    have hown : p.isSome = true ∨ m = 0 := by
      rcases T4.out.2.2.1.row.2 with ⟨h, h0⟩ | ⟨g, cap, cur, h, _⟩
      · right; rw [← CC.out.2]; exact h0
      · cases h; left; rfl
    have FNs : Aside (∀ cs, (∀ vs, cs = (u.setCells (w.heap.size + 1) 0 vs)) → True) := fun _ _ => trivial
    have FNq : Aside ((Tb.findC (ops es) f (b : Int)).done = false → Q (.returned (.agg (tabL v ms (Tb.updB bs f b) (.slice p m q)))) (u.setCells (w.heap.size + 1) 0 (tabL v ms (Tb.updB bs f b) (.slice p m q)).toList)) := fun hd => by
      have hpb : ∀ g, (Value.slice p m q).ownBlock = some g → g < w.heap.size := fun g hg => by
        cases p with
        | none => cases hg
        | some ad => have := PB.out ad rfl; cases hg; exact this
      have := RZ.out es b (u.setCells (w.heap.size + 1) 0 (tabL v ms (Tb.updB bs f b) (.slice p m q)).toList) CC.out.1 hd
      rw [CC.out.2] at this
      refine this (OwnT.cells _ _ T4.out.2.2.1 (fun e => by have := hpb _ e; omega) (fun e he => EOF.out e (CC.out.1.sub e he))) (grown_setCells (.inl (by omega)) _ _ T4.out.2.2.2.1)
    clear FNs
    rcases hfd : fnd es f (b : Int) with _ | _
    · have hd : (Tb.findC (ops es) f (b : Int)).done = false := by
        rcases hk : es[pos es f (b : Int)]? with _ | e
        · have := Tb.at_none CC.out.1.srt (f := f) (s := (b : Int)) (fun o ho => by
            have h2 : (ops es)[pos es f (b : Int)]? = some o := ho
            unfold ops at h2; rw [List.getElem?_map, hk] at h2; cases h2)
          rw [this.1]; rfl
        · have h1 := FD.out.1 e hk
          rw [hfd] at h1
          have := Tb.at_none CC.out.1.srt (f := f) (s := (b : Int)) (fun o ho => by
            have h2 : (ops es)[pos es f (b : Int)]? = some o := ho
            rw [ops_get hk] at h2; cases h2; exact h1.symm)
          rw [this.1]; rfl
      have FN : Aside _ := FNq.out hd
      generalize pos es f (b : Int) = ps
      clear FNq FD hfd hd RZ
      go_wp2_with (first
        | (with_reducible refine wpList_tab T4.out.1 rfl _ rfl rfl ?_)
        | (with_reducible refine wpList_tab_store T4.out.2.1 rfl _ _ rfl rfl rfl ?_))
      have Zx : X19 (u.setCells (w.heap.size + 1) 0 (tabL v ms (Tb.updB bs f b) (.slice p m q)).toList) (w.heap.size + 1) 30 v ms (Tb.updB bs f b) (.slice p m q) := T4.out.2.1.whole
      exact bodyPost_ret (results_cell rfl rfl (Try.isAgg30 _) (Try.sizeOf30 _) (load_tab Zx)) rfl (FN.out)
    · obtain ⟨e, hk⟩ : ∃ e, es[pos es f (b : Int)]? = some e := by
        rcases hk : es[pos es f (b : Int)]? with _ | e
        · have := FD.out.2 hk; rw [hfd] at this; cases this
        · exact ⟨e, rfl⟩
      have hisn : Tb.isN f (b : Int) e.o = true := by have := FD.out.1 e hk; rw [hfd] at this; exact this.symm
      have AF := Tb.at_found CC.out.1.srt (f := f) (s := (b : Int)) (o := e.o) (ops_get hk) hisn
      obtain ⟨b9, off9, hp9, -, -, -, -, g4, -, -⟩ := T4.out.2.2.2.2.get hk
      have hlt := (List.getElem?_eq_some_iff.1 hk).1
      rw [CC.out.2] at hlt
      obtain ⟨g, rfl⟩ : ∃ g, p = some ⟨g, 0, none⟩ := by
        rcases T4.out.2.2.1.row.2 with ⟨h, h0⟩ | ⟨g, cap, cur, h, _⟩
        · rw [CC.out.2] at h0; omega
        · cases h; exact ⟨g, rfl⟩
      obtain ⟨rfl, rfl⟩ : g = b9 ∧ 0 = off9 := by cases hp9; exact ⟨rfl, rfl⟩
      obtain ⟨ps, hps⟩ : ∃ ps, ps = pos es f (b : Int) := ⟨_, rfl⟩
      have AF2 : Aside ((Tb.findC (ops es) f (b : Int)) = e.o.c ∧ Tb.remO (ops es) f (b : Int) = (ops es).take ps ++ (ops es).drop (ps + 1)) := ⟨AF.1, by rw [hps]; exact AF.2.2⟩
      rw [← hps] at g4 hlt hk ⊢
      have EK : Aside (es[ps]? = some e) := hk
      have x18 := T4.out.1.cells.2.2.2.2.2.2.2.2.2.2.2.2.2.2.2.2.2.2
      have t0 : (0 : Int) ≤ (ps : Int) := by omega
      have t1 : (ps : Int) < (m : Int) := by omega
      have HM : Aside (m - 1 < m) := (by omega : m - 1 < m)
      clear AF hps hk hisn FD hfd hown
      rw [Nat.zero_add] at g4
      have g5 : u.cell? ⟨g, ps * 7 + 2 + 2, none⟩ = some (.bool e.o.c.done) := g4
      clear g4 hp9
      rcases hdn : e.o.c.done with _ | _
      · rw [hdn] at g5
        have FN : Aside _ := FNq.out (by rw [AF2.out.1]; exact hdn)
        clear FNq RZ hdn AF2 EK
        go_wp2_with (first
          | (with_reducible refine wpList_tab T4.out.1 rfl _ rfl rfl ?_)
          | (with_reducible refine wpList_tab_store T4.out.2.1 rfl _ _ rfl rfl rfl ?_))
        have Zx : X19 (u.setCells (w.heap.size + 1) 0 (tabL v ms (Tb.updB bs f b) (.slice (some ⟨g, 0, none⟩) m q)).toList) (w.heap.size + 1) 30 v ms (Tb.updB bs f b) (.slice (some ⟨g, 0, none⟩) m q) := T4.out.2.1.whole
        exact bodyPost_ret (results_cell rfl rfl (Try.isAgg30 _) (Try.sizeOf30 _) (load_tab Zx)) rfl (FN.out)
      · rw [hdn] at g5
        have hD := delete_any B g m q ps es u (by have := T4.out.2.2.1.row; exact this) CC.out.2 (by have := CC.out.1.len; have := CC.out.2; omega) hlt
        rw [show ((ps + 1 : Nat) : Int) = (ps : Int) + 1 by omega] at hD
        have DN : Aside (e.o.c.done = true) := hdn
        have hwp : wrap64 ((ps : Int) + 1) = (ps : Int) + 1 := by have := CC.out.1.len; have := CC.out.2; unfold wrap64; omega
        clear FNq hdn
        go_wp2_with fail
        refine hD.mono ?_
        rintro z w5 ⟨rfl, hrow5, hg5⟩
        have hgw : g < w.heap.size := PB.out _ rfl
        have H5 : Aside (w5.ownsRow B 50 7 (.slice (some ⟨g, 0, none⟩) (m - 1) q) (m - 1) (rowC (es.take ps ++ es.drop (ps + 1))) ∧ u.grownBy w5 (some g)) := ⟨hrow5, hg5⟩
        have X5 : Aside (X19 w5 w.heap.size 30 v ms (Tb.updB bs f b) (.slice (some ⟨g, 0, none⟩) m q) ∧ X19 w5 (w.heap.size + 1) 30 0 0 (fun _ => 0) (.slice none 0 0)) := ⟨T4.out.1.grown hg5 (by intro e; have := Option.some.inj e; omega), T4.out.2.1.grown hg5 (by intro e; have := Option.some.inj e; omega)⟩
        have y18 := X5.out.1.cells.2.2.2.2.2.2.2.2.2.2.2.2.2.2.2.2.2.2
        have yb := X5.out.1.base hf
        rw [Tb.updB_at] at yb
        have z18 := X5.out.1.frozen 18
        have zb := X5.out.1.frozen (2 + f)
        have h18 : ¬ (18 = 2 + f) := by omega
        have h19 : ¬ (2 + f = 18) := by omega
        clear hD hrow5 hg5 x18 g5
        go_wp2
        go_roundg (m - 1)
        case measure => exact HM.out
        case rel =>
          clear hwp h18 h19 yb y18 z18 zb
          have hl1 : (es.take ps ++ es.drop (ps + 1)).length = m - 1 := by
            have := CC.out.2
            rw [List.length_append, List.length_take, List.length_drop]; omega
          have hsub : ∀ x, x ∈ es.take ps ++ es.drop (ps + 1) → x ∈ es := fun x hx => by
            rcases List.mem_append.1 hx with h | h
            · exact List.mem_of_mem_take h
            · exact List.mem_of_mem_drop h
          have hrem : ops (es.take ps ++ es.drop (ps + 1)) = Tb.remO (ops es) f (b : Int) := by rw [ops_rem, AF2.out.2]
          have hdone : (Tb.findC (ops es) f (b : Int)).done = true := by rw [AF2.out.1]; exact DN.out
          have hsum := CC.out.1.sum
          have hlen := CC.out.1.len
          have hem := CC.out.2
          have hbk : (Value.slice (some ⟨g, 0, none⟩) (m - 1) q).ownBlock ≠ some w.heap.size := fun e => by
            have : g = w.heap.size := by simpa [Value.ownBlock] using e
            omega
          have hoff : ∀ e ∈ es, Offs w.heap.size e := fun e he => EO0.out e (CC.out.1.sub e he)
          have hO : OwnT w5 B (.slice (some ⟨g, 0, none⟩) (m - 1) q) (es.take ps ++ es.drop (ps + 1)) :=
            ⟨by rw [hl1]; exact H5.out.1, fun e he => (T4.out.2.2.1.ats e (hsub e he)).grown H5.out.2 (T4.out.2.2.1.offsR (hsub e he)), fun g' hg' e he => T4.out.2.2.1.off g' hg' e (hsub e he)⟩
          refine ⟨es.take ps ++ es.drop (ps + 1), b + 1, hl1, ⟨?_, ?_, fun x hx => CC.out.1.sub x (hsub x hx), by rw [hl1]; omega, by rw [hl1]; omega⟩, ?_, ?_, ?_, ?_⟩
          · rw [hrem]; exact Tb.rem_srt CC.out.1.srt f _
          · rw [CC.out.1.same, Tb.close_step CC.out.1.srt hdone, hrem]
          · exact (hO.far hbk (fun e he => hoff e (hsub e he)) _).far hbk (fun e he => hoff e (hsub e he)) _
          · have := (X5.out.1.set18 (.slice (some ⟨g, 0, none⟩) (m - 1) q)).setb (b + 1) hf
            rw [Tb.updB_updB] at this
            exact this
          · exact (X5.out.2.far (by omega) _).far (by omega) _
          · exact grown_set (grown_set (grown_step T4.out.2.2.2.1 H5.out.2) (.inl (Nat.le_refl _)) _) (.inl (Nat.le_refl _)) _
end Go.Proofs.Ytmhjmeedoajkjaa
