/- Whether a vote came already; what is answered with an error. -/
import Derived.Test.YtmhjmeedoajkjaaVtG
namespace Go.Proofs.Ytmhjmeedoajkjaa
open Go.RowKit Go.Shelf

/-- A case as a value. -/
def csV (c : Vt.Cs) (a1 a2 : Option Addr) (c1 c2 : Nat) : Value := .agg #[.bool c.echoed, .bool c.readied, .bool c.done, .slice a1 c.echoes.length c1, .slice a2 c.readies.length c2]
/-- A case lies in memory. -/
structure CsAt (w : World) (c : Vt.Cs) (a1 a2 : Option Addr) : Prop where
  e : Vt.At w a1 c.echoes
  r : Vt.At w a2 c.readies
  small : c.Small
  n1 : c.echoes.length ≤ 900
  n2 : c.readies.length ≤ 900
theorem CsAt.later {w w' : World} {c : Vt.Cs} {a1 a2 : Option Addr} (h : CsAt w c a1 a2) (hb : Below w.heap.size w w') : CsAt w' c a1 a2 := ⟨h.e.later hb, h.r.later hb, h.small, h.n1, h.n2⟩

set_option maxHeartbeats 4000000 in
set_option maxRecDepth 100000 in
theorem isOld_any (c : Vt.Cs) (a1 a2 : Option Addr) (c1 c2 : Nat) (kind : Int) (id : Nat) (w : World) (hk : kind = 1 ∨ kind = 2 ∨ kind = 3) (h : CsAt w c a1 a2) :
    Calls Try.prog 31 #[csV c a1 a2 c1 c2, .int .i64 kind, .int .u8 (id : Nat)] w fun e w' => e = .returned (.bool (Vt.old c kind id)) ∧ Below w.heap.size w w' := by
  have V1 : Aside (∀ o, Calls Try.prog 46 #[.slice a1 c.echoes.length c1, .int .u8 (id : Nat)] (w.alloc o) fun e w' => e = .returned (.bool (Vt.votedB c.echoes id)) ∧ Below (w.alloc o).heap.size (w.alloc o) w') := fun o => voted_any a1 c1 c.echoes id _ (h.e.later ((Below.refl _ w).alloc (Nat.le_refl _) o)) h.small.1 (by have := h.n1; omega)
  have V2 : Aside (∀ o, Calls Try.prog 46 #[.slice a2 c.readies.length c2, .int .u8 (id : Nat)] (w.alloc o) fun e w' => e = .returned (.bool (Vt.votedB c.readies id)) ∧ Below (w.alloc o).heap.size (w.alloc o) w') := fun o => voted_any a2 c2 c.readies id _ (h.r.later ((Below.refl _ w).alloc (Nat.le_refl _) o)) h.small.2 (by have := h.n2; omega)
  have B0 : Aside (∀ o, Below w.heap.size w (w.alloc o)) := fun o => (Below.refl _ w).alloc (Nat.le_refl _) o
  clear h
  unfold csV Vt.old
  generalize c.echoed = e at *
  generalize c.readied = r at *
  generalize c.done = d at *
  generalize Vt.votedB c.echoes id = b1 at *
  generalize Vt.votedB c.readies id = b2 at *
  generalize c.echoes.length = m1 at *
  generalize c.readies.length = m2 at *
  rcases hk with rfl | rfl | rfl
  · rw [if_pos rfl]
    go_enter Try.func31, Try.ntmps31
    go_wp2
    go_ret
    exact ⟨rfl, B0.out _⟩
  · rw [if_neg (by decide), if_pos rfl]
    go_enter Try.func31, Try.ntmps31
    go_wp2_with fail
    refine (V1.out _).mono ?_; rintro z w1 ⟨rfl, hb⟩
    have B1 : Aside (Below w.heap.size w w1) := below_step (B0.out _) hb
    clear hb V1 V2 B0
    go_wp2
    go_ret
    exact ⟨rfl, B1.out⟩
  · rw [if_neg (by decide), if_neg (by decide)]
    go_enter Try.func31, Try.ntmps31
    go_wp2_with fail
    refine (V2.out _).mono ?_; rintro z w1 ⟨rfl, hb⟩
    have B1 : Aside (Below w.heap.size w w1) := below_step (B0.out _) hb
    clear hb V1 V2 B0
    go_wp2
    go_ret
    exact ⟨rfl, B1.out⟩

/-- What the closure answers that tells an error. -/
def RefusePost (w : World) (c : Vt.Cs) (q : Nat) (z : Ending) (w' : World) : Prop :=
  ∃ a1 c1 a2 c2, z = .returned (.tuple #[csV c a1 a2 c1 c2, .slice none 0 0, .string ⟨#[]⟩, .bool false, .int .i64 (q : Int)]) ∧ w'.ownsRow w.heap.size 94 2 (.slice a1 c.echoes.length c1) c.echoes.length (Vt.balC c.echoes) ∧ w'.ownsRow w.heap.size 94 2 (.slice a2 c.readies.length c2) c.readies.length (Vt.balC c.readies) ∧ Below w.heap.size w w'

theorem own_set5 {V : World} {B B' n c b : Nat} {a : Option Addr} {l : Vt.Bal} (h : V.ownsRow B 94 2 (.slice a n c) l.length (Vt.balC l)) (hb : b < B) (hB : B' ≤ B) (u0 u1 u2 u3 u4 : Value) :
    (((((V.setCell ⟨b, 0, none⟩ u0).setCell ⟨b, 1, none⟩ u1).setCell ⟨b, 2, none⟩ u2).setCell ⟨b, 3, none⟩ u3).setCell ⟨b, 4, none⟩ u4).ownsRow B' 94 2 (.slice a n c) l.length (Vt.balC l) :=
  own_mono (own_far5 h (fun e => by have := (h.lt _ e).1; omega) u0 u1 u2 u3 u4) hB

set_option maxHeartbeats 4000000 in
set_option maxRecDepth 100000 in
theorem refuse_any (c : Vt.Cs) (a1 a2 : Option Addr) (c1 c2 b q : Nat) (w : World) (h : CsAt w c a1 a2)
    (hb : C5 w b (.bool c.echoed) (.bool c.readied) (.bool c.done) (.slice a1 c.echoes.length c1) (.slice a2 c.readies.length c2)) :
    Calls Try.prog 28 #[.int .i64 (q : Int), .pointer (some ⟨b, 0, none⟩)] w (RefusePost w c q) := by
  have AN : Aside (∀ o, Calls Try.prog 29 #[.agg #[.bool c.echoed, .bool c.readied, .bool c.done, .slice a1 c.echoes.length c1, .slice a2 c.readies.length c2]] (w.alloc o) (Anew (w.alloc o) c.echoed c.readied c.done c.echoes c.readies)) :=
    fun o => anew_any c.echoed c.readied c.done a1 a2 c1 c2 c.echoes c.readies _ (h.e.later ((Below.refl _ w).alloc (Nat.le_refl _) o)) (h.r.later ((Below.refl _ w).alloc (Nat.le_refl _) o)) (by have := h.n1; omega) (by have := h.n2; omega)
  have R : Aside (∀ a1 c1 a2 c2 w', w'.ownsRow w.heap.size 94 2 (.slice a1 c.echoes.length c1) c.echoes.length (Vt.balC c.echoes) → w'.ownsRow w.heap.size 94 2 (.slice a2 c.readies.length c2) c.readies.length (Vt.balC c.readies) → Below w.heap.size w w' → RefusePost w c q (.returned (.tuple #[.agg #[.bool c.echoed, .bool c.readied, .bool c.done, .slice a1 c.echoes.length c1, .slice a2 c.readies.length c2], .slice none 0 0, .string ⟨#[]⟩, .bool false, .int .i64 (q : Int)])) w') := fun a1 c1 a2 c2 w' h1 h2 h3 => ⟨a1, c1, a2, c2, rfl, h1, h2, h3⟩
  have B0 : Aside (∀ o, Below w.heap.size w (w.alloc o)) := fun o => (Below.refl _ w).alloc (Nat.le_refl _) o
  generalize RefusePost w c q = Q at R ⊢
  obtain ⟨y0, y1, y2, y3, y4⟩ := hb.cells
  have hlt := hb.lt
  clear h hb
  go_enter Try.func28, Try.ntmps28
  go_wp2_with fail
  refine (AN.out _).mono ?_
  rintro z w1 ⟨v1, v2, rfl, hT, hb⟩
  obtain ⟨g1, k1, rfl, l1, -⟩ := Vt.own_at hT.1
  obtain ⟨g2, k2, rfl, l2, -⟩ := Vt.own_at hT.2.1
  have X1 : Aside (C5 w1 w.heap.size (.bool false) (.bool false) (.bool false) (.slice none 0 0) (.slice none 0 0)) := (C5.new w (.bool false) (.bool false) (.bool false) (.slice none 0 0) (.slice none 0 0)).later hb
  have Q1 : Aside (Q (.returned (.tuple #[.agg #[.bool c.echoed, .bool c.readied, .bool c.done, .slice g1 c.echoes.length k1, .slice g2 c.readies.length k2], .slice none 0 0, .string ⟨#[]⟩, .bool false, .int .i64 (q : Int)]))
      (((((w1.setCell ⟨w.heap.size, 0, none⟩ (.bool c.echoed)).setCell ⟨w.heap.size, 1, none⟩ (.bool c.readied)).setCell ⟨w.heap.size, 2, none⟩ (.bool c.done)).setCell ⟨w.heap.size, 3, none⟩ (.slice g1 c.echoes.length k1)).setCell ⟨w.heap.size, 4, none⟩ (.slice g2 c.readies.length k2))) := by
    refine R.out g1 k1 g2 k2 _ (own_set5 hT.1 (by simp) (by simp) _ _ _ _ _) (own_set5 hT.2.1 (by simp) (by simp) _ _ _ _ _) ?_
    exact below_set5 (below_step (B0.out _) hb) (Nat.le_refl _) _ _ _ _ _
  have hD : Aside (C5 _ _ _ _ _ _ _) := C5.set X1.out (.bool c.echoed) (.bool c.readied) (.bool c.done) (.slice g1 c.echoes.length k1) (.slice g2 c.readies.length k2)
  obtain ⟨z0, z1, z2, z3, z4⟩ := X1.out.cells
  have zf := X1.out.frozen
  clear AN R B0 hT hb l1 l2 y0 y1 y2 y3 y4
  generalize c.echoed = e at *
  generalize c.readied = r at *
  generalize c.done = d at *
  generalize c.echoes.length = m1 at *
  generalize c.readies.length = m2 at *
  go_wp2
  refine ⟨rfl, _, ?_, Q1.out⟩
  obtain ⟨d0, d1, d2, d3, d4⟩ := hD.out.cells
  simp [results, Try.results28, go_sem, d0, d1, d2, d3, d4]
end Go.Proofs.Ytmhjmeedoajkjaa
