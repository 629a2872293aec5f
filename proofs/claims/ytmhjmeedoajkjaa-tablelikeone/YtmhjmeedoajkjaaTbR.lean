/- A broadcast more in a row of one's own (Insert, as Take calls it). -/
import Derived.Test.YtmhjmeedoajkjaaTbQ
import Derived.Test.YtmhjmeedoajkjaaTbH
set_option linter.unusedVariables false
namespace Go.Proofs.Ytmhjmeedoajkjaa
open Go.RowKit Go.Shelf

/-- A broadcast of which no vote has come. -/
def fresh (f : Nat) (s : Int) : En := ⟨⟨f, s, Vt.Cs.none⟩, none, 0, none, 0⟩
theorem fresh_at {w : World} {f : Nat} (s : Int) (hf : f < 256) : EnAt w (fresh f s) :=
  ⟨⟨.inl rfl, .inl rfl, ⟨fun b hb => (by cases hb), fun b hb => (by cases hb)⟩, Nat.zero_le _, Nat.zero_le _⟩, hf⟩
theorem fresh_offs (f : Nat) (s : Int) (g : Nat) : Offs g (fresh f s) := ⟨fun h => absurd rfl h, fun h => absurd rfl h⟩
theorem fresh_fr (f : Nat) (s : Int) (g : Nat) : FrE g (fresh f s) := ⟨fun h => absurd rfl h, fun h => absurd rfl h⟩
theorem rowC_ins (es : List En) (i : Nat) (e : En) : (rowC es).take (i * 7) ++ (encE e ++ (rowC es).drop (i * 7)) = rowC (es.take i ++ e :: es.drop i) := by
  rw [rowC_append, rowC_take, ← rowC_drop]; rfl
theorem ops_ins (es : List En) (i : Nat) (e : En) : ops (es.take i ++ e :: es.drop i) = (ops es).take i ++ e.o :: (ops es).drop i := by
  unfold ops; rw [List.map_append, List.map_cons, List.map_take, List.map_drop]

/-- What Insert answers over such a row. -/
def InsE (w : World) (B n i : Nat) (v : Value) (es : List En) (e : En) (x : Ending) (w' : World) : Prop :=
  ∃ p' c', x = .returned (.slice p' (n + 1) c') ∧ OwnT w' B (.slice p' (n + 1) c') (es.take i ++ e :: es.drop i) ∧ w.grownBy w' v.ownBlock ∧ ((Value.slice p' (n + 1) c').ownBlock = v.ownBlock ∨ (Value.slice p' (n + 1) c').ownBlock = some w.heap.size)

theorem insE_of {w : World} {B n i : Nat} {v : Value} {es : List En} {f : Nat} {s : Int} (h : OwnT w B v es) (hn : es.length = n) (hi : i ≤ n) (hf : f < 256) (x : Ending) (w' : World) (hx : InsPost B v n i (rowC es) (encE (fresh f s)) w x w') : InsE w B n i v es (fresh f s) x w' := by
  obtain ⟨p', c', e, hr, hg, hb⟩ := hx
  refine ⟨p', c', e, ⟨?_, fun y hy => ?_, fun g hgb y hy => ?_⟩, hg, hb⟩
  · rw [rowC_ins] at hr
    have hl : (es.take i ++ fresh f s :: es.drop i).length = n + 1 := by
      rw [List.length_append, List.length_cons, List.length_take, List.length_drop]; omega
    rw [hl]; exact hr
  · rcases List.mem_append.1 hy with hy | hy
    · exact (h.ats y (List.mem_of_mem_take hy)).grown hg (h.offsR (List.mem_of_mem_take hy))
    · rcases List.mem_cons.1 hy with rfl | hy
      · exact fresh_at s hf
      · exact (h.ats y (List.mem_of_mem_drop hy)).grown hg (h.offsR (List.mem_of_mem_drop hy))
  · have hold : ∀ y ∈ es, Offs g y := fun y hy => by
      rcases hb with hb | hb
      · exact h.off g (by rw [← hb]; exact hgb) y hy
      · rw [hgb] at hb
        exact offs_old (h.ats y hy) (by have := Option.some.inj hb; omega)
    rcases List.mem_append.1 hy with hy | hy
    · exact hold y (List.mem_of_mem_take hy)
    · rcases List.mem_cons.1 hy with rfl | hy
      · exact fresh_offs f s g
      · exact hold y (List.mem_of_mem_drop hy)

theorem insert_own (B n cap i vb vc f : Nat) (s : Int) (p : Option Addr) (es : List En) (w : World) (hB : B ≤ w.heap.size) (h : OwnT w B (.slice p n cap) es) (hn : es.length = n) (hn1 : n ≤ 1000) (hi : i ≤ n) (hf : f < 256)
    (hvb : w.heap[vb]? = some (.cells (encE (fresh f s)).toArray 50 (0, 0))) (hne : ∀ a, p = some a → a.block ≠ vb) :
    Calls Try.prog 21 #[.slice p n cap, .int .i64 (i : Nat), .slice (some ⟨vb, 0, none⟩) 1 vc] w (InsE w B n i (.slice p n cap) es (fresh f s)) := by
  have hrow : w.ownsRow B 50 7 (.slice p n cap) n (rowC es) := by have := h.row; rw [hn] at this; exact this
  have hV1 : ∀ u ∈ encE (fresh f s), u.oneCell' = true := fun u hu => rowC_one [fresh f s] u (by simpa [rowC] using hu)
  by_cases hin : i = n
  · subst hin
    have hnc : i ≤ cap ∧ cap ≤ 9223372036854775807 := by
      rcases hrow.2 with ⟨e, h0⟩ | ⟨g, c, cur, e, _, _, hc, hm, _⟩
      · cases e; omega
      · cases e; unfold maxLen at hm; omega
    refine (insert_end B p i cap vb vc (rowC es) (encE (fresh f s)) w hB hrow rfl hV1 (fun j u hj => ?_) hn1 hnc.1 hnc.2).mono fun x w' hx => insE_of h hn (Nat.le_refl _) hf x w' hx
    rw [cell_of_row w vb _ _ 50 _ hvb]
    simpa using hj
  · have hlt : i < n := by omega
    rcases hrow.2 with ⟨e, h0⟩ | ⟨g, c, cur, e, _, _, hc, hm, _⟩
    · omega
    · cases e
      by_cases hroom : n + 1 ≤ cap
      · exact (insert_room B g n cap vb vc i 1 (rowC es) (encE (fresh f s)) w rfl hrow (rowC_one es) rfl hV1 hvb (fun e => hne _ rfl e.symm) hn1 hlt hroom).mono fun x w' hx => insE_of h hn hi hf x w' hx
      · exact (insert_grow B g n cap vb vc i 1 (rowC es) (encE (fresh f s)) w rfl hB hrow (rowC_one es) rfl hV1 hvb hn1 hlt (by omega)).mono fun x w' hx => insE_of h hn hi hf x w' hx
end Go.Proofs.Ytmhjmeedoajkjaa
