/- The map of what waits: keyed by sender and number. -/
import Derived.Test.YtbacnjkookakcaaHdB
import Derived.Maps.OwnSet
import Derived.DeepKeys4
set_option linter.unusedVariables false
namespace Go.Proofs.Ytbacnjkookakcaa
open Go.RowKit Go.Maps
namespace Hd

def keyV (f : Nat) (s : Int) : Value := .agg #[.int .u8 (f : Int), .int .i64 s]
theorem law70 : Go.WideMaps.KeyLaw Try.prog 70 := deep_law_laid (by kernel_rfl) (m := 4) (by omega) (by decide +kernel) (by kernel_rfl) (by kernel_rfl)
theorem keyed70 : Keyed Try.prog 70 := Keyed.of_law law70
theorem key_some {f : Nat} {s : Int} (hf : f < 256) (h1 : -9223372036854775808 ≤ s) (h2 : s ≤ 9223372036854775807) : ∃ l, keyOf Try.prog 70 (keyV f s) = some l := by
  have e1 : Try.prog.keyType 70 = true := by decide +kernel
  have e2 : (keyV f s).formed Try.prog 70 = true := by kernel_rfl
  obtain ⟨d, e3⟩ : ∃ d, Try.prog.types.size + 1 = d + 1 + 1 := ⟨Try.prog.types.size - 1, by have : 1 ≤ Try.prog.types.size := of_decide_eq_true (by kernel_rfl); omega⟩
  have c5 : Try.prog.cellsOf 5 = 1 := by kernel_rfl
  have c3 : Try.prog.cellsOf 3 = 1 := by kernel_rfl
  have c70 : Try.prog.cellsOf 70 = 2 := by kernel_rfl
  have w1 : (Lit.int .u8 (f : Int)).wf = true := by simp [Lit.wf, IntKind.min, IntKind.max, IntKind.signed, IntKind.bits]; omega
  have w2 : (Lit.int .i64 s).wf = true := by simp [Lit.wf, IntKind.min, IntKind.max, IntKind.signed, IntKind.bits]; omega
  have e4 : ∃ ls, Try.prog.keyLits (d + 1 + 1) 70 (keyV f s).cells.toList = some ls := by
    refine ⟨[.int .u8 (f : Int), .int .i64 s], ?_⟩
    simp [Program.keyLits, Try.underlying70, Try.underlying5, Try.underlying3, keyV, Value.cells, c5, c3, c70, w1, w2]
  obtain ⟨ls, e4⟩ := e4
  unfold keyOf
  rw [Try.underlying70]
  dsimp only
  rw [e1, e2, e3, e4]
  exact ⟨_, rfl⟩

/-- An element, as it is. -/
def raw (v : Value) : Option (DataW Value × List MemPlace) := some (.held v, [])
/-- A number of Go's that an item may bear. -/
def InK (f : Nat) (s : Int) : Prop := f < 256 ∧ -9223372036854775808 ≤ s ∧ s ≤ 9223372036854775807
/-- Block b is a map of m entries, with such a number at such a sender and number. -/
def MapH (w : World) (b m : Nat) (g : Nat → Int → Option Int) : Prop :=
  ∃ D : DataW Value, w.ownsMap Try.prog 70 raw b m D ∧ size D = m ∧ ∀ f s l, InK f s → keyOf Try.prog 70 (keyV f s) = some l → match g f s with
    | none => has D l = false
    | some v => has D l = true ∧ ∀ z, D.atKey l z = .held (.int .i64 v)
theorem key_inj {f f' : Nat} {s s' : Int} {l : Lit} (h : keyOf Try.prog 70 (keyV f s) = some l) (h' : keyOf Try.prog 70 (keyV f' s') = some l) : f = f' ∧ s = s' := by
  have := law70.inj h h'
  unfold keyV at this
  simp at this
  exact ⟨by omega, this.2⟩
theorem MapH.kept {w w' : World} {b m : Nat} {g : Nat → Int → Option Int} (h : MapH w b m g) (e : w'.heap[b]? = w.heap[b]?) : MapH w' b m g := by
  obtain ⟨D, ⟨es, clock, hb, F, hs, hD⟩, h2⟩ := h
  exact ⟨D, ⟨es, clock, e.trans hb, F, hs, hD⟩, h2⟩
theorem MapH.lt {w : World} {b m : Nat} {g : Nat → Int → Option Int} (h : MapH w b m g) : b < w.heap.size := by
  obtain ⟨D, h1, _⟩ := h; exact h1.lt
theorem MapH.made (w : World) : MapH (w.alloc (.map #[] 0)) w.heap.size 0 (fun _ _ => none) :=
  ⟨.map [], World.ownsMap_made _ _ _ _, rfl, fun _ _ _ _ _ => rfl⟩
theorem held_inj {v v' : Value} {ps : List MemPlace} {d : DataW Value} (h : raw v = some (d, ps)) (e : d = .held v') : v = v' := by
  unfold raw at h
  simp only [Option.some.injEq, Prod.mk.injEq] at h
  rw [← h.1] at e
  exact DataW.held.inj e
theorem MapH.look {w : World} {b m : Nat} {g : Nat → Int → Option Int} {f : Nat} {s : Int} (h : MapH w b m g) (hk : InK f s) :
    (Instr.lookup 66 (.map (some b)) (keyV f s) true).run Try.prog w = .ok (.tuple #[.int .i64 ((g f s).getD 0), .bool (g f s).isSome]) w := by
  obtain ⟨l, hl⟩ := key_some hk.1 hk.2.1 hk.2.2
  obtain ⟨D, h1, _, h2⟩ := h
  have hz : (zeroValue 3).run Try.prog w = .ok (.int .i64 0) w := Try.zeroValue3 (w := w)
  obtain ⟨v, ps, hr, hv⟩ := h1.look_ok keyed70 Try.underlying66 hz (zd := .held (.int .i64 0)) (zp := []) rfl hl
  rw [hr]
  have := h2 f s l hk hl
  rcases hg : g f s with _ | u
  · rw [hg] at this
    rw [atKey_of_not_has this] at hv
    rw [held_inj hv rfl, this]; rfl
  · rw [hg] at this
    rw [this.2] at hv
    rw [held_inj hv rfl, this.1]; rfl
def updH (g : Nat → Int → Option Int) (f : Nat) (s : Int) (v : Int) : Nat → Int → Option Int := fun x y => if x = f ∧ y = s then some v else g x y
theorem MapH.store {w : World} {b m : Nat} {g : Nat → Int → Option Int} {f : Nat} {s : Int} (h : MapH w b m g) (hk : InK f s) (hm : m < 1000000000) (v : Int) :
    ∃ w', (Instr.mapUpdate 66 (.map (some b)) (keyV f s) (.int .i64 v)).run Try.prog w = .ok () w' ∧ MapH w' b (if (g f s).isSome then m else m + 1) (updH g f s v) ∧ w.grownBy w' (some b) := by
  obtain ⟨l, hl⟩ := key_some hk.1 hk.2.1 hk.2.2
  obtain ⟨D, h1, hsz, h2⟩ := h
  obtain ⟨w', hr, ho, hg⟩ := h1.update keyed70 Try.underlying66 (by unfold maxLen; omega) hl (val := .int .i64 v) (d := .held (.int .i64 v)) (ps := []) rfl
  have isKey : Go.WideAt.IsKeyLit l := keyed70.key hl
  have hsz2 : size (D.put l (.held (.int .i64 v))) = if has D l then size D else size D + 1 := size_put (h1.tidy keyed70) _
  have hh := h2 f s l hk hl
  have hsz3 : size (D.put l (.held (.int .i64 v))) = if (g f s).isSome then m else m + 1 := by
    rw [hsz2, hsz]
    rcases hg2 : g f s with _ | u
    · rw [hg2] at hh; rw [hh]; rfl
    · rw [hg2] at hh; rw [hh.1]; rfl
  refine ⟨w', hr, ⟨_, ?_, hsz3, fun x y l' hk' hl' => ?_⟩, hg⟩
  · obtain ⟨es', c', hb', F', hs', hD'⟩ := ho
    refine ⟨es', c', hb', F', ?_, hD'⟩
    have e1 : size (D.put l (.held (.int .i64 v))) = es'.size := by rw [hD']; simp [size, length_sorted]
    omega
  · unfold updH
    by_cases hx : x = f ∧ y = s
    · obtain ⟨rfl, rfl⟩ := hx
      rw [if_pos ⟨rfl, rfl⟩]
      rw [hl] at hl'; cases hl'
      exact ⟨has_put_same h1.isMap isKey _, fun z => atKey_put_same h1.isMap isKey _ _⟩
    · rw [if_neg hx]
      have hne : l' ≠ l := fun e => hx (by rw [e] at hl'; exact key_inj hl' hl)
      have := h2 x y l' hk' hl'
      rcases hg2 : g x y with _ | u
      · rw [hg2] at this
        show has _ _ = _
        rw [has_put_other hne]; exact this
      · rw [hg2] at this
        show has _ _ = _ ∧ _
        rw [has_put_other hne]
        exact ⟨this.1, fun z => by rw [atKey_put_other hne]; exact this.2 z⟩
theorem MapH.len {w : World} {b m : Nat} {g : Nat → Int → Option Int} (h : MapH w b m g) (ty : TypeId) : (Builtin.len_ #[66] ty #[.map (some b)]).run Try.prog w = .ok (.int .i64 (m : Int)) w := by
  obtain ⟨D, h1, hsz, _⟩ := h
  rw [h1.len Try.underlying66 ty, hsz]
end Hd
end Go.Proofs.Ytbacnjkookakcaa
