/- Maps keyed by texts whose elements are whatever values: what a look-up and a store give. -/
import Derived.Test.YtdpnffnogckfjaaSame
import Derived.Maps.OwnSet
namespace Go.Proofs.Ytdpnffnogckfjaa
open Go.RowKit Go.Maps

/-- An element, as it is. -/
def raw (v : Value) : Option (DataW Value × List MemPlace) := some (.held v, [])

/-- Block b is a map of at most n entries, with such an element at such a text. -/
def MapAt (w : World) (b n : Nat) (g : List UInt8 → Option Value) : Prop :=
  ∃ D : DataW Value, w.ownsMap Try.prog 23 raw b n D ∧ ∀ s, match g s with
    | none => has D (.string s) = false
    | some v => has D (.string s) = true ∧ ∀ z, D.atKey (.string s) z = .held v

theorem isKey {s : List UInt8} : Go.WideAt.IsKeyLit (.string s) := True.intro
theorem mapAt_key {t : List UInt8} (h : t.length ≤ 2000) : keyOf Try.prog 23 (str t) = some (.string t) := by
  have := Go.WideMaps.keyOf_string_mk (P := Try.prog) (k := 23) Try.underlying23 (s := ⟨t.toArray⟩) (by rw [str_size]; unfold maxLen; omega)
  exact this

theorem MapAt.lt {w : World} {b n : Nat} {g : List UInt8 → Option Value} (h : MapAt w b n g) : b < w.heap.size := by
  obtain ⟨D, h1, _⟩ := h; exact h1.lt
theorem MapAt.kept {w w' : World} {b n : Nat} {g : List UInt8 → Option Value} (h : MapAt w b n g) (e : w'.heap[b]? = w.heap[b]?) : MapAt w' b n g := by
  obtain ⟨D, ⟨es, clock, hb, F, hs, hD⟩, h2⟩ := h
  exact ⟨D, ⟨es, clock, e.trans hb, F, hs, hD⟩, h2⟩
theorem MapAt.mono {w : World} {b n m : Nat} {g : List UInt8 → Option Value} (h : MapAt w b n g) (e : n ≤ m) : MapAt w b m g := by
  obtain ⟨D, h1, h2⟩ := h; exact ⟨D, h1.mono e, h2⟩
theorem MapAt.congr {w : World} {b n : Nat} {g g' : List UInt8 → Option Value} (h : MapAt w b n g) (e : ∀ s, g s = g' s) : MapAt w b n g' := by
  obtain rfl : g = g' := funext e; exact h
theorem mapAt_made (w : World) : MapAt (w.alloc (.map #[] 0)) w.heap.size 0 (fun _ => none) :=
  ⟨.map [], World.ownsMap_made _ _ _ _, fun _ => rfl⟩

theorem held_inj {v v' : Value} {ps : List MemPlace} {d : DataW Value} (h : raw v = some (d, ps)) (e : d = .held v') : v = v' := by
  unfold raw at h
  simp only [Option.some.injEq, Prod.mk.injEq] at h
  rw [← h.1] at e
  exact DataW.held.inj e

theorem MapAt.look {w : World} {b n t e : Nat} {g : List UInt8 → Option Value} {s : List UInt8} {z : Value} (h : MapAt w b n g) (ht : Try.prog.underlying t = some (.map 23 e)) (hz : ∀ w, (zeroValue e).run Try.prog w = .ok z w) (hs : s.length ≤ 2000) :
    (Instr.lookup t (.map (some b)) (str s) false).run Try.prog w = .ok ((g s).getD z) w := by
  obtain ⟨D, h1, h2⟩ := h
  obtain ⟨v, ps, hr, hv⟩ := h1.lookup (string_keyed Try.underlying23) ht (hz w) (zd := .held z) (zp := []) rfl (mapAt_key hs)
  rw [hr]
  suffices v = (g s).getD z by rw [this]
  have := h2 s
  rcases hg : g s with _ | u
  · rw [hg] at this
    rw [atKey_of_not_has this] at hv
    exact held_inj hv rfl
  · rw [hg] at this
    rw [this.2] at hv
    exact held_inj hv rfl
theorem MapAt.look_ok {w : World} {b n t e : Nat} {g : List UInt8 → Option Value} {s : List UInt8} {z : Value} (h : MapAt w b n g) (ht : Try.prog.underlying t = some (.map 23 e)) (hz : ∀ w, (zeroValue e).run Try.prog w = .ok z w) (hs : s.length ≤ 2000) :
    (Instr.lookup t (.map (some b)) (str s) true).run Try.prog w = .ok (.tuple #[(g s).getD z, .bool (g s).isSome]) w := by
  obtain ⟨D, h1, h2⟩ := h
  obtain ⟨v, ps, hr, hv⟩ := h1.look_ok (string_keyed Try.underlying23) ht (hz w) (zd := .held z) (zp := []) rfl (mapAt_key hs)
  rw [hr]
  have := h2 s
  rcases hg : g s with _ | u
  · rw [hg] at this
    rw [atKey_of_not_has this] at hv
    rw [held_inj hv rfl, this]; rfl
  · rw [hg] at this
    rw [this.2] at hv
    rw [held_inj hv rfl, this.1]; rfl
/-- One element more. -/
def upd (g : List UInt8 → Option Value) (s : List UInt8) (v : Value) : List UInt8 → Option Value := fun x => if x = s then some v else g x
theorem MapAt.store {w : World} {b n t e : Nat} {g : List UInt8 → Option Value} {s : List UInt8} (h : MapAt w b n g) (ht : Try.prog.underlying t = some (.map 23 e)) (hn : n < 1000000000) (hs : s.length ≤ 2000) (v : Value) :
    ∃ w', (Instr.mapUpdate t (.map (some b)) (str s) v).run Try.prog w = .ok () w' ∧ MapAt w' b (n + 1) (upd g s v) ∧ w.grownBy w' (some b) := by
  obtain ⟨D, h1, h2⟩ := h
  obtain ⟨w', hr, ho, hg⟩ := h1.update (string_keyed Try.underlying23) ht (by unfold maxLen; omega) (mapAt_key hs) (val := v) (d := .held v) (ps := []) rfl
  refine ⟨w', hr, ⟨_, ho, fun x => ?_⟩, hg⟩
  unfold upd
  by_cases hx : x = s
  · subst hx
    rw [if_pos rfl]
    exact ⟨has_put_same h1.isMap isKey _, fun z => atKey_put_same h1.isMap isKey _ _⟩
  · rw [if_neg hx]
    have hne : (Lit.string x) ≠ .string s := fun e => hx (by cases e; rfl)
    have := h2 x
    rcases hg : g x with _ | u
    · rw [hg] at this
      show has _ _ = _
      rw [has_put_other hne]; exact this
    · rw [hg] at this
      show has _ _ = _ ∧ _
      rw [has_put_other hne]
      exact ⟨this.1, fun z => by rw [atKey_put_other hne]; exact this.2 z⟩
/-- A store at a text that is there already: no entry more. -/
theorem MapAt.store_again {w : World} {b n t e : Nat} {g : List UInt8 → Option Value} {s : List UInt8} (h : MapAt w b n g) (ht : Try.prog.underlying t = some (.map 23 e)) (hn : n < 1000000000) (hs : s.length ≤ 2000) (hg : (g s).isSome = true) (v : Value) :
    ∃ w', (Instr.mapUpdate t (.map (some b)) (str s) v).run Try.prog w = .ok () w' ∧ MapAt w' b n (upd g s v) ∧ w.grownBy w' (some b) := by
  obtain ⟨w', hr, ⟨D', ho, h3⟩, hgr⟩ := h.store ht hn hs v
  refine ⟨w', hr, ?_, hgr⟩
  obtain ⟨D, h1, h2⟩ := h
  obtain ⟨w2, hr2, ho2, _⟩ := h1.update (string_keyed Try.underlying23) ht (by unfold maxLen; omega) (mapAt_key hs) (val := v) (d := .held v) (ps := []) rfl
  rw [hr] at hr2
  cases hr2
  obtain ⟨es', c', hb', F', hs', hD'⟩ := ho2
  obtain ⟨es2, c2, hb2, F2, hs2, hD2⟩ := ho
  rw [hb'] at hb2
  cases hb2
  refine ⟨D', ⟨es', c', hb', F', ?_, hD2⟩, h3⟩
  have hsz : size (D.put (.string s) (.held v)) = if has D (.string s) then size D else size D + 1 := size_put (h1.tidy (string_keyed Try.underlying23)) _
  have hh : has D (.string s) = true := by
    have := h2 s
    rcases hx : g s with _ | u
    · rw [hx] at hg; cases hg
    · rw [hx] at this; exact this.1
  rw [if_pos hh] at hsz
  have e1 : size (D.put (.string s) (.held v)) = es'.size := by
    rw [hD']
    simp [size, length_sorted]
  rw [← e1, hsz]
  exact h1.size_le

end Go.Proofs.Ytdpnffnogckfjaa
