/- What few gives: whether fields are few and their texts short. -/
import Derived.Test.YtjcgkljncaphhaaEncD
namespace Go.Proofs.Ytjcgkljncaphhaa
open Go.RowKit

/-- One field's four cells, as the document's own. -/
def RefAt (w : World) (b o : Nat) (f : Pk.Fld) : Prop :=
  w.cell? ⟨b, o, none⟩ = some (.int .i64 f.kind) ∧ w.cell? ⟨b, o + 1, none⟩ = some (.int .u64 (f.num.toNat : Int)) ∧
  w.cell? ⟨b, o + 2, none⟩ = some (.string f.text) ∧ w.cell? ⟨b, o + 3, none⟩ = some (.int .u64 (f.real.toNat : Int))

/-- The document's fields lie behind an address: four cells a field. -/
def AtR (w : World) (a : Option Addr) (l : List Pk.Fld) : Prop :=
  l = [] ∨ ∃ b off, a = some ⟨b, off, none⟩ ∧ ∀ j f, l[j]? = some f → RefAt w b (off + j * 4) f

theorem refAt_later {w w' : World} {B b o : Nat} {f : Pk.Fld} (hb : Below B w w') (hB : B = w.heap.size) (h : RefAt w b o f) : RefAt w' b o f := by
  subst hB
  exact ⟨cell_later hb h.1, cell_later hb h.2.1, cell_later hb h.2.2.1, cell_later hb h.2.2.2⟩

set_option maxHeartbeats 2000000 in
/-- Whatever it answers, it leaves the memory be; more than 210 are not few. -/
theorem few_any (a : Option Addr) (n cap : Nat) (l : List Pk.Fld) (w : World) (hl : n ≤ 9223372036854775807) (hn : Hid (l.length = n)) (ha : AtR w a l) :
    Calls Try.prog 12 #[.slice a n cap] w fun e w' => (∃ t : Bool, e = .returned (.bool t) ∧ (t = true → n ≤ 210)) ∧ Below w.heap.size w w' := by
  have C : Aside (AtR w a l) := ha
  generalize hQ : (fun (e : Ending) (w' : World) => (∃ t : Bool, e = .returned (.bool t) ∧ (t = true → n ≤ 210)) ∧ Below w.heap.size w w') = Q
  have R : Aside (∀ t w', (t = true → n ≤ 210) → Below w.heap.size w w' → Q (.returned (.bool t)) w') := by
    intro t w' h1 h2; rw [← hQ]; exact ⟨⟨t, rfl, h1⟩, h2⟩
  clear ha hQ
  go_enter Try.func12, Try.ntmps12
  go_wp2_with fail
  go_loopw [3, 8] (fun s i wr => ∃ (k : Nat) (z : Int), k ≤ n ∧ i = .int .i64 k ∧ s = .int .i64 z ∧ Below w.heap.size w wr) (fun _ i _ => n - (intOf i).toNat)
  case atStart => exact ⟨0, 0, Nat.zero_le _, rfl, rfl, Below.refl _ _⟩
  case round =>
    obtain ⟨k, z, hk, rfl, rfl, hb⟩ := hrel
    by_cases hlt : k < n
    · have hk1 : k < l.length := by rw [hn.out]; exact hlt
      rcases C.out with he | ⟨b, off, rfl, hcs⟩
      · exfalso; rw [he] at hk1; simp at hk1
      obtain ⟨c0, c1, c2, c3⟩ := refAt_later hb rfl (hcs k l[k] (List.getElem?_eq_getElem hk1))
      generalize l[k].kind = fk at c0
      generalize l[k].num.toNat = fn at c1
      generalize l[k].text = ft at c2
      generalize l[k].real.toNat = fr at c3
      clear hcs
      go_wp2
      have hbb : ∀ o, Below w.heap.size w (wr.alloc o) := fun o => hb.alloc hb.size o
      go_roundw
      case rel => exact ⟨k + 1, _, by omega, by go_num, rfl, hbb _⟩
      case measure => simp [intOf]; omega
    · obtain rfl : k = n := by omega
      by_cases h2 : k ≤ 210
      · have t1 : (k : Int) ≤ 210 := by omega
        have R1 : Aside (∀ t, Q (.returned (.bool t)) wr) := fun t => R.out t wr (fun _ => h2) hb
        clear R
        go_wp2
        exact R1.out _
      · have t1 : ¬ (k : Int) ≤ 210 := by omega
        have R1 := R.out false wr (fun h => by cases h) hb
        clear R
        go_wp2
        exact R1

end Go.Proofs.Ytjcgkljncaphhaa
