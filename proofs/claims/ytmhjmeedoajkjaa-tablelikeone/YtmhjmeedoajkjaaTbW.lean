/- Acts in memory; how far bases rise; membership as the laws ask it. -/
import Derived.Test.YtmhjmeedoajkjaaTbV
set_option linter.unusedVariables false
namespace Go.Proofs.Ytmhjmeedoajkjaa
open Go.RowKit Go.Shelf

/-- A vote on a name, as it comes in. -/
structure Ac where
  nv : Int
  nf : Nat
  ns : Int
  kind : Int
  who : Nat
  body : ByteArray
def acC (x : Ac) : List Value := [.int .i64 x.nv, .int .u8 (x.nf : Int), .int .i64 x.ns, .int .i64 x.kind, .int .u8 (x.who : Int), .string x.body]
def AtA (w : World) (a : Option Addr) (l : List Ac) : Prop :=
  l = [] ∨ ∃ b off, a = some ⟨b, off, none⟩ ∧ ∀ (j : Nat) (e : Ac), l[j]? = some e → ∀ i u, (acC e)[i]? = some u → w.cell? ⟨b, off + j * 6 + i, none⟩ = some u
theorem AtA.later {w w' : World} {a : Option Addr} {l : List Ac} (h : AtA w a l) (hb : Below w.heap.size w w') : AtA w' a l := by
  rcases h with rfl | ⟨b, off, rfl, hc⟩
  · exact .inl rfl
  · exact .inr ⟨b, off, rfl, fun j e he i u hu => cell_later hb (hc j e he i u hu)⟩
theorem AtA.get {w : World} {a : Option Addr} {l : List Ac} (h : AtA w a l) {j : Nat} (hj : j < l.length) : ∃ b off x, a = some ⟨b, off, none⟩ ∧ l[j]? = some x ∧ ∀ i u, (acC x)[i]? = some u → w.cell? ⟨b, off + j * 6 + i, none⟩ = some u := by
  rcases h with rfl | ⟨b, off, rfl, hc⟩
  · simp at hj
  · exact ⟨b, off, l[j], rfl, List.getElem?_eq_getElem hj, hc j _ (List.getElem?_eq_getElem hj)⟩
def A6 (w : World) (b : Nat) (x : Ac) : Prop := w.heap[b]? = some (.cells (acC x).toArray 35 (0, 0))
def ac0 : Ac := ⟨0, 0, 0, 0, 0, ⟨#[]⟩⟩
theorem A6.zero (w : World) : A6 (w.alloc (.cells #[.int .i64 0, .int .u8 0, .int .i64 0, .int .i64 0, .int .u8 0, .string ⟨#[]⟩] 35)) w.heap.size ac0 := heap_alloc_new w _
theorem A6.lt {w : World} {b : Nat} {x : Ac} (h : A6 w b x) : b < w.heap.size := (Array.getElem?_eq_some_iff.1 h).1
theorem A6.later {w w' : World} {b : Nat} {x : Ac} (h : A6 w b x) (hb : Below w.heap.size w w') : A6 w' b x := (hb.block b h.lt).trans h
theorem A6.whole {w : World} {b : Nat} {x : Ac} (h : A6 w b x) (y : Ac) : A6 (w.setCells b 0 (acC y)) b y := by
  exact row_whole (cs := (acC y).toArray) h rfl
theorem A6.cells {w : World} {b : Nat} {x : Ac} (h : A6 w b x) : w.cell? ⟨b, 0, none⟩ = some (.int .i64 x.nv) ∧ w.cell? ⟨b, 1, none⟩ = some (.int .u8 (x.nf : Int)) ∧ w.cell? ⟨b, 2, none⟩ = some (.int .i64 x.ns) ∧ w.cell? ⟨b, 3, none⟩ = some (.int .i64 x.kind) ∧ w.cell? ⟨b, 4, none⟩ = some (.int .u8 (x.who : Int)) ∧ w.cell? ⟨b, 5, none⟩ = some (.string x.body) :=
  ⟨cell_of_row w b 0 _ 35 _ h, cell_of_row w b 1 _ 35 _ h, cell_of_row w b 2 _ 35 _ h, cell_of_row w b 3 _ 35 _ h, cell_of_row w b 4 _ 35 _ h, cell_of_row w b 5 _ 35 _ h⟩
theorem acC_one (x : Ac) : ∀ u ∈ acC x, u.oneCell' = true := by
  intro u hu
  simp only [acC, List.mem_cons, List.not_mem_nil, or_false] at hu
  rcases hu with rfl | rfl | rfl | rfl | rfl | rfl <;> rfl
theorem wpList_act {w : World} {ops : Array Oper} {rest : List Oper} {o : Oper} {a : Act} {Q : Exit → Act → World → Prop} {b off : Nat} {x : Ac} (h : ∀ i u, (acC x)[i]? = some u → w.cell? ⟨b, off + i, none⟩ = some u) (hg : o.guard = none) (p : Operand) (ho : o.op = .load 35 p)
    (hp : a.eval p = .pointer (some ⟨b, off, none⟩)) (hn : wpList Try.prog ops Q rest (a.put o.dst (.agg (acC x).toArray)) w) : wpList Try.prog ops Q (o :: rest) a w :=
  wpList_loadw 35 6 p ho Try.isAgg35 Try.sizeOf35 (acC x) rfl b off h hp (by simp [Region.wanted, hg]) hn
theorem wpList_act_store {w : World} {ops : Array Oper} {rest : List Oper} {o : Oper} {a : Act} {Q : Exit → Act → World → Prop} {b : Nat} {x y : Ac} (h : A6 w b x) (hg : o.guard = none) (p z : Operand) (ho : o.op = .store 35 p z)
    (hp : a.eval p = .pointer (some ⟨b, 0, none⟩)) (hx : a.eval z = .agg (acC y).toArray) (hn : wpList Try.prog ops Q rest (a.put o.dst undef) (w.setCells b 0 (acC y))) : wpList Try.prog ops Q (o :: rest) a w := by
  refine wpList_store hg 35 6 p z ho (Try.sizeOf35 w) (acC y) rfl b 0 hp hx (fun j hj => ?_) (fun j _ => frozen_of_row w b _ _ 35 h) (acC_one y) hn
  have hj : j < 6 := hj
  rw [Nat.zero_add, cell_of_row w b j _ 35 _ h, Array.getElem?_eq_getElem (show j < ((acC x).toArray).size from hj)]; rfl

namespace Tb
/-- Bases never fall, and rise by eight at most. -/
theorem take_base {t : Tab} (h : Rt t) (v : Int) (f : Nat) (s : Int) (kind : Int) (id : Nat) (x : ByteArray) (i : Nat) : t.base i ≤ (take t v f s kind id x).t.base i ∧ (take t v f s kind id x).t.base i ≤ t.base i + 8 := by
  rcases take_ways t v f s kind id x with ⟨e, _, he⟩ | ⟨u, hm, hu, _, he⟩ <;> rw [he]
  · exact ⟨Nat.le_refl _, Nat.le_add_right _ _⟩
  · obtain ⟨_, hf, s0, s1, s2, s3⟩ := may_zero hm
    have hC := close_closed (f := f) (b := t.base f) (put_srt h.srt ⟨f, s, u.c⟩)
    generalize closeO f (putO t.opn ⟨f, s, u.c⟩).length (putO t.opn ⟨f, s, u.c⟩) (t.base f) = p at hC
    obtain ⟨m, d⟩ := p
    show t.base i ≤ updB t.base f d i ∧ updB t.base f d i ≤ t.base i + 8
    by_cases hi : i = f
    · subst hi
      rw [updB_at]
      refine ⟨hC.le, ?_⟩
      by_cases e : t.base i < d
      · obtain ⟨o, h1, h2, h3, _⟩ := hC.gone (d - 1) (by omega) (by omega)
        rcases mem_put.1 h1 with rfl | ⟨ho, _⟩
        · have h3' : s = ((d - 1 : Nat) : Int) := h3
          omega
        · have := (h.ok o ho).hi
          rw [h2] at this; omega
      · omega
    · rw [updB_ne _ _ hi]; exact ⟨Nat.le_refl _, Nat.le_add_right _ _⟩
theorem take_old {t : Tab} {f : Nat} {s : Int} (hf : Cn.hasS t.ms f = true) (h0 : 0 ≤ s) (h1 : s < 1000) (kind : Int) (id : Nat) (x : ByteArray) :
    (s < (t.base f : Int) → (take t t.view f s kind id x).e = 6) ∧ ((t.base f : Int) + 8 ≤ s → (take t t.view f s kind id x).e = 7) := by
  have hm : may t t.view f s = if s < (t.base f : Int) then 6 else if (t.base f : Int) + 8 ≤ s then 7 else 0 := by
    unfold may; rw [if_neg (by simp), if_neg (by rw [hf]; decide), if_neg (by omega)]
  refine ⟨fun h => ?_, fun h => ?_⟩
  · rw [if_pos h] at hm
    unfold take; rw [hm, if_pos (by decide)]; rfl
  · rw [if_neg (by omega), if_pos h] at hm
    unfold take; rw [hm, if_pos (by decide)]; rfl
end Tb
/-- Membership as the laws ask it: the bit behind a shift. -/
theorem has_bit (ms f : Nat) (hf : f < 16) : ((ms : Int) / 2 ^ f).tmod 2 = if Cn.hasS ms f then 1 else 0 := by
  have h1 : ((ms : Int) / 2 ^ f) = ((ms / 2 ^ f : Nat) : Int) := by
    rw [Int.natCast_ediv, Int.natCast_pow]; rfl
  have h2 : Cn.hasS ms f = decide (ms / 2 ^ f % 2 = 1) := by
    unfold Cn.hasS
    rw [decide_eq_true (by omega : f ≤ 15), Bool.true_and, Nat.testBit_eq_decide_div_mod_eq]
  rw [h1, h2]
  generalize ms / 2 ^ f = q
  rw [Int.tmod_eq_emod_of_nonneg (by omega)]
  by_cases h : q % 2 = 1
  · rw [decide_eq_true h]; simp; omega
  · rw [decide_eq_false h]; simp; omega
end Go.Proofs.Ytmhjmeedoajkjaa
