/- Bodies compared; guarded loads; alive. -/
import Derived.Test.YtkphpdejcmkdeaaPsN
set_option linter.unusedVariables false
namespace Go.Proofs.Ytkphpdejcmkdeaa
open Go.RowKit Go.Shelf
namespace Ps

def eqB (a b : Bd) : Bool := decide (a.kind = b.kind) && eqV a.past b.past && decide (a.text = b.text)
theorem eqB_iff {a b : Bd} : eqB a b = true ↔ Alike a b := by
  unfold eqB Alike
  simp only [Bool.and_eq_true, decide_eq_true_eq, eqV_iff, and_assoc]
theorem eqB_alike {a b : Bd} (h : Alike a b) : eqB a b = true := eqB_iff.2 h
theorem part_kind (b : Bd) (w : World) : (Go.part 3 (bdA b) 0).run Try.prog w = .ok (.int .i64 b.kind) w := by
  have h := bdA_kind b
  have h1 := Try.isAgg3 (w := w)
  generalize bdA b = A at h
  simp [Go.part, h1, h]
theorem part_text (b : Bd) (w : World) : (Go.part 9 (bdA b) 17).run Try.prog w = .ok (.string b.text) w := by
  have h := bdA_text b
  have h1 := Try.isAgg9 (w := w)
  generalize bdA b = A at h
  simp [Go.part, h1, h]
theorem part_past (b : Bd) (w : World) : (Go.part 24 (bdA b) 1).run Try.prog w = .ok (.agg (vecA b.past)) w := by
  have h : (bdA b).extract 1 17 = vecA b.past := rfl
  have h1 := Try.isAgg24 (w := w)
  generalize bdA b = A at h
  simp [Go.part, h1, h]
theorem eq_arr (x y : ByteArray) : (x.toList == y.toList) = decide (x = y) := by
  rw [ByteArray.toList_eq, ByteArray.toList_eq]
  by_cases h : x = y
  · subst h; simp
  · have : ¬ x.data.toList = y.data.toList := by
      intro e
      apply h
      cases x; cases y
      simp only [ByteArray.mk.injEq]
      exact Array.toList_inj.1 e
    rw [decide_eq_false h]; simpa using this
theorem eqFields3 {P : Program} {w : World} (d : Nat) (f0 f1 f2 : Field) (xs ys : Array Value) (u0 v0 u1 v1 u2 v2 : Value) (r0 r1 r2 : Bool) (n0 : f0.name ≠ "_") (n1 : f1.name ≠ "_") (n2 : f2.name ≠ "_")
    (p0 : (Go.part f0.type xs f0.offset).run P w = .ok u0 w) (q0 : (Go.part f0.type ys f0.offset).run P w = .ok v0 w) (e0 : (Op.equalIn d f0.type u0 v0).run P w = .ok r0 w)
    (p1 : (Go.part f1.type xs f1.offset).run P w = .ok u1 w) (q1 : (Go.part f1.type ys f1.offset).run P w = .ok v1 w) (e1 : (Op.equalIn d f1.type u1 v1).run P w = .ok r1 w)
    (p2 : (Go.part f2.type xs f2.offset).run P w = .ok u2 w) (q2 : (Go.part f2.type ys f2.offset).run P w = .ok v2 w) (e2 : (Op.equalIn d f2.type u2 v2).run P w = .ok r2 w) :
    (Op.eqFields d xs ys [f0, f1, f2]).run P w = .ok (r0 && r1 && r2) w := by
  simp only [Op.eqFields, n0, n1, n2, ne_eq, not_false_eq_true, if_true, Sem.run_bind, p0, q0, e0, Result.andThen_ok]
  cases r0
  · simp
  · simp only [Bool.not_true, Bool.false_eq_true, if_false, Sem.run_bind, p1, q1, e1, Result.andThen_ok]
    cases r1
    · simp
    · simp only [Bool.not_true, Bool.false_eq_true, if_false, Sem.run_bind, p2, q2, e2, Result.andThen_ok]
      cases r2 <;> simp
theorem equalIn_bd (T : TypeId) (f0 f1 f2 : Field) (hu : Try.prog.underlying T = some (.struct #[f0, f1, f2])) (hp : Try.prog.stoodInHeld T = false) (n0 : f0.name ≠ "_") (n1 : f1.name ≠ "_") (n2 : f2.name ≠ "_")
    (o : f0.offset = 0 ∧ f1.offset = 1 ∧ f2.offset = 17) (t : f0.type = 3 ∧ f1.type = 24 ∧ f2.type = 9) (a b : Bd) (w : World) (d : Nat) :
    (Op.equalIn (d + 1 + 1 + 1) T (.agg (bdA a)) (.agg (bdA b))).run Try.prog w = .ok (eqB a b) w := by
  have hf : Try.prog.fieldsOf T = #[f0, f1, f2] := by unfold Program.fieldsOf; rw [hu]
  rw [run_equalIn_struct w (d + 1 + 1) T _ _ (by rw [hf]; exact hu) hp, hf]
  obtain ⟨o0, o1, o2⟩ := o
  obtain ⟨t0, t1, t2⟩ := t
  have e0 := run_equalIn_int (P := Try.prog) w (d + 1) 3 .i64 .i64 a.kind b.kind Try.underlying3
  have e1 := equalIn_vec a.past b.past w d
  have e2 := run_equalIn_string (P := Try.prog) w (d + 1) 9 a.text b.text Try.underlying9
  rw [eq_arr] at e2
  rw [show (a.kind == b.kind) = decide (a.kind = b.kind) from by by_cases h : a.kind = b.kind <;> simp [h]] at e0
  exact eqFields3 (d + 1 + 1) f0 f1 f2 (bdA a) (bdA b) (.int .i64 a.kind) (.int .i64 b.kind) (.agg (vecA a.past)) (.agg (vecA b.past)) (.string a.text) (.string b.text) _ _ _ n0 n1 n2
    (by rw [t0, o0]; exact part_kind a w) (by rw [t0, o0]; exact part_kind b w) (by rw [t0]; exact e0)
    (by rw [t1, o1]; exact part_past a w) (by rw [t1, o1]; exact part_past b w) (by rw [t1]; exact e1)
    (by rw [t2, o2]; exact part_text a w) (by rw [t2, o2]; exact part_text b w) (by rw [t2]; exact e2)
theorem eql_bd35 (a b : Bd) (w : World) : (binOp .eql 35 (.agg (bdA a)) (.agg (bdA b))).run Try.prog w = .ok (.bool (eqB a b)) w := by
  rw [run_eql_struct, show (10000 : Nat) = 9997 + 1 + 1 + 1 from rfl, equalIn_bd 35 _ _ _ Try.underlying35 (by kernel_rfl) (by decide) (by decide) (by decide) ⟨rfl, rfl, rfl⟩ ⟨rfl, rfl, rfl⟩]; rfl
theorem eql_bd29 (a b : Bd) (w : World) : (binOp .eql 29 (.agg (bdA a)) (.agg (bdA b))).run Try.prog w = .ok (.bool (eqB a b)) w := by
  rw [run_eql_struct, show (10000 : Nat) = 9997 + 1 + 1 + 1 from rfl, equalIn_bd 29 _ _ _ Try.underlying29 (by kernel_rfl) (by decide) (by decide) (by decide) ⟨rfl, rfl, rfl⟩ ⟨rfl, rfl, rfl⟩]; rfl
theorem neq_bd29 (a b : Bd) (w : World) : (binOp .neq 29 (.agg (bdA a)) (.agg (bdA b))).run Try.prog w = .ok (.bool (!eqB a b)) w := by
  rw [run_neq_struct, show (10000 : Nat) = 9997 + 1 + 1 + 1 from rfl, equalIn_bd 29 _ _ _ Try.underlying29 (by kernel_rfl) (by decide) (by decide) (by decide) ⟨rfl, rfl, rfl⟩ ⟨rfl, rfl, rfl⟩]; rfl
theorem neq_vec (f g : Nat → Nat) (w : World) : (binOp .neq 24 (.agg (vecA f)) (.agg (vecA g))).run Try.prog w = .ok (.bool (!eqV f g)) w := by
  rw [run_neq_struct, show (10000 : Nat) = 9998 + 1 + 1 from rfl, equalIn_vec]; rfl
theorem guard_eql35 (x y : Operand) (xs ys : Array Value) (w : World) : (eqGuard .eql 35 x y (.agg xs) (.agg ys)).run Try.prog w = .ok () w := run_eqGuard_agg w .eql 35 x y _ _ (by kernel_rfl)
theorem guard_eql29 (x y : Operand) (xs ys : Array Value) (w : World) : (eqGuard .eql 29 x y (.agg xs) (.agg ys)).run Try.prog w = .ok () w := run_eqGuard_agg w .eql 29 x y _ _ (by kernel_rfl)
theorem guard_neq29 (x y : Operand) (xs ys : Array Value) (w : World) : (eqGuard .neq 29 x y (.agg xs) (.agg ys)).run Try.prog w = .ok () w := run_eqGuard_agg w .neq 29 x y _ _ (by kernel_rfl)
theorem guard_eql24 (x y : Operand) (xs ys : Array Value) (w : World) : (eqGuard .eql 24 x y (.agg xs) (.agg ys)).run Try.prog w = .ok () w := run_eqGuard_agg w .eql 24 x y _ _ (by kernel_rfl)
theorem guard_neq24 (x y : Operand) (xs ys : Array Value) (w : World) : (eqGuard .neq 24 x y (.agg xs) (.agg ys)).run Try.prog w = .ok () w := run_eqGuard_agg w .neq 24 x y _ _ (by kernel_rfl)

/-- A load of a plain region, guarded or not. -/
theorem wpList_loadw {P : Program} {w : World} {ops : Array Oper} {rest : List Oper} {o : Oper} {a : Act} {Q : Exit → Act → World → Prop} (T k : Nat) (p : Operand) (ho : o.op = .load T p)
    (aE : (isAgg T).run P w = .ok true w) (zE : (Go.sizeOf T).run P w = .ok k w) (arr : Array Value) (ad : Addr) (hp : a.eval p = .pointer (some ad)) (hl : Sem.run P (loadCellsFrom ad 0 k #[]) w = .ok arr w) (hw : Region.wanted o (yielded ops a.tmps) = true)
    (h : wpList P ops Q rest (a.put o.dst (.agg arr)) w) : wpList P ops Q (o :: rest) a w := by
  unfold wpList
  rw [if_pos hw]
  left
  unfold Oper.wp
  rw [exec_load T k w aE zE arr ad hl a o p ho hp]
  exact h
theorem wpList_vec_g {w : World} {ops : Array Oper} {rest : List Oper} {o : Oper} {a : Act} {Q : Exit → Act → World → Prop} {b : Nat} {f : Nat → Nat} (h : V16 w b f) (p : Operand) (ho : o.op = .load 24 p)
    (hp : a.eval p = .pointer (some ⟨b, 0, none⟩)) (hw : Region.wanted o (yielded ops a.tmps) = true) (hn : wpList Try.prog ops Q rest (a.put o.dst (.agg (vecA f))) w) : wpList Try.prog ops Q (o :: rest) a w :=
  wpList_loadw 24 16 p ho (Try.isAgg24 _) (Try.sizeOf24 _) _ _ hp (load_vec h) hw hn
theorem wpList_sub_g {w : World} {ops : Array Oper} {rest : List Oper} {o : Oper} {a : Act} {Q : Exit → Act → World → Prop} {b : Nat} {t : TypeId} {x : Bd} (h : B18 w b t x) (p : Operand) (ho : o.op = .load 24 p)
    (hp : a.eval p = .pointer (some ⟨b, 1, none⟩)) (hw : Region.wanted o (yielded ops a.tmps) = true) (hn : wpList Try.prog ops Q rest (a.put o.dst (.agg (vecA x.past))) w) : wpList Try.prog ops Q (o :: rest) a w :=
  wpList_loadw 24 16 p ho (Try.isAgg24 _) (Try.sizeOf24 _) _ _ hp (load_sub h) hw hn
theorem wpList_bd35_g {w : World} {ops : Array Oper} {rest : List Oper} {o : Oper} {a : Act} {Q : Exit → Act → World → Prop} {b : Nat} {t : TypeId} {x : Bd} (h : B18 w b t x) (p : Operand) (ho : o.op = .load 35 p)
    (hp : a.eval p = .pointer (some ⟨b, 0, none⟩)) (hw : Region.wanted o (yielded ops a.tmps) = true) (hn : wpList Try.prog ops Q rest (a.put o.dst (.agg (bdA x))) w) : wpList Try.prog ops Q (o :: rest) a w :=
  wpList_loadw 35 18 p ho (Try.isAgg35 _) (Try.sizeOf35 _) _ _ hp (load_bd h) hw hn
theorem wpList_bd29_g {w : World} {ops : Array Oper} {rest : List Oper} {o : Oper} {a : Act} {Q : Exit → Act → World → Prop} {b : Nat} {t : TypeId} {x : Bd} (h : B18 w b t x) (p : Operand) (ho : o.op = .load 29 p)
    (hp : a.eval p = .pointer (some ⟨b, 0, none⟩)) (hw : Region.wanted o (yielded ops a.tmps) = true) (hn : wpList Try.prog ops Q rest (a.put o.dst (.agg (bdA x))) w) : wpList Try.prog ops Q (o :: rest) a w :=
  wpList_loadw 29 18 p ho (Try.isAgg29 _) (Try.sizeOf29 _) _ _ hp (load_bd h) hw hn

/-- The body of the example. -/
def exB : Bd := ⟨1, fun i => if i = 0 then 2 else if i = 1 then 1 else 0, ⟨#[120]⟩⟩
theorem exB_may : may exB = true := by decide +kernel
theorem exB_small : Small exB := fun i _ => by show (if i = 0 then 2 else if i = 1 then 1 else 0) < 65536; split <;> (try split) <;> omega
theorem exB_enc : encS exB = ⟨(bytes exB).toArray⟩ ∧ encK exB = 0 := by unfold encS encK; rw [exB_may]; exact ⟨rfl, rfl⟩
theorem exB_dec : bdA (decB (bytes exB)) = bdA exB ∧ decK (bytes exB) = 0 := by
  obtain ⟨b', h, ha⟩ := dec_bytes exB_may
  unfold decB decK
  rw [h]
  exact ⟨bdA_alike ha, rfl⟩
theorem ex_none : dec [120] = none := by
  have h : (dec [120]).isNone = true := by decide +kernel
  exact Option.isNone_iff_eq_none.1 h
end Ps
end Go.Proofs.Ytkphpdejcmkdeaa
