/- The document's words on bodies, as plain functions: vectors, which bodies may be, their fields, their bytes, and back. -/
import Derived.Test.YtkphpdejcmkdeaaMath
namespace Go.Proofs.Ytkphpdejcmkdeaa
namespace Ps

def joinV (f g : Nat → Nat) : Nat → Nat := fun i => max (f i) (g i)
def belowB (f g : Nat → Nat) : Bool := (List.range 16).all fun i => decide (f i ≤ g i)
def eqV (f g : Nat → Nat) : Bool := (List.range 16).all fun i => decide (f i = g i)
theorem belowB_iff {f g : Nat → Nat} : belowB f g = true ↔ ∀ i, i < 16 → f i ≤ g i := by
  unfold belowB; rw [List.all_eq_true]
  exact ⟨fun h i hi => of_decide_eq_true (h i (List.mem_range.2 hi)), fun h i hi => decide_eq_true (h i (List.mem_range.1 hi))⟩
theorem eqV_iff {f g : Nat → Nat} : eqV f g = true ↔ ∀ i, i < 16 → f i = g i := by
  unfold eqV; rw [List.all_eq_true]
  exact ⟨fun h i hi => of_decide_eq_true (h i (List.mem_range.2 hi)), fun h i hi => decide_eq_true (h i (List.mem_range.1 hi))⟩
/-- One is below another one just if their join is that. -/
theorem eqV_join (f g : Nat → Nat) : eqV (joinV f g) g = belowB f g := by
  rw [Bool.eq_iff_iff, eqV_iff, belowB_iff]
  unfold joinV
  exact ⟨fun h i hi => by have := h i hi; omega, fun h i hi => by have := h i hi; omega⟩

structure Bd where
  kind : Int
  past : Nat → Nat
  text : ByteArray

def may (b : Bd) : Bool := decide (1 ≤ b.kind) && decide (b.kind ≤ 3) && belowB b.past (fun _ => 1000) && decide (b.text.size ≤ 400)
theorem may_iff {b : Bd} : may b = true ↔ 1 ≤ b.kind ∧ b.kind ≤ 3 ∧ (∀ i, i < 16 → b.past i ≤ 1000) ∧ b.text.size ≤ 400 := by
  unfold may; simp [and_assoc, belowB_iff]

def num (n : Nat) : Pk.Fld := ⟨1, UInt64.ofNat n, ⟨#[]⟩, 0⟩
def txt (s : ByteArray) : Pk.Fld := ⟨2, 0, s, 0⟩
/-- The fields of a body, as far as its k-th number. -/
def pre (b : Bd) (k : Nat) : List Pk.Fld := num b.kind.toNat :: (List.range k).map fun i => num (b.past i)
def flds (b : Bd) : List Pk.Fld := pre b 16 ++ [txt b.text]
def bytes (b : Bd) : List UInt8 := Pk.allB (flds b)

theorem pre_succ (b : Bd) (k : Nat) : pre b (k + 1) = pre b k ++ [num (b.past k)] := by
  unfold pre; rw [List.range_succ, List.map_append]; rfl
theorem pre_len (b : Bd) (k : Nat) : (pre b k).length = k + 1 := by simp [pre]
theorem flds_len (b : Bd) : (flds b).length = 18 := by simp [flds, pre_len]

/-- Two bodies that are the same, as far as a body goes. -/
def Alike (a b : Bd) : Prop := a.kind = b.kind ∧ (∀ i, i < 16 → a.past i = b.past i) ∧ a.text = b.text
theorem Alike.refl (a : Bd) : Alike a a := ⟨rfl, fun _ _ => rfl, rfl⟩
theorem Alike.symm {a b : Bd} (h : Alike a b) : Alike b a := ⟨h.1.symm, fun i hi => (h.2.1 i hi).symm, h.2.2.symm⟩
theorem Alike.trans {a b c : Bd} (h : Alike a b) (g : Alike b c) : Alike a c := ⟨h.1.trans g.1, fun i hi => (h.2.1 i hi).trans (g.2.1 i hi), h.2.2.trans g.2.2⟩
theorem flds_alike {a b : Bd} (h : Alike a b) : flds a = flds b := by
  obtain ⟨h1, h2, h3⟩ := h
  unfold flds pre
  rw [h1, h3]
  congr 2
  exact List.map_congr_left fun i hi => by rw [h2 i (List.mem_range.1 hi)]
theorem bytes_alike {a b : Bd} (h : Alike a b) : bytes a = bytes b := by unfold bytes; rw [flds_alike h]
theorem may_alike {a b : Bd} (h : Alike a b) : may a = may b := by
  rw [Bool.eq_iff_iff, may_iff, may_iff]
  obtain ⟨h1, h2, h3⟩ := h
  rw [h1, h3]
  exact ⟨fun ⟨a1, a2, a3, a4⟩ => ⟨a1, a2, fun i hi => h2 i hi ▸ a3 i hi, a4⟩, fun ⟨a1, a2, a3, a4⟩ => ⟨a1, a2, fun i hi => (h2 i hi).symm ▸ a3 i hi, a4⟩⟩

theorem num_may (n : Nat) : Pk.may (num n) = true := rfl
theorem txt_may {s : ByteArray} (h : s.size ≤ 400) : Pk.may (txt s) = true := by
  show (decide (((0 : UInt64)).toNat = 0) && decide (((0 : UInt64)).toNat = 0) && decide (s.size ≤ 2000)) = true
  rw [decide_eq_true (show s.size ≤ 2000 by omega)]; rfl
theorem num_len {n : Nat} (h : n < 18446744073709551616) : (Pk.encB (num n)).length ≤ 10 := by
  unfold num
  rw [Pk.encB_1]
  have : (UInt64.ofNat n).toNat = n := Pk.u64_to h
  rw [this]
  have := Pk.nb_le8 n h
  simp only [Pk.numB, List.length_cons, Pk.lo_length]; omega
theorem txt_len {s : ByteArray} (h : s.size ≤ 400) : (Pk.encB (txt s)).length ≤ 410 := by
  unfold txt
  rw [Pk.encB_2]
  have := Pk.nb_le8 s.size (by omega)
  have h2 : s.data.toList.length = s.size := Array.length_toList
  simp only [Pk.numB, List.length_cons, List.length_append, Pk.lo_length, h2]; omega
theorem fsB_append (l m : List Pk.Fld) : Pk.fsB (l ++ m) = Pk.fsB l ++ Pk.fsB m := by unfold Pk.fsB; rw [List.flatMap_append]
theorem nums_len : ∀ (l : List Nat), (∀ n ∈ l, n < 18446744073709551616) → (Pk.fsB (l.map num)).length ≤ l.length * 10
  | [], _ => by simp [Pk.fsB]
  | n :: l, h => by
    have h1 := num_len (h n (List.mem_cons_self ..))
    have h2 := nums_len l fun m hm => h m (List.mem_cons_of_mem _ hm)
    have e : Pk.fsB ((n :: l).map num) = Pk.encB (num n) ++ Pk.fsB (l.map num) := by unfold Pk.fsB; rw [List.map_cons, List.flatMap_cons]
    rw [e, List.length_append, List.length_cons]; omega
theorem pre_nums (b : Bd) (k : Nat) : pre b k = (b.kind.toNat :: (List.range k).map b.past).map num := by
  unfold pre; rw [List.map_cons, List.map_map]; rfl

theorem enc_ok {b : Bd} (h : may b = true) : Pk.encE (flds b) = 0 := by
  obtain ⟨h1, h2, h3, h4⟩ := may_iff.1 h
  refine Pk.encE_zero.2 ⟨?_, by rw [flds_len]; omega, ?_⟩
  · rw [List.all_eq_true]
    intro f hf
    simp only [flds, pre, List.mem_append, List.mem_cons, List.mem_map, List.not_mem_nil, or_false] at hf
    rcases hf with (rfl | ⟨i, _, rfl⟩) | rfl
    · exact num_may _
    · exact num_may _
    · exact txt_may h4
  · unfold Pk.allB flds
    rw [List.length_cons, fsB_append, List.length_append, pre_nums]
    have a := nums_len (b.kind.toNat :: (List.range 16).map b.past) (by
      intro n hn
      rcases List.mem_cons.1 hn with rfl | hn
      · omega
      · obtain ⟨i, hi, rfl⟩ := List.mem_map.1 hn
        have := h3 i (List.mem_range.1 hi); omega)
    have c := txt_len h4
    have d : Pk.fsB [txt b.text] = Pk.encB (txt b.text) := by unfold Pk.fsB; simp
    rw [d]
    simp only [List.length_cons, List.length_map, List.length_range] at a
    omega

/-- The body that fields tell. -/
def ofF (l : List Pk.Fld) : Bd :=
  ⟨(((l[0]?.map fun f => f.num.toNat).getD 0 : Nat) : Int), fun i => (l[1 + i]?.map fun f => f.num.toNat).getD 0, (l[17]?.map fun f => f.text).getD ⟨#[]⟩⟩
/-- The body of bytes. -/
def dec (bs : List UInt8) : Option Bd :=
  match Pk.decP bs with
  | none => none
  | some l => if may (ofF l) = true ∧ bytes (ofF l) = bs then some (ofF l) else none

theorem flds_zero (b : Bd) : (flds b)[0]? = some (num b.kind.toNat) := rfl
theorem flds_num (b : Bd) {i : Nat} (hi : i < 16) : (flds b)[1 + i]? = some (num (b.past i)) := by
  unfold flds
  rw [List.getElem?_append_left (by rw [pre_len]; omega), show 1 + i = i + 1 by omega]
  unfold pre
  rw [List.getElem?_cons_succ, List.getElem?_map, List.getElem?_range hi]; rfl
theorem flds_txt (b : Bd) : (flds b)[17]? = some (txt b.text) := by
  unfold flds
  rw [List.getElem?_append_right (by rw [pre_len]; omega), pre_len]; rfl
theorem ofF_flds {b : Bd} (h0 : 0 ≤ b.kind) (h1 : b.kind < 18446744073709551616) (h2 : ∀ i, i < 16 → b.past i < 18446744073709551616) : Alike (ofF (flds b)) b := by
  refine ⟨?_, fun i hi => ?_, ?_⟩
  · show ((((flds b)[0]?.map fun f => f.num.toNat).getD 0 : Nat) : Int) = _
    rw [flds_zero]
    show (((UInt64.ofNat b.kind.toNat).toNat : Nat) : Int) = _
    rw [Pk.u64_to (by omega)]; omega
  · show (((flds b)[1 + i]?.map fun f => f.num.toNat).getD 0 : Nat) = _
    rw [flds_num b hi]
    exact Pk.u64_to (h2 i hi)
  · show (((flds b)[17]?.map fun f => f.text).getD ⟨#[]⟩) = _
    rw [flds_txt]; rfl
theorem ofF_may {b : Bd} (h : may b = true) : Alike (ofF (flds b)) b := by
  obtain ⟨h1, h2, h3, _⟩ := may_iff.1 h
  exact ofF_flds (by omega) (by omega) fun i hi => by have := h3 i hi; omega

theorem dec_some {bs : List UInt8} {b : Bd} (h : dec bs = some b) : may b = true ∧ bytes b = bs := by
  unfold dec at h
  rcases hd : Pk.decP bs with _ | l <;> rw [hd] at h
  · cases h
  · simp only at h
    split at h
    · cases h; assumption
    · cases h
theorem dec_bytes {b : Bd} (h : may b = true) : ∃ b', dec (bytes b) = some b' ∧ Alike b' b := by
  have hd : Pk.decP (bytes b) = some (flds b) := Pk.decP_enc (enc_ok h)
  have ha := ofF_may h
  refine ⟨ofF (flds b), ?_, ha⟩
  unfold dec
  rw [hd]
  simp only
  rw [if_pos ⟨by rw [may_alike ha]; exact h, bytes_alike ha⟩]
theorem bytes_inj {a b : Bd} (ha : may a = true) (hb : may b = true) (h : bytes a = bytes b) : Alike a b := by
  obtain ⟨x, hx, xa⟩ := dec_bytes ha
  obtain ⟨y, hy, yb⟩ := dec_bytes hb
  rw [h] at hx
  rw [hx] at hy
  cases hy
  exact xa.symm.trans yb

/-- The kinds of a body's fields. -/
def kinds : List Int := List.replicate 17 1 ++ [2]
theorem flds_kinds (b : Bd) : (flds b).map (·.kind) = kinds := rfl

theorem fld_num {f : Pk.Fld} (h : Pk.may f = true) (hk : f.kind = 1) : f = num f.num.toNat := by
  obtain ⟨k, n, s, r⟩ := f
  simp only at hk
  subst hk
  simp only [Pk.may, if_true, Bool.and_eq_true, decide_eq_true_eq] at h
  have h1 := Pk.size_zero h.1
  have h2 := Pk.u64_zero h.2
  subst h1 h2
  unfold num
  simp
theorem fld_txt {f : Pk.Fld} (h : Pk.may f = true) (hk : f.kind = 2) : f = txt f.text := by
  obtain ⟨k, n, s, r⟩ := f
  simp only at hk
  subst hk
  unfold Pk.may at h
  simp only [show ¬ ((2 : Int) = 1) by decide, if_false, if_true, Bool.and_eq_true, decide_eq_true_eq] at h
  have h1 := Pk.u64_zero h.1.1
  have h2 := Pk.u64_zero h.1.2
  subst h1 h2
  rfl

theorem flds_of {l : List Pk.Fld} (hm : l.all Pk.may = true) (hk : l.map (·.kind) = kinds) : flds (ofF l) = l := by
  have hl : l.length = 18 := by
    have := congrArg List.length hk
    simpa [kinds] using this
  have kd : ∀ i (h : i < l.length), l[i].kind = kinds[i]'(by simp [kinds]; omega) := by
    intro i h
    have : (l.map (·.kind))[i]'(by simp; omega) = kinds[i]'(by simp [kinds]; omega) := by simp [hk]
    rw [← this]; simp
  have mm : ∀ i (h : i < l.length), Pk.may l[i] = true := fun i h => List.all_eq_true.1 hm _ (List.getElem_mem h)
  apply List.ext_getElem?
  intro i
  by_cases h0 : i = 0
  · subst h0
    rw [flds_zero, List.getElem?_eq_getElem (by omega)]
    have := fld_num (mm 0 (by omega)) (kd 0 (by omega))
    have e : (ofF l).kind.toNat = l[0].num.toNat := by
      show ((((l[0]?.map fun f => f.num.toNat).getD 0 : Nat) : Int)).toNat = _
      rw [List.getElem?_eq_getElem (by omega)]; rfl
    rw [e, ← this]
  · by_cases h1 : i < 17
    · obtain ⟨j, rfl⟩ : ∃ j, i = 1 + j := ⟨i - 1, by omega⟩
      rw [flds_num _ (by omega), List.getElem?_eq_getElem (by omega)]
      have hk1 : l[1 + j].kind = 1 := by
        rw [kd (1 + j) (by omega)]
        unfold kinds
        rw [List.getElem_append_left (by simp; omega), List.getElem_replicate]
      have := fld_num (mm (1 + j) (by omega)) hk1
      have e : (ofF l).past j = l[1 + j].num.toNat := by
        show ((l[1 + j]?.map fun f => f.num.toNat).getD 0 : Nat) = _
        rw [List.getElem?_eq_getElem (by omega)]; rfl
      rw [e, ← this]
    · by_cases h2 : i = 17
      · subst h2
        rw [flds_txt, List.getElem?_eq_getElem (by omega)]
        have := fld_txt (mm 17 (by omega)) (kd 17 (by omega))
        have e : (ofF l).text = l[17].text := by
          show ((l[17]?.map fun f => f.text).getD ⟨#[]⟩) = _
          rw [List.getElem?_eq_getElem (by omega)]; rfl
        rw [e, ← this]
      · rw [List.getElem?_eq_none (by rw [flds_len]; omega), List.getElem?_eq_none (by omega)]

/-- What the program asks of fields. -/
def fits (l : List Pk.Fld) : Bool := decide (l.map (·.kind) = kinds) && l.all (fun f => decide (f.num.toNat ≤ 1000)) && may (ofF l)
theorem dec_none {bs : List UInt8} (h : Pk.decP bs = none) : dec bs = none := by unfold dec; rw [h]
theorem dec_fits {bs : List UInt8} {l : List Pk.Fld} (h : Pk.decP bs = some l) : dec bs = if fits l = true then some (ofF l) else none := by
  obtain ⟨he, hb⟩ := Pk.decP_some h
  have hz := Pk.encE_zero.1 he
  unfold dec
  rw [h]
  simp only
  have : (may (ofF l) = true ∧ bytes (ofF l) = bs) ↔ fits l = true := by
    unfold fits
    simp only [Bool.and_eq_true, decide_eq_true_eq]
    have fl : may (ofF l) = true → bytes (ofF l) = bs → flds (ofF l) = l := fun h1 h2 => by
      have h3 : Pk.decP (bytes (ofF l)) = some (flds (ofF l)) := Pk.decP_enc (enc_ok h1)
      rw [h2, h] at h3
      exact (Option.some.inj h3).symm
    refine ⟨fun ⟨h1, h2⟩ => ⟨⟨?_, ?_⟩, h1⟩, fun ⟨⟨h1, h2⟩, h3⟩ => ⟨h3, ?_⟩⟩
    · have := flds_kinds (ofF l)
      rw [fl h1 h2] at this; exact this
    · have hx := fl h1 h2
      obtain ⟨b1, b2, b3, b4⟩ := may_iff.1 h1
      generalize ofF l = b at hx b1 b2 b3 b4
      rw [← hx, List.all_eq_true]
      intro f hf
      simp only [flds, pre, List.mem_append, List.mem_cons, List.mem_map, List.not_mem_nil, or_false] at hf
      rcases hf with (rfl | ⟨i, hi, rfl⟩) | rfl
      · have : (UInt64.ofNat b.kind.toNat).toNat = b.kind.toNat := Pk.u64_to (by omega)
        simp only [num, this, decide_eq_true_eq]; omega
      · have c := b3 i (List.mem_range.1 hi)
        have : (UInt64.ofNat (b.past i)).toNat = b.past i := Pk.u64_to (by omega)
        simp only [num, this, decide_eq_true_eq]; omega
      · simp [txt]
    · unfold bytes
      rw [flds_of hz.1 h1, hb]
  by_cases hf : fits l = true
  · rw [if_pos hf, if_pos (this.2 hf)]
  · rw [if_neg hf, if_neg (fun g => hf (this.1 g))]

/-- A body whose numbers are held below two bounds, as the document reads them. -/
def held (b : Bd) : Bd := ⟨min b.kind 9, fun i => min (b.past i) 9999, b.text⟩
theorem held_alike {b : Bd} (h : may b = true) : Alike (held b) b := by
  obtain ⟨h1, h2, h3, h4⟩ := may_iff.1 h
  refine ⟨?_, fun i hi => ?_, rfl⟩
  · show min b.kind 9 = b.kind
    omega
  · have := h3 i hi
    show min (b.past i) 9999 = b.past i
    omega
/-- What the document asks of fields. -/
theorem dec_held {bs : List UInt8} {l : List Pk.Fld} (h : Pk.decP bs = some l) :
    (may (held (ofF l)) = true ∧ bytes (held (ofF l)) = bs → ∃ b, dec bs = some b ∧ Alike b (held (ofF l)) ∧ l.length = 18) ∧ (¬ (may (held (ofF l)) = true ∧ bytes (held (ofF l)) = bs) → dec bs = none) ∧ (¬ l.length = 18 → dec bs = none) := by
  have nx : ∀ b, dec bs = some b → l.length = 18 ∧ Alike (held (ofF l)) b := fun b hb => by
    obtain ⟨m, e⟩ := dec_some hb
    have h3 : Pk.decP (bytes b) = some (flds b) := Pk.decP_enc (enc_ok m)
    rw [e, h] at h3
    cases h3
    have ha := ofF_may m
    exact ⟨flds_len b, (held_alike (by rw [may_alike ha]; exact m)).trans ha⟩
  refine ⟨fun ⟨h1, h2⟩ => ?_, fun hn => ?_, fun hn => ?_⟩
  · obtain ⟨b, hb, ha⟩ := dec_bytes h1
    rw [h2] at hb
    exact ⟨b, hb, ha, (nx b hb).1⟩
  · rcases hd : dec bs with _ | b
    · rfl
    · obtain ⟨m, e⟩ := dec_some hd
      have ha := (nx b hd).2
      exact absurd ⟨by rw [may_alike ha]; exact m, by rw [bytes_alike ha]; exact e⟩ hn
  · rcases hd : dec bs with _ | b
    · rfl
    · exact absurd (nx b hd).1 hn

end Ps
end Go.Proofs.Ytkphpdejcmkdeaa
