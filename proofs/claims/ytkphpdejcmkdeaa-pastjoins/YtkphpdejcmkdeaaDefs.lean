/- The document's words on fields and bytes, as plain functions: what a field is, when it may be, its bytes; and what a reader takes from the front of bytes. -/
import Derived.Lib.BitFns
import Derived.Test.YtkphpdejcmkdeaaPlain
namespace Go.Proofs.Ytkphpdejcmkdeaa
namespace Pk

structure Fld where
  kind : Int
  num : UInt64
  text : ByteArray
  real : UInt64

/-- How many bytes a number needs. -/
def nb (x : Nat) : Nat := (Lib.bitLen x + 7) / 8
/-- So many bytes of a number, the lowest first. -/
def lo (x n : Nat) : List UInt8 := (List.range n).map fun i => UInt8.ofNat (x / 256 ^ i)
def numB (x : Nat) : List UInt8 := UInt8.ofNat (nb x) :: lo x (nb x)
def body (f : Fld) : List UInt8 :=
  if f.kind = 1 then numB f.num.toNat else if f.kind = 2 then numB f.text.size ++ f.text.data.toList else lo (Fl.cod f.real.toNat) 8
def encB (f : Fld) : List UInt8 := UInt8.ofNat f.kind.toNat :: body f
def fsB (l : List Fld) : List UInt8 := l.flatMap encB
def allB (l : List Fld) : List UInt8 := UInt8.ofNat l.length :: fsB l

def may (f : Fld) : Bool :=
  if f.kind = 1 then decide (f.text.size = 0) && decide (f.real.toNat = 0)
  else if f.kind = 2 then decide (f.num.toNat = 0) && decide (f.real.toNat = 0) && decide (f.text.size ≤ 2000)
  else if f.kind = 3 then decide (f.num.toNat = 0) && decide (f.text.size = 0) && decide (Fl.can f.real.toNat = f.real.toNat)
  else false

/-- Encode's error, and its bytes. -/
def encE (l : List Fld) : Nat := if l.all may = false then 2 else if 200 < l.length then 3 else if 8000 < (allB l).length then 3 else 0
def encR (l : List Fld) : List UInt8 := if encE l = 0 then allB l else []

/-- The number of bytes, the lowest first. -/
def val : List UInt8 → Nat
  | [] => 0
  | b :: r => b.toNat + 256 * val r

def numP : List UInt8 → Option (Nat × List UInt8)
  | [] => none
  | n :: r => if n.toNat ≤ 8 ∧ n.toNat ≤ r.length ∧ nb (val (r.take n.toNat)) = n.toNat then some (val (r.take n.toNat), r.drop n.toNat) else none
def textP (bs : List UInt8) : Option (List UInt8 × List UInt8) :=
  match numP bs with
  | none => none
  | some (n, r) => if n ≤ 2000 ∧ n ≤ r.length then some (r.take n, r.drop n) else none
def realP (bs : List UInt8) : Option (Nat × List UInt8) :=
  if 8 ≤ bs.length ∧ Fl.decOk (val (bs.take 8)) = true then some (Fl.dec (val (bs.take 8)), bs.drop 8) else none
def fldP : List UInt8 → Option (Fld × List UInt8)
  | [] => none
  | k :: r =>
    if k = 1 then (numP r).map fun x => (⟨1, UInt64.ofNat x.1, ⟨#[]⟩, 0⟩, x.2)
    else if k = 2 then (textP r).map fun x => (⟨2, 0, ⟨x.1.toArray⟩, 0⟩, x.2)
    else if k = 3 then (realP r).map fun x => (⟨3, 0, ⟨#[]⟩, UInt64.ofNat x.1⟩, x.2)
    else none
def fldsP : Nat → List UInt8 → Option (List Fld × List UInt8)
  | 0, bs => some ([], bs)
  | n + 1, bs =>
    match fldP bs with
    | none => none
    | some (f, r) =>
      match fldsP n r with
      | none => none
      | some (l, r') => some (f :: l, r')
def decP (bs : List UInt8) : Option (List Fld) :=
  if 8000 < bs.length then none else
  match bs with
  | [] => none
  | n :: r =>
    if 200 < n.toNat then none else
    match fldsP n.toNat r with
    | some (l, []) => some l
    | _ => none

end Pk
end Go.Proofs.Ytkphpdejcmkdeaa
