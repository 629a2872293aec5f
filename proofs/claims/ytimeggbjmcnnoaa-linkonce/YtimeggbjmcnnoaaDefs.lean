/- The document's words on terms, as plain functions: a term as a tree, its text, how deep it is, what is in it; and a reader that finds the tree of a text. -/
import Derived.RowKit3
namespace Go.Proofs.Ytimeggbjmcnnoaa
namespace Tm

/-- Of how many terms a term of a kind is made. -/
def ar1 (k : UInt8) : Nat := if k = 104 then 1 else if k = 100 ∨ k = 109 ∨ k = 115 ∨ k = 112 then 2 else 0
def ar : List UInt8 → Nat
  | [] => 0
  | k :: _ => ar1 k
/-- How many bytes of its own a term has that begins here; 0: none does. -/
def own : List UInt8 → Nat
  | [] => 0
  | k :: r =>
    if k = 110 then (if 2 ≤ r.length then 3 else 0)
    else if k = 99 then
      match r with
      | [] => 0
      | n :: q => if n.toNat ≤ 40 ∧ n.toNat ≤ q.length then 2 + n.toNat else 0
    else if ar1 k = 0 then 0 else 1

/-- A term: its own bytes, and its parts. -/
structure T where
  h : List UInt8
  n : Nat
  kid : Fin n → T

/-- The greatest of some numbers. -/
def maxl : List Nat → Nat
  | [] => 0
  | x :: l => max x (maxl l)
def head (t : T) : List UInt8 := t.h
def kids (t : T) : List T := List.ofFn t.kid
def text : T → List UInt8
  | ⟨h, _, kid⟩ => h ++ (List.ofFn fun i => text (kid i)).flatten
def depth : T → Nat
  | ⟨_, _, kid⟩ => maxl (List.ofFn fun i => depth (kid i)) + 1
def subs : T → List T
  | ⟨h, n, kid⟩ => ⟨h, n, kid⟩ :: (List.ofFn fun i => subs (kid i)).flatten
def wf : T → Prop
  | ⟨h, n, kid⟩ => 0 < own h ∧ own h = h.length ∧ ar h = n ∧ ∀ i, wf (kid i)
def texts (l : List T) : List UInt8 := l.flatMap text
def subsAll (l : List T) : List T := l.flatMap subs
def wfs (l : List T) : Prop := ∀ t ∈ l, wf t

/-- A term of its own bytes and its parts. -/
def node (h : List UInt8) (l : List T) : T := ⟨h, l.length, fun i => l[i]⟩
/-- What was read of a term's own bytes, with so many of the terms behind it as its parts. -/
def mk (h : List UInt8) (a : Nat) (l : List T) : List T := node h (l.take a) :: l.drop a
/-- So many terms from the front. -/
def parseK : Nat → Nat → List UInt8 → Option (List T × List UInt8)
  | _, 0, bs => some ([], bs)
  | 0, _ + 1, _ => none
  | f + 1, k + 1, bs =>
    if own bs = 0 then none else
    match parseK f (ar bs + k) (bs.drop (own bs)) with
    | none => none
    | some (l, r) => some (mk (bs.take (own bs)) (ar bs) l, r)
/-- The term at the front. -/
def first (bs : List UInt8) : Option T :=
  match parseK bs.length 1 bs with
  | some (t :: _, _) => some t
  | _ => none
/-- The term of all these bytes. -/
def tree (bs : List UInt8) : Option T :=
  match parseK bs.length 1 bs with
  | some (t :: _, []) => some t
  | _ => none

/-- P3.1. -/
def chk (bs : List UInt8) : Nat :=
  if 2000 < bs.length then 3 else
  match tree bs with
  | none => 4
  | some t => if 60 < depth t then 3 else 0
def kindOf (bs : List UInt8) : UInt8 := if chk bs = 0 then bs.headD 0 else 0
def partsOf (bs : List UInt8) : List (List UInt8) :=
  if chk bs = 0 then
    match tree bs with
    | none => []
    | some t => (kids t).map text
  else []
def subsOf (bs : List UInt8) : List (List UInt8) :=
  if chk bs = 0 then
    match tree bs with
    | none => []
    | some t => (subs t).map text
  else []
def nonce (n : Nat) : List UInt8 := [110, UInt8.ofNat (n / 256), UInt8.ofNat n]
def constE (s : List UInt8) : Nat := if 40 < s.length then 3 else 0
def const (s : List UInt8) : List UInt8 := if 40 < s.length then [] else 99 :: UInt8.ofNat s.length :: s
def firstErr : List (List UInt8) → Nat
  | [] => 0
  | p :: r => if chk p = 0 then firstErr r else chk p
def makeE (k : UInt8) (l : List (List UInt8)) : Nat :=
  if ar1 k = 0 ∨ l.length ≠ ar1 k then 2 else
  if firstErr l = 0 then chk (k :: l.flatten) else firstErr l
def make (k : UInt8) (l : List (List UInt8)) : List UInt8 := if makeE k l = 0 then k :: l.flatten else []
def openE (key bs : List UInt8) : Nat :=
  if chk key = 0 then
    if chk bs = 0 then
      if kindOf bs = 115 then
        if (partsOf bs).headD [] = key then 0 else 12
      else 4
    else chk bs
  else chk key
def openR (key bs : List UInt8) : List UInt8 := if openE key bs = 0 then (partsOf bs).getD 1 [] else []

end Tm
end Go.Proofs.Ytimeggbjmcnnoaa
