/-
  Chapter 4 in plain words of lists: what Parse and Query answer. Nothing of the program.
-/
import Derived.Test.YtoelacloghkooaaDoorLetters
namespace Go.Proofs.YtoelacloghkooaaDoor
/-- blanks and remarks at the beginning -/
def skipGo : Bool → List UInt8 → Nat
  | _, [] => 0
  | true, c :: t => if c = 10 then 1 + skipGo false t else 1 + skipGo true t
  | false, c :: t => if c = 32 ∨ c = 9 ∨ c = 10 then 1 + skipGo false t else if c = 37 then 1 + skipGo true t else 0
/-- the place of the next sign, from a place on -/
def skipTo (l : List UInt8) (p : Nat) : Nat := p + skipGo false (l.drop p)
/-- the word at a place -/
def wordAt (l : List UInt8) (p : Nat) : List UInt8 := (l.drop p).takeWhile wordB
def isVarB (w : List UInt8) : Bool := match w with
  | [] => false
  | c :: _ => decide (w.length ≤ 30) && capitalB c
def isDigB (w : List UInt8) : Bool := match w with
  | [] => false
  | _ :: _ => decide (w.length ≤ 30) && w.all digitB
def starts (l : List UInt8) (p : Nat) (s : List UInt8) : Bool := s.isPrefixOf (l.drop p)
def atNameB (l : List UInt8) (p : Nat) : Bool := isName (wordAt l p)
def atTermB (l : List UInt8) (p : Nat) : Bool := starts l p [34] || isName (wordAt l p) || isVarB (wordAt l p) || isDigB (wordAt l p)
def atPartB (l : List UInt8) (p : Nat) : Bool := (wordAt l p == [110, 111, 116]) || atTermB l p
abbrev PErr := Nat × Nat
structure PTerm where
  isVar : Bool
  text : List UInt8
  place : Nat
deriving DecidableEq
structure PAtom where
  name : List UInt8
  args : List PTerm
  place : Nat
deriving DecidableEq
structure PPart where
  kind : Nat
  atom : PAtom
  left : PTerm
  right : PTerm
deriving DecidableEq
structure PRule where
  head : PAtom
  body : List PPart
deriving DecidableEq
def noTerm : PTerm := ⟨false, [], 0⟩
def noAtom : PAtom := ⟨[], [], 0⟩
/-- a STRING, behind its first byte: what it stands for, and the place behind it -/
def strGo : List UInt8 → Nat → List UInt8 → Except PErr (List UInt8 × Nat)
  | [], p, _ => .error (2, p)
  | c :: t, p, acc =>
    if c = 34 then .ok (acc, p + 1)
    else if c = 10 then .error (2, p)
    else if c = 92 then
      match t with
      | [] => .error (2, p + 1)
      | d :: t2 => if d = 110 then strGo t2 (p + 2) (acc ++ [10]) else if d = 34 ∨ d = 92 then strGo t2 (p + 2) (acc ++ [d]) else .error (2, p + 1)
    else strGo t (p + 1) (acc ++ [c])
/-- one term -/
def termF (l : List UInt8) (p : Nat) : Except PErr (PTerm × Nat) :=
  if starts l p [34] then
    match strGo (l.drop (p + 1)) (p + 1) [] with
    | .error e => .error e
    | .ok (s, q) => if 200 < s.length then .error (1, p) else .ok (⟨false, s, p⟩, skipTo l q)
  else if atTermB l p then .ok (⟨isVarB (wordAt l p), wordAt l p, p⟩, skipTo l (p + (wordAt l p).length))
  else .error (2, p)
/-- a sign, if it is the next one: the place of the one behind it -/
def signF (l : List UInt8) (s : List UInt8) (p : Nat) : Option Nat := if starts l p s then some (skipTo l (p + s.length)) else none
/-- one or more things, so many more at the most -/
def listF {α : Type} (begins : Nat → Bool) (one : Nat → Except PErr (α × Nat)) (goesOn : Nat → Option Nat) : Nat → Nat → Except PErr (List α × Nat)
  | 0, p => if begins p then .error (7, p) else .error (2, p)
  | n + 1, p => if begins p then
      match one p with
      | .error e => .error e
      | .ok (x, q) => match goesOn q with
        | none => .ok ([x], q)
        | some r => match listF begins one goesOn n r with
          | .error e => .error e
          | .ok (xs, r2) => .ok (x :: xs, r2)
    else .error (2, p)
/-- an atom -/
def atomF (l : List UInt8) (p : Nat) : Except PErr (PAtom × Nat) :=
  if atNameB l p then
    match signF l [40] (skipTo l (p + (wordAt l p).length)) with
    | none => .ok (⟨wordAt l p, [], p⟩, skipTo l (p + (wordAt l p).length))
    | some q => match listF (atTermB l) (termF l) (signF l [44]) 8 q with
      | .error e => .error e
      | .ok (args, r) => match signF l [41] r with
        | none => .error (2, r)
        | some r2 => .ok (⟨wordAt l p, args, p⟩, r2)
  else .error (2, p)
/-- the sign of a comparison -/
def compF (l : List UInt8) (p : Nat) : Option (Nat × Nat) := match signF l [61] p with
  | some q => some (2, q)
  | none => match signF l [33, 61] p with
    | some q => some (3, q)
    | none => match signF l [60] p with
      | some q => some (4, q)
      | none => none
/-- one part -/
def partF (l : List UInt8) (p : Nat) : Except PErr (PPart × Nat) :=
  if wordAt l p = [110, 111, 116] then
    match atomF l (skipTo l (p + 3)) with
    | .error e => .error e
    | .ok (a, q) => .ok (⟨1, a, noTerm, noTerm⟩, q)
  else if atNameB l p && (compF l (skipTo l (p + (wordAt l p).length))).isNone then
    match atomF l p with
    | .error e => .error e
    | .ok (a, q) => .ok (⟨0, a, noTerm, noTerm⟩, q)
  else match termF l p with
    | .error e => .error e
    | .ok (t, q) => match compF l q with
      | none => .error (2, q)
      | some (k, r) => match termF l r with
        | .error e => .error e
        | .ok (u, r2) => .ok (⟨k, noAtom, t, u⟩, r2)
def partsF (l : List UInt8) (p : Nat) : Except PErr (List PPart × Nat) := listF (atPartB l) (partF l) (signF l [44]) 12 p
/-- one rule -/
def ruleF (l : List UInt8) (p : Nat) : Except PErr (PRule × Nat) :=
  match atomF l p with
  | .error e => .error e
  | .ok (h, q) =>
    match (match signF l [58, 45] q with
      | none => Except.ok ([], q)
      | some r => partsF l r : Except PErr (List PPart × Nat)) with
    | .error e => .error e
    | .ok (b, r) => match signF l [46] r with
      | none => .error (2, r)
      | some r2 => .ok (⟨h, b⟩, r2)
/-- D1, D2: rules, or an error and its place -/
def parseF (l : List UInt8) : Except PErr (List PRule) :=
  if 20000 < l.length then .error (1, 0)
  else if skipTo l 0 = l.length then .ok []
  else match listF (atNameB l) (ruleF l) (fun p => if p = l.length then none else some p) 200 (skipTo l 0) with
    | .error e => .error e
    | .ok (rs, _) => .ok rs
/-- D1, D2 of queries -/
def queryF (l : List UInt8) : Except PErr (List PPart) :=
  if 20000 < l.length then .error (1, 0)
  else match partsF l (skipTo l 0) with
    | .error e => .error e
    | .ok (ps, q) => match signF l [46] q with
      | none => .error (2, q)
      | some r => if r = l.length then .ok ps else .error (2, r)
/-- of what kind a word is -/
def wordKindF (l : List UInt8) : Nat := if l = [110, 111, 116] then 4 else if isName l then 1 else if isVarB l then 2 else if isDigB l then 3 else 5
/-- how long the sign is that stands at a place -/
def signLen (s : ByteArray) (p : Nat) (c : UInt8) : Nat := if (c.toNat = 33 ∨ c.toNat = 58) ∧ p + 2 ≤ s.size then 2 else 1
end Go.Proofs.YtoelacloghkooaaDoor
