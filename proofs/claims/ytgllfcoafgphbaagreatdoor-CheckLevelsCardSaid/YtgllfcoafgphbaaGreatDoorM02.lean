import Derived.Test.YtgllfcoafgphbaaGreatDoorM01
/-
  The program's package letters, walked.
-/
namespace Go.Proofs.YtgllfcoafgphbaaGreatDoor
open Go.ChangeShapes Go.WideShapes Go.ChangeAt Go.RowKit
set_option linter.unusedVariables false
def capitalB (c : UInt8) : Bool := decide (65 ≤ c.toNat) && decide (c.toNat ≤ 90)
def digitB (c : UInt8) : Bool := decide (48 ≤ c.toNat) && decide (c.toNat ≤ 57)
theorem wordB_is (c : UInt8) : wordB c = (smallB c || capitalB c || digitB c || decide (c.toNat = 95)) := rfl
set_option maxRecDepth 100000 in
set_option maxHeartbeats 1000000 in
theorem psmall_any (c : UInt8) (w : World) :
    Calls Tryz.prog 137 #[.int .u8 (c.toNat : Int)] w fun e w' => e = .returned (.bool (smallB c)) ∧ w = w' := by
  have hc := byte_le c
  by_cases h1 : 97 ≤ c.toNat
  · by_cases h2 : c.toNat ≤ 122
    · have HE : Hid (smallB c = true) := by show _ = _; simp [smallB, h1, h2]
      go_enter Tryz.func137, Tryz.ntmps137
      go_wp2
      go_ret
      exact ⟨ret_bool (by rw [HE.out]; simp; omega), rfl⟩
    · have HE : Hid (smallB c = false) := by show _ = _; simp [smallB, h2]
      go_enter Tryz.func137, Tryz.ntmps137
      go_wp2
      go_ret
      exact ⟨ret_bool (by rw [HE.out]; simp; omega), rfl⟩
  · have HE : Hid (smallB c = false) := by show _ = _; simp [smallB, h1]
    go_enter Tryz.func137, Tryz.ntmps137
    go_wp2
    go_ret
    exact ⟨ret_bool (by rw [HE.out]), rfl⟩
set_option maxRecDepth 100000 in
set_option maxHeartbeats 1000000 in
theorem pcapital_any (c : UInt8) (w : World) :
    Calls Tryz.prog 151 #[.int .u8 (c.toNat : Int)] w fun e w' => e = .returned (.bool (capitalB c)) ∧ w = w' := by
  have hc := byte_le c
  by_cases h1 : 65 ≤ c.toNat
  · by_cases h2 : c.toNat ≤ 90
    · have HE : Hid (capitalB c = true) := by show _ = _; simp [capitalB, h1, h2]
      go_enter Tryz.func151, Tryz.ntmps151
      go_wp2
      go_ret
      exact ⟨ret_bool (by rw [HE.out]; simp; omega), rfl⟩
    · have HE : Hid (capitalB c = false) := by show _ = _; simp [capitalB, h2]
      go_enter Tryz.func151, Tryz.ntmps151
      go_wp2
      go_ret
      exact ⟨ret_bool (by rw [HE.out]; simp; omega), rfl⟩
  · have HE : Hid (capitalB c = false) := by show _ = _; simp [capitalB, h1]
    go_enter Tryz.func151, Tryz.ntmps151
    go_wp2
    go_ret
    exact ⟨ret_bool (by rw [HE.out]), rfl⟩
set_option maxRecDepth 100000 in
set_option maxHeartbeats 1000000 in
theorem pdigit_any (c : UInt8) (w : World) :
    Calls Tryz.prog 152 #[.int .u8 (c.toNat : Int)] w fun e w' => e = .returned (.bool (digitB c)) ∧ w = w' := by
  have hc := byte_le c
  by_cases h1 : 48 ≤ c.toNat
  · by_cases h2 : c.toNat ≤ 57
    · have HE : Hid (digitB c = true) := by show _ = _; simp [digitB, h1, h2]
      go_enter Tryz.func152, Tryz.ntmps152
      go_wp2
      go_ret
      exact ⟨ret_bool (by rw [HE.out]; simp; omega), rfl⟩
    · have HE : Hid (digitB c = false) := by show _ = _; simp [digitB, h2]
      go_enter Tryz.func152, Tryz.ntmps152
      go_wp2
      go_ret
      exact ⟨ret_bool (by rw [HE.out]; simp; omega), rfl⟩
  · have HE : Hid (digitB c = false) := by show _ = _; simp [digitB, h1]
    go_enter Tryz.func152, Tryz.ntmps152
    go_wp2
    go_ret
    exact ⟨ret_bool (by rw [HE.out]), rfl⟩
set_option maxRecDepth 100000 in
set_option maxHeartbeats 1000000 in
theorem pword_any (c : UInt8) (w : World) :
    Calls Tryz.prog 139 #[.int .u8 (c.toNat : Int)] w fun e w' => e = .returned (.bool (wordB c)) ∧ w = w' := by
  have hc := byte_le c
  cases hs : smallB c with
  | true =>
    have HE : Hid (wordB c = true) := by show _ = _; simp [wordB_is, hs]
    go_enter Tryz.func139, Tryz.ntmps139
    go_wp2_with fail
    refine (psmall_any c _).mono ?_
    rintro e w1 ⟨rfl, rfl⟩
    rw [hs]
    go_wp2
    go_ret
    exact ⟨ret_bool (by rw [HE.out]), rfl⟩
  | false =>
    cases hk : capitalB c with
    | true =>
      have HE : Hid (wordB c = true) := by show _ = _; simp [wordB_is, hk]
      go_enter Tryz.func139, Tryz.ntmps139
      go_wp2_with fail
      refine (psmall_any c _).mono ?_
      rintro e w1 ⟨rfl, rfl⟩
      rw [hs]
      go_wp2_with fail
      refine (pcapital_any c _).mono ?_
      rintro e w2 ⟨rfl, rfl⟩
      rw [hk]
      go_wp2
      go_ret
      exact ⟨ret_bool (by rw [HE.out]), rfl⟩
    | false =>
      cases hd : digitB c with
      | true =>
        have HE : Hid (wordB c = true) := by show _ = _; simp [wordB_is, hd]
        go_enter Tryz.func139, Tryz.ntmps139
        go_wp2_with fail
        refine (psmall_any c _).mono ?_
        rintro e w1 ⟨rfl, rfl⟩
        rw [hs]
        go_wp2_with fail
        refine (pcapital_any c _).mono ?_
        rintro e w2 ⟨rfl, rfl⟩
        rw [hk]
        go_wp2_with fail
        refine (pdigit_any c _).mono ?_
        rintro e w3 ⟨rfl, rfl⟩
        rw [hd]
        go_wp2
        go_ret
        exact ⟨ret_bool (by rw [HE.out]), rfl⟩
      | false =>
        have HE : Hid (wordB c = decide (c.toNat = 95)) := by show _ = _; simp [wordB_is, hs, hk, hd]
        go_enter Tryz.func139, Tryz.ntmps139
        go_wp2_with fail
        refine (psmall_any c _).mono ?_
        rintro e w1 ⟨rfl, rfl⟩
        rw [hs]
        go_wp2_with fail
        refine (pcapital_any c _).mono ?_
        rintro e w2 ⟨rfl, rfl⟩
        rw [hk]
        go_wp2_with fail
        refine (pdigit_any c _).mono ?_
        rintro e w3 ⟨rfl, rfl⟩
        rw [hd]
        go_wp2
        go_ret
        refine ⟨ret_bool ?_, rfl⟩
        rw [HE.out]
        apply bool_eq
        simp
        try omega
/-- how many bytes of one kind a text begins with -/
def runLen (p : UInt8 → Bool) (l : List UInt8) : Nat := (l.takeWhile p).length
theorem runLen_le (p : UInt8 → Bool) (l : List UInt8) : runLen p l ≤ l.length := by
  unfold runLen
  induction l with
  | nil => simp
  | cons c t ih => rw [List.takeWhile_cons]; split <;> simp; omega
theorem runLen_is (p : UInt8 → Bool) (l : List UInt8) (k : Nat) (h1 : ∀ i c, i < k → l[i]? = some c → p c = true) (h2 : ∀ c, l[k]? = some c → p c = false) (hk : k ≤ l.length) : runLen p l = k := by
  unfold runLen
  induction l generalizing k with
  | nil => simp at hk ⊢; omega
  | cons c t ih =>
    rw [List.takeWhile_cons]
    cases k with
    | zero => rw [h2 c rfl]; rfl
    | succ k =>
      rw [h1 0 c (by omega) rfl, if_pos rfl, List.length_cons, ih k (fun i d hi hd => h1 (i + 1) d (by omega) (by simpa using hd)) (fun d hd => h2 d (by simpa using hd)) (by simp at hk; omega)]
theorem runLen_all (p : UInt8 → Bool) (l : List UInt8) : decide (runLen p l = l.length) = l.all p := by
  unfold runLen
  induction l with
  | nil => rfl
  | cons c t ih =>
    rw [List.takeWhile_cons, List.all_cons, ← ih]
    cases p c <;> simp
set_option maxRecDepth 100000 in
set_option maxHeartbeats 1000000 in
theorem run_any (F : Nat) (p : UInt8 → Bool) (EG : ∀ args w, (callFunc F args).run Tryz.prog w = .ok (.enter F args) w)
    (HP : Hid (∀ (c : UInt8) (w : World), Calls Tryz.prog F #[.int .u8 (c.toNat : Int)] w fun e w' => e = .returned (.bool (p c)) ∧ w = w')) (s : ByteArray) (w : World) (hs : s.size ≤ 140737488355328) :
    Calls Tryz.prog 135 #[.string s, .func (.func F) #[] #[]] w fun e w' => e = .returned (.int .i64 (runLen p s.data.toList : Nat)) ∧ w = w' := by
  go_enter Tryz.func135, Tryz.ntmps135
  go_wp2
  go_loopw [5] (fun i wr => ∃ k : Nat, k ≤ s.size ∧ i = .int .i64 k ∧ wr = w ∧ Hid (∀ i c, i < k → s.data.toList[i]? = some c → p c = true)) (fun i _ => s.size - (intOf i).toNat)
  case atStart => exact ⟨0, by omega, rfl, rfl, fun i c hi => by omega⟩
  case round =>
    obtain ⟨k, hk, rfl, rfl, HA⟩ := hrel
    by_cases hlt : k < s.size
    · have hc := byte_le s[k]
      cases hw : p s[k] with
      | true =>
        have HW : Hid (∀ i c, i < k + 1 → s.data.toList[i]? = some c → p c = true) := by
          intro i c hi hcc
          by_cases e : i = k
          · subst e
            rw [name_get s i hlt] at hcc
            cases hcc; exact hw
          · exact HA.out i c (by omega) hcc
        have HWK : Hid (p s[k] = true) := hw
        clear hw
        go_wp2_with fail
        refine (HP.out s[k] _).mono ?_
        rintro e w1 ⟨rfl, rfl⟩
        rw [HWK.out]
        go_wp2
        go_roundw
        case rel => exact ⟨k + 1, by omega, by go_num, by first | trivial | rfl, HW⟩
        case measure => simp [intOf]; omega
      | false =>
        have HW : Hid (runLen p s.data.toList = k) := runLen_is p _ k HA.out (fun c hcc => by rw [name_get s k hlt] at hcc; cases hcc; exact hw) (by simp; omega)
        have HWK : Hid (p s[k] = false) := hw
        clear hw
        go_wp2_with fail
        refine (HP.out s[k] _).mono ?_
        rintro e w1 ⟨rfl, rfl⟩
        rw [HWK.out]
        go_wp2
        go_ret
        exact ⟨by rw [HW.out]; rfl, rfl⟩
    · have HW : Hid (runLen p s.data.toList = k) := runLen_is p _ k HA.out (fun c hcc => by rw [List.getElem?_eq_none (by simp; omega)] at hcc; cases hcc) (by simp; omega)
      go_wp2
      go_ret
      exact ⟨by rw [HW.out]; rfl, rfl⟩
set_option maxRecDepth 100000 in
set_option maxHeartbeats 1000000 in
theorem all_any (F : Nat) (p : UInt8 → Bool) (EG : ∀ args w, (callFunc F args).run Tryz.prog w = .ok (.enter F args) w)
    (HP : Hid (∀ (c : UInt8) (w : World), Calls Tryz.prog F #[.int .u8 (c.toNat : Int)] w fun e w' => e = .returned (.bool (p c)) ∧ w = w')) (s : ByteArray) (w : World) (hs : s.size ≤ 140737488355328) :
    Calls Tryz.prog 138 #[.string s, .func (.func F) #[] #[]] w fun e w' => e = .returned (.bool (s.data.toList.all p)) ∧ w = w' := by
  have HA : Hid (decide (runLen p s.data.toList = s.data.toList.length) = s.data.toList.all p) := runLen_all p _
  obtain ⟨n, HN⟩ : ∃ n, Hid (n = runLen p s.data.toList) := ⟨_, (rfl : runLen p s.data.toList = _)⟩
  have hn : n ≤ s.size := by have := runLen_le p s.data.toList; rw [HN.out]; simpa using this
  rw [← HN.out] at HA
  go_enter Tryz.func138, Tryz.ntmps138
  go_wp2_with fail
  refine (run_any F p EG HP s _ hs).mono ?_
  rintro e w1 ⟨rfl, rfl⟩
  rw [← HN.out]
  go_wp2
  go_ret
  refine ⟨ret_bool ?_, rfl⟩
  rw [← HA.out]
  apply bool_eq
  simp
  try omega
end Go.Proofs.YtgllfcoafgphbaaGreatDoor

/-
  Chapter 4 in plain words of lists: what Parse and Query answer. Nothing of the program.
-/
namespace Go.Proofs.YtgllfcoafgphbaaGreatDoor
/-- blanks and remarks at the beginning -/
def skipGo : Bool → List UInt8 → Nat
  | _, [] => 0
  | true, c :: t => if c = 10 then 1 + skipGo false t else 1 + skipGo true t
  | false, c :: t => if c = 32 ∨ c = 9 ∨ c = 10 then 1 + skipGo false t else if c = 37 then 1 + skipGo true t else 0
/-- the place of the next sign, from a place on -/
def skipTo (l : List UInt8) (p : Nat) : Nat := p + skipGo false (l.drop p)
/-- the word at a place -/
def wordAt (l : List UInt8) (p : Nat) : List UInt8 := (l.drop p).takeWhile wordB
def isVarB (w : List UInt8) : Bool := match w with
  | [] => false
  | c :: _ => decide (w.length ≤ 30) && capitalB c
def isDigB (w : List UInt8) : Bool := match w with
  | [] => false
  | _ :: _ => decide (w.length ≤ 30) && w.all digitB
def starts (l : List UInt8) (p : Nat) (s : List UInt8) : Bool := s.isPrefixOf (l.drop p)
def atNameB (l : List UInt8) (p : Nat) : Bool := isName (wordAt l p)
def atTermB (l : List UInt8) (p : Nat) : Bool := starts l p [34] || isName (wordAt l p) || isVarB (wordAt l p) || isDigB (wordAt l p)
def atPartB (l : List UInt8) (p : Nat) : Bool := (wordAt l p == [110, 111, 116]) || atTermB l p
abbrev PErr := Nat × Nat
structure PTerm where
  isVar : Bool
  text : List UInt8
  place : Nat
deriving DecidableEq
structure PAtom where
  name : List UInt8
  args : List PTerm
  place : Nat
deriving DecidableEq
structure PPart where
  kind : Nat
  atom : PAtom
  left : PTerm
  right : PTerm
deriving DecidableEq
structure PRule where
  head : PAtom
  body : List PPart
deriving DecidableEq
def noTerm : PTerm := ⟨false, [], 0⟩
def noAtom : PAtom := ⟨[], [], 0⟩
/-- a STRING, behind its first byte: what it stands for, and the place behind it -/
def strGo : List UInt8 → Nat → List UInt8 → Except PErr (List UInt8 × Nat)
  | [], p, _ => .error (2, p)
  | c :: t, p, acc =>
    if c = 34 then .ok (acc, p + 1)
    else if c = 10 then .error (2, p)
    else if c = 92 then
      match t with
      | [] => .error (2, p + 1)
      | d :: t2 => if d = 110 then strGo t2 (p + 2) (acc ++ [10]) else if d = 34 ∨ d = 92 then strGo t2 (p + 2) (acc ++ [d]) else .error (2, p + 1)
    else strGo t (p + 1) (acc ++ [c])
/-- one term -/
def termF (l : List UInt8) (p : Nat) : Except PErr (PTerm × Nat) :=
  if starts l p [34] then
    match strGo (l.drop (p + 1)) (p + 1) [] with
    | .error e => .error e
    | .ok (s, q) => if 200 < s.length then .error (1, p) else .ok (⟨false, s, p⟩, skipTo l q)
  else if atTermB l p then .ok (⟨isVarB (wordAt l p), wordAt l p, p⟩, skipTo l (p + (wordAt l p).length))
  else .error (2, p)
/-- a sign, if it is the next one: the place of the one behind it -/
def signF (l : List UInt8) (s : List UInt8) (p : Nat) : Option Nat := if starts l p s then some (skipTo l (p + s.length)) else none
/-- one or more things, so many more at the most -/
def listF {α : Type} (begins : Nat → Bool) (one : Nat → Except PErr (α × Nat)) (goesOn : Nat → Option Nat) : Nat → Nat → Except PErr (List α × Nat)
  | 0, p => if begins p then .error (7, p) else .error (2, p)
  | n + 1, p => if begins p then
      match one p with
      | .error e => .error e
      | .ok (x, q) => match goesOn q with
        | none => .ok ([x], q)
        | some r => match listF begins one goesOn n r with
          | .error e => .error e
          | .ok (xs, r2) => .ok (x :: xs, r2)
    else .error (2, p)
/-- an atom -/
def atomF (l : List UInt8) (p : Nat) : Except PErr (PAtom × Nat) :=
  if atNameB l p then
    match signF l [40] (skipTo l (p + (wordAt l p).length)) with
    | none => .ok (⟨wordAt l p, [], p⟩, skipTo l (p + (wordAt l p).length))
    | some q => match listF (atTermB l) (termF l) (signF l [44]) 8 q with
      | .error e => .error e
      | .ok (args, r) => match signF l [41] r with
        | none => .error (2, r)
        | some r2 => .ok (⟨wordAt l p, args, p⟩, r2)
  else .error (2, p)
/-- the sign of a comparison -/
def compF (l : List UInt8) (p : Nat) : Option (Nat × Nat) := match signF l [61] p with
  | some q => some (2, q)
  | none => match signF l [33, 61] p with
    | some q => some (3, q)
    | none => match signF l [60] p with
      | some q => some (4, q)
      | none => none
/-- one part -/
def partF (l : List UInt8) (p : Nat) : Except PErr (PPart × Nat) :=
  if wordAt l p = [110, 111, 116] then
    match atomF l (skipTo l (p + 3)) with
    | .error e => .error e
    | .ok (a, q) => .ok (⟨1, a, noTerm, noTerm⟩, q)
  else if atNameB l p && (compF l (skipTo l (p + (wordAt l p).length))).isNone then
    match atomF l p with
    | .error e => .error e
    | .ok (a, q) => .ok (⟨0, a, noTerm, noTerm⟩, q)
  else match termF l p with
    | .error e => .error e
    | .ok (t, q) => match compF l q with
      | none => .error (2, q)
      | some (k, r) => match termF l r with
        | .error e => .error e
        | .ok (u, r2) => .ok (⟨k, noAtom, t, u⟩, r2)
def partsF (l : List UInt8) (p : Nat) : Except PErr (List PPart × Nat) := listF (atPartB l) (partF l) (signF l [44]) 12 p
/-- one rule -/
def ruleF (l : List UInt8) (p : Nat) : Except PErr (PRule × Nat) :=
  match atomF l p with
  | .error e => .error e
  | .ok (h, q) =>
    match (match signF l [58, 45] q with
      | none => Except.ok ([], q)
      | some r => partsF l r : Except PErr (List PPart × Nat)) with
    | .error e => .error e
    | .ok (b, r) => match signF l [46] r with
      | none => .error (2, r)
      | some r2 => .ok (⟨h, b⟩, r2)
/-- D1, D2: rules, or an error and its place -/
def parseF (l : List UInt8) : Except PErr (List PRule) :=
  if 20000 < l.length then .error (1, 0)
  else if skipTo l 0 = l.length then .ok []
  else match listF (atNameB l) (ruleF l) (fun p => if p = l.length then none else some p) 200 (skipTo l 0) with
    | .error e => .error e
    | .ok (rs, _) => .ok rs
/-- D1, D2 of queries -/
def queryF (l : List UInt8) : Except PErr (List PPart) :=
  if 20000 < l.length then .error (1, 0)
  else match partsF l (skipTo l 0) with
    | .error e => .error e
    | .ok (ps, q) => match signF l [46] q with
      | none => .error (2, q)
      | some r => if r = l.length then .ok ps else .error (2, r)
/-- of what kind a word is -/
def wordKindF (l : List UInt8) : Nat := if l = [110, 111, 116] then 4 else if isName l then 1 else if isVarB l then 2 else if isDigB l then 3 else 5
/-- how long the sign is that stands at a place -/
def signLen (s : ByteArray) (p : Nat) (c : UInt8) : Nat := if (c.toNat = 33 ∨ c.toNat = 58) ∧ p + 2 ≤ s.size then 2 else 1
end Go.Proofs.YtgllfcoafgphbaaGreatDoor

/-
  The document's Reader: skip, walked.
-/
namespace Go.Proofs.YtgllfcoafgphbaaGreatDoor
open Go.ChangeShapes Go.WideShapes Go.ChangeAt Go.RowKit
set_option linter.unusedVariables false
/-- a reader's text and where it stands -/
structure Rd (w : World) (b : Nat) (s : ByteArray) (i : Int) : Prop where
  c0 : w.cell? ⟨b, 0, none⟩ = some (.string s)
  c1 : w.cell? ⟨b, 1, none⟩ = some (.int .i64 i)
  f1 : w.frozen? ⟨b, 1, none⟩ = false
/-- what turns of a world is the reader's place alone -/
structure RFr (w w' : World) (b : Nat) : Prop where
  os : w'.os = w.os
  tape : w'.tape = w.tape
  output : w'.output = w.output
  size : w'.heap.size = w.heap.size
  block : ∀ k, k ≠ b → w'.heap[k]? = w.heap[k]?
  cell : ∀ j, j ≠ 1 → w'.cell? ⟨b, j, none⟩ = w.cell? ⟨b, j, none⟩
  frozen : ∀ j, w'.frozen? ⟨b, j, none⟩ = w.frozen? ⟨b, j, none⟩
theorem RFr.refl (w : World) (b : Nat) : RFr w w b := ⟨rfl, rfl, rfl, rfl, fun _ _ => rfl, fun _ _ => rfl, fun _ => rfl⟩
theorem RFr.trans {w w' w'' : World} {b : Nat} (h : RFr w w' b) (k : RFr w' w'' b) : RFr w w'' b :=
  ⟨k.os.trans h.os, k.tape.trans h.tape, k.output.trans h.output, k.size.trans h.size, fun j hj => (k.block j hj).trans (h.block j hj), fun j hj => (k.cell j hj).trans (h.cell j hj), fun j => (k.frozen j).trans (h.frozen j)⟩
theorem RFr.draws (w : World) (b n : Nat) : RFr w (w.drewN n) b := ⟨rfl, rfl, rfl, rfl, fun _ _ => rfl, fun _ _ => rfl, fun _ => rfl⟩
theorem RFr.set (w : World) (b : Nat) (u : Value) : RFr w (w.setCell ⟨b, 1, none⟩ u) b :=
  ⟨rfl, rfl, rfl, by simp [World.setCell], fun k hk => Below.heap_setCell w ⟨b, 1, none⟩ u k hk, fun j hj => World.cell?_setCell_other _ _ _ _ (by intro e; cases e; exact hj rfl), fun j => by rw [World.frozen?_setCell]⟩
theorem Rd.set {w : World} {b : Nat} {s : ByteArray} {i : Int} (h : Rd w b s i) (j : Int) : Rd (w.setCell ⟨b, 1, none⟩ (.int .i64 j)) b s j :=
  ⟨by rw [World.cell?_setCell_other _ _ _ _ (by simp)]; exact h.c0, World.cell?_setCell_same _ _ _ h.c1, by rw [World.frozen?_setCell]; exact h.f1⟩
theorem Rd.drewN {w : World} {b : Nat} {s : ByteArray} {i : Int} (h : Rd w b s i) (n : Nat) : Rd (w.drewN n) b s i := ⟨h.c0, h.c1, h.f1⟩
theorem drop_byte (s : ByteArray) (k : Nat) (h : k < s.size) : s.data.toList.drop k = s[k] :: s.data.toList.drop (k + 1) := by
  rw [List.drop_eq_getElem_cons (by simpa using h)]; rfl
theorem skip_end (s : ByteArray) (p : Nat) (h : s.size ≤ p) (b : Bool) : skipGo b (s.data.toList.drop p) = 0 := by
  rw [List.drop_eq_nil_of_le (by simpa using h)]; cases b <;> rfl
/-- where a reader stands -/
def placeOf (w : World) (b : Nat) : Nat := match w.cell? ⟨b, 1, none⟩ with
  | some (.int _ i) => i.toNat
  | _ => 0
theorem placeOf_set {w : World} {b : Nat} {s : ByteArray} {j : Int} (h : Rd w b s j) (i : Int) : placeOf (w.setCell ⟨b, 1, none⟩ (.int .i64 i)) b = i.toNat := by unfold placeOf; rw [(h.set i).c1]
theorem placeOf_rd {w : World} {b : Nat} {s : ByteArray} {k : Nat} (h : Rd w b s (k : Nat)) : placeOf w b = k := by unfold placeOf; rw [h.c1]; rfl
set_option maxRecDepth 100000 in
set_option maxHeartbeats 1000000 in
theorem rskip_any (b : Nat) (s : ByteArray) (p : Nat) (w : World) (h : Rd w b s p) (hp : p ≤ s.size) (hs : s.size ≤ 1073741824) :
    Calls Tryz.prog 69 #[.pointer (some ⟨b, 0, none⟩)] w fun e w' => e = .returned (.tuple #[]) ∧ Rd w' b s (skipTo s.data.toList p : Nat) ∧ RFr w w' b := by
  have HR : Hid (Rd w b s p) := h
  obtain ⟨c0, c1, f1⟩ := h
  go_enter Tryz.func69, Tryz.ntmps69
  go_wp2
  go_loopw [2] (fun _ wr => ∃ q : Nat, q ≤ s.size ∧ Hid (Rd wr b s q) ∧ Hid (RFr w wr b) ∧ Hid (skipTo s.data.toList p = skipTo s.data.toList q)) (fun _ wr => s.size + 1 - placeOf wr b)
  case atStart => exact ⟨p, hp, HR, RFr.refl _ _, (rfl : _ = _)⟩
  case round =>
    obtain ⟨q, hq, HQ, HF, HS⟩ := hrel
    obtain ⟨c0, c1, f1⟩ := HQ.out
    have HPQ : Hid (placeOf wr b = q) := placeOf_rd HQ.out
    by_cases hlt : q < s.size
    · have hc := byte_le s[q]
      have HD : Hid (s.data.toList.drop q = s[q] :: s.data.toList.drop (q + 1)) := drop_byte s q hlt
      by_cases h37 : s[q].toNat = 37
      · have HS2 : Hid (skipTo s.data.toList q = q + skipGo true (s.data.toList.drop q)) := by
          show _ = _
          unfold skipTo
          rw [HD.out, skipGo, skipGo]
          have e : s[q] = 37 := by apply UInt8.toNat_inj.1; rw [h37]; rfl
          rw [e]; simp
        have e37 : ((s[q].toNat : Int) == 37) = true := by simp [h37]
        go_wp2_with fail
        go_quiet (fail)
        go_wp2_with fail
        go_quiet (fail)
        go_wp2
        go_loopw [24] (fun _ wx => ∃ k : Nat, q ≤ k ∧ k ≤ s.size ∧ Hid (Rd wx b s k) ∧ Hid (RFr w wx b) ∧ Hid (skipTo s.data.toList q = k + skipGo true (s.data.toList.drop k))) (fun _ wx => s.size - placeOf wx b)
        case atStart => exact ⟨q, Nat.le_refl _, hq, HQ.out.drewN _, HF.out.trans (RFr.draws _ _ _), HS2⟩
        case round =>
          obtain ⟨k, hqk, hk, HK, HFK, HSK⟩ := hrel
          obtain ⟨d0, d1, g1⟩ := HK.out
          have HPL : Hid (placeOf wr b = k) := placeOf_rd HK.out
          clear c0 c1 f1
          by_cases hkl : k < s.size
          · have hck := byte_le s[k]
            have HDK : Hid (s.data.toList.drop k = s[k] :: s.data.toList.drop (k + 1)) := drop_byte s k hkl
            by_cases h10 : s[k].toNat = 10
            · have e10 : ((s[k].toNat : Int) == 10) = true := by simp [h10]
              have hne : q < k := by
                rcases Nat.eq_or_lt_of_le hqk with e | e
                · subst e; omega
                · exact e
              have HSN : Hid (skipTo s.data.toList p = skipTo s.data.toList k) := by
                show _ = _
                rw [HS.out, HSK.out]
                unfold skipTo
                have e : s[k] = 10 := by apply UInt8.toNat_inj.1; rw [h10]; rfl
                rw [HDK.out, e, skipGo, skipGo]; simp
              clear h10 h37
              go_wp2_with fail
              go_quiet (fail)
              go_wp2
              go_roundw
              case rel => exact ⟨k, hk, HK.out.drewN _, HFK.out.trans (RFr.draws _ _ _), HSN⟩
              case measure => rw [placeOf_rd (HK.out.drewN _), HPQ.out]; omega
            · have e10 : ((s[k].toNat : Int) == 10) = false := by simp; omega
              have HSN : Hid (skipTo s.data.toList q = k + 1 + skipGo true (s.data.toList.drop (k + 1))) := by
                show _ = _
                rw [HSK.out, HDK.out, skipGo, if_neg (fun e => h10 (by rw [e]; rfl))]; omega
              clear h10 h37
              go_wp2_with fail
              go_quiet (fail)
              go_wp2
              go_roundw
              case rel => exact ⟨k + 1, by omega, by omega, (HK.out.drewN _).set _, (HFK.out.trans (RFr.draws _ _ _)).trans (RFr.set _ _ _), HSN⟩
              case measure => rw [placeOf_set (HK.out.drewN _), HPL.out]; omega
          · have hke : k = s.size := by omega
            have HSN : Hid (skipTo s.data.toList p = skipTo s.data.toList k) := by
              show _ = _
              rw [HS.out, HSK.out]
              unfold skipTo
              rw [skip_end s k (by omega), skip_end s k (by omega)]
            have hne : q < k := by omega
            clear h37
            go_wp2_with fail
            go_quiet (fail)
            go_wp2
            go_roundw
            case rel => exact ⟨k, hk, HK.out.drewN _, HFK.out.trans (RFr.draws _ _ _), HSN⟩
            case measure => rw [placeOf_rd (HK.out.drewN _), HPQ.out]; omega
      · have e37 : ((s[q].toNat : Int) == 37) = false := by simp; omega
        by_cases hbl : s[q].toNat = 32 ∨ s[q].toNat = 9 ∨ s[q].toNat = 10
        · have HSN : Hid (skipTo s.data.toList p = skipTo s.data.toList (q + 1)) := by
            show _ = _
            rw [HS.out]
            unfold skipTo
            have e : s[q] = 32 ∨ s[q] = 9 ∨ s[q] = 10 := by
              rcases hbl with h5 | h5 | h5
              · exact Or.inl (by apply UInt8.toNat_inj.1; rw [h5]; rfl)
              · exact Or.inr (Or.inl (by apply UInt8.toNat_inj.1; rw [h5]; rfl))
              · exact Or.inr (Or.inr (by apply UInt8.toNat_inj.1; rw [h5]; rfl))
            rw [HD.out, skipGo, if_pos e]; omega
          have hcase : ((s[q].toNat : Int) != 32) = false ∨ (((s[q].toNat : Int) != 32) = true ∧ ((s[q].toNat : Int) != 9) = false) ∨ (((s[q].toNat : Int) != 32) = true ∧ ((s[q].toNat : Int) != 9) = true ∧ ((s[q].toNat : Int) != 10) = false) := by
            rcases hbl with h5 | h5 | h5
            · exact Or.inl (by simp [h5])
            · exact Or.inr (Or.inl ⟨by simp [h5], by simp [h5]⟩)
            · exact Or.inr (Or.inr ⟨by simp [h5], by simp [h5], by simp [h5]⟩)
          clear hbl h37
          rcases hcase with g1 | ⟨g1, g2⟩ | ⟨g1, g2, g3⟩
          all_goals
            go_wp2_with fail
            go_quiet (fail)
            go_wp2_with fail
            go_quiet (fail)
            go_wp2
            go_roundw
            case rel => exact ⟨q + 1, by omega, (HQ.out.drewN _).set _, (HF.out.trans (RFr.draws _ _ _)).trans (RFr.set _ _ _), HSN⟩
            case measure => rw [placeOf_set (HQ.out.drewN _), HPQ.out]; omega
        · have HSN : Hid (skipTo s.data.toList p = q) := by
            show _ = _
            rw [HS.out]
            unfold skipTo
            rw [HD.out, skipGo, if_neg (fun e => hbl (by rcases e with e | e | e <;> rw [e] <;> decide)), if_neg (fun e => h37 (by rw [e]; rfl))]; rfl
          have g1 : ((s[q].toNat : Int) != 32) = true := by rw [bne_iff_ne]; omega
          have g2 : ((s[q].toNat : Int) != 9) = true := by rw [bne_iff_ne]; omega
          have g3 : ((s[q].toNat : Int) != 10) = true := by rw [bne_iff_ne]; omega
          clear hbl h37
          go_wp2_with fail
          go_quiet (fail)
          go_wp2_with fail
          go_quiet (fail)
          go_wp2
          refine bodyPost_ret (results_none rfl _ _ _) rfl ?_
          exact ⟨rfl, by rw [HSN.out]; exact HQ.out.drewN _, HF.out.trans (RFr.draws _ _ _)⟩
    · have HSN : Hid (skipTo s.data.toList p = q) := by
        show _ = _
        rw [HS.out]
        unfold skipTo
        rw [skip_end s q (by omega)]; rfl
      go_wp2_with fail
      go_quiet (fail)
      go_wp2
      go_end0
      exact ⟨rfl, by rw [HSN.out]; exact HQ.out.drewN _, HF.out.trans (RFr.draws _ _ _)⟩
end Go.Proofs.YtgllfcoafgphbaaGreatDoor

/-
  The document's Reader: fail, and of what kind a word is.
-/
namespace Go.Proofs.YtgllfcoafgphbaaGreatDoor
open Go.ChangeShapes Go.WideShapes Go.ChangeAt Go.RowKit
set_option linter.unusedVariables false
set_option maxRecDepth 100000 in
set_option maxHeartbeats 1000000 in
theorem rfail_any (b : Nat) (e x old oldx : Int) (w : World) (h5 : w.cell? ⟨b, 5, none⟩ = some (.int .i64 old)) (h6 : w.cell? ⟨b, 6, none⟩ = some (.int .i64 oldx)) (f5 : w.frozen? ⟨b, 5, none⟩ = false) (f6 : w.frozen? ⟨b, 6, none⟩ = false) :
    Calls Tryz.prog 36 #[.pointer (some ⟨b, 0, none⟩), .int .i64 e, .int .i64 x] w fun en w' => en = .returned (.tuple #[]) ∧
      w' = if old = 0 then (w.setCell ⟨b, 5, none⟩ (.int .i64 e)).setCell ⟨b, 6, none⟩ (.int .i64 x) else w := by
  by_cases h : old = 0
  · subst h
    go_enter Tryz.func36, Tryz.ntmps36
    go_wp2
    go_end0
    exact ⟨rfl, by simp⟩
  · have hh : (old == 0) = false := by rw [beq_eq_false_iff_ne]; exact h
    have HI : Hid (¬ old = 0) := h
    clear h
    go_enter Tryz.func36, Tryz.ntmps36
    go_wp2
    go_end0
    exact ⟨rfl, by first | rfl | rw [if_neg HI.out]⟩
theorem take_all (s : ByteArray) (k : Nat) (h : k < s.size) (p : UInt8 → Bool) : (s.data.toList.take (k + 1)).all p = ((s.data.toList.take k).all p && p s[k]) := by
  rw [List.take_add_one, name_get s k h]; simp
theorem isVar_of (s : ByteArray) (h : 0 < s.size) : isVarB s.data.toList = (decide (s.size ≤ 30) && capitalB s[0]) := by
  have e : s.data.toList = s[0] :: s.data.toList.drop 1 := by have := drop_byte s 0 h; simpa using this
  have hl : s.data.toList.length = s.size := by simp
  rw [← hl]
  generalize s[0] = c at e
  generalize s.data.toList.drop 1 = t at e
  rw [e]; rfl
theorem isDig_of (s : ByteArray) (h : 0 < s.size) : isDigB s.data.toList = (decide (s.size ≤ 30) && s.data.toList.all digitB) := by
  have e : s.data.toList = s[0] :: s.data.toList.drop 1 := by have := drop_byte s 0 h; simpa using this
  have hl : s.data.toList.length = s.size := by simp
  rw [← hl]
  generalize s[0] = c at e
  generalize s.data.toList.drop 1 = t at e
  rw [e]; rfl
set_option maxRecDepth 100000 in
set_option maxHeartbeats 1000000 in
theorem rkind_any (s : ByteArray) (w : World) (h0 : 0 < s.size) (hs : s.size ≤ 140737488355328) :
    Calls Tryz.prog 71 #[.string s] w fun e w' => e = .returned (.int .i64 (wordKindF s.data.toList : Nat)) ∧ w = w' := by
  go_enter Tryz.func71, Tryz.ntmps71
  go_wp2
  go_loopw [3, 4] (fun d i wr => ∃ k : Nat, k ≤ s.size ∧ i = .int .i64 k ∧ wr = w ∧ d = .bool ((s.data.toList.take k).all digitB)) (fun _ i _ => s.size - (intOf i).toNat)
  case atStart => exact ⟨0, by omega, rfl, rfl, rfl⟩
  case round =>
    obtain ⟨k, hk, rfl, rfl, rfl⟩ := hrel
    by_cases hlt : k < s.size
    · have hc := byte_le s[k]
      have HT : Hid ((s.data.toList.take (k + 1)).all digitB = ((s.data.toList.take k).all digitB && digitB s[k])) := take_all s k hlt digitB
      obtain ⟨B, HB⟩ : ∃ B, Hid ((s.data.toList.take k).all digitB = B) := ⟨_, (rfl : _ = _)⟩
      rw [HB.out]
      rw [HB.out] at HT
      cases B with
      | false =>
        go_wp2
        go_roundw
        case rel => exact ⟨k + 1, by omega, by go_num, by first | trivial | rfl, by rw [HT.out]; rfl⟩
        case measure => simp [intOf]; omega
      | true =>
        by_cases ha : 48 ≤ s[k].toNat
        · by_cases hb : s[k].toNat ≤ 57
          · have HD : Hid (digitB s[k] = true) := by show _ = _; unfold digitB; simp [ha, hb]
            go_wp2
            go_roundw
            case rel => exact ⟨k + 1, by omega, by go_num, by first | trivial | rfl, by rw [HT.out, HD.out]; first | rfl | (simp; omega)⟩
            case measure => simp [intOf]; omega
          · have HD : Hid (digitB s[k] = false) := by show _ = _; unfold digitB; simp [hb]
            have hb' : 57 < s[k].toNat := by omega
            clear hb
            go_wp2
            go_roundw
            case rel => exact ⟨k + 1, by omega, by go_num, by first | trivial | rfl, by rw [HT.out, HD.out]; first | rfl | (simp; omega)⟩
            case measure => simp [intOf]; omega
        · have HD : Hid (digitB s[k] = false) := by show _ = _; unfold digitB; simp [ha]
          have ha' : s[k].toNat < 48 := by omega
          clear ha
          go_wp2
          go_roundw
          case rel => exact ⟨k + 1, by omega, by go_num, by first | trivial | rfl, by rw [HT.out, HD.out]; first | rfl | (simp; omega)⟩
          case measure => simp [intOf]; omega
    · have HT : Hid ((s.data.toList.take k).all digitB = s.data.toList.all digitB) := by show _ = _; rw [List.take_of_length_le (by simp; omega)]
      rw [HT.out]
      have HV : Hid (isVarB s.data.toList = (decide (s.size ≤ 30) && capitalB s[0])) := isVar_of s h0
      have HG : Hid (isDigB s.data.toList = (decide (s.size ≤ 30) && s.data.toList.all digitB)) := isDig_of s h0
      obtain ⟨D, HD⟩ : ∃ D, Hid (s.data.toList.all digitB = D) := ⟨_, (rfl : _ = _)⟩
      rw [HD.out]
      rw [HD.out] at HG
      have hc := byte_le s[0]
      go_wp2_with fail
      refine (risname_any s _ hs).mono ?_
      rintro e w1 ⟨rfl, rfl⟩
      obtain ⟨N, HN⟩ : ∃ N, Hid (isName s.data.toList = N) := ⟨_, (rfl : _ = _)⟩
      rw [HN.out]
      by_cases hnot : s.data.toList = [110, 111, 116]
      · have HE : Hid (wordKindF s.data.toList = 4) := by show _ = _; unfold wordKindF; rw [if_pos hnot]
        have hn2 : (s.toList == [110, 111, 116]) = true := by rw [toList_of, hnot]; rfl
        clear hnot
        go_wp2
        go_ret
        exact ⟨by rw [HE.out]; rfl, rfl⟩
      · have hn2 : (s.toList == [110, 111, 116]) = false := by rw [toList_of]; simp [hnot]
        have HK : Hid (wordKindF s.data.toList = if N then 1 else if isVarB s.data.toList then 2 else if isDigB s.data.toList then 3 else 5) := by show _ = _; unfold wordKindF; rw [if_neg hnot, HN.out]
        clear hnot
        cases N with
        | true =>
          go_wp2
          go_ret
          exact ⟨by rw [HK.out]; rfl, rfl⟩
        | false =>
          by_cases h30 : s.size ≤ 30
          · by_cases ha : 65 ≤ s[0].toNat
            · by_cases hb : s[0].toNat ≤ 90
              · have HE : Hid (wordKindF s.data.toList = 2) := by show _ = _; rw [HK.out, HV.out]; unfold capitalB; simp [h30, ha, hb]
                go_wp2
                go_ret
                exact ⟨by rw [HE.out]; rfl, rfl⟩
              · have HE : Hid (wordKindF s.data.toList = if D then 3 else 5) := by show _ = _; rw [HK.out, HV.out, HG.out]; unfold capitalB; simp [h30, hb]
                have hb' : 90 < s[0].toNat := by omega
                clear hb
                cases D
                all_goals
                  go_wp2
                  go_ret
                  exact ⟨by rw [HE.out]; rfl, rfl⟩
            · have HE : Hid (wordKindF s.data.toList = if D then 3 else 5) := by show _ = _; rw [HK.out, HV.out, HG.out]; unfold capitalB; simp [h30, ha]
              have ha' : s[0].toNat < 65 := by omega
              clear ha
              cases D
              all_goals
                go_wp2
                go_ret
                exact ⟨by rw [HE.out]; rfl, rfl⟩
          · have HE : Hid (wordKindF s.data.toList = 5) := by show _ = _; rw [HK.out, HV.out, HG.out]; simp [h30]
            have h30' : 30 < s.size := by omega
            clear h30
            go_wp2
            go_ret
            exact ⟨by rw [HE.out]; rfl, rfl⟩
end Go.Proofs.YtgllfcoafgphbaaGreatDoor
