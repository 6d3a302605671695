import Derived.Test.YtdfbjnachakkhaaGreatDoorM01
namespace Go.Proofs.YtdfbjnachakkhaaGreatDoor
open Go.ChangeShapes Go.WideShapes Go.ChangeAt Go.RowKit
set_option linter.unusedVariables false
def capitalB (c : UInt8) : Bool := decide (65 ≤ c.toNat) && decide (c.toNat ≤ 90)
def digitB (c : UInt8) : Bool := decide (48 ≤ c.toNat) && decide (c.toNat ≤ 57)
theorem wordB_is (c : UInt8) : wordB c = (smallB c || capitalB c || digitB c || decide (c.toNat = 95)) := rfl
set_option maxRecDepth 100000 in
set_option maxHeartbeats 1000000 in
theorem psmall_any (c : UInt8) (w : World) :
    Calls Tryz.prog 126 #[.int .u8 (c.toNat : Int)] w fun e w' => e = .returned (.bool (smallB c)) ∧ w = w' := by
  have hc := byte_le c
  by_cases h1 : 97 ≤ c.toNat
  · by_cases h2 : c.toNat ≤ 122
    · have HE : Hid (smallB c = true) := by show _ = _; simp [smallB, h1, h2]
      go_enter Tryz.func126, Tryz.ntmps126
      go_wp2
      go_ret
      exact ⟨ret_bool (by rw [HE.out]; simp; omega), rfl⟩
    · have HE : Hid (smallB c = false) := by show _ = _; simp [smallB, h2]
      go_enter Tryz.func126, Tryz.ntmps126
      go_wp2
      go_ret
      exact ⟨ret_bool (by rw [HE.out]; simp; omega), rfl⟩
  · have HE : Hid (smallB c = false) := by show _ = _; simp [smallB, h1]
    go_enter Tryz.func126, Tryz.ntmps126
    go_wp2
    go_ret
    exact ⟨ret_bool (by rw [HE.out]), rfl⟩
set_option maxRecDepth 100000 in
set_option maxHeartbeats 1000000 in
theorem pcapital_any (c : UInt8) (w : World) :
    Calls Tryz.prog 170 #[.int .u8 (c.toNat : Int)] w fun e w' => e = .returned (.bool (capitalB c)) ∧ w = w' := by
  have hc := byte_le c
  by_cases h1 : 65 ≤ c.toNat
  · by_cases h2 : c.toNat ≤ 90
    · have HE : Hid (capitalB c = true) := by show _ = _; simp [capitalB, h1, h2]
      go_enter Tryz.func170, Tryz.ntmps170
      go_wp2
      go_ret
      exact ⟨ret_bool (by rw [HE.out]; simp; omega), rfl⟩
    · have HE : Hid (capitalB c = false) := by show _ = _; simp [capitalB, h2]
      go_enter Tryz.func170, Tryz.ntmps170
      go_wp2
      go_ret
      exact ⟨ret_bool (by rw [HE.out]; simp; omega), rfl⟩
  · have HE : Hid (capitalB c = false) := by show _ = _; simp [capitalB, h1]
    go_enter Tryz.func170, Tryz.ntmps170
    go_wp2
    go_ret
    exact ⟨ret_bool (by rw [HE.out]), rfl⟩
set_option maxRecDepth 100000 in
set_option maxHeartbeats 1000000 in
theorem pdigit_any (c : UInt8) (w : World) :
    Calls Tryz.prog 171 #[.int .u8 (c.toNat : Int)] w fun e w' => e = .returned (.bool (digitB c)) ∧ w = w' := by
  have hc := byte_le c
  by_cases h1 : 48 ≤ c.toNat
  · by_cases h2 : c.toNat ≤ 57
    · have HE : Hid (digitB c = true) := by show _ = _; simp [digitB, h1, h2]
      go_enter Tryz.func171, Tryz.ntmps171
      go_wp2
      go_ret
      exact ⟨ret_bool (by rw [HE.out]; simp; omega), rfl⟩
    · have HE : Hid (digitB c = false) := by show _ = _; simp [digitB, h2]
      go_enter Tryz.func171, Tryz.ntmps171
      go_wp2
      go_ret
      exact ⟨ret_bool (by rw [HE.out]; simp; omega), rfl⟩
  · have HE : Hid (digitB c = false) := by show _ = _; simp [digitB, h1]
    go_enter Tryz.func171, Tryz.ntmps171
    go_wp2
    go_ret
    exact ⟨ret_bool (by rw [HE.out]), rfl⟩
set_option maxRecDepth 100000 in
set_option maxHeartbeats 1000000 in
theorem pword_any (c : UInt8) (w : World) :
    Calls Tryz.prog 128 #[.int .u8 (c.toNat : Int)] w fun e w' => e = .returned (.bool (wordB c)) ∧ w = w' := by
  have hc := byte_le c
  cases hs : smallB c with
  | true =>
    have HE : Hid (wordB c = true) := by show _ = _; simp [wordB_is, hs]
    go_enter Tryz.func128, Tryz.ntmps128
    go_wp2_with fail
    refine (psmall_any c _).mono ?_
    rintro e w1 ⟨rfl, rfl⟩
    rw [hs]
    go_wp2
    go_ret
    exact ⟨ret_bool (by rw [HE.out]), rfl⟩
  | false =>
    cases hk : capitalB c with
    | true =>
      have HE : Hid (wordB c = true) := by show _ = _; simp [wordB_is, hk]
      go_enter Tryz.func128, Tryz.ntmps128
      go_wp2_with fail
      refine (psmall_any c _).mono ?_
      rintro e w1 ⟨rfl, rfl⟩
      rw [hs]
      go_wp2_with fail
      refine (pcapital_any c _).mono ?_
      rintro e w2 ⟨rfl, rfl⟩
      rw [hk]
      go_wp2
      go_ret
      exact ⟨ret_bool (by rw [HE.out]), rfl⟩
    | false =>
      cases hd : digitB c with
      | true =>
        have HE : Hid (wordB c = true) := by show _ = _; simp [wordB_is, hd]
        go_enter Tryz.func128, Tryz.ntmps128
        go_wp2_with fail
        refine (psmall_any c _).mono ?_
        rintro e w1 ⟨rfl, rfl⟩
        rw [hs]
        go_wp2_with fail
        refine (pcapital_any c _).mono ?_
        rintro e w2 ⟨rfl, rfl⟩
        rw [hk]
        go_wp2_with fail
        refine (pdigit_any c _).mono ?_
        rintro e w3 ⟨rfl, rfl⟩
        rw [hd]
        go_wp2
        go_ret
        exact ⟨ret_bool (by rw [HE.out]), rfl⟩
      | false =>
        have HE : Hid (wordB c = decide (c.toNat = 95)) := by show _ = _; simp [wordB_is, hs, hk, hd]
        go_enter Tryz.func128, Tryz.ntmps128
        go_wp2_with fail
        refine (psmall_any c _).mono ?_
        rintro e w1 ⟨rfl, rfl⟩
        rw [hs]
        go_wp2_with fail
        refine (pcapital_any c _).mono ?_
        rintro e w2 ⟨rfl, rfl⟩
        rw [hk]
        go_wp2_with fail
        refine (pdigit_any c _).mono ?_
        rintro e w3 ⟨rfl, rfl⟩
        rw [hd]
        go_wp2
        go_ret
        refine ⟨ret_bool ?_, rfl⟩
        rw [HE.out]
        apply bool_eq
        simp
        try omega
/-- how many bytes of one kind a text begins with -/
def runLen (p : UInt8 → Bool) (l : List UInt8) : Nat := (l.takeWhile p).length
theorem runLen_le (p : UInt8 → Bool) (l : List UInt8) : runLen p l ≤ l.length := by
  unfold runLen
  induction l with
  | nil => simp
  | cons c t ih => rw [List.takeWhile_cons]; split <;> simp; omega
theorem runLen_is (p : UInt8 → Bool) (l : List UInt8) (k : Nat) (h1 : ∀ i c, i < k → l[i]? = some c → p c = true) (h2 : ∀ c, l[k]? = some c → p c = false) (hk : k ≤ l.length) : runLen p l = k := by
  unfold runLen
  induction l generalizing k with
  | nil => simp at hk ⊢; omega
  | cons c t ih =>
    rw [List.takeWhile_cons]
    cases k with
    | zero => rw [h2 c rfl]; rfl
    | succ k =>
      rw [h1 0 c (by omega) rfl, if_pos rfl, List.length_cons, ih k (fun i d hi hd => h1 (i + 1) d (by omega) (by simpa using hd)) (fun d hd => h2 d (by simpa using hd)) (by simp at hk; omega)]
theorem runLen_all (p : UInt8 → Bool) (l : List UInt8) : decide (runLen p l = l.length) = l.all p := by
  unfold runLen
  induction l with
  | nil => rfl
  | cons c t ih =>
    rw [List.takeWhile_cons, List.all_cons, ← ih]
    cases p c <;> simp
set_option maxRecDepth 100000 in
set_option maxHeartbeats 1000000 in
theorem run_any (F : Nat) (p : UInt8 → Bool) (EG : ∀ args w, (callFunc F args).run Tryz.prog w = .ok (.enter F args) w)
    (HP : Hid (∀ (c : UInt8) (w : World), Calls Tryz.prog F #[.int .u8 (c.toNat : Int)] w fun e w' => e = .returned (.bool (p c)) ∧ w = w')) (s : ByteArray) (w : World) (hs : s.size ≤ 140737488355328) :
    Calls Tryz.prog 115 #[.string s, .func (.func F) #[] #[]] w fun e w' => e = .returned (.int .i64 (runLen p s.data.toList : Nat)) ∧ w = w' := by
  go_enter Tryz.func115, Tryz.ntmps115
  go_wp2
  go_loopw [5] (fun i wr => ∃ k : Nat, k ≤ s.size ∧ i = .int .i64 k ∧ wr = w ∧ Hid (∀ i c, i < k → s.data.toList[i]? = some c → p c = true)) (fun i _ => s.size - (intOf i).toNat)
  case atStart => exact ⟨0, by omega, rfl, rfl, fun i c hi => by omega⟩
  case round =>
    obtain ⟨k, hk, rfl, rfl, HA⟩ := hrel
    by_cases hlt : k < s.size
    · have hc := byte_le s[k]
      cases hw : p s[k] with
      | true =>
        have HW : Hid (∀ i c, i < k + 1 → s.data.toList[i]? = some c → p c = true) := by
          intro i c hi hcc
          by_cases e : i = k
          · subst e
            rw [name_get s i hlt] at hcc
            cases hcc; exact hw
          · exact HA.out i c (by omega) hcc
        have HWK : Hid (p s[k] = true) := hw
        clear hw
        go_wp2_with fail
        refine (HP.out s[k] _).mono ?_
        rintro e w1 ⟨rfl, rfl⟩
        rw [HWK.out]
        go_wp2
        go_roundw
        case rel => exact ⟨k + 1, by omega, by go_num, by first | trivial | rfl, HW⟩
        case measure => simp [intOf]; omega
      | false =>
        have HW : Hid (runLen p s.data.toList = k) := runLen_is p _ k HA.out (fun c hcc => by rw [name_get s k hlt] at hcc; cases hcc; exact hw) (by simp; omega)
        have HWK : Hid (p s[k] = false) := hw
        clear hw
        go_wp2_with fail
        refine (HP.out s[k] _).mono ?_
        rintro e w1 ⟨rfl, rfl⟩
        rw [HWK.out]
        go_wp2
        go_ret
        exact ⟨by rw [HW.out]; rfl, rfl⟩
    · have HW : Hid (runLen p s.data.toList = k) := runLen_is p _ k HA.out (fun c hcc => by rw [List.getElem?_eq_none (by simp; omega)] at hcc; cases hcc) (by simp; omega)
      go_wp2
      go_ret
      exact ⟨by rw [HW.out]; rfl, rfl⟩
set_option maxRecDepth 100000 in
set_option maxHeartbeats 1000000 in
theorem all_any (F : Nat) (p : UInt8 → Bool) (EG : ∀ args w, (callFunc F args).run Tryz.prog w = .ok (.enter F args) w)
    (HP : Hid (∀ (c : UInt8) (w : World), Calls Tryz.prog F #[.int .u8 (c.toNat : Int)] w fun e w' => e = .returned (.bool (p c)) ∧ w = w')) (s : ByteArray) (w : World) (hs : s.size ≤ 140737488355328) :
    Calls Tryz.prog 127 #[.string s, .func (.func F) #[] #[]] w fun e w' => e = .returned (.bool (s.data.toList.all p)) ∧ w = w' := by
  have HA : Hid (decide (runLen p s.data.toList = s.data.toList.length) = s.data.toList.all p) := runLen_all p _
  obtain ⟨n, HN⟩ : ∃ n, Hid (n = runLen p s.data.toList) := ⟨_, (rfl : runLen p s.data.toList = _)⟩
  have hn : n ≤ s.size := by have := runLen_le p s.data.toList; rw [HN.out]; simpa using this
  rw [← HN.out] at HA
  go_enter Tryz.func127, Tryz.ntmps127
  go_wp2_with fail
  refine (run_any F p EG HP s _ hs).mono ?_
  rintro e w1 ⟨rfl, rfl⟩
  rw [← HN.out]
  go_wp2
  go_ret
  refine ⟨ret_bool ?_, rfl⟩
  rw [← HA.out]
  apply bool_eq
  simp
  try omega
end Go.Proofs.YtdfbjnachakkhaaGreatDoor

namespace Go.Proofs.YtdfbjnachakkhaaGreatDoor
/-- blanks and remarks at the beginning -/
def skipGo : Bool → List UInt8 → Nat
  | _, [] => 0
  | true, c :: t => if c = 10 then 1 + skipGo false t else 1 + skipGo true t
  | false, c :: t => if c = 32 ∨ c = 9 ∨ c = 10 then 1 + skipGo false t else if c = 37 then 1 + skipGo true t else 0
/-- the place of the next sign, from a place on -/
def skipTo (l : List UInt8) (p : Nat) : Nat := p + skipGo false (l.drop p)
/-- the word at a place -/
def wordAt (l : List UInt8) (p : Nat) : List UInt8 := (l.drop p).takeWhile wordB
def isVarB (w : List UInt8) : Bool := match w with
  | [] => false
  | c :: _ => decide (w.length ≤ 30) && capitalB c
def isDigB (w : List UInt8) : Bool := match w with
  | [] => false
  | _ :: _ => decide (w.length ≤ 30) && w.all digitB
def starts (l : List UInt8) (p : Nat) (s : List UInt8) : Bool := s.isPrefixOf (l.drop p)
def atNameB (l : List UInt8) (p : Nat) : Bool := isName (wordAt l p)
def atTermB (l : List UInt8) (p : Nat) : Bool := starts l p [34] || isName (wordAt l p) || isVarB (wordAt l p) || isDigB (wordAt l p)
def atPartB (l : List UInt8) (p : Nat) : Bool := (wordAt l p == [110, 111, 116]) || atTermB l p
abbrev PErr := Nat × Nat
structure PTerm where
  isVar : Bool
  text : List UInt8
  place : Nat
deriving DecidableEq
structure PAtom where
  name : List UInt8
  args : List PTerm
  place : Nat
deriving DecidableEq
structure PPart where
  kind : Nat
  atom : PAtom
  left : PTerm
  right : PTerm
deriving DecidableEq
def noTerm : PTerm := ⟨false, [], 0⟩
def noAtom : PAtom := ⟨[], [], 0⟩
/-- a STRING, behind its first byte: what it stands for, and the place behind it -/
def strGo : List UInt8 → Nat → List UInt8 → Except PErr (List UInt8 × Nat)
  | [], p, _ => .error (2, p)
  | c :: t, p, acc =>
    if c = 34 then .ok (acc, p + 1)
    else if c = 10 then .error (2, p)
    else if c = 92 then
      match t with
      | [] => .error (2, p + 1)
      | d :: t2 => if d = 110 then strGo t2 (p + 2) (acc ++ [10]) else if d = 34 ∨ d = 92 then strGo t2 (p + 2) (acc ++ [d]) else .error (2, p + 1)
    else strGo t (p + 1) (acc ++ [c])
/-- one term -/
def termF (l : List UInt8) (p : Nat) : Except PErr (PTerm × Nat) :=
  if starts l p [34] then
    match strGo (l.drop (p + 1)) (p + 1) [] with
    | .error e => .error e
    | .ok (s, q) => if 200 < s.length then .error (1, p) else .ok (⟨false, s, p⟩, skipTo l q)
  else if atTermB l p then .ok (⟨isVarB (wordAt l p), wordAt l p, p⟩, skipTo l (p + (wordAt l p).length))
  else .error (2, p)
/-- a sign, if it is the next one: the place of the one behind it -/
def signF (l : List UInt8) (s : List UInt8) (p : Nat) : Option Nat := if starts l p s then some (skipTo l (p + s.length)) else none
/-- one or more things, so many more at the most -/
def listF {α : Type} (begins : Nat → Bool) (one : Nat → Except PErr (α × Nat)) (goesOn : Nat → Option Nat) : Nat → Nat → Except PErr (List α × Nat)
  | 0, p => if begins p then .error (7, p) else .error (2, p)
  | n + 1, p => if begins p then
      match one p with
      | .error e => .error e
      | .ok (x, q) => match goesOn q with
        | none => .ok ([x], q)
        | some r => match listF begins one goesOn n r with
          | .error e => .error e
          | .ok (xs, r2) => .ok (x :: xs, r2)
    else .error (2, p)
/-- an atom -/
def atomF (l : List UInt8) (p : Nat) : Except PErr (PAtom × Nat) :=
  if atNameB l p then
    match signF l [40] (skipTo l (p + (wordAt l p).length)) with
    | none => .ok (⟨wordAt l p, [], p⟩, skipTo l (p + (wordAt l p).length))
    | some q => match listF (atTermB l) (termF l) (signF l [44]) 8 q with
      | .error e => .error e
      | .ok (args, r) => match signF l [41] r with
        | none => .error (2, r)
        | some r2 => .ok (⟨wordAt l p, args, p⟩, r2)
  else .error (2, p)
/-- the sign of a comparison -/
def compF (l : List UInt8) (p : Nat) : Option (Nat × Nat) := match signF l [61] p with
  | some q => some (2, q)
  | none => match signF l [33, 61] p with
    | some q => some (3, q)
    | none => match signF l [60] p with
      | some q => some (4, q)
      | none => none
/-- one part -/
def partF (l : List UInt8) (p : Nat) : Except PErr (PPart × Nat) :=
  if wordAt l p = [110, 111, 116] then
    match atomF l (skipTo l (p + 3)) with
    | .error e => .error e
    | .ok (a, q) => .ok (⟨1, a, noTerm, noTerm⟩, q)
  else if atNameB l p && (compF l (skipTo l (p + (wordAt l p).length))).isNone then
    match atomF l p with
    | .error e => .error e
    | .ok (a, q) => .ok (⟨0, a, noTerm, noTerm⟩, q)
  else match termF l p with
    | .error e => .error e
    | .ok (t, q) => match compF l q with
      | none => .error (2, q)
      | some (k, r) => match termF l r with
        | .error e => .error e
        | .ok (u, r2) => .ok (⟨k, noAtom, t, u⟩, r2)
def partsF (l : List UInt8) (p : Nat) : Except PErr (List PPart × Nat) := listF (atPartB l) (partF l) (signF l [44]) 12 p
/-- D1, D2 of queries -/
def queryF (l : List UInt8) : Except PErr (List PPart) :=
  if 20000 < l.length then .error (1, 0)
  else match partsF l (skipTo l 0) with
    | .error e => .error e
    | .ok (ps, q) => match signF l [46] q with
      | none => .error (2, q)
      | some r => if r = l.length then .ok ps else .error (2, r)
end Go.Proofs.YtdfbjnachakkhaaGreatDoor

namespace Go.Proofs.YtdfbjnachakkhaaGreatDoor
open Go.ChangeShapes Go.WideShapes Go.ChangeAt Go.RowKit
set_option linter.unusedVariables false
/-- a reader's text and where it stands -/
structure Rd (w : World) (b : Nat) (s : ByteArray) (i : Int) : Prop where
  c0 : w.cell? ⟨b, 0, none⟩ = some (.string s)
  c1 : w.cell? ⟨b, 1, none⟩ = some (.int .i64 i)
  f1 : w.frozen? ⟨b, 1, none⟩ = false
/-- what turns of a world is the reader's place alone -/
structure RFr (w w' : World) (b : Nat) : Prop where
  os : w'.os = w.os
  tape : w'.tape = w.tape
  output : w'.output = w.output
  size : w'.heap.size = w.heap.size
  block : ∀ k, k ≠ b → w'.heap[k]? = w.heap[k]?
  cell : ∀ j, j ≠ 1 → w'.cell? ⟨b, j, none⟩ = w.cell? ⟨b, j, none⟩
  frozen : ∀ j, w'.frozen? ⟨b, j, none⟩ = w.frozen? ⟨b, j, none⟩
theorem RFr.refl (w : World) (b : Nat) : RFr w w b := ⟨rfl, rfl, rfl, rfl, fun _ _ => rfl, fun _ _ => rfl, fun _ => rfl⟩
theorem RFr.trans {w w' w'' : World} {b : Nat} (h : RFr w w' b) (k : RFr w' w'' b) : RFr w w'' b :=
  ⟨k.os.trans h.os, k.tape.trans h.tape, k.output.trans h.output, k.size.trans h.size, fun j hj => (k.block j hj).trans (h.block j hj), fun j hj => (k.cell j hj).trans (h.cell j hj), fun j => (k.frozen j).trans (h.frozen j)⟩
theorem RFr.draws (w : World) (b n : Nat) : RFr w (w.drewN n) b := ⟨rfl, rfl, rfl, rfl, fun _ _ => rfl, fun _ _ => rfl, fun _ => rfl⟩
theorem RFr.set (w : World) (b : Nat) (u : Value) : RFr w (w.setCell ⟨b, 1, none⟩ u) b :=
  ⟨rfl, rfl, rfl, by simp [World.setCell], fun k hk => Below.heap_setCell w ⟨b, 1, none⟩ u k hk, fun j hj => World.cell?_setCell_other _ _ _ _ (by intro e; cases e; exact hj rfl), fun j => by rw [World.frozen?_setCell]⟩
theorem Rd.set {w : World} {b : Nat} {s : ByteArray} {i : Int} (h : Rd w b s i) (j : Int) : Rd (w.setCell ⟨b, 1, none⟩ (.int .i64 j)) b s j :=
  ⟨by rw [World.cell?_setCell_other _ _ _ _ (by simp)]; exact h.c0, World.cell?_setCell_same _ _ _ h.c1, by rw [World.frozen?_setCell]; exact h.f1⟩
theorem Rd.drewN {w : World} {b : Nat} {s : ByteArray} {i : Int} (h : Rd w b s i) (n : Nat) : Rd (w.drewN n) b s i := ⟨h.c0, h.c1, h.f1⟩
theorem drop_byte (s : ByteArray) (k : Nat) (h : k < s.size) : s.data.toList.drop k = s[k] :: s.data.toList.drop (k + 1) := by
  rw [List.drop_eq_getElem_cons (by simpa using h)]; rfl
theorem skip_end (s : ByteArray) (p : Nat) (h : s.size ≤ p) (b : Bool) : skipGo b (s.data.toList.drop p) = 0 := by
  rw [List.drop_eq_nil_of_le (by simpa using h)]; cases b <;> rfl
/-- where a reader stands -/
def placeOf (w : World) (b : Nat) : Nat := match w.cell? ⟨b, 1, none⟩ with
  | some (.int _ i) => i.toNat
  | _ => 0
theorem placeOf_set {w : World} {b : Nat} {s : ByteArray} {j : Int} (h : Rd w b s j) (i : Int) : placeOf (w.setCell ⟨b, 1, none⟩ (.int .i64 i)) b = i.toNat := by unfold placeOf; rw [(h.set i).c1]
theorem placeOf_rd {w : World} {b : Nat} {s : ByteArray} {k : Nat} (h : Rd w b s (k : Nat)) : placeOf w b = k := by unfold placeOf; rw [h.c1]; rfl
end Go.Proofs.YtdfbjnachakkhaaGreatDoor

namespace Go.Proofs.YtdfbjnachakkhaaGreatDoor
open Go.ChangeShapes Go.WideShapes Go.ChangeAt Go.RowKit
set_option linter.unusedVariables false
theorem isVar_of (s : ByteArray) (h : 0 < s.size) : isVarB s.data.toList = (decide (s.size ≤ 30) && capitalB s[0]) := by
  have e : s.data.toList = s[0] :: s.data.toList.drop 1 := by have := drop_byte s 0 h; simpa using this
  have hl : s.data.toList.length = s.size := by simp
  rw [← hl]
  generalize s[0] = c at e
  generalize s.data.toList.drop 1 = t at e
  rw [e]; rfl
theorem isDig_of (s : ByteArray) (h : 0 < s.size) : isDigB s.data.toList = (decide (s.size ≤ 30) && s.data.toList.all digitB) := by
  have e : s.data.toList = s[0] :: s.data.toList.drop 1 := by have := drop_byte s 0 h; simpa using this
  have hl : s.data.toList.length = s.size := by simp
  rw [← hl]
  generalize s[0] = c at e
  generalize s.data.toList.drop 1 = t at e
  rw [e]; rfl
end Go.Proofs.YtdfbjnachakkhaaGreatDoor

namespace Go.Proofs.YtdfbjnachakkhaaGreatDoor
open Go.ChangeShapes Go.WideShapes Go.ChangeAt Go.RowKit
set_option linter.unusedVariables false
/-- what turns of a world is the reader alone -/
structure RFx (w w' : World) (b : Nat) : Prop where
  os : w'.os = w.os
  tape : w'.tape = w.tape
  output : w'.output = w.output
  size : w'.heap.size = w.heap.size
  block : ∀ k, k ≠ b → w'.heap[k]? = w.heap[k]?
theorem RFr.x {w w' : World} {b : Nat} (h : RFr w w' b) : RFx w w' b := ⟨h.os, h.tape, h.output, h.size, h.block⟩
end Go.Proofs.YtdfbjnachakkhaaGreatDoor

namespace Go.Proofs.YtdfbjnachakkhaaGreatDoor
set_option linter.unusedVariables false
def at0 (s : ByteArray) (p : Nat) : UInt8 := if h : p < s.size then s[p] else 0
theorem drop_at (s : ByteArray) (p : Nat) (h : p < s.size) : s.data.toList.drop p = at0 s p :: s.data.toList.drop (p + 1) := by
  unfold at0
  rw [dif_pos h, List.drop_eq_getElem_cons (by simpa using h)]; rfl
theorem drop_end (s : ByteArray) (p : Nat) (h : s.size ≤ p) : s.data.toList.drop p = [] := List.drop_eq_nil_of_le (by simpa using h)
theorem extract_take (s : ByteArray) (p m : Nat) : (s.extract p (p + m)).data.toList = (s.data.toList.drop p).take m := by
  rw [ByteArray.data_extract, Array.toList_extract, List.extract_eq_take_drop, Nat.add_sub_cancel_left]
theorem take_word (l : List UInt8) (p : Nat) : (l.drop p).take (wordAt l p).length = wordAt l p := (List.prefix_iff_eq_take.1 (List.takeWhile_prefix _)).symm
theorem starts_one (s : ByteArray) (p : Nat) (c : UInt8) : starts s.data.toList p [c] = decide (p < s.size ∧ at0 s p = c) := by
  unfold starts
  by_cases h : p < s.size
  · rw [drop_at s p h]; rw [Bool.eq_iff_iff]; simp only [List.isPrefixOf, Bool.and_true, beq_iff_eq, decide_eq_true_eq]; exact ⟨fun e => ⟨h, e.symm⟩, fun e => e.2.symm⟩
  · rw [drop_end s p (by omega)]; simp [List.isPrefixOf, h]
theorem strGo_err (l : List UInt8) : ∀ (n : Nat) (p : Nat) (acc : List UInt8) (e x : Nat), l.length ≤ n → strGo l p acc = .error (e, x) → e = 2 := by
  intro n
  induction n generalizing l with
  | zero =>
    intro p acc e x hl h
    cases l with
    | nil => rw [strGo] at h; cases h; rfl
    | cons c t => simp at hl
  | succ n ih =>
    intro p acc e x hl h
    cases l with
    | nil => rw [strGo] at h; cases h; rfl
    | cons c t =>
      simp at hl
      unfold strGo at h
      split at h
      · cases h
      · split at h
        · cases h; rfl
        · split at h
          · cases t with
            | nil => cases h; rfl
            | cons d t2 =>
              simp at hl
              simp only [] at h
              split at h
              · exact ih t2 _ _ _ _ (by omega) h
              · split at h
                · exact ih t2 _ _ _ _ (by omega) h
                · cases h; rfl
          · exact ih t _ _ _ _ hl h
theorem termF_not (l : List UInt8) (p : Nat) (h : atTermB l p = false) : termF l p = .error (2, p) := by
  unfold termF
  have h2 := h
  unfold atTermB at h2
  simp only [Bool.or_eq_false_iff] at h2
  rw [h2.1.1.1, h]; rfl
/-- what stands behind an atom's name -/
def restF (l : List UInt8) (name : List UInt8) (x q : Nat) : Except PErr (PAtom × Nat) := match signF l [40] q with
  | none => .ok (⟨name, [], x⟩, q)
  | some q => match listF (atTermB l) (termF l) (signF l [44]) 8 q with
    | .error e => .error e
    | .ok (args, r) => match signF l [41] r with
      | none => .error (2, r)
      | some r2 => .ok (⟨name, args, x⟩, r2)
theorem atomF_is (l : List UInt8) (p : Nat) : atomF l p = if atNameB l p then restF l (wordAt l p) p (skipTo l (p + (wordAt l p).length)) else .error (2, p) := rfl
theorem skipGo_le (l : List UInt8) : ∀ b, skipGo b l ≤ l.length := by
  induction l with
  | nil => intro b; cases b <;> exact Nat.le_refl _
  | cons c t ih =>
    intro b
    cases b with
    | true => unfold skipGo; have h1 := ih true; have h2 := ih false; simp only [List.length_cons]; split <;> omega
    | false => unfold skipGo; have h1 := ih true; have h2 := ih false; simp only [List.length_cons]; repeat' split
               all_goals omega
theorem skipTo_le (l : List UInt8) (p : Nat) (h : p ≤ l.length) : skipTo l p ≤ l.length := by
  unfold skipTo
  have := skipGo_le (l.drop p) false
  rw [List.length_drop] at this; omega
theorem sign_le (l : List UInt8) (sg : List UInt8) (p q : Nat) (h : signF l sg p = some q) (h0 : 0 < sg.length) : q ≤ l.length := by
  unfold signF at h
  split at h
  · rename_i hs
    cases h
    apply skipTo_le
    unfold starts at hs
    have := (List.isPrefixOf_iff_prefix.1 hs).length_le
    rw [List.length_drop] at this
    omega
  · cases h
end Go.Proofs.YtdfbjnachakkhaaGreatDoor
