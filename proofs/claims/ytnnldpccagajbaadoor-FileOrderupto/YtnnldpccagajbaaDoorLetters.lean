/-
  The program's package letters, walked.
-/
import Derived.Test.YtnnldpccagajbaaDoorNames
namespace Go.Proofs.YtnnldpccagajbaaDoor
open Go.ChangeShapes Go.WideShapes Go.ChangeAt Go.RowKit
set_option linter.unusedVariables false
def capitalB (c : UInt8) : Bool := decide (65 ≤ c.toNat) && decide (c.toNat ≤ 90)
def digitB (c : UInt8) : Bool := decide (48 ≤ c.toNat) && decide (c.toNat ≤ 57)
theorem wordB_is (c : UInt8) : wordB c = (smallB c || capitalB c || digitB c || decide (c.toNat = 95)) := rfl
set_option maxRecDepth 100000 in
set_option maxHeartbeats 1000000 in
theorem psmall_any (c : UInt8) (w : World) :
    Calls Tryd.prog 55 #[.int .u8 (c.toNat : Int)] w fun e w' => e = .returned (.bool (smallB c)) ∧ w = w' := by
  have hc := byte_le c
  by_cases h1 : 97 ≤ c.toNat
  · by_cases h2 : c.toNat ≤ 122
    · have HE : Hid (smallB c = true) := by show _ = _; simp [smallB, h1, h2]
      go_enter Tryd.func55, Tryd.ntmps55
      go_wp2
      go_ret
      exact ⟨ret_bool (by rw [HE.out]; simp; omega), rfl⟩
    · have HE : Hid (smallB c = false) := by show _ = _; simp [smallB, h2]
      go_enter Tryd.func55, Tryd.ntmps55
      go_wp2
      go_ret
      exact ⟨ret_bool (by rw [HE.out]; simp; omega), rfl⟩
  · have HE : Hid (smallB c = false) := by show _ = _; simp [smallB, h1]
    go_enter Tryd.func55, Tryd.ntmps55
    go_wp2
    go_ret
    exact ⟨ret_bool (by rw [HE.out]), rfl⟩
set_option maxRecDepth 100000 in
set_option maxHeartbeats 1000000 in
theorem pcapital_any (c : UInt8) (w : World) :
    Calls Tryd.prog 70 #[.int .u8 (c.toNat : Int)] w fun e w' => e = .returned (.bool (capitalB c)) ∧ w = w' := by
  have hc := byte_le c
  by_cases h1 : 65 ≤ c.toNat
  · by_cases h2 : c.toNat ≤ 90
    · have HE : Hid (capitalB c = true) := by show _ = _; simp [capitalB, h1, h2]
      go_enter Tryd.func70, Tryd.ntmps70
      go_wp2
      go_ret
      exact ⟨ret_bool (by rw [HE.out]; simp; omega), rfl⟩
    · have HE : Hid (capitalB c = false) := by show _ = _; simp [capitalB, h2]
      go_enter Tryd.func70, Tryd.ntmps70
      go_wp2
      go_ret
      exact ⟨ret_bool (by rw [HE.out]; simp; omega), rfl⟩
  · have HE : Hid (capitalB c = false) := by show _ = _; simp [capitalB, h1]
    go_enter Tryd.func70, Tryd.ntmps70
    go_wp2
    go_ret
    exact ⟨ret_bool (by rw [HE.out]), rfl⟩
set_option maxRecDepth 100000 in
set_option maxHeartbeats 1000000 in
theorem pdigit_any (c : UInt8) (w : World) :
    Calls Tryd.prog 71 #[.int .u8 (c.toNat : Int)] w fun e w' => e = .returned (.bool (digitB c)) ∧ w = w' := by
  have hc := byte_le c
  by_cases h1 : 48 ≤ c.toNat
  · by_cases h2 : c.toNat ≤ 57
    · have HE : Hid (digitB c = true) := by show _ = _; simp [digitB, h1, h2]
      go_enter Tryd.func71, Tryd.ntmps71
      go_wp2
      go_ret
      exact ⟨ret_bool (by rw [HE.out]; simp; omega), rfl⟩
    · have HE : Hid (digitB c = false) := by show _ = _; simp [digitB, h2]
      go_enter Tryd.func71, Tryd.ntmps71
      go_wp2
      go_ret
      exact ⟨ret_bool (by rw [HE.out]; simp; omega), rfl⟩
  · have HE : Hid (digitB c = false) := by show _ = _; simp [digitB, h1]
    go_enter Tryd.func71, Tryd.ntmps71
    go_wp2
    go_ret
    exact ⟨ret_bool (by rw [HE.out]), rfl⟩
set_option maxRecDepth 100000 in
set_option maxHeartbeats 1000000 in
theorem pword_any (c : UInt8) (w : World) :
    Calls Tryd.prog 57 #[.int .u8 (c.toNat : Int)] w fun e w' => e = .returned (.bool (wordB c)) ∧ w = w' := by
  have hc := byte_le c
  cases hs : smallB c with
  | true =>
    have HE : Hid (wordB c = true) := by show _ = _; simp [wordB_is, hs]
    go_enter Tryd.func57, Tryd.ntmps57
    go_wp2_with fail
    refine (psmall_any c _).mono ?_
    rintro e w1 ⟨rfl, rfl⟩
    rw [hs]
    go_wp2
    go_ret
    exact ⟨ret_bool (by rw [HE.out]), rfl⟩
  | false =>
    cases hk : capitalB c with
    | true =>
      have HE : Hid (wordB c = true) := by show _ = _; simp [wordB_is, hk]
      go_enter Tryd.func57, Tryd.ntmps57
      go_wp2_with fail
      refine (psmall_any c _).mono ?_
      rintro e w1 ⟨rfl, rfl⟩
      rw [hs]
      go_wp2_with fail
      refine (pcapital_any c _).mono ?_
      rintro e w2 ⟨rfl, rfl⟩
      rw [hk]
      go_wp2
      go_ret
      exact ⟨ret_bool (by rw [HE.out]), rfl⟩
    | false =>
      cases hd : digitB c with
      | true =>
        have HE : Hid (wordB c = true) := by show _ = _; simp [wordB_is, hd]
        go_enter Tryd.func57, Tryd.ntmps57
        go_wp2_with fail
        refine (psmall_any c _).mono ?_
        rintro e w1 ⟨rfl, rfl⟩
        rw [hs]
        go_wp2_with fail
        refine (pcapital_any c _).mono ?_
        rintro e w2 ⟨rfl, rfl⟩
        rw [hk]
        go_wp2_with fail
        refine (pdigit_any c _).mono ?_
        rintro e w3 ⟨rfl, rfl⟩
        rw [hd]
        go_wp2
        go_ret
        exact ⟨ret_bool (by rw [HE.out]), rfl⟩
      | false =>
        have HE : Hid (wordB c = decide (c.toNat = 95)) := by show _ = _; simp [wordB_is, hs, hk, hd]
        go_enter Tryd.func57, Tryd.ntmps57
        go_wp2_with fail
        refine (psmall_any c _).mono ?_
        rintro e w1 ⟨rfl, rfl⟩
        rw [hs]
        go_wp2_with fail
        refine (pcapital_any c _).mono ?_
        rintro e w2 ⟨rfl, rfl⟩
        rw [hk]
        go_wp2_with fail
        refine (pdigit_any c _).mono ?_
        rintro e w3 ⟨rfl, rfl⟩
        rw [hd]
        go_wp2
        go_ret
        refine ⟨ret_bool ?_, rfl⟩
        rw [HE.out]
        apply bool_eq
        simp
        try omega
/-- how many bytes of one kind a text begins with -/
def runLen (p : UInt8 → Bool) (l : List UInt8) : Nat := (l.takeWhile p).length
theorem runLen_le (p : UInt8 → Bool) (l : List UInt8) : runLen p l ≤ l.length := by
  unfold runLen
  induction l with
  | nil => simp
  | cons c t ih => rw [List.takeWhile_cons]; split <;> simp; omega
theorem runLen_is (p : UInt8 → Bool) (l : List UInt8) (k : Nat) (h1 : ∀ i c, i < k → l[i]? = some c → p c = true) (h2 : ∀ c, l[k]? = some c → p c = false) (hk : k ≤ l.length) : runLen p l = k := by
  unfold runLen
  induction l generalizing k with
  | nil => simp at hk ⊢; omega
  | cons c t ih =>
    rw [List.takeWhile_cons]
    cases k with
    | zero => rw [h2 c rfl]; rfl
    | succ k =>
      rw [h1 0 c (by omega) rfl, if_pos rfl, List.length_cons, ih k (fun i d hi hd => h1 (i + 1) d (by omega) (by simpa using hd)) (fun d hd => h2 d (by simpa using hd)) (by simp at hk; omega)]
theorem runLen_all (p : UInt8 → Bool) (l : List UInt8) : decide (runLen p l = l.length) = l.all p := by
  unfold runLen
  induction l with
  | nil => rfl
  | cons c t ih =>
    rw [List.takeWhile_cons, List.all_cons, ← ih]
    cases p c <;> simp
set_option maxRecDepth 100000 in
set_option maxHeartbeats 1000000 in
theorem run_any (F : Nat) (p : UInt8 → Bool) (EG : ∀ args w, (callFunc F args).run Tryd.prog w = .ok (.enter F args) w)
    (HP : Hid (∀ (c : UInt8) (w : World), Calls Tryd.prog F #[.int .u8 (c.toNat : Int)] w fun e w' => e = .returned (.bool (p c)) ∧ w = w')) (s : ByteArray) (w : World) (hs : s.size ≤ 140737488355328) :
    Calls Tryd.prog 69 #[.string s, .func (.func F) #[] #[]] w fun e w' => e = .returned (.int .i64 (runLen p s.data.toList : Nat)) ∧ w = w' := by
  go_enter Tryd.func69, Tryd.ntmps69
  go_wp2
  go_loopw [5] (fun i wr => ∃ k : Nat, k ≤ s.size ∧ i = .int .i64 k ∧ wr = w ∧ Hid (∀ i c, i < k → s.data.toList[i]? = some c → p c = true)) (fun i _ => s.size - (intOf i).toNat)
  case atStart => exact ⟨0, by omega, rfl, rfl, fun i c hi => by omega⟩
  case round =>
    obtain ⟨k, hk, rfl, rfl, HA⟩ := hrel
    by_cases hlt : k < s.size
    · have hc := byte_le s[k]
      cases hw : p s[k] with
      | true =>
        have HW : Hid (∀ i c, i < k + 1 → s.data.toList[i]? = some c → p c = true) := by
          intro i c hi hcc
          by_cases e : i = k
          · subst e
            rw [name_get s i hlt] at hcc
            cases hcc; exact hw
          · exact HA.out i c (by omega) hcc
        have HWK : Hid (p s[k] = true) := hw
        clear hw
        go_wp2_with fail
        refine (HP.out s[k] _).mono ?_
        rintro e w1 ⟨rfl, rfl⟩
        rw [HWK.out]
        go_wp2
        go_roundw
        case rel => exact ⟨k + 1, by omega, by go_num, by first | trivial | rfl, HW⟩
        case measure => simp [intOf]; omega
      | false =>
        have HW : Hid (runLen p s.data.toList = k) := runLen_is p _ k HA.out (fun c hcc => by rw [name_get s k hlt] at hcc; cases hcc; exact hw) (by simp; omega)
        have HWK : Hid (p s[k] = false) := hw
        clear hw
        go_wp2_with fail
        refine (HP.out s[k] _).mono ?_
        rintro e w1 ⟨rfl, rfl⟩
        rw [HWK.out]
        go_wp2
        go_ret
        exact ⟨by rw [HW.out]; rfl, rfl⟩
    · have HW : Hid (runLen p s.data.toList = k) := runLen_is p _ k HA.out (fun c hcc => by rw [List.getElem?_eq_none (by simp; omega)] at hcc; cases hcc) (by simp; omega)
      go_wp2
      go_ret
      exact ⟨by rw [HW.out]; rfl, rfl⟩
set_option maxRecDepth 100000 in
set_option maxHeartbeats 1000000 in
theorem all_any (F : Nat) (p : UInt8 → Bool) (EG : ∀ args w, (callFunc F args).run Tryd.prog w = .ok (.enter F args) w)
    (HP : Hid (∀ (c : UInt8) (w : World), Calls Tryd.prog F #[.int .u8 (c.toNat : Int)] w fun e w' => e = .returned (.bool (p c)) ∧ w = w')) (s : ByteArray) (w : World) (hs : s.size ≤ 140737488355328) :
    Calls Tryd.prog 56 #[.string s, .func (.func F) #[] #[]] w fun e w' => e = .returned (.bool (s.data.toList.all p)) ∧ w = w' := by
  have HA : Hid (decide (runLen p s.data.toList = s.data.toList.length) = s.data.toList.all p) := runLen_all p _
  obtain ⟨n, HN⟩ : ∃ n, Hid (n = runLen p s.data.toList) := ⟨_, (rfl : runLen p s.data.toList = _)⟩
  have hn : n ≤ s.size := by have := runLen_le p s.data.toList; rw [HN.out]; simpa using this
  rw [← HN.out] at HA
  go_enter Tryd.func56, Tryd.ntmps56
  go_wp2_with fail
  refine (run_any F p EG HP s _ hs).mono ?_
  rintro e w1 ⟨rfl, rfl⟩
  rw [← HN.out]
  go_wp2
  go_ret
  refine ⟨ret_bool ?_, rfl⟩
  rw [← HA.out]
  apply bool_eq
  simp
  try omega
end Go.Proofs.YtnnldpccagajbaaDoor
