/-
  The program's file.Name, walked; FileNames' walk.
-/
import Derived.Test.YtiinohajdibflabDoorNames
namespace Go.Proofs.YtiinohajdibflabDoor
open Go.ChangeShapes Go.WideShapes Go.ChangeAt Go.RowKit
set_option linter.unusedVariables false
set_option maxRecDepth 100000 in
set_option maxHeartbeats 1000000 in
theorem psmall_any (c : UInt8) (w : World) :
    Calls Tryd.prog 54 #[.int .u8 (c.toNat : Int)] w fun e w' => e = .returned (.bool (smallB c)) ∧ w = w' := by
  have hc := byte_le c
  by_cases h1 : 97 ≤ c.toNat
  · by_cases h2 : c.toNat ≤ 122
    · have HE : Hid (smallB c = true) := by show _ = _; simp [smallB, h1, h2]
      go_enter Tryd.func54, Tryd.ntmps54
      go_wp2
      go_ret
      exact ⟨ret_bool (by rw [HE.out]; simp; omega), rfl⟩
    · have HE : Hid (smallB c = false) := by show _ = _; simp [smallB, h2]
      go_enter Tryd.func54, Tryd.ntmps54
      go_wp2
      go_ret
      exact ⟨ret_bool (by rw [HE.out]; simp; omega), rfl⟩
  · have HE : Hid (smallB c = false) := by show _ = _; simp [smallB, h1]
    go_enter Tryd.func54, Tryd.ntmps54
    go_wp2
    go_ret
    exact ⟨ret_bool (by rw [HE.out]), rfl⟩
set_option maxRecDepth 100000 in
set_option maxHeartbeats 1000000 in
theorem pword_any (c : UInt8) (w : World) :
    Calls Tryd.prog 55 #[.int .u8 (c.toNat : Int)] w fun e w' => e = .returned (.bool (wordB c)) ∧ w = w' := by
  have hc := byte_le c
  cases hs : smallB c with
  | true =>
    have HE : Hid (wordB c = true) := by show _ = _; simp [wordB, hs]
    go_enter Tryd.func55, Tryd.ntmps55
    go_wp2_with fail
    refine (psmall_any c _).mono ?_
    rintro e w1 ⟨rfl, rfl⟩
    rw [hs]
    go_wp2
    go_ret
    exact ⟨ret_bool (by rw [HE.out]), rfl⟩
  | false =>
    have hw : wordB c = ((decide (65 ≤ c.toNat) && decide (c.toNat ≤ 90)) || (decide (48 ≤ c.toNat) && decide (c.toNat ≤ 57)) || decide (c.toNat = 95)) := by simp [wordB, hs]
    have HW : Hid (wordB c = ((decide (65 ≤ c.toNat) && decide (c.toNat ≤ 90)) || (decide (48 ≤ c.toNat) && decide (c.toNat ≤ 57)) || decide (c.toNat = 95))) := hw
    clear hw
    have HS : Hid (smallB c = false) := hs
    clear hs
    by_cases h1 : 65 ≤ c.toNat
    all_goals by_cases h2 : c.toNat ≤ 90
    all_goals by_cases h3 : 48 ≤ c.toNat
    all_goals by_cases h4 : c.toNat ≤ 57
    all_goals try (exfalso; omega)
    all_goals
      go_enter Tryd.func55, Tryd.ntmps55
      go_wp2_with fail
      refine (psmall_any c _).mono ?_
      rintro e w1 ⟨rfl, rfl⟩
      rw [HS.out]
      go_wp2
      all_goals go_ret
      all_goals refine ⟨ret_bool ?_, rfl⟩
      all_goals rw [HW.out]
      all_goals apply bool_eq
      all_goals simp
      all_goals omega
theorem small_word (c : UInt8) (h : smallB c = true) : wordB c = true := by simp [wordB, h]
theorem name_all (s : ByteArray) (h0 : 0 < s.size) : isName s.data.toList = (decide (s.size ≤ 30) && !(s.data.toList == [110, 111, 116]) && smallB s[0] && s.data.toList.all wordB) := by
  rw [name_of s h0]
  have hl : 0 < s.data.toList.length := by simpa using h0
  have e : s.data.toList = s[0] :: s.data.toList.drop 1 := by
    conv => lhs; rw [← List.drop_zero (l := s.data.toList), List.drop_eq_getElem_cons hl]
    rfl
  have e2 : s.data.toList.all wordB = (wordB s[0] && (s.data.toList.drop 1).all wordB) := by
    conv => lhs; rw [e]
    rw [List.all_cons]
  rw [e2]
  cases hs : smallB s[0] with
  | false => simp
  | true =>
    rw [small_word _ hs]
    cases decide (s.size ≤ 30) <;> cases (s.data.toList == [110, 111, 116]) <;> simp
theorem not_text : ({ data := #[110, 111, 116] } : ByteArray).toList = [110, 111, 116] := by rw [toList_of]
theorem all_take (s : ByteArray) (k : Nat) (hk : k < s.size) : (s.data.toList.take (k + 1)).all wordB = ((s.data.toList.take k).all wordB && wordB s[k]) := by
  rw [List.take_succ_eq_append_getElem (by simpa using hk), List.all_append]
  simp
  rfl
set_option maxRecDepth 100000 in
set_option maxHeartbeats 2000000 in
theorem name_any (s : ByteArray) (w : World) (hs : s.size ≤ 140737488355328) :
    Calls Tryd.prog 35 #[.string s] w fun e w' => e = .returned (.bool (isName s.data.toList)) ∧ w = w' := by
  by_cases h0 : s.size = 0
  · have HE : Hid (isName s.data.toList = false) := by
      have : s.data.toList = [] := List.eq_nil_of_length_eq_zero (by simpa using h0)
      show _ = _; rw [this]; rfl
    have d0 : ((s.size : Int) == 0) = true := by simp [h0]
    clear h0
    go_enter Tryd.func35, Tryd.ntmps35
    go_wp2
    go_ret
    exact ⟨ret_bool HE.out.symm, rfl⟩
  · have hp : 0 < s.size := by omega
    have HNH : Hid (isName s.data.toList = (decide (s.size ≤ 30) && !(s.data.toList == [110, 111, 116]) && smallB s[0] && s.data.toList.all wordB)) := name_all s hp
    have d0 : ((s.size : Int) == 0) = false := by rw [beq_eq_false_iff_ne]; omega
    clear h0
    by_cases h30 : s.size ≤ 30
    · have d1 : decide ((30 : Int) < (s.size : Int)) = false := by simp; omega
      cases hno : (s.data.toList == [110, 111, 116]) with
      | true =>
        have HE : Hid (isName s.data.toList = false) := by show _ = _; rw [HNH.out, hno]; simp
        have d2 : (s.toList == [110, 111, 116]) = true := by rw [toList_of, hno]
        clear hno
        go_enter Tryd.func35, Tryd.ntmps35
        go_wp2
        go_ret
        exact ⟨ret_bool HE.out.symm, rfl⟩
      | false =>
        have d2 : (s.toList == [110, 111, 116]) = false := by rw [toList_of, hno]
        have HNO : Hid ((s.data.toList == [110, 111, 116]) = false) := hno
        clear hno
        have hp' : (0 : Int) < (s.size : Int) := by omega
        cases hsm : smallB s[0] with
        | false =>
          have HE : Hid (isName s.data.toList = false) := by show _ = _; rw [HNH.out, hsm]; simp
          have HSM : Hid (smallB s[0] = false) := hsm
          clear hsm
          go_enter Tryd.func35, Tryd.ntmps35
          go_wp2_with fail
          refine (psmall_any s[0] _).mono ?_
          rintro e w1 ⟨rfl, rfl⟩
          rw [HSM.out]
          go_wp2
          go_ret
          exact ⟨ret_bool HE.out.symm, rfl⟩
        | true =>
          have HSM : Hid (smallB s[0] = true) := hsm
          have HE : Hid (isName s.data.toList = s.data.toList.all wordB) := by
            show _ = _
            rw [HNH.out, hsm, HNO.out]; simp [h30]
          clear hsm HNO HNH
          go_enter Tryd.func35, Tryd.ntmps35
          go_wp2_with fail
          refine (psmall_any s[0] _).mono ?_
          rintro e w1 ⟨rfl, rfl⟩
          rw [HSM.out]
          go_wp2
          go_loopw [24] (fun i wr => ∃ k : Nat, k ≤ s.size ∧ i = .int .i64 k ∧ wr = w ∧ Hid ((s.data.toList.take k).all wordB = true)) (fun i _ => s.size - (intOf i).toNat)
          case atStart => exact ⟨0, by omega, rfl, rfl, rfl⟩
          case round =>
            obtain ⟨k, hk, rfl, rfl, HA⟩ := hrel
            by_cases hlt : k < s.size
            · have hc := byte_le s[k]
              cases hw : wordB s[k] with
              | true =>
                have HW : Hid ((s.data.toList.take (k + 1)).all wordB = true) := by show _ = _; rw [all_take s k hlt, HA.out, hw]; rfl
                have HWK : Hid (wordB s[k] = true) := hw
                clear hw
                go_wp2_with fail
                refine (pword_any s[k] _).mono ?_
                rintro e w1 ⟨rfl, rfl⟩
                rw [HWK.out]
                go_wp2
                go_roundw
                case rel => exact ⟨k + 1, by omega, by go_num, by first | trivial | rfl, HW⟩
                case measure => simp [intOf]; omega
              | false =>
                have HW : Hid (isName s.data.toList = false) := by
                  show _ = _
                  rw [HE.out, ← List.take_append_drop (k + 1) s.data.toList, List.all_append, all_take s k hlt, hw]; simp
                have HWK : Hid (wordB s[k] = false) := hw
                clear hw
                go_wp2_with fail
                refine (pword_any s[k] _).mono ?_
                rintro e w1 ⟨rfl, rfl⟩
                rw [HWK.out]
                go_wp2
                go_ret
                exact ⟨ret_bool HW.out.symm, rfl⟩
            · have HW : Hid (isName s.data.toList = true) := by
                show _ = _
                have := HA.out
                rw [List.take_of_length_le (by simp; omega)] at this
                rw [HE.out, this]
              go_wp2
              go_ret
              exact ⟨ret_bool HW.out.symm, rfl⟩
    · have HE : Hid (isName s.data.toList = false) := by show _ = _; rw [HNH.out]; simp [h30]
      have d1 : decide ((30 : Int) < (s.size : Int)) = true := by simp; omega
      go_enter Tryd.func35, Tryd.ntmps35
      go_wp2
      go_ret
      exact ⟨ret_bool HE.out.symm, rfl⟩
end Go.Proofs.YtiinohajdibflabDoor
