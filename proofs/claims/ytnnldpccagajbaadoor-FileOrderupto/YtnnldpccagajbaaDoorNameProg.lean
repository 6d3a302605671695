/-
  The program's file.Name, walked; FileNames' walk.
-/
import Derived.Test.YtnnldpccagajbaaDoorLetters
import Derived.Shelf.Abstract
namespace Go.Proofs.YtnnldpccagajbaaDoor
open Go.ChangeShapes Go.WideShapes Go.ChangeAt Go.RowKit
set_option linter.unusedVariables false
theorem small_word (c : UInt8) (h : smallB c = true) : wordB c = true := by simp [wordB, h]
theorem name_all (s : ByteArray) (h0 : 0 < s.size) : isName s.data.toList = (decide (s.size ≤ 30) && !(s.data.toList == [110, 111, 116]) && smallB s[0] && s.data.toList.all wordB) := by
  rw [name_of s h0]
  have hl : 0 < s.data.toList.length := by simpa using h0
  have e : s.data.toList = s[0] :: s.data.toList.drop 1 := by
    conv => lhs; rw [← List.drop_zero (l := s.data.toList), List.drop_eq_getElem_cons hl]
    rfl
  have e2 : s.data.toList.all wordB = (wordB s[0] && (s.data.toList.drop 1).all wordB) := by
    conv => lhs; rw [e]
    rw [List.all_cons]
  rw [e2]
  cases hs : smallB s[0] with
  | false => simp
  | true =>
    rw [small_word _ hs]
    cases decide (s.size ≤ 30) <;> cases (s.data.toList == [110, 111, 116]) <;> simp
theorem not_text : ({ data := #[110, 111, 116] } : ByteArray).toList = [110, 111, 116] := by rw [toList_of]
set_option maxRecDepth 100000 in
set_option maxHeartbeats 2000000 in
theorem name_any (s : ByteArray) (w : World) (hs : s.size ≤ 140737488355328) :
    Calls Tryd.prog 39 #[.string s] w fun e w' => e = .returned (.bool (isName s.data.toList)) ∧ w = w' := by
  have EW : ∀ args w, (callFunc 57 args).run Tryd.prog w = .ok (.enter 57 args) w := enters_of Tryd.func57 (by kernel_rfl) rfl
  have pword_hid : Hid (∀ (c : UInt8) (w : World), Calls Tryd.prog 57 #[.int .u8 (c.toNat : Int)] w fun e w' => e = .returned (.bool (wordB c)) ∧ w = w') := pword_any
  by_cases h0 : s.size = 0
  · have HE : Hid (isName s.data.toList = false) := by
      have : s.data.toList = [] := List.eq_nil_of_length_eq_zero (by simpa using h0)
      show _ = _; rw [this]; rfl
    have d0 : ((s.size : Int) == 0) = true := by simp [h0]
    clear h0
    go_enter Tryd.func39, Tryd.ntmps39
    go_wp2
    go_ret
    exact ⟨ret_bool HE.out.symm, rfl⟩
  · have hp : 0 < s.size := by omega
    have HNH : Hid (isName s.data.toList = (decide (s.size ≤ 30) && !(s.data.toList == [110, 111, 116]) && smallB s[0] && s.data.toList.all wordB)) := name_all s hp
    have d0 : ((s.size : Int) == 0) = false := by rw [beq_eq_false_iff_ne]; omega
    clear h0
    by_cases h30 : s.size ≤ 30
    · have d1 : decide ((30 : Int) < (s.size : Int)) = false := by simp; omega
      cases hno : (s.data.toList == [110, 111, 116]) with
      | true =>
        have HE : Hid (isName s.data.toList = false) := by show _ = _; rw [HNH.out, hno]; simp
        have d2 : (s.toList == [110, 111, 116]) = true := by rw [toList_of, hno]
        clear hno
        go_enter Tryd.func39, Tryd.ntmps39
        go_wp2
        go_ret
        exact ⟨ret_bool HE.out.symm, rfl⟩
      | false =>
        have d2 : (s.toList == [110, 111, 116]) = false := by rw [toList_of, hno]
        have HNO : Hid ((s.data.toList == [110, 111, 116]) = false) := hno
        clear hno
        have hp' : (0 : Int) < (s.size : Int) := by omega
        cases hsm : smallB s[0] with
        | false =>
          have HE : Hid (isName s.data.toList = false) := by show _ = _; rw [HNH.out, hsm]; simp
          have HSM : Hid (smallB s[0] = false) := hsm
          clear hsm
          go_enter Tryd.func39, Tryd.ntmps39
          go_wp2_with fail
          refine (psmall_any s[0] _).mono ?_
          rintro e w1 ⟨rfl, rfl⟩
          rw [HSM.out]
          go_wp2
          go_ret
          exact ⟨ret_bool HE.out.symm, rfl⟩
        | true =>
          have HSM : Hid (smallB s[0] = true) := hsm
          have HE : Hid (isName s.data.toList = s.data.toList.all wordB) := by
            show _ = _
            rw [HNH.out, hsm, HNO.out]; simp [h30]
          clear hsm HNO HNH
          go_enter Tryd.func39, Tryd.ntmps39
          go_wp2_with fail
          refine (psmall_any s[0] _).mono ?_
          rintro e w1 ⟨rfl, rfl⟩
          rw [HSM.out]
          go_wp2_with fail
          refine (all_any 57 wordB EW pword_hid s _ (by omega)).mono ?_
          rintro e w2 ⟨rfl, rfl⟩
          obtain ⟨r, HR⟩ : ∃ r, Hid (r = isName s.data.toList) := ⟨_, (rfl : isName s.data.toList = _)⟩
          rw [← HE.out, ← HR.out]
          go_wp2
          go_ret
          exact ⟨by rw [← HR.out]; rfl, rfl⟩
    · have HE : Hid (isName s.data.toList = false) := by show _ = _; rw [HNH.out]; simp [h30]
      have d1 : decide ((30 : Int) < (s.size : Int)) = true := by simp; omega
      go_enter Tryd.func39, Tryd.ntmps39
      go_wp2
      go_ret
      exact ⟨ret_bool HE.out.symm, rfl⟩
end Go.Proofs.YtnnldpccagajbaaDoor
