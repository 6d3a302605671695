/-
  Which texts are names: in plain lists, and the document's IsName, walked.
-/
import Derived.Test.YtnnldpccagajbaaDoorBase
namespace Go.Proofs.YtnnldpccagajbaaDoor
open Go.ChangeShapes Go.WideShapes Go.ChangeAt Go.RowKit
set_option linter.unusedVariables false
def smallB (c : UInt8) : Bool := decide (97 ≤ c.toNat) && decide (c.toNat ≤ 122)
def wordB (c : UInt8) : Bool := smallB c || (decide (65 ≤ c.toNat) && decide (c.toNat ≤ 90)) || (decide (48 ≤ c.toNat) && decide (c.toNat ≤ 57)) || decide (c.toNat = 95)
def isName (s : List UInt8) : Bool := match s with
  | [] => false
  | c :: t => decide (s.length ≤ 30) && smallB c && !(s == [110, 111, 116]) && t.all wordB
theorem bool_eq {a b : Bool} (h : a = true ↔ b = true) : a = b := by cases a <;> cases b <;> simp_all
set_option maxRecDepth 100000 in
set_option maxHeartbeats 1000000 in
theorem small_any (c : UInt8) (w : World) :
    Calls Tryd.prog 52 #[.int .u8 (c.toNat : Int)] w fun e w' => e = .returned (.bool (smallB c)) ∧ w = w' := by
  have hc := byte_le c
  by_cases h1 : 97 ≤ c.toNat
  · by_cases h2 : c.toNat ≤ 122
    · have HE : Hid (smallB c = true) := by show _ = _; simp [smallB, h1, h2]
      go_enter Tryd.func52, Tryd.ntmps52
      go_wp2
      go_ret
      exact ⟨ret_bool (by rw [HE.out]; simp; omega), rfl⟩
    · have HE : Hid (smallB c = false) := by show _ = _; simp [smallB, h2]
      go_enter Tryd.func52, Tryd.ntmps52
      go_wp2
      go_ret
      exact ⟨ret_bool (by rw [HE.out]; simp; omega), rfl⟩
  · have HE : Hid (smallB c = false) := by show _ = _; simp [smallB, h1]
    go_enter Tryd.func52, Tryd.ntmps52
    go_wp2
    go_ret
    exact ⟨ret_bool (by rw [HE.out]), rfl⟩
set_option maxRecDepth 100000 in
set_option maxHeartbeats 1000000 in
theorem word_any (c : UInt8) (w : World) :
    Calls Tryd.prog 53 #[.int .u8 (c.toNat : Int)] w fun e w' => e = .returned (.bool (wordB c)) ∧ w = w' := by
  have hc := byte_le c
  cases hs : smallB c with
  | true =>
    have HE : Hid (wordB c = true) := by show _ = _; simp [wordB, hs]
    go_enter Tryd.func53, Tryd.ntmps53
    go_wp2_with fail
    refine (small_any c _).mono ?_
    rintro e w1 ⟨rfl, rfl⟩
    rw [hs]
    go_wp2
    go_ret
    exact ⟨ret_bool (by rw [HE.out]), rfl⟩
  | false =>
    have hw : wordB c = ((decide (65 ≤ c.toNat) && decide (c.toNat ≤ 90)) || (decide (48 ≤ c.toNat) && decide (c.toNat ≤ 57)) || decide (c.toNat = 95)) := by simp [wordB, hs]
    have HW : Hid (wordB c = ((decide (65 ≤ c.toNat) && decide (c.toNat ≤ 90)) || (decide (48 ≤ c.toNat) && decide (c.toNat ≤ 57)) || decide (c.toNat = 95))) := hw
    clear hw
    have HS : Hid (smallB c = false) := hs
    clear hs
    by_cases h1 : 65 ≤ c.toNat
    all_goals by_cases h2 : c.toNat ≤ 90
    all_goals by_cases h3 : 48 ≤ c.toNat
    all_goals by_cases h4 : c.toNat ≤ 57
    all_goals try (exfalso; omega)
    all_goals
      go_enter Tryd.func53, Tryd.ntmps53
      go_wp2_with fail
      refine (small_any c _).mono ?_
      rintro e w1 ⟨rfl, rfl⟩
      rw [HS.out]
      go_wp2
      all_goals go_ret
      all_goals refine ⟨ret_bool ?_, rfl⟩
      all_goals rw [HW.out]
      all_goals apply bool_eq
      all_goals simp
      all_goals omega
theorem name_step (l : List UInt8) (k : Nat) (c : UInt8) (hk : 1 ≤ k) (hc : l[k]? = some c) : (l.drop 1).take k = (l.drop 1).take (k - 1) ++ [c] := by
  obtain ⟨m, rfl⟩ : ∃ m, k = m + 1 := ⟨k - 1, by omega⟩
  have hl : m < (l.drop 1).length := by
    have : m + 1 < l.length := by
      rcases Nat.lt_or_ge (m + 1) l.length with h | h
      · exact h
      · rw [List.getElem?_eq_none h] at hc; cases hc
    simp; omega
  have he : (l.drop 1)[m]? = some c := by rw [List.getElem?_drop, Nat.add_comm]; exact hc
  rw [Nat.add_sub_cancel, List.take_succ_eq_append_getElem hl]
  rw [List.getElem?_eq_getElem hl] at he
  cases he; rfl
theorem name_of (s : ByteArray) (h0 : 0 < s.size) : isName s.data.toList = (decide (s.size ≤ 30) && smallB s[0] && !(s.data.toList == [110, 111, 116]) && (s.data.toList.drop 1).all wordB) := by
  have hl : 0 < s.data.toList.length := by simpa using h0
  have e : s.data.toList = s[0] :: s.data.toList.drop 1 := by
    conv => lhs; rw [← List.drop_zero (l := s.data.toList), List.drop_eq_getElem_cons hl]
    rfl
  have e2 : isName s.data.toList = isName (s[0] :: s.data.toList.drop 1) := by rw [← e]
  rw [e2, isName, ← e]
  simp
theorem name_get (s : ByteArray) (k : Nat) (h : k < s.size) : s.data.toList[k]? = some s[k] := by
  rw [List.getElem?_eq_getElem (by simpa using h)]; rfl
set_option maxRecDepth 100000 in
set_option maxHeartbeats 1000000 in
theorem risname_any (s : ByteArray) (w : World) (hs : s.size ≤ 140737488355328) :
    Calls Tryd.prog 33 #[.string s] w fun e w' => e = .returned (.bool (isName s.data.toList)) ∧ w = w' := by
  by_cases h0 : s.size = 0
  · have HE : Hid (isName s.data.toList = false) := by
      have : s.data.toList = [] := List.eq_nil_of_length_eq_zero (by simpa using h0)
      show _ = _; rw [this]; rfl
    have h0' : s.size < 1 := by omega
    clear h0
    go_enter Tryd.func33, Tryd.ntmps33
    go_wp2
    go_ret
    exact ⟨ret_bool HE.out.symm, rfl⟩
  · have hp : 0 < s.size := by omega
    have HN := name_of s hp
    have HNH : Hid (isName s.data.toList = (decide (s.size ≤ 30) && smallB s[0] && !(s.data.toList == [110, 111, 116]) && (s.data.toList.drop 1).all wordB)) := HN
    clear HN h0
    by_cases h30 : s.size ≤ 30
    · cases hsm : smallB s[0] with
      | false =>
        have HE : Hid (isName s.data.toList = false) := by show _ = _; rw [HNH.out, hsm]; simp
        have HSM : Hid (smallB s[0] = false) := hsm
        clear hsm
        go_enter Tryd.func33, Tryd.ntmps33
        go_wp2_with fail
        refine (small_any s[0] _).mono ?_
        rintro e w1 ⟨rfl, rfl⟩
        rw [HSM.out]
        go_wp2
        go_ret
        exact ⟨ret_bool HE.out.symm, rfl⟩
      | true =>
        have HSM : Hid (smallB s[0] = true) := hsm
        by_cases hnot : s.data.toList = [110, 111, 116]
        · have HE : Hid (isName s.data.toList = false) := by show _ = _; rw [HNH.out, hnot]; simp
          have hn2 : (s.toList == [110, 111, 116]) = true := by rw [toList_of, hnot]; rfl
          clear hsm hnot
          go_enter Tryd.func33, Tryd.ntmps33
          go_wp2_with fail
          refine (small_any s[0] _).mono ?_
          rintro e w1 ⟨rfl, rfl⟩
          rw [HSM.out]
          go_wp2
          go_ret
          exact ⟨ret_bool HE.out.symm, rfl⟩
        · have hn2 : (s.toList == [110, 111, 116]) = false := by rw [toList_of]; simp [hnot]
          have HNA : Hid (isName s.data.toList = (s.data.toList.drop 1).all wordB) := by show _ = _; rw [HNH.out, hsm]; simp [h30, hnot]
          clear hsm hnot
          go_enter Tryd.func33, Tryd.ntmps33
          go_wp2_with fail
          refine (small_any s[0] _).mono ?_
          rintro e w1 ⟨rfl, rfl⟩
          rw [HSM.out]
          go_wp2
          go_loop [3] (fun i => ∃ k : Nat, 1 ≤ k ∧ k ≤ s.size ∧ i = .int .i64 k ∧ Hid (((s.data.toList.drop 1).take (k - 1)).all wordB = true)) (fun i => s.size - (intOf i).toNat)
          case atStart => exact ⟨1, by omega, by omega, rfl, by simp [Hid]⟩
          case round =>
            obtain ⟨k, hk1, hk2, rfl, HA⟩ := hrel
            by_cases hlt : k < s.size
            · have hst := name_step s.data.toList k s[k] hk1 (name_get s k hlt)
              cases hw : wordB s[k] with
              | true =>
                have HA2 : Hid (((s.data.toList.drop 1).take (k + 1 - 1)).all wordB = true) := by
                  show _ = _
                  rw [Nat.add_sub_cancel, hst, List.all_append, HA.out]; simp [hw]
                have HW : Hid (wordB s[k] = true) := hw
                clear hw hst
                go_wp2_with fail
                refine (word_any s[k] _).mono ?_
                rintro e w2 ⟨rfl, rfl⟩
                rw [HW.out]
                go_wp2
                go_round
                case rel => exact ⟨k + 1, by omega, by omega, by go_num, HA2⟩
                case measure => simp [intOf]; omega
              | false =>
                have HE : Hid (isName s.data.toList = false) := by
                  show _ = _
                  rw [HNA.out, ← List.take_append_drop k (s.data.toList.drop 1), hst]
                  simp [hw]
                have HW : Hid (wordB s[k] = false) := hw
                clear hw hst
                go_wp2_with fail
                refine (word_any s[k] _).mono ?_
                rintro e w2 ⟨rfl, rfl⟩
                rw [HW.out]
                go_wp2
                go_ret
                exact ⟨ret_bool HE.out.symm, rfl⟩
            · have HE : Hid (isName s.data.toList = true) := by
                show _ = _
                have := HA.out
                rw [List.take_of_length_le (by simp; omega)] at this
                rw [HNA.out, this]
              go_wp2
              go_ret
              exact ⟨ret_bool HE.out.symm, rfl⟩
    · have HE : Hid (isName s.data.toList = false) := by show _ = _; rw [HNH.out]; simp [h30]
      have h30' : 30 < s.size := by omega
      clear h30
      go_enter Tryd.func33, Tryd.ntmps33
      go_wp2
      go_ret
      exact ⟨ret_bool HE.out.symm, rfl⟩
end Go.Proofs.YtnnldpccagajbaaDoor
