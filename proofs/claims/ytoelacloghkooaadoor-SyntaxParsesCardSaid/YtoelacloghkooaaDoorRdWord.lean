/-
  The document's Reader: fail, and of what kind a word is.
-/
import Derived.Test.YtoelacloghkooaaDoorRdSkip
namespace Go.Proofs.YtoelacloghkooaaDoor
open Go.ChangeShapes Go.WideShapes Go.ChangeAt Go.RowKit
set_option linter.unusedVariables false
set_option maxRecDepth 100000 in
set_option maxHeartbeats 1000000 in
theorem rfail_any (b : Nat) (e x old oldx : Int) (w : World) (h5 : w.cell? ⟨b, 5, none⟩ = some (.int .i64 old)) (h6 : w.cell? ⟨b, 6, none⟩ = some (.int .i64 oldx)) (f5 : w.frozen? ⟨b, 5, none⟩ = false) (f6 : w.frozen? ⟨b, 6, none⟩ = false) :
    Calls Tryd.prog 16 #[.pointer (some ⟨b, 0, none⟩), .int .i64 e, .int .i64 x] w fun en w' => en = .returned (.tuple #[]) ∧
      w' = if old = 0 then (w.setCell ⟨b, 5, none⟩ (.int .i64 e)).setCell ⟨b, 6, none⟩ (.int .i64 x) else w := by
  by_cases h : old = 0
  · subst h
    go_enter Tryd.func16, Tryd.ntmps16
    go_wp2
    go_end0
    exact ⟨rfl, by simp⟩
  · have hh : (old == 0) = false := by rw [beq_eq_false_iff_ne]; exact h
    have HI : Hid (¬ old = 0) := h
    clear h
    go_enter Tryd.func16, Tryd.ntmps16
    go_wp2
    go_end0
    exact ⟨rfl, by first | rfl | rw [if_neg HI.out]⟩
theorem take_all (s : ByteArray) (k : Nat) (h : k < s.size) (p : UInt8 → Bool) : (s.data.toList.take (k + 1)).all p = ((s.data.toList.take k).all p && p s[k]) := by
  rw [List.take_add_one, name_get s k h]; simp
theorem isVar_of (s : ByteArray) (h : 0 < s.size) : isVarB s.data.toList = (decide (s.size ≤ 30) && capitalB s[0]) := by
  have e : s.data.toList = s[0] :: s.data.toList.drop 1 := by have := drop_byte s 0 h; simpa using this
  have hl : s.data.toList.length = s.size := by simp
  rw [← hl]
  generalize s[0] = c at e
  generalize s.data.toList.drop 1 = t at e
  rw [e]; rfl
theorem isDig_of (s : ByteArray) (h : 0 < s.size) : isDigB s.data.toList = (decide (s.size ≤ 30) && s.data.toList.all digitB) := by
  have e : s.data.toList = s[0] :: s.data.toList.drop 1 := by have := drop_byte s 0 h; simpa using this
  have hl : s.data.toList.length = s.size := by simp
  rw [← hl]
  generalize s[0] = c at e
  generalize s.data.toList.drop 1 = t at e
  rw [e]; rfl
set_option maxRecDepth 100000 in
set_option maxHeartbeats 1000000 in
theorem rkind_any (s : ByteArray) (w : World) (h0 : 0 < s.size) (hs : s.size ≤ 140737488355328) :
    Calls Tryd.prog 35 #[.string s] w fun e w' => e = .returned (.int .i64 (wordKindF s.data.toList : Nat)) ∧ w = w' := by
  go_enter Tryd.func35, Tryd.ntmps35
  go_wp2
  go_loopw [3, 4] (fun d i wr => ∃ k : Nat, k ≤ s.size ∧ i = .int .i64 k ∧ wr = w ∧ d = .bool ((s.data.toList.take k).all digitB)) (fun _ i _ => s.size - (intOf i).toNat)
  case atStart => exact ⟨0, by omega, rfl, rfl, rfl⟩
  case round =>
    obtain ⟨k, hk, rfl, rfl, rfl⟩ := hrel
    by_cases hlt : k < s.size
    · have hc := byte_le s[k]
      have HT : Hid ((s.data.toList.take (k + 1)).all digitB = ((s.data.toList.take k).all digitB && digitB s[k])) := take_all s k hlt digitB
      obtain ⟨B, HB⟩ : ∃ B, Hid ((s.data.toList.take k).all digitB = B) := ⟨_, (rfl : _ = _)⟩
      rw [HB.out]
      rw [HB.out] at HT
      cases B with
      | false =>
        go_wp2
        go_roundw
        case rel => exact ⟨k + 1, by omega, by go_num, by first | trivial | rfl, by rw [HT.out]; rfl⟩
        case measure => simp [intOf]; omega
      | true =>
        by_cases ha : 48 ≤ s[k].toNat
        · by_cases hb : s[k].toNat ≤ 57
          · have HD : Hid (digitB s[k] = true) := by show _ = _; unfold digitB; simp [ha, hb]
            go_wp2
            go_roundw
            case rel => exact ⟨k + 1, by omega, by go_num, by first | trivial | rfl, by rw [HT.out, HD.out]; first | rfl | (simp; omega)⟩
            case measure => simp [intOf]; omega
          · have HD : Hid (digitB s[k] = false) := by show _ = _; unfold digitB; simp [hb]
            have hb' : 57 < s[k].toNat := by omega
            clear hb
            go_wp2
            go_roundw
            case rel => exact ⟨k + 1, by omega, by go_num, by first | trivial | rfl, by rw [HT.out, HD.out]; first | rfl | (simp; omega)⟩
            case measure => simp [intOf]; omega
        · have HD : Hid (digitB s[k] = false) := by show _ = _; unfold digitB; simp [ha]
          have ha' : s[k].toNat < 48 := by omega
          clear ha
          go_wp2
          go_roundw
          case rel => exact ⟨k + 1, by omega, by go_num, by first | trivial | rfl, by rw [HT.out, HD.out]; first | rfl | (simp; omega)⟩
          case measure => simp [intOf]; omega
    · have HT : Hid ((s.data.toList.take k).all digitB = s.data.toList.all digitB) := by show _ = _; rw [List.take_of_length_le (by simp; omega)]
      rw [HT.out]
      have HV : Hid (isVarB s.data.toList = (decide (s.size ≤ 30) && capitalB s[0])) := isVar_of s h0
      have HG : Hid (isDigB s.data.toList = (decide (s.size ≤ 30) && s.data.toList.all digitB)) := isDig_of s h0
      obtain ⟨D, HD⟩ : ∃ D, Hid (s.data.toList.all digitB = D) := ⟨_, (rfl : _ = _)⟩
      rw [HD.out]
      rw [HD.out] at HG
      have hc := byte_le s[0]
      go_wp2_with fail
      refine (risname_any s _ hs).mono ?_
      rintro e w1 ⟨rfl, rfl⟩
      obtain ⟨N, HN⟩ : ∃ N, Hid (isName s.data.toList = N) := ⟨_, (rfl : _ = _)⟩
      rw [HN.out]
      by_cases hnot : s.data.toList = [110, 111, 116]
      · have HE : Hid (wordKindF s.data.toList = 4) := by show _ = _; unfold wordKindF; rw [if_pos hnot]
        have hn2 : (s.toList == [110, 111, 116]) = true := by rw [toList_of, hnot]; rfl
        clear hnot
        go_wp2
        go_ret
        exact ⟨by rw [HE.out]; rfl, rfl⟩
      · have hn2 : (s.toList == [110, 111, 116]) = false := by rw [toList_of]; simp [hnot]
        have HK : Hid (wordKindF s.data.toList = if N then 1 else if isVarB s.data.toList then 2 else if isDigB s.data.toList then 3 else 5) := by show _ = _; unfold wordKindF; rw [if_neg hnot, HN.out]
        clear hnot
        cases N with
        | true =>
          go_wp2
          go_ret
          exact ⟨by rw [HK.out]; rfl, rfl⟩
        | false =>
          by_cases h30 : s.size ≤ 30
          · by_cases ha : 65 ≤ s[0].toNat
            · by_cases hb : s[0].toNat ≤ 90
              · have HE : Hid (wordKindF s.data.toList = 2) := by show _ = _; rw [HK.out, HV.out]; unfold capitalB; simp [h30, ha, hb]
                go_wp2
                go_ret
                exact ⟨by rw [HE.out]; rfl, rfl⟩
              · have HE : Hid (wordKindF s.data.toList = if D then 3 else 5) := by show _ = _; rw [HK.out, HV.out, HG.out]; unfold capitalB; simp [h30, hb]
                have hb' : 90 < s[0].toNat := by omega
                clear hb
                cases D
                all_goals
                  go_wp2
                  go_ret
                  exact ⟨by rw [HE.out]; rfl, rfl⟩
            · have HE : Hid (wordKindF s.data.toList = if D then 3 else 5) := by show _ = _; rw [HK.out, HV.out, HG.out]; unfold capitalB; simp [h30, ha]
              have ha' : s[0].toNat < 65 := by omega
              clear ha
              cases D
              all_goals
                go_wp2
                go_ret
                exact ⟨by rw [HE.out]; rfl, rfl⟩
          · have HE : Hid (wordKindF s.data.toList = 5) := by show _ = _; rw [HK.out, HV.out, HG.out]; simp [h30]
            have h30' : 30 < s.size := by omega
            clear h30
            go_wp2
            go_ret
            exact ⟨by rw [HE.out]; rfl, rfl⟩
end Go.Proofs.YtoelacloghkooaaDoor
