/-
  The program's parser: what may begin at a place.
-/
import Derived.Test.YtoelacloghkooaaDoorPrErr
import Derived.Test.YtoelacloghkooaaDoorNameProg
namespace Go.Proofs.YtoelacloghkooaaDoor
open Go.ChangeShapes Go.WideShapes Go.ChangeAt Go.RowKit
set_option linter.unusedVariables false
set_option maxRecDepth 100000 in
set_option maxHeartbeats 1000000 in
theorem isVar_any (s : ByteArray) (w : World) :
    Calls Tryd.prog 77 #[.string s] w fun e w' => e = .returned (.bool (isVarB s.data.toList)) ∧ w = w' := by
  by_cases h0 : s.size = 0
  · have hs : s = { data := #[] } := by apply ByteArray.ext; apply Array.eq_empty_of_size_eq_zero; exact h0
    subst hs
    have HE : Hid (isVarB ({ data := #[] } : ByteArray).data.toList = false) := (rfl : _ = _)
    have h3 : ((({ data := #[] } : ByteArray).toList) != ([] : List UInt8)) = false := by rw [toList_of]; rfl
    go_enter Tryd.func77, Tryd.ntmps77
    go_wp2
    go_ret
    exact ⟨by rw [HE.out]; rfl, rfl⟩
  · have hv := isVar_of s (by omega)
    have hpos : 0 < s.size := by omega
    have hne2 : ¬ s.toList = [] := by
      rw [toList_of]; intro g
      have := congrArg List.length g
      rw [List.length_nil, Array.length_toList] at this
      have h2 : s.size = 0 := this
      omega
    have hne : s.toList.isEmpty = false := by
      cases h : s.toList with
      | nil => exact absurd h hne2
      | cons a l => rfl
    have hc := byte_le s[0]
    by_cases h30 : s.size ≤ 30
    · obtain ⟨R, HRR⟩ : ∃ R, Hid (capitalB s[0] = R) := ⟨capitalB s[0], (rfl : capitalB s[0] = capitalB s[0])⟩
      have HE : Hid (isVarB s.data.toList = R) := by show _ = _; rw [hv, ← HRR.out]; simp [h30]
      rw [HE.out]
      clear hv h0
      go_enter Tryd.func77, Tryd.ntmps77
      go_wp2_with fail
      refine (pcapital_any s[0] _).mono ?_
      rintro e w1 ⟨rfl, rfl⟩
      rw [HRR.out]
      go_wp2
      go_ret
      exact ⟨rfl, rfl⟩
    · have HE : Hid (isVarB s.data.toList = false) := by show _ = _; rw [hv]; simp [h30]
      have h31 : 30 < s.size := by omega
      clear hv h0 h30
      go_enter Tryd.func77, Tryd.ntmps77
      go_wp2
      go_ret
      exact ⟨by rw [HE.out]; rfl, rfl⟩
set_option maxRecDepth 100000 in
set_option maxHeartbeats 1000000 in
theorem isDig_any (s : ByteArray) (w : World) :
    Calls Tryd.prog 78 #[.string s] w fun e w' => e = .returned (.bool (isDigB s.data.toList)) ∧ w = w' := by
  by_cases h0 : s.size = 0
  · have hs : s = { data := #[] } := by apply ByteArray.ext; apply Array.eq_empty_of_size_eq_zero; exact h0
    subst hs
    have HE : Hid (isDigB ({ data := #[] } : ByteArray).data.toList = false) := (rfl : _ = _)
    have h3 : ((({ data := #[] } : ByteArray).toList) != ([] : List UInt8)) = false := by rw [toList_of]; rfl
    go_enter Tryd.func78, Tryd.ntmps78
    go_wp2
    go_ret
    exact ⟨by rw [HE.out]; rfl, rfl⟩
  · have hv := isDig_of s (by omega)
    have hpos : 0 < s.size := by omega
    have hne2 : ¬ s.toList = [] := by
      rw [toList_of]; intro g
      have := congrArg List.length g
      rw [List.length_nil, Array.length_toList] at this
      have h2 : s.size = 0 := this
      omega
    have hne : s.toList.isEmpty = false := by
      cases h : s.toList with
      | nil => exact absurd h hne2
      | cons a l => rfl
    by_cases h30 : s.size ≤ 30
    · obtain ⟨R, HRR⟩ : ∃ R, Hid (s.data.toList.all digitB = R) := ⟨_, (rfl : _ = _)⟩
      have HE : Hid (isDigB s.data.toList = R) := by show _ = _; rw [hv, ← HRR.out]; simp [h30]
      rw [HE.out]
      clear hv h0
      go_enter Tryd.func78, Tryd.ntmps78
      go_wp2_with fail
      refine (all_any 76 digitB (fun args w => by first | rfl | kernel_rfl) (fun c w => pdigit_any c w) s _ (by omega)).mono ?_
      rintro e w1 ⟨rfl, rfl⟩
      rw [HRR.out]
      go_wp2
      go_ret
      exact ⟨rfl, rfl⟩
    · have HE : Hid (isDigB s.data.toList = false) := by show _ = _; rw [hv]; simp [h30]
      have h31 : 30 < s.size := by omega
      clear hv h0 h30
      go_enter Tryd.func78, Tryd.ntmps78
      go_wp2
      go_ret
      exact ⟨by rw [HE.out]; rfl, rfl⟩
theorem word_size (s : ByteArray) (p : Nat) (hp : p ≤ s.size) : (str (wordAt s.data.toList p)).size ≤ s.size := by
  have := word_le s p hp
  rw [str_size]; omega
set_option maxRecDepth 100000 in
set_option maxHeartbeats 1000000 in
theorem patName_any (b : Nat) (s : ByteArray) (p : Nat) (w : World) (h : Rd w b s p) (hp : p ≤ s.size) (hs : s.size ≤ 1073741824) :
    Calls Tryd.prog 28 #[.pointer (some ⟨b, 0, none⟩)] w fun e w' => e = .returned (.bool (atNameB s.data.toList p)) ∧ ∃ n, w' = w.drewN n := by
  have HW := hide (pwordAt_any b s p w h hp hs)
  have hz := word_size s p hp
  obtain ⟨W, HWW⟩ : ∃ W, Hid (str (wordAt s.data.toList p) = W) := ⟨_, (rfl : _ = _)⟩
  have HN : Hid (isName W.data.toList = atNameB s.data.toList p) := by show _ = _; rw [← HWW.out, data_str]; rfl
  rw [HWW.out] at HW hz
  obtain ⟨R, HRR⟩ : ∃ R, Hid (atNameB s.data.toList p = R) := ⟨_, (rfl : _ = _)⟩
  rw [HRR.out] at HN ⊢
  go_enter Tryd.func28, Tryd.ntmps28
  go_wp2_with fail
  refine HW.out.mono ?_
  rintro e w1 ⟨rfl, n, rfl⟩
  go_wp2_with fail
  refine (name_any W _ (by omega)).mono ?_
  rintro e w2 ⟨rfl, rfl⟩
  rw [HN.out]
  go_wp2
  go_ret
  exact ⟨rfl, n, rfl⟩
set_option maxRecDepth 100000 in
set_option maxHeartbeats 2000000 in
theorem patTerm_any (b : Nat) (s : ByteArray) (p : Nat) (w : World) (h : Rd w b s p) (hp : p ≤ s.size) (hs : s.size ≤ 1073741824) :
    Calls Tryd.prog 67 #[.pointer (some ⟨b, 0, none⟩)] w fun e w' => e = .returned (.bool (atTermB s.data.toList p)) ∧ ∃ n, w' = w.drewN n := by
  have HR := hide h
  have HW := hide (pwordAt_any b s p w h hp hs)
  have hz := word_size s p hp
  obtain ⟨W, HWW⟩ : ∃ W, Hid (str (wordAt s.data.toList p) = W) := ⟨_, (rfl : _ = _)⟩
  have HN : Hid (atTermB s.data.toList p = (starts s.data.toList p [34] || isName W.data.toList || isVarB W.data.toList || isDigB W.data.toList)) := by show _ = _; rw [← HWW.out, data_str]; rfl
  rw [HWW.out] at HW hz
  obtain ⟨R1, HR1⟩ : ∃ R, Hid (starts s.data.toList p [34] = R) := ⟨_, (rfl : _ = _)⟩
  obtain ⟨R2, HR2⟩ : ∃ R, Hid (isName W.data.toList = R) := ⟨_, (rfl : _ = _)⟩
  obtain ⟨R3, HR3⟩ : ∃ R, Hid (isVarB W.data.toList = R) := ⟨_, (rfl : _ = _)⟩
  obtain ⟨R4, HR4⟩ : ∃ R, Hid (isDigB W.data.toList = R) := ⟨_, (rfl : _ = _)⟩
  rw [HN.out, HR1.out, HR2.out, HR3.out, HR4.out]
  clear HN
  go_enter Tryd.func67, Tryd.ntmps67
  go_wp2_with fail
  refine HW.out.mono ?_
  rintro e w1 ⟨rfl, n, rfl⟩
  go_wp2_with fail
  refine (pbegins_any b s (str [34]) p _ (HR.out.drewN _) hp hs).mono ?_
  rintro e w2 ⟨rfl, n2, rfl⟩
  rw [data_str, HR1.out]
  cases R1 with
  | true =>
    go_wp2
    go_ret
    exact ⟨rfl, n + n2, rfl⟩
  | false =>
    go_wp2_with fail
    refine (name_any W _ (by omega)).mono ?_
    rintro e w3 ⟨rfl, rfl⟩
    rw [HR2.out]
    cases R2 with
    | true =>
      go_wp2
      go_ret
      exact ⟨rfl, n + n2, rfl⟩
    | false =>
      go_wp2_with fail
      refine (isVar_any W _).mono ?_
      rintro e w3 ⟨rfl, rfl⟩
      rw [HR3.out]
      cases R3 with
      | true =>
        go_wp2
        go_ret
        exact ⟨rfl, n + n2, rfl⟩
      | false =>
        go_wp2_with fail
        refine (isDig_any W _).mono ?_
        rintro e w3 ⟨rfl, rfl⟩
        rw [HR4.out]
        go_wp2
        go_ret
        exact ⟨by cases R4 <;> rfl, n + n2, rfl⟩
set_option maxRecDepth 100000 in
set_option maxHeartbeats 1000000 in
theorem patPart_any (b : Nat) (s : ByteArray) (p : Nat) (w : World) (h : Rd w b s p) (hp : p ≤ s.size) (hs : s.size ≤ 1073741824) :
    Calls Tryd.prog 58 #[.pointer (some ⟨b, 0, none⟩)] w fun e w' => e = .returned (.bool (atPartB s.data.toList p)) ∧ ∃ n, w' = w.drewN n := by
  have HR := hide h
  have HW := hide (pwordAt_any b s p w h hp hs)
  obtain ⟨W, HWW⟩ : ∃ W, Hid (str (wordAt s.data.toList p) = W) := ⟨_, (rfl : _ = _)⟩
  have hwl : W.toList = wordAt s.data.toList p := by rw [← HWW.out, toList_str]
  rw [HWW.out] at HW
  by_cases hn : wordAt s.data.toList p = [110, 111, 116]
  · have HN : Hid (atPartB s.data.toList p = true) := by show _ = _; unfold atPartB; rw [hn]; rfl
    have g1 : (W.toList == [110, 111, 116]) = true := by rw [hwl, hn]; rfl
    clear hwl hn
    go_enter Tryd.func58, Tryd.ntmps58
    go_wp2_with fail
    refine HW.out.mono ?_
    rintro e w1 ⟨rfl, n, rfl⟩
    go_wp2
    go_ret
    exact ⟨by rw [HN.out]; rfl, n, rfl⟩
  · have HN : Hid (atPartB s.data.toList p = atTermB s.data.toList p) := by show _ = _; unfold atPartB; rw [beq_eq_false_iff_ne.2 hn]; rfl
    have g1 : (W.toList == [110, 111, 116]) = false := by rw [hwl, beq_eq_false_iff_ne]; exact hn
    clear hwl hn
    obtain ⟨R, HRR⟩ : ∃ R, Hid (atPartB s.data.toList p = R) := ⟨_, (rfl : _ = _)⟩
    rw [HRR.out] at HN ⊢
    go_enter Tryd.func58, Tryd.ntmps58
    go_wp2_with fail
    refine HW.out.mono ?_
    rintro e w1 ⟨rfl, n, rfl⟩
    go_wp2_with fail
    refine (patTerm_any b s p _ (HR.out.drewN _) hp hs).mono ?_
    rintro e w2 ⟨rfl, n2, rfl⟩
    rw [← HN.out]
    go_wp2
    go_ret
    exact ⟨rfl, n + n2, rfl⟩
set_option maxRecDepth 100000 in
theorem pcomma_any (b : Nat) (s : ByteArray) (p : Nat) (w : World) (h : Rd w b s p) (hp : p ≤ s.size) (hs : s.size ≤ 1073741824) :
    Calls Tryd.prog 60 #[.pointer (some ⟨b, 0, none⟩)] w fun e w' => e = .returned (.bool (signF s.data.toList [44] p).isSome) ∧ Rd w' b s ((signF s.data.toList [44] p).getD p : Nat) ∧ RFr w w' b := by
  have HT := hide (ptake_any b s (str [44]) p w h hp hs)
  rw [data_str] at HT
  obtain ⟨S, HSS⟩ : ∃ S, Hid (signF s.data.toList [44] p = S) := ⟨_, (rfl : _ = _)⟩
  rw [HSS.out] at HT ⊢
  go_enter Tryd.func60, Tryd.ntmps60
  go_wp2_with fail
  refine HT.out.mono ?_
  rintro e w1 ⟨rfl, g, f⟩
  have HG := hide g
  have HF := hide f
  clear g f
  go_wp2
  go_ret
  exact ⟨rfl, HG.out, HF.out⟩
end Go.Proofs.YtoelacloghkooaaDoor
