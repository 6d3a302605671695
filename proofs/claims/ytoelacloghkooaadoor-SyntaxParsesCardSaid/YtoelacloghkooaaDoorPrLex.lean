/-
  The program's lexer: what it looks at.
-/
import Derived.Test.YtoelacloghkooaaDoorShapes
import Derived.Deep.RegionLaw
namespace Go.Proofs.YtoelacloghkooaaDoor
open Go.ChangeShapes Go.WideShapes Go.ChangeAt Go.RowKit
set_option linter.unusedVariables false
theorem prefix_take (l sg : List UInt8) : sg.isPrefixOf l = (decide (sg.length ≤ l.length) && decide (l.take sg.length = sg)) := by
  rw [Bool.eq_iff_iff]
  simp only [List.isPrefixOf_iff_prefix, Bool.and_eq_true, decide_eq_true_eq]
  constructor
  · intro h; exact ⟨h.length_le, (List.prefix_iff_eq_take.1 h).symm⟩
  · intro h; exact List.prefix_iff_eq_take.2 h.2.symm
set_option maxRecDepth 100000 in
set_option maxHeartbeats 1000000 in
theorem sprefix_any (s sg : ByteArray) (w : World) :
    Calls Tryd.prog 83 #[.string s, .string sg] w fun e w' => e = .returned (.bool (sg.data.toList.isPrefixOf s.data.toList)) ∧ w = w' := by
  have hl1 : s.data.toList.length = s.size := by simp
  have hl2 : sg.data.toList.length = sg.size := by simp
  have hp := prefix_take s.data.toList sg.data.toList
  rw [hl1, hl2] at hp
  by_cases h : sg.size ≤ s.size
  · have he : (s.extract 0 sg.size).data.toList = s.data.toList.take sg.size := by
      have := extract_take s 0 sg.size
      rwa [Nat.zero_add, List.drop_zero] at this
    have HP : Hid (sg.data.toList.isPrefixOf s.data.toList = ((s.extract 0 sg.size).toList == sg.toList)) := by
      show _ = _
      rw [hp, toList_of, toList_of, he, Bool.eq_iff_iff]
      simp [h]
    clear hl1 hl2 hp he
    go_enter Tryd.func83, Tryd.ntmps83
    go_wp2
    go_ret
    exact ⟨by rw [HP.out]; rfl, rfl⟩
  · have HP : Hid (sg.data.toList.isPrefixOf s.data.toList = false) := by show _ = _; rw [hp]; simp [h]
    have h' : s.size < sg.size := by omega
    clear hl1 hl2 hp h
    go_enter Tryd.func83, Tryd.ntmps83
    go_wp2
    go_ret
    exact ⟨by rw [HP.out]; rfl, rfl⟩
set_option maxRecDepth 100000 in
theorem prefix_any (s sg : ByteArray) (w : World) :
    Calls Tryd.prog 80 #[.string s, .string sg] w fun e w' => e = .returned (.bool (sg.data.toList.isPrefixOf s.data.toList)) ∧ w' = w := by
  have HE := hide (sprefix_any s sg w)
  generalize sg.data.toList.isPrefixOf s.data.toList = R at HE ⊢
  go_enter Tryd.func80, Tryd.ntmps80
  go_wp2_with fail
  refine HE.out.mono ?_
  rintro e w1 ⟨rfl, rfl⟩
  go_wp2
  go_ret
  exact ⟨rfl, rfl⟩
/-- the rest of a text, from a place on -/
theorem rest_list (s : ByteArray) (p : Nat) (h : p ≤ s.size) : (s.extract p s.size).data.toList = s.data.toList.drop p := by
  have := extract_take s p (s.size - p)
  rw [show p + (s.size - p) = s.size from by omega] at this
  rw [this]
  exact List.take_of_length_le (by simp)
set_option maxRecDepth 100000 in
set_option maxHeartbeats 1000000 in
theorem pbegins_any (b : Nat) (s sg : ByteArray) (p : Nat) (w : World) (h : Rd w b s p) (hp : p ≤ s.size) (hs : s.size ≤ 1073741824) :
    Calls Tryd.prog 69 #[.pointer (some ⟨b, 0, none⟩), .string sg] w fun e w' => e = .returned (.bool (starts s.data.toList p sg.data.toList)) ∧ ∃ n, w' = w.drewN n := by
  have HB : Hid (sg.data.toList.isPrefixOf (s.extract p s.size).data.toList = starts s.data.toList p sg.data.toList) := by show _ = _; unfold starts; rw [rest_list s p hp]
  have HT : Hid (∀ w, Calls Tryd.prog 80 #[.string (s.extract p s.size), .string sg] w fun e w' => e = .returned (.bool (starts s.data.toList p sg.data.toList)) ∧ w' = w) := by
    intro w; rw [← HB.out]; exact prefix_any _ _ w
  obtain ⟨c0, c1, f1⟩ := h
  clear HB
  generalize starts s.data.toList p sg.data.toList = R at *
  go_enter Tryd.func69, Tryd.ntmps69
  go_wp2_with fail
  go_quiet ((go_at_call 80; refine Calls.quiet_of_same (HT.out _)))
  go_wp2
  go_ret
  exact ⟨rfl, _, rfl⟩
set_option maxRecDepth 100000 in
theorem pended_any (b : Nat) (s : ByteArray) (p : Nat) (w : World) (h : Rd w b s p) :
    Calls Tryd.prog 26 #[.pointer (some ⟨b, 0, none⟩)] w fun e w' => e = .returned (.bool (decide (p = s.size))) ∧ ∃ n, w' = w.drewN n := by
  obtain ⟨c0, c1, f1⟩ := h
  have HD : Hid (((p : Int) == (s.size : Int)) = decide (p = s.size)) := by show _ = _; rw [Bool.eq_iff_iff]; simp; omega
  go_enter Tryd.func26, Tryd.ntmps26
  go_wp2_with fail
  go_quiet (fail)
  go_wp2
  go_ret
  exact ⟨by rw [← HD.out]; rfl, _, rfl⟩
set_option maxRecDepth 100000 in
theorem pleft_any (b : Nat) (s : ByteArray) (p : Nat) (w : World) (h : Rd w b s p) :
    Calls Tryd.prog 30 #[.pointer (some ⟨b, 0, none⟩)] w fun e w' => e = .returned (.bool (!decide (p = s.size))) ∧ ∃ n, w' = w.drewN n := by
  have HE := hide (pended_any b s p w h)
  generalize decide (p = s.size) = D at HE ⊢
  go_enter Tryd.func30, Tryd.ntmps30
  go_wp2_with fail
  refine HE.out.mono ?_
  rintro e w1 ⟨rfl, n, rfl⟩
  go_wp2
  go_ret
  exact ⟨rfl, _, rfl⟩
set_option maxRecDepth 100000 in
set_option maxHeartbeats 1000000 in
theorem pwordAt_any (b : Nat) (s : ByteArray) (p : Nat) (w : World) (h : Rd w b s p) (hp : p ≤ s.size) (hs : s.size ≤ 1073741824) :
    Calls Tryd.prog 45 #[.pointer (some ⟨b, 0, none⟩)] w fun e w' => e = .returned (.string (str (wordAt s.data.toList p))) ∧ ∃ n, w' = w.drewN n := by
  obtain ⟨c0, c1, f1⟩ := h
  have hsz : (s.extract p s.size).size = s.size - p := by
    simp
  obtain ⟨n, HN⟩ : ∃ n, Hid (runLen wordB (s.extract p s.size).data.toList = n) := ⟨_, (rfl : _ = _)⟩
  have hn : n ≤ (s.extract p s.size).size := by
    have := runLen_le wordB (s.extract p s.size).data.toList
    rw [HN.out] at this
    simpa using this
  have HW : Hid ((s.extract p s.size).extract 0 n = str (wordAt s.data.toList p)) := by
    show _ = _
    apply ByteArray.ext
    apply Array.toList_inj.1
    have e1 := extract_take (s.extract p s.size) 0 n
    simp only [Nat.zero_add, List.drop_zero] at e1
    rw [e1, data_str, rest_list s p hp, ← HN.out]
    unfold runLen
    rw [rest_list s p hp]
    exact take_word s.data.toList p
  obtain ⟨R, HR⟩ : ∃ R, Hid (s.extract p s.size = R) := ⟨_, (rfl : _ = _)⟩
  rw [HR.out] at HN HW hn hsz
  have hRs : R.size ≤ 140737488355328 := by omega
  go_enter Tryd.func45, Tryd.ntmps45
  go_wp2_with fail
  go_quiet (fail)
  rw [HR.out]
  go_wp2_with fail
  refine (run_any 65 wordB (fun args w => by first | rfl | kernel_rfl) (fun c w => pword_any c w) R _ hRs).mono ?_
  rintro e w1 ⟨rfl, rfl⟩
  rw [HN.out]
  go_wp2
  rw [HW.out]
  go_ret
  exact ⟨rfl, _, rfl⟩
end Go.Proofs.YtoelacloghkooaaDoor
