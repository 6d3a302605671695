import Derived.Test.YtdfbjnachakkhaaGreatDoorM32
import Derived.Test.YtdfbjnachakkhaaGreatDoorM02
import Derived.Shelf.Abstract
namespace Go.Proofs.YtdfbjnachakkhaaGreatDoor
open Go.ChangeShapes Go.WideShapes Go.ChangeAt Go.RowKit
set_option linter.unusedVariables false
/-- beyond the package's variables -/
def gTop : Nat := max (max (max (max 0 1) 2) 4) 3 + 1
/-- what the package's variables hold -/
structure Errs (w : World) (L T M : Addr) : Prop where
  gl : w.cell? ⟨0, 0, none⟩ = some (.iface 338 (.pointer (some L)))
  gt : w.cell? ⟨1, 0, none⟩ = some (.iface 338 (.pointer (some T)))
  gm : w.cell? ⟨2, 0, none⟩ = some (.iface 338 (.pointer (some M)))
  gh : w.cell? ⟨3, 0, none⟩ = some (.iface 227 (.agg #[typeHandle Tryz.prog 58]))
  s2 : w.cell? ⟨4, 2, none⟩ = some (.string { data := #[61] })
  s3 : w.cell? ⟨4, 3, none⟩ = some (.string { data := #[33, 61] })
  s4 : w.cell? ⟨4, 4, none⟩ = some (.string { data := #[60] })
  lt : L ≠ T
  lm : L ≠ M
  tm : T ≠ M
theorem glob_lt {w : World} {a : Addr} {v : Value} (h : w.cell? a = some v) : a.block < w.heap.size := World.block_lt_of_cell? w a h
theorem Errs.grown {w w' : World} {L T M : Addr} {b : Nat} (h : Errs w L T M) (hg : w.grownBy w' (some b)) (hb : gTop ≤ b) : Errs w' L T M := by
  have k : ∀ (g : Nat), g < gTop → g < w.heap.size → w'.heap[g]? = w.heap[g]? := fun g h1 h2 => hg.block g h2 (fun e => by cases e; omega)
  have a0 := glob_lt h.gl
  have a1 := glob_lt h.gt
  have a2 := glob_lt h.gm
  have a3 := glob_lt h.gh
  have a4 := glob_lt h.s2
  have a5 := glob_lt h.s3
  have a6 := glob_lt h.s4
  exact ⟨(World.cell?_of_block (k _ (by decide) a0)).trans h.gl, (World.cell?_of_block (k _ (by decide) a1)).trans h.gt, (World.cell?_of_block (k _ (by decide) a2)).trans h.gm, (World.cell?_of_block (k _ (by decide) a3)).trans h.gh,
    (World.cell?_of_block (k _ (by decide) a4)).trans h.s2, (World.cell?_of_block (k _ (by decide) a5)).trans h.s3, (World.cell?_of_block (k _ (by decide) a6)).trans h.s4, h.lt, h.lm, h.tm⟩
/-- the variables lie below -/
theorem Errs.top {w : World} {L T M : Addr} (h : Errs w L T M) : gTop ≤ w.heap.size := by
  have a0 : 0 < w.heap.size := glob_lt h.gl
  have a1 : 1 < w.heap.size := glob_lt h.gt
  have a2 : 2 < w.heap.size := glob_lt h.gm
  have a3 : 3 < w.heap.size := glob_lt h.gh
  have a4 : 4 < w.heap.size := glob_lt h.s2
  unfold gTop
  omega
theorem RFr.g {w w' : World} {b : Nat} (h : RFr w w' b) : w.grownBy w' (some b) := h.x.g
theorem Errs.drewN {w : World} {L T M : Addr} (h : Errs w L T M) (n : Nat) : Errs (w.drewN n) L T M := ⟨h.gl, h.gt, h.gm, h.gh, h.s2, h.s3, h.s4, h.lt, h.lm, h.tm⟩
/-- the variable of an error's number -/
def errA (L T M : Addr) (e : Nat) : Addr := if e = 1 then L else if e = 7 then M else T
/-- an error with its place -/
def errV (L T M : Addr) (e x : Nat) : Value := .iface 115 (.agg #[.iface 338 (.pointer (some (errA L T M e))), .int .i64 (x : Nat)])
set_option maxRecDepth 100000 in
theorem pfail_any (b : Nat) (s : ByteArray) (p : Nat) (A : Addr) (w : World) (h : Rd w b s p) :
    Calls Tryz.prog 44 #[.pointer (some ⟨b, 0, none⟩), .iface 338 (.pointer (some A))] w fun e w' => e = .returned (.iface 115 (.agg #[.iface 338 (.pointer (some A)), .int .i64 (p : Nat)])) ∧ w = w' := by
  obtain ⟨c0, c1, f1⟩ := h
  go_enter Tryz.func44, Tryz.ntmps44
  go_wp2
  go_ret
  exact ⟨rfl, rfl⟩
set_option maxRecDepth 100000 in
set_option maxHeartbeats 1000000 in
theorem pwant_any (b : Nat) (s sg : ByteArray) (p : Nat) (L T M : Addr) (w : World) (h : Rd w b s p) (hE : Errs w L T M) (hb : gTop ≤ b) (hp : p ≤ s.size) (hs : s.size ≤ 1073741824) :
    Calls Tryz.prog 42 #[.pointer (some ⟨b, 0, none⟩), .string sg] w fun e w' =>
      (match signF s.data.toList sg.data.toList p with
        | none => e = .returned (errV L T M 2 p)
        | some q => e = .returned .nilIface ∧ Rd w' b s (q : Nat)) ∧ RFr w w' b := by
  have HR : Hid (Rd w b s p) := h
  have HE := hide hE
  have HT := hide (ptake_any b s sg p w h hp hs)
  obtain ⟨S, HSS⟩ : ∃ S, Hid (signF s.data.toList sg.data.toList p = S) := ⟨_, (rfl : _ = _)⟩
  rw [HSS.out] at HT ⊢
  clear hE
  go_enter Tryz.func42, Tryz.ntmps42
  go_wp2_with fail
  refine HT.out.mono ?_
  rintro e w1 ⟨rfl, g, f⟩
  have HG := hide g
  have HF := hide f
  have HE1 : Hid (Errs w1 L T M) := HE.out.grown f.g hb
  clear g f HT
  cases S with
  | none =>
    have g1 := HE1.out.gt
    go_wp2_with fail
    refine (pfail_any b s p T _ HG.out).mono ?_
    rintro e w2 ⟨rfl, rfl⟩
    go_wp2
    go_ret
    exact ⟨rfl, HF.out⟩
  | some q =>
    go_wp2
    go_ret
    exact ⟨⟨rfl, HG.out⟩, HF.out⟩
end Go.Proofs.YtdfbjnachakkhaaGreatDoor

namespace Go.Proofs.YtdfbjnachakkhaaGreatDoor
open Go.ChangeShapes Go.WideShapes Go.ChangeAt Go.RowKit
set_option linter.unusedVariables false
theorem small_word (c : UInt8) (h : smallB c = true) : wordB c = true := by simp [wordB, h]
theorem name_all (s : ByteArray) (h0 : 0 < s.size) : isName s.data.toList = (decide (s.size ≤ 30) && !(s.data.toList == [110, 111, 116]) && smallB s[0] && s.data.toList.all wordB) := by
  rw [name_of s h0]
  have hl : 0 < s.data.toList.length := by simpa using h0
  have e : s.data.toList = s[0] :: s.data.toList.drop 1 := by
    conv => lhs; rw [← List.drop_zero (l := s.data.toList), List.drop_eq_getElem_cons hl]
    rfl
  have e2 : s.data.toList.all wordB = (wordB s[0] && (s.data.toList.drop 1).all wordB) := by
    conv => lhs; rw [e]
    rw [List.all_cons]
  rw [e2]
  cases hs : smallB s[0] with
  | false => simp
  | true =>
    rw [small_word _ hs]
    cases decide (s.size ≤ 30) <;> cases (s.data.toList == [110, 111, 116]) <;> simp
set_option maxRecDepth 100000 in
set_option maxHeartbeats 2000000 in
theorem name_any (s : ByteArray) (w : World) (hs : s.size ≤ 140737488355328) :
    Calls Tryz.prog 91 #[.string s] w fun e w' => e = .returned (.bool (isName s.data.toList)) ∧ w = w' := by
  have EW : ∀ args w, (callFunc 128 args).run Tryz.prog w = .ok (.enter 128 args) w := enters_of Tryz.func128 (by kernel_rfl) rfl
  have pword_hid : Hid (∀ (c : UInt8) (w : World), Calls Tryz.prog 128 #[.int .u8 (c.toNat : Int)] w fun e w' => e = .returned (.bool (wordB c)) ∧ w = w') := pword_any
  by_cases h0 : s.size = 0
  · have HE : Hid (isName s.data.toList = false) := by
      have : s.data.toList = [] := List.eq_nil_of_length_eq_zero (by simpa using h0)
      show _ = _; rw [this]; rfl
    have d0 : ((s.size : Int) == 0) = true := by simp [h0]
    clear h0
    go_enter Tryz.func91, Tryz.ntmps91
    go_wp2
    go_ret
    exact ⟨ret_bool HE.out.symm, rfl⟩
  · have hp : 0 < s.size := by omega
    have HNH : Hid (isName s.data.toList = (decide (s.size ≤ 30) && !(s.data.toList == [110, 111, 116]) && smallB s[0] && s.data.toList.all wordB)) := name_all s hp
    have d0 : ((s.size : Int) == 0) = false := by rw [beq_eq_false_iff_ne]; omega
    clear h0
    by_cases h30 : s.size ≤ 30
    · have d1 : decide ((30 : Int) < (s.size : Int)) = false := by simp; omega
      cases hno : (s.data.toList == [110, 111, 116]) with
      | true =>
        have HE : Hid (isName s.data.toList = false) := by show _ = _; rw [HNH.out, hno]; simp
        have d2 : (s.toList == [110, 111, 116]) = true := by rw [toList_of, hno]
        clear hno
        go_enter Tryz.func91, Tryz.ntmps91
        go_wp2
        go_ret
        exact ⟨ret_bool HE.out.symm, rfl⟩
      | false =>
        have d2 : (s.toList == [110, 111, 116]) = false := by rw [toList_of, hno]
        have HNO : Hid ((s.data.toList == [110, 111, 116]) = false) := hno
        clear hno
        have hp' : (0 : Int) < (s.size : Int) := by omega
        cases hsm : smallB s[0] with
        | false =>
          have HE : Hid (isName s.data.toList = false) := by show _ = _; rw [HNH.out, hsm]; simp
          have HSM : Hid (smallB s[0] = false) := hsm
          clear hsm
          go_enter Tryz.func91, Tryz.ntmps91
          go_wp2_with fail
          refine (psmall_any s[0] _).mono ?_
          rintro e w1 ⟨rfl, rfl⟩
          rw [HSM.out]
          go_wp2
          go_ret
          exact ⟨ret_bool HE.out.symm, rfl⟩
        | true =>
          have HSM : Hid (smallB s[0] = true) := hsm
          have HE : Hid (isName s.data.toList = s.data.toList.all wordB) := by
            show _ = _
            rw [HNH.out, hsm, HNO.out]; simp [h30]
          clear hsm HNO HNH
          go_enter Tryz.func91, Tryz.ntmps91
          go_wp2_with fail
          refine (psmall_any s[0] _).mono ?_
          rintro e w1 ⟨rfl, rfl⟩
          rw [HSM.out]
          go_wp2_with fail
          refine (all_any 128 wordB EW pword_hid s _ (by omega)).mono ?_
          rintro e w2 ⟨rfl, rfl⟩
          obtain ⟨r, HR⟩ : ∃ r, Hid (r = isName s.data.toList) := ⟨_, (rfl : isName s.data.toList = _)⟩
          rw [← HE.out, ← HR.out]
          go_wp2
          go_ret
          exact ⟨by rw [← HR.out]; rfl, rfl⟩
    · have HE : Hid (isName s.data.toList = false) := by show _ = _; rw [HNH.out]; simp [h30]
      have d1 : decide ((30 : Int) < (s.size : Int)) = true := by simp; omega
      go_enter Tryz.func91, Tryz.ntmps91
      go_wp2
      go_ret
      exact ⟨ret_bool HE.out.symm, rfl⟩
end Go.Proofs.YtdfbjnachakkhaaGreatDoor

namespace Go.Proofs.YtdfbjnachakkhaaGreatDoor
open Go.ChangeShapes Go.WideShapes Go.ChangeAt Go.RowKit
set_option linter.unusedVariables false
set_option maxRecDepth 100000 in
set_option maxHeartbeats 1000000 in
theorem isVar_any (s : ByteArray) (w : World) :
    Calls Tryz.prog 164 #[.string s] w fun e w' => e = .returned (.bool (isVarB s.data.toList)) ∧ w = w' := by
  by_cases h0 : s.size = 0
  · have hs : s = { data := #[] } := by apply ByteArray.ext; apply Array.eq_empty_of_size_eq_zero; exact h0
    subst hs
    have HE : Hid (isVarB ({ data := #[] } : ByteArray).data.toList = false) := (rfl : _ = _)
    have h3 : ((({ data := #[] } : ByteArray).toList) != ([] : List UInt8)) = false := by rw [toList_of]; rfl
    go_enter Tryz.func164, Tryz.ntmps164
    go_wp2
    go_ret
    exact ⟨by rw [HE.out]; rfl, rfl⟩
  · have hv := isVar_of s (by omega)
    have hpos : 0 < s.size := by omega
    have hne2 : ¬ s.toList = [] := by
      rw [toList_of]; intro g
      have := congrArg List.length g
      rw [List.length_nil, Array.length_toList] at this
      have h2 : s.size = 0 := this
      omega
    have hne : s.toList.isEmpty = false := by
      cases h : s.toList with
      | nil => exact absurd h hne2
      | cons a l => rfl
    have hc := byte_le s[0]
    by_cases h30 : s.size ≤ 30
    · obtain ⟨R, HRR⟩ : ∃ R, Hid (capitalB s[0] = R) := ⟨capitalB s[0], (rfl : capitalB s[0] = capitalB s[0])⟩
      have HE : Hid (isVarB s.data.toList = R) := by show _ = _; rw [hv, ← HRR.out]; simp [h30]
      rw [HE.out]
      clear hv h0
      go_enter Tryz.func164, Tryz.ntmps164
      go_wp2_with fail
      refine (pcapital_any s[0] _).mono ?_
      rintro e w1 ⟨rfl, rfl⟩
      rw [HRR.out]
      go_wp2
      go_ret
      exact ⟨rfl, rfl⟩
    · have HE : Hid (isVarB s.data.toList = false) := by show _ = _; rw [hv]; simp [h30]
      have h31 : 30 < s.size := by omega
      clear hv h0 h30
      go_enter Tryz.func164, Tryz.ntmps164
      go_wp2
      go_ret
      exact ⟨by rw [HE.out]; rfl, rfl⟩
set_option maxRecDepth 100000 in
set_option maxHeartbeats 1000000 in
theorem isDig_any (s : ByteArray) (w : World) :
    Calls Tryz.prog 165 #[.string s] w fun e w' => e = .returned (.bool (isDigB s.data.toList)) ∧ w = w' := by
  by_cases h0 : s.size = 0
  · have hs : s = { data := #[] } := by apply ByteArray.ext; apply Array.eq_empty_of_size_eq_zero; exact h0
    subst hs
    have HE : Hid (isDigB ({ data := #[] } : ByteArray).data.toList = false) := (rfl : _ = _)
    have h3 : ((({ data := #[] } : ByteArray).toList) != ([] : List UInt8)) = false := by rw [toList_of]; rfl
    go_enter Tryz.func165, Tryz.ntmps165
    go_wp2
    go_ret
    exact ⟨by rw [HE.out]; rfl, rfl⟩
  · have hv := isDig_of s (by omega)
    have hpos : 0 < s.size := by omega
    have hne2 : ¬ s.toList = [] := by
      rw [toList_of]; intro g
      have := congrArg List.length g
      rw [List.length_nil, Array.length_toList] at this
      have h2 : s.size = 0 := this
      omega
    have hne : s.toList.isEmpty = false := by
      cases h : s.toList with
      | nil => exact absurd h hne2
      | cons a l => rfl
    by_cases h30 : s.size ≤ 30
    · obtain ⟨R, HRR⟩ : ∃ R, Hid (s.data.toList.all digitB = R) := ⟨_, (rfl : _ = _)⟩
      have HE : Hid (isDigB s.data.toList = R) := by show _ = _; rw [hv, ← HRR.out]; simp [h30]
      rw [HE.out]
      clear hv h0
      go_enter Tryz.func165, Tryz.ntmps165
      go_wp2_with fail
      refine (all_any 171 digitB (fun args w => by first | rfl | kernel_rfl) (fun c w => pdigit_any c w) s _ (by omega)).mono ?_
      rintro e w1 ⟨rfl, rfl⟩
      rw [HRR.out]
      go_wp2
      go_ret
      exact ⟨rfl, rfl⟩
    · have HE : Hid (isDigB s.data.toList = false) := by show _ = _; rw [hv]; simp [h30]
      have h31 : 30 < s.size := by omega
      clear hv h0 h30
      go_enter Tryz.func165, Tryz.ntmps165
      go_wp2
      go_ret
      exact ⟨by rw [HE.out]; rfl, rfl⟩
theorem word_size (s : ByteArray) (p : Nat) (hp : p ≤ s.size) : (str (wordAt s.data.toList p)).size ≤ s.size := by
  have := word_le s p hp
  rw [str_size]; omega
set_option maxRecDepth 100000 in
set_option maxHeartbeats 1000000 in
theorem patName_any (b : Nat) (s : ByteArray) (p : Nat) (w : World) (h : Rd w b s p) (hp : p ≤ s.size) (hs : s.size ≤ 1073741824) :
    Calls Tryz.prog 120 #[.pointer (some ⟨b, 0, none⟩)] w fun e w' => e = .returned (.bool (atNameB s.data.toList p)) ∧ ∃ n, w' = w.drewN n := by
  have HW := hide (pwordAt_any b s p w h hp hs)
  have hz := word_size s p hp
  obtain ⟨W, HWW⟩ : ∃ W, Hid (str (wordAt s.data.toList p) = W) := ⟨_, (rfl : _ = _)⟩
  have HN : Hid (isName W.data.toList = atNameB s.data.toList p) := by show _ = _; rw [← HWW.out, data_str]; rfl
  rw [HWW.out] at HW hz
  obtain ⟨R, HRR⟩ : ∃ R, Hid (atNameB s.data.toList p = R) := ⟨_, (rfl : _ = _)⟩
  rw [HRR.out] at HN ⊢
  go_enter Tryz.func120, Tryz.ntmps120
  go_wp2_with fail
  refine HW.out.mono ?_
  rintro e w1 ⟨rfl, n, rfl⟩
  go_wp2_with fail
  refine (name_any W _ (by omega)).mono ?_
  rintro e w2 ⟨rfl, rfl⟩
  rw [HN.out]
  go_wp2
  go_ret
  exact ⟨rfl, n, rfl⟩
set_option maxRecDepth 100000 in
set_option maxHeartbeats 2000000 in
theorem patTerm_any (b : Nat) (s : ByteArray) (p : Nat) (w : World) (h : Rd w b s p) (hp : p ≤ s.size) (hs : s.size ≤ 1073741824) :
    Calls Tryz.prog 118 #[.pointer (some ⟨b, 0, none⟩)] w fun e w' => e = .returned (.bool (atTermB s.data.toList p)) ∧ ∃ n, w' = w.drewN n := by
  have HR := hide h
  have HW := hide (pwordAt_any b s p w h hp hs)
  have hz := word_size s p hp
  obtain ⟨W, HWW⟩ : ∃ W, Hid (str (wordAt s.data.toList p) = W) := ⟨_, (rfl : _ = _)⟩
  have HN : Hid (atTermB s.data.toList p = (starts s.data.toList p [34] || isName W.data.toList || isVarB W.data.toList || isDigB W.data.toList)) := by show _ = _; rw [← HWW.out, data_str]; rfl
  rw [HWW.out] at HW hz
  obtain ⟨R1, HR1⟩ : ∃ R, Hid (starts s.data.toList p [34] = R) := ⟨_, (rfl : _ = _)⟩
  obtain ⟨R2, HR2⟩ : ∃ R, Hid (isName W.data.toList = R) := ⟨_, (rfl : _ = _)⟩
  obtain ⟨R3, HR3⟩ : ∃ R, Hid (isVarB W.data.toList = R) := ⟨_, (rfl : _ = _)⟩
  obtain ⟨R4, HR4⟩ : ∃ R, Hid (isDigB W.data.toList = R) := ⟨_, (rfl : _ = _)⟩
  rw [HN.out, HR1.out, HR2.out, HR3.out, HR4.out]
  clear HN
  go_enter Tryz.func118, Tryz.ntmps118
  go_wp2_with fail
  refine HW.out.mono ?_
  rintro e w1 ⟨rfl, n, rfl⟩
  go_wp2_with fail
  refine (pbegins_any b s (str [34]) p _ (HR.out.drewN _) hp hs).mono ?_
  rintro e w2 ⟨rfl, n2, rfl⟩
  rw [data_str, HR1.out]
  cases R1 with
  | true =>
    go_wp2
    go_ret
    exact ⟨rfl, n + n2, rfl⟩
  | false =>
    go_wp2_with fail
    refine (name_any W _ (by omega)).mono ?_
    rintro e w3 ⟨rfl, rfl⟩
    rw [HR2.out]
    cases R2 with
    | true =>
      go_wp2
      go_ret
      exact ⟨rfl, n + n2, rfl⟩
    | false =>
      go_wp2_with fail
      refine (isVar_any W _).mono ?_
      rintro e w3 ⟨rfl, rfl⟩
      rw [HR3.out]
      cases R3 with
      | true =>
        go_wp2
        go_ret
        exact ⟨rfl, n + n2, rfl⟩
      | false =>
        go_wp2_with fail
        refine (isDig_any W _).mono ?_
        rintro e w3 ⟨rfl, rfl⟩
        rw [HR4.out]
        go_wp2
        go_ret
        exact ⟨by cases R4 <;> rfl, n + n2, rfl⟩
set_option maxRecDepth 100000 in
set_option maxHeartbeats 1000000 in
theorem patPart_any (b : Nat) (s : ByteArray) (p : Nat) (w : World) (h : Rd w b s p) (hp : p ≤ s.size) (hs : s.size ≤ 1073741824) :
    Calls Tryz.prog 80 #[.pointer (some ⟨b, 0, none⟩)] w fun e w' => e = .returned (.bool (atPartB s.data.toList p)) ∧ ∃ n, w' = w.drewN n := by
  have HR := hide h
  have HW := hide (pwordAt_any b s p w h hp hs)
  obtain ⟨W, HWW⟩ : ∃ W, Hid (str (wordAt s.data.toList p) = W) := ⟨_, (rfl : _ = _)⟩
  have hwl : W.toList = wordAt s.data.toList p := by rw [← HWW.out, toList_str]
  rw [HWW.out] at HW
  by_cases hn : wordAt s.data.toList p = [110, 111, 116]
  · have HN : Hid (atPartB s.data.toList p = true) := by show _ = _; unfold atPartB; rw [hn]; rfl
    have g1 : (W.toList == [110, 111, 116]) = true := by rw [hwl, hn]; rfl
    clear hwl hn
    go_enter Tryz.func80, Tryz.ntmps80
    go_wp2_with fail
    refine HW.out.mono ?_
    rintro e w1 ⟨rfl, n, rfl⟩
    go_wp2
    go_ret
    exact ⟨by rw [HN.out]; rfl, n, rfl⟩
  · have HN : Hid (atPartB s.data.toList p = atTermB s.data.toList p) := by show _ = _; unfold atPartB; rw [beq_eq_false_iff_ne.2 hn]; rfl
    have g1 : (W.toList == [110, 111, 116]) = false := by rw [hwl, beq_eq_false_iff_ne]; exact hn
    clear hwl hn
    obtain ⟨R, HRR⟩ : ∃ R, Hid (atPartB s.data.toList p = R) := ⟨_, (rfl : _ = _)⟩
    rw [HRR.out] at HN ⊢
    go_enter Tryz.func80, Tryz.ntmps80
    go_wp2_with fail
    refine HW.out.mono ?_
    rintro e w1 ⟨rfl, n, rfl⟩
    go_wp2_with fail
    refine (patTerm_any b s p _ (HR.out.drewN _) hp hs).mono ?_
    rintro e w2 ⟨rfl, n2, rfl⟩
    rw [← HN.out]
    go_wp2
    go_ret
    exact ⟨rfl, n + n2, rfl⟩
set_option maxRecDepth 100000 in
theorem pcomma_any (b : Nat) (s : ByteArray) (p : Nat) (w : World) (h : Rd w b s p) (hp : p ≤ s.size) (hs : s.size ≤ 1073741824) :
    Calls Tryz.prog 82 #[.pointer (some ⟨b, 0, none⟩)] w fun e w' => e = .returned (.bool (signF s.data.toList [44] p).isSome) ∧ Rd w' b s ((signF s.data.toList [44] p).getD p : Nat) ∧ RFr w w' b := by
  have HT := hide (ptake_any b s (str [44]) p w h hp hs)
  rw [data_str] at HT
  obtain ⟨S, HSS⟩ : ∃ S, Hid (signF s.data.toList [44] p = S) := ⟨_, (rfl : _ = _)⟩
  rw [HSS.out] at HT ⊢
  go_enter Tryz.func82, Tryz.ntmps82
  go_wp2_with fail
  refine HT.out.mono ?_
  rintro e w1 ⟨rfl, g, f⟩
  have HG := hide g
  have HF := hide f
  clear g f
  go_wp2
  go_ret
  exact ⟨rfl, HG.out, HF.out⟩
end Go.Proofs.YtdfbjnachakkhaaGreatDoor

namespace Go.Proofs.YtdfbjnachakkhaaGreatDoor
open Go.ChangeShapes Go.WideShapes Go.ChangeAt Go.RowKit
set_option linter.unusedVariables false
theorem starts_get (s : ByteArray) (k : Nat) (h : k < s.size) (c : UInt8) : starts s.data.toList k [c] = decide (s[k].toNat = c.toNat) := by
  rw [starts_one, at0_get s k h, Bool.eq_iff_iff]
  simp only [decide_eq_true_eq]
  exact ⟨fun g => by rw [g.2], fun g => ⟨h, UInt8.toNat_inj.1 g⟩⟩
theorem starts_past (s : ByteArray) (k : Nat) (h : s.size ≤ k) (c : UInt8) : starts s.data.toList k [c] = false := by
  rw [starts_one]; simp; omega
/-- what one byte of a STRING, or two, are -/
def QByte (L T M : Addr) (b : Nat) (s : ByteArray) (k : Nat) (en : Ending) (w' : World) : Prop :=
  (∃ (c : UInt8) (k' : Nat), k ≤ k' ∧ k' < s.size ∧ k' ≤ k + 1 ∧ en = .returned (.tuple #[.int .u8 (c.toNat : Int), .nilIface]) ∧ Rd w' b s (k' : Nat) ∧ ∀ acc, strGo (s.data.toList.drop k) k acc = strGo (s.data.toList.drop (k' + 1)) (k' + 1) (acc ++ [c])) ∨
  (∃ x, en = .returned (.tuple #[.int .u8 0, errV L T M 2 x]) ∧ ∀ acc, strGo (s.data.toList.drop k) k acc = .error (2, x))
set_option maxRecDepth 100000 in
set_option maxHeartbeats 4000000 in
theorem pqbyte_any (b : Nat) (s : ByteArray) (k : Nat) (L T M : Addr) (w : World) (h : Rd w b s k) (hE : Errs w L T M) (hb : gTop ≤ b) (hk : k < s.size) (h34 : s[k].toNat ≠ 34) (hs : s.size ≤ 1073741824) :
    Calls Tryz.prog 205 #[.pointer (some ⟨b, 0, none⟩)] w fun en w' => QByte L T M b s k en w' ∧ RFr w w' b := by
  have HR := hide h
  have HE := hide hE
  have HB10 := hide (pbegins_any b s (str [10]) k w h (by omega) hs)
  rw [data_str, starts_get s k hk] at HB10
  clear h hE
  go_enter Tryz.func205, Tryz.ntmps205
  go_wp2_with fail
  refine HB10.out.mono ?_
  rintro e w1 ⟨rfl, n, rfl⟩
  have HR1 : Hid (Rd (w.drewN n) b s k) := HR.out.drewN _
  have HE1 : Hid (Errs (w.drewN n) L T M) := HE.out.drewN _
  have HF1 : Hid (RFr w (w.drewN n) b) := RFr.draws _ _ _
  generalize w.drewN n = w1 at *
  have g1 := HE1.out.gt
  have hc := byte_le s[k]
  by_cases h10 : s[k].toNat = 10
  · rw [show decide (s[k].toNat = (10 : UInt8).toNat) = true from by simp [h10]]
    have HS := hide (fun acc => strGo_line s k hk h10 acc)
    clear h10 h34
    go_wp2_with fail
    refine (pfail_any b s k T _ HR1.out).mono ?_
    rintro e w2 ⟨rfl, rfl⟩
    go_wp2
    go_ret2
    exact ⟨Or.inr ⟨k, rfl, HS.out⟩, HF1.out⟩
  · rw [show decide (s[k].toNat = (10 : UInt8).toNat) = false from by simp [h10]]
    go_wp2_with fail
    refine (pbegins_any b s (str [92]) k _ HR1.out (by omega) hs).mono ?_
    rintro e w2 ⟨rfl, n2, rfl⟩
    rw [data_str, starts_get s k hk]
    have HR2 : Hid (Rd (w1.drewN n2) b s k) := HR1.out.drewN _
    have HE2 : Hid (Errs (w1.drewN n2) L T M) := HE1.out.drewN _
    have HF2 : Hid (RFr w (w1.drewN n2) b) := HF1.out.trans (RFr.draws _ _ _)
    generalize w1.drewN n2 = w2 at *
    obtain ⟨c0, c1, f1⟩ := HR2.out
    by_cases h92 : s[k].toNat = 92
    · rw [show decide (s[k].toNat = (92 : UInt8).toNat) = true from by simp [h92]]
      obtain ⟨m, HM⟩ : ∃ m, Hid (m = k + 1) := ⟨_, (rfl : _ = _)⟩
      have hm1 : k < m := by have := HM.out; omega
      have hm2 : m ≤ k + 1 := by have := HM.out; omega
      have HESC : Hid (∀ acc, strGo (s.data.toList.drop k) k acc = if h : m < s.size then (if s[m].toNat = 110 then strGo (s.data.toList.drop (m + 1)) (m + 1) (acc ++ [10]) else if s[m].toNat = 34 ∨ s[m].toNat = 92 then strGo (s.data.toList.drop (m + 1)) (m + 1) (acc ++ [s[m]]) else .error (2, m)) else .error (2, m)) := by
        intro acc
        have hme := HM.out
        subst hme
        by_cases hl : k + 1 < s.size
        · rw [dif_pos hl]; exact strGo_esc s k hl h92 acc
        · rw [dif_neg hl]; exact strGo_escend s k (by omega) h92 acc
      clear h10 h34 h92 g1
      go_wp2_with fail
      generalize hw3 : World.setCell _ _ _ = w3
      have HR3 : Hid (Rd w3 b s m) := by rw [← hw3, HM.out]; exact HR2.out.set _
      have HF3 : Hid (RFr w w3 b) := by rw [← hw3]; exact HF2.out.trans (RFr.set _ _ _)
      have HE3 : Hid (Errs w3 L T M) := by rw [← hw3]; exact HE2.out.grown (fr_set _ _ _ _) hb
      clear hw3 c0 c1 f1
      by_cases hl : m < s.size
      · have hcm := byte_le s[m]
        have HESC2 : Hid (∀ acc, strGo (s.data.toList.drop k) k acc = if s[m].toNat = 110 then strGo (s.data.toList.drop (m + 1)) (m + 1) (acc ++ [10]) else if s[m].toNat = 34 ∨ s[m].toNat = 92 then strGo (s.data.toList.drop (m + 1)) (m + 1) (acc ++ [s[m]]) else .error (2, m)) := by
          intro acc; rw [HESC.out acc, dif_pos hl]
        clear HESC
        refine (pbegins_any b s (str [34]) m _ HR3.out (by omega) hs).mono ?_
        rintro e w4 ⟨rfl, n4, rfl⟩
        rw [data_str, starts_get s m hl]
        have HR4 : Hid (Rd (w3.drewN n4) b s m) := HR3.out.drewN _
        have HE4 : Hid (Errs (w3.drewN n4) L T M) := HE3.out.drewN _
        have HF4 : Hid (RFr w (w3.drewN n4) b) := HF3.out.trans (RFr.draws _ _ _)
        generalize w3.drewN n4 = w4 at *
        obtain ⟨c0, c1, f1⟩ := HR4.out
        by_cases d34 : s[m].toNat = 34
        · rw [show decide (s[m].toNat = (34 : UInt8).toNat) = true from by simp [d34]]
          have HS : Hid (∀ acc, strGo (s.data.toList.drop k) k acc = strGo (s.data.toList.drop (m + 1)) (m + 1) (acc ++ [s[m]])) := by
            intro acc; rw [HESC2.out acc, if_neg (by omega), if_pos (Or.inl d34)]
          clear d34 HESC2
          go_wp2_with fail
          go_quiet (fail)
          go_wp2
          go_ret2
          exact ⟨Or.inl ⟨s[m], m, by omega, hl, hm2, rfl, HR4.out.drewN _, HS.out⟩, HF4.out.trans (RFr.draws _ _ _)⟩
        · rw [show decide (s[m].toNat = (34 : UInt8).toNat) = false from by simp [d34]]
          go_wp2_with fail
          refine (pbegins_any b s (str [92]) m _ HR4.out (by omega) hs).mono ?_
          rintro e w5 ⟨rfl, n5, rfl⟩
          rw [data_str, starts_get s m hl]
          have HR5 : Hid (Rd (w4.drewN n5) b s m) := HR4.out.drewN _
          have HE5 : Hid (Errs (w4.drewN n5) L T M) := HE4.out.drewN _
          have HF5 : Hid (RFr w (w4.drewN n5) b) := HF4.out.trans (RFr.draws _ _ _)
          generalize w4.drewN n5 = w5 at *
          clear c0 c1 f1
          obtain ⟨c0, c1, f1⟩ := HR5.out
          by_cases d92 : s[m].toNat = 92
          · rw [show decide (s[m].toNat = (92 : UInt8).toNat) = true from by simp [d92]]
            have HS : Hid (∀ acc, strGo (s.data.toList.drop k) k acc = strGo (s.data.toList.drop (m + 1)) (m + 1) (acc ++ [s[m]])) := by
              intro acc; rw [HESC2.out acc, if_neg (by omega), if_pos (Or.inr d92)]
            clear d34 d92 HESC2
            go_wp2_with fail
            go_quiet (fail)
            go_wp2
            go_ret2
            exact ⟨Or.inl ⟨s[m], m, by omega, hl, hm2, rfl, HR5.out.drewN _, HS.out⟩, HF5.out.trans (RFr.draws _ _ _)⟩
          · rw [show decide (s[m].toNat = (92 : UInt8).toNat) = false from by simp [d92]]
            go_wp2_with fail
            refine (pbegins_any b s (str [110]) m _ HR5.out (by omega) hs).mono ?_
            rintro e w6 ⟨rfl, n6, rfl⟩
            rw [data_str, starts_get s m hl]
            have HR6 : Hid (Rd (w5.drewN n6) b s m) := HR5.out.drewN _
            have HE6 : Hid (Errs (w5.drewN n6) L T M) := HE5.out.drewN _
            have HF6 : Hid (RFr w (w5.drewN n6) b) := HF5.out.trans (RFr.draws _ _ _)
            generalize w5.drewN n6 = w6 at *
            have g1 := HE6.out.gt
            by_cases d110 : s[m].toNat = 110
            · rw [show decide (s[m].toNat = (110 : UInt8).toNat) = true from by simp [d110]]
              have HS : Hid (∀ acc, strGo (s.data.toList.drop k) k acc = strGo (s.data.toList.drop (m + 1)) (m + 1) (acc ++ [10])) := by
                intro acc; rw [HESC2.out acc, if_pos d110]
              clear d34 d92 d110 HESC2
              go_wp2
              go_ret2
              exact ⟨Or.inl ⟨10, m, by omega, hl, hm2, rfl, HR6.out, HS.out⟩, HF6.out⟩
            · rw [show decide (s[m].toNat = (110 : UInt8).toNat) = false from by simp [d110]]
              have HS : Hid (∀ acc, strGo (s.data.toList.drop k) k acc = .error (2, m)) := by
                intro acc; rw [HESC2.out acc, if_neg d110, if_neg (by omega)]
              clear d34 d92 d110 HESC2
              go_wp2_with fail
              refine (pfail_any b s m T _ HR6.out).mono ?_
              rintro e w7 ⟨rfl, rfl⟩
              go_wp2
              go_ret2
              exact ⟨Or.inr ⟨m, rfl, HS.out⟩, HF6.out⟩
      · have HS : Hid (∀ acc, strGo (s.data.toList.drop k) k acc = .error (2, m)) := by
          intro acc; rw [HESC.out acc, dif_neg hl]
        have hme : m ≤ s.size := by omega
        have hps : ∀ c, starts s.data.toList m [c] = false := fun c => starts_past s m (by omega) c
        clear HESC
        refine (pbegins_any b s (str [34]) m _ HR3.out hme hs).mono ?_
        rintro e w4 ⟨rfl, n4, rfl⟩
        rw [data_str, hps]
        have HR4 : Hid (Rd (w3.drewN n4) b s m) := HR3.out.drewN _
        have HE4 : Hid (Errs (w3.drewN n4) L T M) := HE3.out.drewN _
        have HF4 : Hid (RFr w (w3.drewN n4) b) := HF3.out.trans (RFr.draws _ _ _)
        generalize w3.drewN n4 = w4 at *
        go_wp2_with fail
        refine (pbegins_any b s (str [92]) m _ HR4.out hme hs).mono ?_
        rintro e w5 ⟨rfl, n5, rfl⟩
        rw [data_str, hps]
        have HR5 : Hid (Rd (w4.drewN n5) b s m) := HR4.out.drewN _
        have HE5 : Hid (Errs (w4.drewN n5) L T M) := HE4.out.drewN _
        have HF5 : Hid (RFr w (w4.drewN n5) b) := HF4.out.trans (RFr.draws _ _ _)
        generalize w4.drewN n5 = w5 at *
        go_wp2_with fail
        refine (pbegins_any b s (str [110]) m _ HR5.out hme hs).mono ?_
        rintro e w6 ⟨rfl, n6, rfl⟩
        rw [data_str, hps]
        have HR6 : Hid (Rd (w5.drewN n6) b s m) := HR5.out.drewN _
        have HE6 : Hid (Errs (w5.drewN n6) L T M) := HE5.out.drewN _
        have HF6 : Hid (RFr w (w5.drewN n6) b) := HF5.out.trans (RFr.draws _ _ _)
        generalize w5.drewN n6 = w6 at *
        have g1 := HE6.out.gt
        go_wp2_with fail
        refine (pfail_any b s m T _ HR6.out).mono ?_
        rintro e w7 ⟨rfl, rfl⟩
        go_wp2
        go_ret2
        exact ⟨Or.inr ⟨m, rfl, HS.out⟩, HF6.out⟩
    · rw [show decide (s[k].toNat = (92 : UInt8).toNat) = false from by simp [h92]]
      have HS := hide (fun acc => strGo_plain s k hk h34 h10 h92 acc)
      clear h10 h34 h92
      go_wp2_with fail
      go_quiet (fail)
      go_wp2
      go_ret2
      exact ⟨Or.inl ⟨s[k], k, Nat.le_refl _, hk, by omega, rfl, HR2.out.drewN _, HS.out⟩, HF2.out.trans (RFr.draws _ _ _)⟩
end Go.Proofs.YtdfbjnachakkhaaGreatDoor
