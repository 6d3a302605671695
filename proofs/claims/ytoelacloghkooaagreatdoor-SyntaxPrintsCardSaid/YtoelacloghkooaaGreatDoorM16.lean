import Derived.Test.YtoelacloghkooaaGreatDoorM15
import Derived.Test.YtoelacloghkooaaGreatDoorM01
import Derived.Shelf.Abstract
/-
  The program's errors: the package's variables, a placed error; fail, want.
-/
namespace Go.Proofs.YtoelacloghkooaaGreatDoor
open Go.ChangeShapes Go.WideShapes Go.ChangeAt Go.RowKit
set_option linter.unusedVariables false
/-- beyond the package's variables -/
def gTop : Nat := max (max (max (max 0 1) 2) 3) 4 + 1
/-- what the package's variables hold -/
structure Errs (w : World) (L T M : Addr) : Prop where
  gl : w.cell? ⟨0, 0, none⟩ = some (.iface 246 (.pointer (some L)))
  gt : w.cell? ⟨1, 0, none⟩ = some (.iface 246 (.pointer (some T)))
  gm : w.cell? ⟨2, 0, none⟩ = some (.iface 246 (.pointer (some M)))
  gh : w.cell? ⟨4, 0, none⟩ = some (.iface 181 (.agg #[typeHandle Tryz.prog 75]))
  s2 : w.cell? ⟨3, 2, none⟩ = some (.string { data := #[61] })
  s3 : w.cell? ⟨3, 3, none⟩ = some (.string { data := #[33, 61] })
  s4 : w.cell? ⟨3, 4, none⟩ = some (.string { data := #[60] })
  lt : L ≠ T
  lm : L ≠ M
  tm : T ≠ M
theorem glob_lt {w : World} {a : Addr} {v : Value} (h : w.cell? a = some v) : a.block < w.heap.size := World.block_lt_of_cell? w a h
theorem Errs.grown {w w' : World} {L T M : Addr} {b : Nat} (h : Errs w L T M) (hg : w.grownBy w' (some b)) (hb : gTop ≤ b) : Errs w' L T M := by
  have k : ∀ (g : Nat), g < gTop → g < w.heap.size → w'.heap[g]? = w.heap[g]? := fun g h1 h2 => hg.block g h2 (fun e => by cases e; omega)
  have a0 := glob_lt h.gl
  have a1 := glob_lt h.gt
  have a2 := glob_lt h.gm
  have a3 := glob_lt h.gh
  have a4 := glob_lt h.s2
  have a5 := glob_lt h.s3
  have a6 := glob_lt h.s4
  exact ⟨(World.cell?_of_block (k _ (by decide) a0)).trans h.gl, (World.cell?_of_block (k _ (by decide) a1)).trans h.gt, (World.cell?_of_block (k _ (by decide) a2)).trans h.gm, (World.cell?_of_block (k _ (by decide) a3)).trans h.gh,
    (World.cell?_of_block (k _ (by decide) a4)).trans h.s2, (World.cell?_of_block (k _ (by decide) a5)).trans h.s3, (World.cell?_of_block (k _ (by decide) a6)).trans h.s4, h.lt, h.lm, h.tm⟩
theorem Errs.below {w w' : World} {L T M : Addr} {B : Nat} (h : Errs w L T M) (hg : Below B w w') (hb : gTop ≤ B) : Errs w' L T M := by
  have k : ∀ (g : Nat), g < gTop → w'.heap[g]? = w.heap[g]? := fun g h1 => hg.block g (by omega)
  exact ⟨(World.cell?_of_block (k _ (by decide))).trans h.gl, (World.cell?_of_block (k _ (by decide))).trans h.gt, (World.cell?_of_block (k _ (by decide))).trans h.gm, (World.cell?_of_block (k _ (by decide))).trans h.gh,
    (World.cell?_of_block (k _ (by decide))).trans h.s2, (World.cell?_of_block (k _ (by decide))).trans h.s3, (World.cell?_of_block (k _ (by decide))).trans h.s4, h.lt, h.lm, h.tm⟩
/-- the variables lie below -/
theorem Errs.top {w : World} {L T M : Addr} (h : Errs w L T M) : gTop ≤ w.heap.size := by
  have a0 : 0 < w.heap.size := glob_lt h.gl
  have a1 : 1 < w.heap.size := glob_lt h.gt
  have a2 : 2 < w.heap.size := glob_lt h.gm
  have a3 : 4 < w.heap.size := glob_lt h.gh
  have a4 : 3 < w.heap.size := glob_lt h.s2
  unfold gTop
  omega
theorem RFr.g {w w' : World} {b : Nat} (h : RFr w w' b) : w.grownBy w' (some b) := h.x.g
theorem Errs.drewN {w : World} {L T M : Addr} (h : Errs w L T M) (n : Nat) : Errs (w.drewN n) L T M := ⟨h.gl, h.gt, h.gm, h.gh, h.s2, h.s3, h.s4, h.lt, h.lm, h.tm⟩
/-- the variable of an error's number -/
def errA (L T M : Addr) (e : Nat) : Addr := if e = 1 then L else if e = 7 then M else T
/-- an error with its place -/
def errV (L T M : Addr) (e x : Nat) : Value := .iface 119 (.agg #[.iface 246 (.pointer (some (errA L T M e))), .int .i64 (x : Nat)])
set_option maxRecDepth 100000 in
theorem pfail_any (b : Nat) (s : ByteArray) (p : Nat) (A : Addr) (w : World) (h : Rd w b s p) :
    Calls Tryz.prog 68 #[.pointer (some ⟨b, 0, none⟩), .iface 246 (.pointer (some A))] w fun e w' => e = .returned (.iface 119 (.agg #[.iface 246 (.pointer (some A)), .int .i64 (p : Nat)])) ∧ w = w' := by
  obtain ⟨c0, c1, f1⟩ := h
  go_enter Tryz.func68, Tryz.ntmps68
  go_wp2
  go_ret
  exact ⟨rfl, rfl⟩
set_option maxRecDepth 100000 in
set_option maxHeartbeats 1000000 in
theorem pwant_any (b : Nat) (s sg : ByteArray) (p : Nat) (L T M : Addr) (w : World) (h : Rd w b s p) (hE : Errs w L T M) (hb : gTop ≤ b) (hp : p ≤ s.size) (hs : s.size ≤ 1073741824) :
    Calls Tryz.prog 67 #[.pointer (some ⟨b, 0, none⟩), .string sg] w fun e w' =>
      (match signF s.data.toList sg.data.toList p with
        | none => e = .returned (errV L T M 2 p)
        | some q => e = .returned .nilIface ∧ Rd w' b s (q : Nat)) ∧ RFr w w' b := by
  have HR : Hid (Rd w b s p) := h
  have HE := hide hE
  have HT := hide (ptake_any b s sg p w h hp hs)
  obtain ⟨S, HSS⟩ : ∃ S, Hid (signF s.data.toList sg.data.toList p = S) := ⟨_, (rfl : _ = _)⟩
  rw [HSS.out] at HT ⊢
  clear hE
  go_enter Tryz.func67, Tryz.ntmps67
  go_wp2_with fail
  refine HT.out.mono ?_
  rintro e w1 ⟨rfl, g, f⟩
  have HG := hide g
  have HF := hide f
  have HE1 : Hid (Errs w1 L T M) := HE.out.grown f.g hb
  clear g f HT
  cases S with
  | none =>
    have g1 := HE1.out.gt
    go_wp2_with fail
    refine (pfail_any b s p T _ HG.out).mono ?_
    rintro e w2 ⟨rfl, rfl⟩
    go_wp2
    go_ret
    exact ⟨rfl, HF.out⟩
  | some q =>
    go_wp2
    go_ret
    exact ⟨⟨rfl, HG.out⟩, HF.out⟩
end Go.Proofs.YtoelacloghkooaaGreatDoor

/-
  The program's file.Name, walked; FileNames' walk.
-/
namespace Go.Proofs.YtoelacloghkooaaGreatDoor
open Go.ChangeShapes Go.WideShapes Go.ChangeAt Go.RowKit
set_option linter.unusedVariables false
theorem small_word (c : UInt8) (h : smallB c = true) : wordB c = true := by simp [wordB, h]
theorem name_all (s : ByteArray) (h0 : 0 < s.size) : isName s.data.toList = (decide (s.size ≤ 30) && !(s.data.toList == [110, 111, 116]) && smallB s[0] && s.data.toList.all wordB) := by
  rw [name_of s h0]
  have hl : 0 < s.data.toList.length := by simpa using h0
  have e : s.data.toList = s[0] :: s.data.toList.drop 1 := by
    conv => lhs; rw [← List.drop_zero (l := s.data.toList), List.drop_eq_getElem_cons hl]
    rfl
  have e2 : s.data.toList.all wordB = (wordB s[0] && (s.data.toList.drop 1).all wordB) := by
    conv => lhs; rw [e]
    rw [List.all_cons]
  rw [e2]
  cases hs : smallB s[0] with
  | false => simp
  | true =>
    rw [small_word _ hs]
    cases decide (s.size ≤ 30) <;> cases (s.data.toList == [110, 111, 116]) <;> simp
theorem not_text : ({ data := #[110, 111, 116] } : ByteArray).toList = [110, 111, 116] := by rw [toList_of]
set_option maxRecDepth 100000 in
set_option maxHeartbeats 2000000 in
theorem name_any (s : ByteArray) (w : World) (hs : s.size ≤ 140737488355328) :
    Calls Tryz.prog 31 #[.string s] w fun e w' => e = .returned (.bool (isName s.data.toList)) ∧ w = w' := by
  have EW : ∀ args w, (callFunc 62 args).run Tryz.prog w = .ok (.enter 62 args) w := enters_of Tryz.func62 (by kernel_rfl) rfl
  have pword_hid : Hid (∀ (c : UInt8) (w : World), Calls Tryz.prog 62 #[.int .u8 (c.toNat : Int)] w fun e w' => e = .returned (.bool (wordB c)) ∧ w = w') := pword_any
  by_cases h0 : s.size = 0
  · have HE : Hid (isName s.data.toList = false) := by
      have : s.data.toList = [] := List.eq_nil_of_length_eq_zero (by simpa using h0)
      show _ = _; rw [this]; rfl
    have d0 : ((s.size : Int) == 0) = true := by simp [h0]
    clear h0
    go_enter Tryz.func31, Tryz.ntmps31
    go_wp2
    go_ret
    exact ⟨ret_bool HE.out.symm, rfl⟩
  · have hp : 0 < s.size := by omega
    have HNH : Hid (isName s.data.toList = (decide (s.size ≤ 30) && !(s.data.toList == [110, 111, 116]) && smallB s[0] && s.data.toList.all wordB)) := name_all s hp
    have d0 : ((s.size : Int) == 0) = false := by rw [beq_eq_false_iff_ne]; omega
    clear h0
    by_cases h30 : s.size ≤ 30
    · have d1 : decide ((30 : Int) < (s.size : Int)) = false := by simp; omega
      cases hno : (s.data.toList == [110, 111, 116]) with
      | true =>
        have HE : Hid (isName s.data.toList = false) := by show _ = _; rw [HNH.out, hno]; simp
        have d2 : (s.toList == [110, 111, 116]) = true := by rw [toList_of, hno]
        clear hno
        go_enter Tryz.func31, Tryz.ntmps31
        go_wp2
        go_ret
        exact ⟨ret_bool HE.out.symm, rfl⟩
      | false =>
        have d2 : (s.toList == [110, 111, 116]) = false := by rw [toList_of, hno]
        have HNO : Hid ((s.data.toList == [110, 111, 116]) = false) := hno
        clear hno
        have hp' : (0 : Int) < (s.size : Int) := by omega
        cases hsm : smallB s[0] with
        | false =>
          have HE : Hid (isName s.data.toList = false) := by show _ = _; rw [HNH.out, hsm]; simp
          have HSM : Hid (smallB s[0] = false) := hsm
          clear hsm
          go_enter Tryz.func31, Tryz.ntmps31
          go_wp2_with fail
          refine (psmall_any s[0] _).mono ?_
          rintro e w1 ⟨rfl, rfl⟩
          rw [HSM.out]
          go_wp2
          go_ret
          exact ⟨ret_bool HE.out.symm, rfl⟩
        | true =>
          have HSM : Hid (smallB s[0] = true) := hsm
          have HE : Hid (isName s.data.toList = s.data.toList.all wordB) := by
            show _ = _
            rw [HNH.out, hsm, HNO.out]; simp [h30]
          clear hsm HNO HNH
          go_enter Tryz.func31, Tryz.ntmps31
          go_wp2_with fail
          refine (psmall_any s[0] _).mono ?_
          rintro e w1 ⟨rfl, rfl⟩
          rw [HSM.out]
          go_wp2_with fail
          refine (all_any 62 wordB EW pword_hid s _ (by omega)).mono ?_
          rintro e w2 ⟨rfl, rfl⟩
          obtain ⟨r, HR⟩ : ∃ r, Hid (r = isName s.data.toList) := ⟨_, (rfl : isName s.data.toList = _)⟩
          rw [← HE.out, ← HR.out]
          go_wp2
          go_ret
          exact ⟨by rw [← HR.out]; rfl, rfl⟩
    · have HE : Hid (isName s.data.toList = false) := by show _ = _; rw [HNH.out]; simp [h30]
      have d1 : decide ((30 : Int) < (s.size : Int)) = true := by simp; omega
      go_enter Tryz.func31, Tryz.ntmps31
      go_wp2
      go_ret
      exact ⟨ret_bool HE.out.symm, rfl⟩
end Go.Proofs.YtoelacloghkooaaGreatDoor

/-
  The program's parser: what may begin at a place.
-/
namespace Go.Proofs.YtoelacloghkooaaGreatDoor
open Go.ChangeShapes Go.WideShapes Go.ChangeAt Go.RowKit
set_option linter.unusedVariables false
set_option maxRecDepth 100000 in
set_option maxHeartbeats 1000000 in
theorem isVar_any (s : ByteArray) (w : World) :
    Calls Tryz.prog 111 #[.string s] w fun e w' => e = .returned (.bool (isVarB s.data.toList)) ∧ w = w' := by
  by_cases h0 : s.size = 0
  · have hs : s = { data := #[] } := by apply ByteArray.ext; apply Array.eq_empty_of_size_eq_zero; exact h0
    subst hs
    have HE : Hid (isVarB ({ data := #[] } : ByteArray).data.toList = false) := (rfl : _ = _)
    have h3 : ((({ data := #[] } : ByteArray).toList) != ([] : List UInt8)) = false := by rw [toList_of]; rfl
    go_enter Tryz.func111, Tryz.ntmps111
    go_wp2
    go_ret
    exact ⟨by rw [HE.out]; rfl, rfl⟩
  · have hv := isVar_of s (by omega)
    have hpos : 0 < s.size := by omega
    have hne2 : ¬ s.toList = [] := by
      rw [toList_of]; intro g
      have := congrArg List.length g
      rw [List.length_nil, Array.length_toList] at this
      have h2 : s.size = 0 := this
      omega
    have hne : s.toList.isEmpty = false := by
      cases h : s.toList with
      | nil => exact absurd h hne2
      | cons a l => rfl
    have hc := byte_le s[0]
    by_cases h30 : s.size ≤ 30
    · obtain ⟨R, HRR⟩ : ∃ R, Hid (capitalB s[0] = R) := ⟨capitalB s[0], (rfl : capitalB s[0] = capitalB s[0])⟩
      have HE : Hid (isVarB s.data.toList = R) := by show _ = _; rw [hv, ← HRR.out]; simp [h30]
      rw [HE.out]
      clear hv h0
      go_enter Tryz.func111, Tryz.ntmps111
      go_wp2_with fail
      refine (pcapital_any s[0] _).mono ?_
      rintro e w1 ⟨rfl, rfl⟩
      rw [HRR.out]
      go_wp2
      go_ret
      exact ⟨rfl, rfl⟩
    · have HE : Hid (isVarB s.data.toList = false) := by show _ = _; rw [hv]; simp [h30]
      have h31 : 30 < s.size := by omega
      clear hv h0 h30
      go_enter Tryz.func111, Tryz.ntmps111
      go_wp2
      go_ret
      exact ⟨by rw [HE.out]; rfl, rfl⟩
set_option maxRecDepth 100000 in
set_option maxHeartbeats 1000000 in
theorem isDig_any (s : ByteArray) (w : World) :
    Calls Tryz.prog 32 #[.string s] w fun e w' => e = .returned (.bool (isDigB s.data.toList)) ∧ w = w' := by
  by_cases h0 : s.size = 0
  · have hs : s = { data := #[] } := by apply ByteArray.ext; apply Array.eq_empty_of_size_eq_zero; exact h0
    subst hs
    have HE : Hid (isDigB ({ data := #[] } : ByteArray).data.toList = false) := (rfl : _ = _)
    have h3 : ((({ data := #[] } : ByteArray).toList) != ([] : List UInt8)) = false := by rw [toList_of]; rfl
    go_enter Tryz.func32, Tryz.ntmps32
    go_wp2
    go_ret
    exact ⟨by rw [HE.out]; rfl, rfl⟩
  · have hv := isDig_of s (by omega)
    have hpos : 0 < s.size := by omega
    have hne2 : ¬ s.toList = [] := by
      rw [toList_of]; intro g
      have := congrArg List.length g
      rw [List.length_nil, Array.length_toList] at this
      have h2 : s.size = 0 := this
      omega
    have hne : s.toList.isEmpty = false := by
      cases h : s.toList with
      | nil => exact absurd h hne2
      | cons a l => rfl
    by_cases h30 : s.size ≤ 30
    · obtain ⟨R, HRR⟩ : ∃ R, Hid (s.data.toList.all digitB = R) := ⟨_, (rfl : _ = _)⟩
      have HE : Hid (isDigB s.data.toList = R) := by show _ = _; rw [hv, ← HRR.out]; simp [h30]
      rw [HE.out]
      clear hv h0
      go_enter Tryz.func32, Tryz.ntmps32
      go_wp2_with fail
      refine (all_any 63 digitB (fun args w => by first | rfl | kernel_rfl) (fun c w => pdigit_any c w) s _ (by omega)).mono ?_
      rintro e w1 ⟨rfl, rfl⟩
      rw [HRR.out]
      go_wp2
      go_ret
      exact ⟨rfl, rfl⟩
    · have HE : Hid (isDigB s.data.toList = false) := by show _ = _; rw [hv]; simp [h30]
      have h31 : 30 < s.size := by omega
      clear hv h0 h30
      go_enter Tryz.func32, Tryz.ntmps32
      go_wp2
      go_ret
      exact ⟨by rw [HE.out]; rfl, rfl⟩
theorem word_size (s : ByteArray) (p : Nat) (hp : p ≤ s.size) : (str (wordAt s.data.toList p)).size ≤ s.size := by
  have := word_le s p hp
  rw [str_size]; omega
set_option maxRecDepth 100000 in
set_option maxHeartbeats 1000000 in
theorem patName_any (b : Nat) (s : ByteArray) (p : Nat) (w : World) (h : Rd w b s p) (hp : p ≤ s.size) (hs : s.size ≤ 1073741824) :
    Calls Tryz.prog 54 #[.pointer (some ⟨b, 0, none⟩)] w fun e w' => e = .returned (.bool (atNameB s.data.toList p)) ∧ ∃ n, w' = w.drewN n := by
  have HW := hide (pwordAt_any b s p w h hp hs)
  have hz := word_size s p hp
  obtain ⟨W, HWW⟩ : ∃ W, Hid (str (wordAt s.data.toList p) = W) := ⟨_, (rfl : _ = _)⟩
  have HN : Hid (isName W.data.toList = atNameB s.data.toList p) := by show _ = _; rw [← HWW.out, data_str]; rfl
  rw [HWW.out] at HW hz
  obtain ⟨R, HRR⟩ : ∃ R, Hid (atNameB s.data.toList p = R) := ⟨_, (rfl : _ = _)⟩
  rw [HRR.out] at HN ⊢
  go_enter Tryz.func54, Tryz.ntmps54
  go_wp2_with fail
  refine HW.out.mono ?_
  rintro e w1 ⟨rfl, n, rfl⟩
  go_wp2_with fail
  refine (name_any W _ (by omega)).mono ?_
  rintro e w2 ⟨rfl, rfl⟩
  rw [HN.out]
  go_wp2
  go_ret
  exact ⟨rfl, n, rfl⟩
set_option maxRecDepth 100000 in
set_option maxHeartbeats 2000000 in
theorem patTerm_any (b : Nat) (s : ByteArray) (p : Nat) (w : World) (h : Rd w b s p) (hp : p ≤ s.size) (hs : s.size ≤ 1073741824) :
    Calls Tryz.prog 98 #[.pointer (some ⟨b, 0, none⟩)] w fun e w' => e = .returned (.bool (atTermB s.data.toList p)) ∧ ∃ n, w' = w.drewN n := by
  have HR := hide h
  have HW := hide (pwordAt_any b s p w h hp hs)
  have hz := word_size s p hp
  obtain ⟨W, HWW⟩ : ∃ W, Hid (str (wordAt s.data.toList p) = W) := ⟨_, (rfl : _ = _)⟩
  have HN : Hid (atTermB s.data.toList p = (starts s.data.toList p [34] || isName W.data.toList || isVarB W.data.toList || isDigB W.data.toList)) := by show _ = _; rw [← HWW.out, data_str]; rfl
  rw [HWW.out] at HW hz
  obtain ⟨R1, HR1⟩ : ∃ R, Hid (starts s.data.toList p [34] = R) := ⟨_, (rfl : _ = _)⟩
  obtain ⟨R2, HR2⟩ : ∃ R, Hid (isName W.data.toList = R) := ⟨_, (rfl : _ = _)⟩
  obtain ⟨R3, HR3⟩ : ∃ R, Hid (isVarB W.data.toList = R) := ⟨_, (rfl : _ = _)⟩
  obtain ⟨R4, HR4⟩ : ∃ R, Hid (isDigB W.data.toList = R) := ⟨_, (rfl : _ = _)⟩
  rw [HN.out, HR1.out, HR2.out, HR3.out, HR4.out]
  clear HN
  go_enter Tryz.func98, Tryz.ntmps98
  go_wp2_with fail
  refine HW.out.mono ?_
  rintro e w1 ⟨rfl, n, rfl⟩
  go_wp2_with fail
  refine (pbegins_any b s (str [34]) p _ (HR.out.drewN _) hp hs).mono ?_
  rintro e w2 ⟨rfl, n2, rfl⟩
  rw [data_str, HR1.out]
  cases R1 with
  | true =>
    go_wp2
    go_ret
    exact ⟨rfl, n + n2, rfl⟩
  | false =>
    go_wp2_with fail
    refine (name_any W _ (by omega)).mono ?_
    rintro e w3 ⟨rfl, rfl⟩
    rw [HR2.out]
    cases R2 with
    | true =>
      go_wp2
      go_ret
      exact ⟨rfl, n + n2, rfl⟩
    | false =>
      go_wp2_with fail
      refine (isVar_any W _).mono ?_
      rintro e w3 ⟨rfl, rfl⟩
      rw [HR3.out]
      cases R3 with
      | true =>
        go_wp2
        go_ret
        exact ⟨rfl, n + n2, rfl⟩
      | false =>
        go_wp2_with fail
        refine (isDig_any W _).mono ?_
        rintro e w3 ⟨rfl, rfl⟩
        rw [HR4.out]
        go_wp2
        go_ret
        exact ⟨by cases R4 <;> rfl, n + n2, rfl⟩
set_option maxRecDepth 100000 in
set_option maxHeartbeats 1000000 in
theorem patPart_any (b : Nat) (s : ByteArray) (p : Nat) (w : World) (h : Rd w b s p) (hp : p ≤ s.size) (hs : s.size ≤ 1073741824) :
    Calls Tryz.prog 91 #[.pointer (some ⟨b, 0, none⟩)] w fun e w' => e = .returned (.bool (atPartB s.data.toList p)) ∧ ∃ n, w' = w.drewN n := by
  have HR := hide h
  have HW := hide (pwordAt_any b s p w h hp hs)
  obtain ⟨W, HWW⟩ : ∃ W, Hid (str (wordAt s.data.toList p) = W) := ⟨_, (rfl : _ = _)⟩
  have hwl : W.toList = wordAt s.data.toList p := by rw [← HWW.out, toList_str]
  rw [HWW.out] at HW
  by_cases hn : wordAt s.data.toList p = [110, 111, 116]
  · have HN : Hid (atPartB s.data.toList p = true) := by show _ = _; unfold atPartB; rw [hn]; rfl
    have g1 : (W.toList == [110, 111, 116]) = true := by rw [hwl, hn]; rfl
    clear hwl hn
    go_enter Tryz.func91, Tryz.ntmps91
    go_wp2_with fail
    refine HW.out.mono ?_
    rintro e w1 ⟨rfl, n, rfl⟩
    go_wp2
    go_ret
    exact ⟨by rw [HN.out]; rfl, n, rfl⟩
  · have HN : Hid (atPartB s.data.toList p = atTermB s.data.toList p) := by show _ = _; unfold atPartB; rw [beq_eq_false_iff_ne.2 hn]; rfl
    have g1 : (W.toList == [110, 111, 116]) = false := by rw [hwl, beq_eq_false_iff_ne]; exact hn
    clear hwl hn
    obtain ⟨R, HRR⟩ : ∃ R, Hid (atPartB s.data.toList p = R) := ⟨_, (rfl : _ = _)⟩
    rw [HRR.out] at HN ⊢
    go_enter Tryz.func91, Tryz.ntmps91
    go_wp2_with fail
    refine HW.out.mono ?_
    rintro e w1 ⟨rfl, n, rfl⟩
    go_wp2_with fail
    refine (patTerm_any b s p _ (HR.out.drewN _) hp hs).mono ?_
    rintro e w2 ⟨rfl, n2, rfl⟩
    rw [← HN.out]
    go_wp2
    go_ret
    exact ⟨rfl, n + n2, rfl⟩
set_option maxRecDepth 100000 in
theorem pcomma_any (b : Nat) (s : ByteArray) (p : Nat) (w : World) (h : Rd w b s p) (hp : p ≤ s.size) (hs : s.size ≤ 1073741824) :
    Calls Tryz.prog 93 #[.pointer (some ⟨b, 0, none⟩)] w fun e w' => e = .returned (.bool (signF s.data.toList [44] p).isSome) ∧ Rd w' b s ((signF s.data.toList [44] p).getD p : Nat) ∧ RFr w w' b := by
  have HT := hide (ptake_any b s (str [44]) p w h hp hs)
  rw [data_str] at HT
  obtain ⟨S, HSS⟩ : ∃ S, Hid (signF s.data.toList [44] p = S) := ⟨_, (rfl : _ = _)⟩
  rw [HSS.out] at HT ⊢
  go_enter Tryz.func93, Tryz.ntmps93
  go_wp2_with fail
  refine HT.out.mono ?_
  rintro e w1 ⟨rfl, g, f⟩
  have HG := hide g
  have HF := hide f
  clear g f
  go_wp2
  go_ret
  exact ⟨rfl, HG.out, HF.out⟩
end Go.Proofs.YtoelacloghkooaaGreatDoor
