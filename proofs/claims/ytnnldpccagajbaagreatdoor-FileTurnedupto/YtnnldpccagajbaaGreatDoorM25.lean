import Derived.Test.YtnnldpccagajbaaGreatDoorM24
import Derived.Shelf.Abstract
import Derived.Test.YtnnldpccagajbaaGreatDoorM04
import Derived.Test.YtnnldpccagajbaaGreatDoorM10
import Derived.Test.YtnnldpccagajbaaGreatDoorM08
import Derived.Deep.RegionHeld3
import Derived.Test.YtnnldpccagajbaaGreatDoorM21
import Derived.Test.YtnnldpccagajbaaGreatDoorM23
/-
  The program's file.Name, walked; FileNames' walk.
-/
namespace Go.Proofs.YtnnldpccagajbaaGreatDoor
open Go.ChangeShapes Go.WideShapes Go.ChangeAt Go.RowKit
set_option linter.unusedVariables false
theorem small_word (c : UInt8) (h : smallB c = true) : wordB c = true := by simp [wordB, h]
theorem name_all (s : ByteArray) (h0 : 0 < s.size) : isName s.data.toList = (decide (s.size ≤ 30) && !(s.data.toList == [110, 111, 116]) && smallB s[0] && s.data.toList.all wordB) := by
  rw [name_of s h0]
  have hl : 0 < s.data.toList.length := by simpa using h0
  have e : s.data.toList = s[0] :: s.data.toList.drop 1 := by
    conv => lhs; rw [← List.drop_zero (l := s.data.toList), List.drop_eq_getElem_cons hl]
    rfl
  have e2 : s.data.toList.all wordB = (wordB s[0] && (s.data.toList.drop 1).all wordB) := by
    conv => lhs; rw [e]
    rw [List.all_cons]
  rw [e2]
  cases hs : smallB s[0] with
  | false => simp
  | true =>
    rw [small_word _ hs]
    cases decide (s.size ≤ 30) <;> cases (s.data.toList == [110, 111, 116]) <;> simp
theorem not_text : ({ data := #[110, 111, 116] } : ByteArray).toList = [110, 111, 116] := by rw [toList_of]
set_option maxRecDepth 100000 in
set_option maxHeartbeats 2000000 in
theorem name_any (s : ByteArray) (w : World) (hs : s.size ≤ 140737488355328) :
    Calls Tryz.prog 71 #[.string s] w fun e w' => e = .returned (.bool (isName s.data.toList)) ∧ w = w' := by
  have EW : ∀ args w, (callFunc 91 args).run Tryz.prog w = .ok (.enter 91 args) w := enters_of Tryz.func91 (by kernel_rfl) rfl
  have pword_hid : Hid (∀ (c : UInt8) (w : World), Calls Tryz.prog 91 #[.int .u8 (c.toNat : Int)] w fun e w' => e = .returned (.bool (wordB c)) ∧ w = w') := pword_any
  by_cases h0 : s.size = 0
  · have HE : Hid (isName s.data.toList = false) := by
      have : s.data.toList = [] := List.eq_nil_of_length_eq_zero (by simpa using h0)
      show _ = _; rw [this]; rfl
    have d0 : ((s.size : Int) == 0) = true := by simp [h0]
    clear h0
    go_enter Tryz.func71, Tryz.ntmps71
    go_wp2
    go_ret
    exact ⟨ret_bool HE.out.symm, rfl⟩
  · have hp : 0 < s.size := by omega
    have HNH : Hid (isName s.data.toList = (decide (s.size ≤ 30) && !(s.data.toList == [110, 111, 116]) && smallB s[0] && s.data.toList.all wordB)) := name_all s hp
    have d0 : ((s.size : Int) == 0) = false := by rw [beq_eq_false_iff_ne]; omega
    clear h0
    by_cases h30 : s.size ≤ 30
    · have d1 : decide ((30 : Int) < (s.size : Int)) = false := by simp; omega
      cases hno : (s.data.toList == [110, 111, 116]) with
      | true =>
        have HE : Hid (isName s.data.toList = false) := by show _ = _; rw [HNH.out, hno]; simp
        have d2 : (s.toList == [110, 111, 116]) = true := by rw [toList_of, hno]
        clear hno
        go_enter Tryz.func71, Tryz.ntmps71
        go_wp2
        go_ret
        exact ⟨ret_bool HE.out.symm, rfl⟩
      | false =>
        have d2 : (s.toList == [110, 111, 116]) = false := by rw [toList_of, hno]
        have HNO : Hid ((s.data.toList == [110, 111, 116]) = false) := hno
        clear hno
        have hp' : (0 : Int) < (s.size : Int) := by omega
        cases hsm : smallB s[0] with
        | false =>
          have HE : Hid (isName s.data.toList = false) := by show _ = _; rw [HNH.out, hsm]; simp
          have HSM : Hid (smallB s[0] = false) := hsm
          clear hsm
          go_enter Tryz.func71, Tryz.ntmps71
          go_wp2_with fail
          refine (psmall_any s[0] _).mono ?_
          rintro e w1 ⟨rfl, rfl⟩
          rw [HSM.out]
          go_wp2
          go_ret
          exact ⟨ret_bool HE.out.symm, rfl⟩
        | true =>
          have HSM : Hid (smallB s[0] = true) := hsm
          have HE : Hid (isName s.data.toList = s.data.toList.all wordB) := by
            show _ = _
            rw [HNH.out, hsm, HNO.out]; simp [h30]
          clear hsm HNO HNH
          go_enter Tryz.func71, Tryz.ntmps71
          go_wp2_with fail
          refine (psmall_any s[0] _).mono ?_
          rintro e w1 ⟨rfl, rfl⟩
          rw [HSM.out]
          go_wp2_with fail
          refine (all_any 91 wordB EW pword_hid s _ (by omega)).mono ?_
          rintro e w2 ⟨rfl, rfl⟩
          obtain ⟨r, HR⟩ : ∃ r, Hid (r = isName s.data.toList) := ⟨_, (rfl : isName s.data.toList = _)⟩
          rw [← HE.out, ← HR.out]
          go_wp2
          go_ret
          exact ⟨by rw [← HR.out]; rfl, rfl⟩
    · have HE : Hid (isName s.data.toList = false) := by show _ = _; rw [HNH.out]; simp [h30]
      have d1 : decide ((30 : Int) < (s.size : Int)) = true := by simp; omega
      go_enter Tryz.func71, Tryz.ntmps71
      go_wp2
      go_ret
      exact ⟨ret_bool HE.out.symm, rfl⟩
end Go.Proofs.YtnnldpccagajbaaGreatDoor

/-
  The program's pages: (*book).page and head.text, walked.
-/
namespace Go.Proofs.YtnnldpccagajbaaGreatDoor
open Go.ChangeShapes Go.WideShapes Go.ChangeAt Go.RowKit
set_option linter.unusedVariables false
theorem Wr.newAt (w : World) (b : Nat) (t : TypeId) (hb : b = w.heap.size) : Wr (w.alloc (.cells #[.slice none 0 0] t)) b [] := by
  subst hb
  exact ⟨by simp, World.frozen?_alloc_at _ _ _ _ rfl, _, by simp, World.ownsRow_nil _ _ _ _⟩
theorem Tab.pos {w : World} (h : Tab w) : 0 < w.heap.size := World.block_lt_of_cell? w ⟨0, 0, none⟩ (h 0 (by decide))
theorem Tab.below {w w' : World} {b : Nat} (h : Tab w) (hb : Below b w w') (h0 : 0 < b) : Tab w' := fun i hi => by
  rw [hb.cell (p := ⟨0, i, none⟩) h0]; exact h i hi
set_option maxRecDepth 100000 in
set_option maxHeartbeats 1000000 in
theorem bookpage_any (b : Nat) (l : List UInt8) (s : ByteArray) (w : World) (h : Wr w b l) (hT : Tab w) (h0 : 0 < b) (hz : l.length + 13 + s.size ≤ 70368744177664) :
    Calls Tryz.prog 53 #[.pointer (some ⟨b, 0, none⟩), .string s] w fun e w' => e = .returned (.tuple #[]) ∧ Wr w' b (l ++ page s.data.toList) ∧ Below b w w' := by
  have h9 := vb_length9 s.size (by omega)
  have HT : Hid (Tab w) := hT
  clear hT
  go_enter Tryz.func53, Tryz.ntmps53
  go_wp2_with fail
  refine (wcounted_any b l s _ h (by omega)).mono ?_
  rintro e w1 ⟨rfl, h1, hb1⟩
  have HB1 : Hid (Below b w w1) := hb1
  have HT1 : Hid (Tab w1) := HT.out.below hb1 h0
  have HW1 : Hid (Wr w1 b (l ++ (vb s.size ++ s.data.toList))) := h1
  clear hb1 h h1
  obtain ⟨ss, HSS⟩ : ∃ ss, Hid (ss = str (Crc.sum s.data.toList)) := ⟨_, (rfl : str (Crc.sum s.data.toList) = _)⟩
  have zss : ss.size = 4 := by rw [HSS.out]; rfl
  have HSUM : Hid (∀ wx : World, (∃ n, wx = w1.drewN n) → Calls Tryz.prog 36 #[.string s] wx fun e w' => e = .returned (.string ss) ∧ Hid (Wr w' b (l ++ (vb s.size ++ s.data.toList))) ∧ Hid (Below b w w')) := by
    rintro wx ⟨n, rfl⟩
    have hd : Below w1.heap.size w1 (w1.drewN n) := below_drewN (Below.refl _ _) n
    refine (sum_any s _ (by omega) (HT1.out.below hd HT1.out.pos)).mono ?_
    rintro e w2 ⟨rfl, hb2⟩
    rw [← HSS.out]
    exact ⟨rfl, (HW1.out.kept hd).kept hb2, (HB1.out.trans (hd.mono (Nat.le_of_lt HW1.out.lt))).trans (hb2.mono (Nat.le_of_lt (HW1.out.kept hd).lt))⟩
  have HTXT : Hid (∀ (w2 : World), Hid (Wr w2 b (l ++ (vb s.size ++ s.data.toList))) → Calls Tryz.prog 52 #[.pointer (some ⟨b, 0, none⟩), .string ss] w2 fun e w' => e = .returned (.tuple #[]) ∧ Hid (Wr w' b (l ++ page s.data.toList)) ∧ Hid (Below b w2 w')) := by
    intro w2 hw2
    refine (wtext_any b _ ss _ hw2.out (by rw [List.length_append, List.length_append]; simp; omega)).mono ?_
    rintro e w3 ⟨rfl, h3, hb3⟩
    have e : l ++ (vb s.size ++ s.data.toList) ++ ss.data.toList = l ++ page s.data.toList := by
      rw [HSS.out, data_str]
      unfold page
      simp [List.append_assoc]
    rw [e] at h3; exact ⟨rfl, h3, hb3⟩
  clear HW1 HB1 HT1
  go_wp2_with fail
  go_region_held3 (fun w' => True) (trivial)
    (first | (go_at_call 36; refine (HSUM.out _ ⟨_, rfl⟩).mono ?_; rintro e w2 ⟨rfl, HW2, HB2⟩) | (go_at_call 52; refine (HTXT.out _ HW2).mono ?_; rintro e w3 ⟨rfl, HW3, HB3⟩))
  all_goals go_wp2
  all_goals go_end0
  all_goals exact ⟨rfl, HW3.out, HB2.out.trans HB3.out⟩
set_option maxRecDepth 100000 in
set_option maxHeartbeats 1000000 in
theorem headtext_any (name : ByteArray) (ar n : Nat) (w : World) (hn : name.size ≤ 1099511627776) (ha : ar ≤ 1099511627776) (hr : n ≤ 1099511627776) :
    Calls Tryz.prog 54 #[.agg #[.string name, .int .i64 ar, .int .i64 n]] w fun e w' => e = .returned (.string (str (headT name.data.toList ar n))) ∧ Below w.heap.size w w' := by
  have l1 := vb_length9 name.size (by omega)
  have l2 := vb_length9 ar (by omega)
  have l3 := vb_length9 n (by omega)
  go_enter Tryz.func54, Tryz.ntmps54
  have HB0 : Hid (Below w.heap.size w ((w.alloc (.cells #[.string name, .int .i64 ar, .int .i64 n] 74)).alloc (.cells #[.slice none 0 0] 95))) := ((Below.refl _ _).alloc (Nat.le_refl _) _).alloc (by simp) _
  go_wp2_with fail
  refine (wcounted_any (w.heap.size + 1) [] name _ (Wr.newAt _ _ _ (by simp)) (by simp; omega)).mono ?_
  rintro e w1 ⟨rfl, h1, hb1⟩
  have q1 : w1.cell? ⟨w.heap.size, 1, none⟩ = some (.int .i64 ar) := by rw [hb1.cell (p := ⟨w.heap.size, 1, none⟩) (Nat.lt_succ_self _)]; simp
  have q2 : w1.cell? ⟨w.heap.size, 2, none⟩ = some (.int .i64 n) := by rw [hb1.cell (p := ⟨w.heap.size, 2, none⟩) (Nat.lt_succ_self _)]; simp
  have HB1 : Hid (Below w.heap.size w w1) := HB0.out.trans (hb1.mono (Nat.le_succ _))
  have HW1 : Hid (Wr w1 (w.heap.size + 1) (vb name.size ++ name.data.toList)) := by rw [List.nil_append] at h1; exact h1
  clear hb1 h1
  go_wp2_with fail
  refine (wnumber_any (w.heap.size + 1) _ ar _ HW1.out (by omega) (by rw [List.length_append]; simp; omega)).mono ?_
  rintro e w2 ⟨rfl, h2, hb2⟩
  have q2' : w2.cell? ⟨w.heap.size, 2, none⟩ = some (.int .i64 n) := by rw [hb2.cell (p := ⟨w.heap.size, 2, none⟩) (Nat.lt_succ_self _)]; exact q2
  have HB2 : Hid (Below w.heap.size w w2) := HB1.out.trans (hb2.mono (Nat.le_succ _))
  have HW2 : Hid (Wr w2 (w.heap.size + 1) (vb name.size ++ name.data.toList ++ vb ar)) := h2
  clear hb2 h2 q1 q2 HW1 HB1
  go_wp2_with fail
  refine (wnumber_any (w.heap.size + 1) _ n _ HW2.out (by omega) (by rw [List.length_append, List.length_append]; simp; omega)).mono ?_
  rintro e w3 ⟨rfl, h3, hb3⟩
  have HB3 : Hid (Below w.heap.size w w3) := HB2.out.trans (hb3.mono (Nat.le_succ _))
  have HW3 : Hid (Wr w3 (w.heap.size + 1) (vb name.size ++ name.data.toList ++ vb ar ++ vb n)) := h3
  clear hb3 h3 q2' HW2 HB2
  go_wp2_with fail
  refine (written_any (w.heap.size + 1) _ _ HW3.out).mono ?_
  rintro e w4 ⟨rfl, rfl⟩
  have HHT : Hid (str (vb name.size ++ name.data.toList ++ vb ar ++ vb n) = str (headT name.data.toList ar n)) := by
    show _ = _
    unfold headT; simp [List.append_assoc]
  rw [HHT.out]
  go_wp2
  go_ret
  exact ⟨rfl, HB3.out⟩
end Go.Proofs.YtnnldpccagajbaaGreatDoor

/-
  The program's cursor over pages and readHead, walked.
-/
namespace Go.Proofs.YtnnldpccagajbaaGreatDoor
open Go.ChangeShapes Go.WideShapes Go.ChangeAt Go.RowKit
set_option linter.unusedVariables false
/-- a cursor over pages: where its last page begins stands behind the cursor -/
structure PCur (w : World) (b : Nat) (s : ByteArray) (c : CS) (st : Int) : Prop where
  c : Cur w b s (c.a : Nat) (c.z : Nat)
  s3 : w.cell? ⟨b, 3, none⟩ = some (.int .i64 st)
  f3 : w.frozen? ⟨b, 3, none⟩ = false
/-- what a page leaves: the cursor's state -/
def pageCS (s : ByteArray) (c : CS) : CS := if c.z ≠ 0 then c else
  let p := ctk s (cct s c).2 4
  if p.1 = Crc.sum (cct s c).1 then p.2 else cfl p.2 5
/-- what 'page' answers, and what it leaves -/
def pageSt (s : ByteArray) (c : CS) (st : Int) : List UInt8 × CS × Int := if c.z ≠ 0 then ([], c, st) else ((cct s c).1, pageCS s c, ((c.a : Nat) : Int))
theorem page_ok (s : ByteArray) (a : Nat) (t : List UInt8) (m : Nat) (ha : a ≤ s.size) (h : pageOf (from_ s a) = .ok (t, m)) : cct s ⟨a, 0⟩ = (t, ⟨a + m - 4, 0⟩) ∧ ctk s ⟨a + m - 4, 0⟩ 4 = (Crc.sum t, ⟨a + m, 0⟩) ∧ a + m ≤ s.size := by
  unfold pageOf at h
  cases hu : uv 0 0 (from_ s a) with
  | none => rw [hu] at h; cases h
  | some q =>
    obtain ⟨n, k⟩ := q
    rw [hu] at h
    simp only at h
    obtain ⟨h1, h2, h3⟩ := uv_in s a n k ha hu
    split at h
    · cases h
    · rename_i hl
      rw [from_len] at hl
      split at h
      · rename_i hc
        cases h
        rw [from_drop] at hc ⊢
        rw [from_drop] at hc
        refine ⟨?_, ?_, by omega⟩
        · unfold cct cnum
          simp only [ne_eq, not_true_eq_false, if_false]
          rw [hu]
          unfold ctk
          simp only [ne_eq, not_true_eq_false, if_false]
          rw [if_neg (by omega), show a + (k + n + 4) - 4 = a + k + n from by omega]
        · unfold ctk
          simp only [ne_eq, not_true_eq_false, if_false]
          rw [if_neg (by omega), hc, show a + (k + n + 4) - 4 = a + (k + n) from by omega, show a + (k + n) + 4 = a + (k + n + 4) from by omega]
      · cases h
theorem sum_ne (t : List UInt8) : ([] : List UInt8) ≠ Crc.sum t := by
  intro h
  have := congrArg List.length h
  rw [sum_len] at this
  simp at this
theorem page_bad (s : ByteArray) (a : Nat) (er : Nat) (ha : a ≤ s.size) (h : pageOf (from_ s a) = .error er) : (pageCS s ⟨a, 0⟩).z = er := by
  unfold pageOf at h
  unfold pageCS
  simp only [ne_eq, not_true_eq_false, if_false]
  cases hu : uv 0 0 (from_ s a) with
  | none =>
    rw [hu] at h
    cases h
    have e1 : cct s ⟨a, 0⟩ = ([], ⟨a, 4⟩) := by
      unfold cct cnum
      simp only [ne_eq, not_true_eq_false, if_false]
      rw [hu]; rfl
    rw [e1]
    have e2 : ctk s ⟨a, 4⟩ 4 = ([], ⟨a, 4⟩) := rfl
    simp only [e2]
    rw [if_neg (sum_ne _)]; rfl
  | some q =>
    obtain ⟨n, k⟩ := q
    rw [hu] at h
    simp only at h
    obtain ⟨h1, h2, h3⟩ := uv_in s a n k ha hu
    have e0 : cct s ⟨a, 0⟩ = ctk s ⟨a + k, 0⟩ n := by
      unfold cct cnum
      simp only [ne_eq, not_true_eq_false, if_false]
      rw [hu]
    split at h
    · rename_i hl
      cases h
      rw [from_len] at hl
      by_cases hn : s.size - (a + k) < n
      · have e1 : ctk s ⟨a + k, 0⟩ n = ([], ⟨a + k, 4⟩) := by
          unfold ctk
          simp only [ne_eq, not_true_eq_false, if_false]
          rw [if_pos hn]
        rw [e0, e1]
        have e2 : ctk s ⟨a + k, 4⟩ 4 = ([], ⟨a + k, 4⟩) := rfl
        simp only [e2]
        rw [if_neg (sum_ne _)]; rfl
      · have e1 : ctk s ⟨a + k, 0⟩ n = ((from_ s (a + k)).take n, ⟨a + k + n, 0⟩) := by
          unfold ctk
          simp only [ne_eq, not_true_eq_false, if_false]
          rw [if_neg hn]
        have e2 : ctk s ⟨a + k + n, 0⟩ 4 = ([], ⟨a + k + n, 4⟩) := by
          unfold ctk
          simp only [ne_eq, not_true_eq_false, if_false]
          rw [if_pos (by omega)]
        rw [e0, e1]
        simp only [e2]
        rw [if_neg (sum_ne _)]; rfl
    · rename_i hl
      rw [from_len] at hl
      split at h
      · cases h
      · rename_i hc
        cases h
        rw [from_drop, from_drop] at hc
        have e1 : ctk s ⟨a + k, 0⟩ n = ((from_ s (a + k)).take n, ⟨a + k + n, 0⟩) := by
          unfold ctk
          simp only [ne_eq, not_true_eq_false, if_false]
          rw [if_neg (by omega)]
        have e2 : ctk s ⟨a + k + n, 0⟩ 4 = ((from_ s (a + k + n)).take 4, ⟨a + k + n + 4, 0⟩) := by
          unfold ctk
          simp only [ne_eq, not_true_eq_false, if_false]
          rw [if_neg (by omega)]
        rw [e0, e1]
        simp only [e2]
        rw [if_neg (by intro e; rw [← Nat.add_assoc] at hc; exact hc e.symm)]; rfl
theorem Tab.cfr {w w' : World} {b : Nat} (h : Tab w) (hf : CFr w w' b) (hb : 0 < b) : Tab w' := fun i hi => by
  have hb0 := hf.g.block 0 h.pos (by simp; omega)
  rw [World.cell?_of_block (w := w) (a := ⟨0, i, none⟩) hb0]; exact h i hi
theorem Cur.setThird {w : World} {b : Nat} {s : ByteArray} {a e : Int} (h : Cur w b s a e) (u : Value) : Cur (w.setCell ⟨b, 3, none⟩ u) b s a e :=
  ⟨by rw [World.cell?_setCell_other _ _ _ _ (by simp)]; exact h.c0, by rw [World.cell?_setCell_other _ _ _ _ (by simp)]; exact h.c1, by rw [World.cell?_setCell_other _ _ _ _ (by simp)]; exact h.c2, by rw [World.frozen?_setCell]; exact h.f1, by rw [World.frozen?_setCell]; exact h.f2⟩
theorem Cur.over {w w' : World} {b : Nat} {s : ByteArray} {a e : Int} (h : Cur w b s a e) (hb : Below w.heap.size w w') : Cur w' b s a e :=
  h.kept (hb.block b h.lt)
set_option maxRecDepth 100000 in
set_option maxHeartbeats 1000000 in
theorem kpage_all (b : Nat) (s : ByteArray) (c c' : CS) (st st' : Int) (x : List UInt8) (w : World) (h : PCur w b s c st) (hp : InP s c) (hT : Tab w) (hb0 : 0 < b) (hs : s.size ≤ 1073741824) (HX : Hid (pageSt s c st = (x, c', st'))) :
    Calls Tryz.prog 38 #[.pointer (some ⟨b, 0, none⟩)] w fun e w' => e = .returned (.string (str x)) ∧ Hid (PCur w' b s c' st') ∧ Hid (w.grownBy w' (some b)) := by
  have HC : Hid (Cur w b s (c.a : Nat) (c.z : Nat)) := h.c
  have s3 := h.s3
  have f3 := h.f3
  by_cases hz : c.z = 0
  · have h0 := HX.out
    unfold pageSt pageCS at h0
    rw [if_neg (by omega), if_neg (by omega)] at h0
    simp only at h0
    have HPC : Hid (x = (cct s c).1 ∧ c' = (if (ctk s (cct s c).2 4).1 = Crc.sum (cct s c).1 then (ctk s (cct s c).2 4).2 else cfl (ctk s (cct s c).2 4).2 5) ∧ st' = ((c.a : Nat) : Int)) := by
      cases h0; exact ⟨rfl, rfl, rfl⟩
    clear h0
    have hz' : ((c.z : Int) != 0) = false := by simp [hz]
    obtain ⟨hp1, hl1⟩ : InP s (cct s c).2 ∧ (cct s c).1.length ≤ s.size := ctk_in s _ _ (cnum_in s c hp).1
    obtain ⟨t, c1, HC1⟩ : ∃ t c1, Hid (cct s c = (t, c1)) := ⟨_, _, rfl⟩
    obtain ⟨q, c2, HC2⟩ : ∃ q c2, Hid (ctk s c1 4 = (q, c2)) := ⟨_, _, rfl⟩
    rw [HC1.out] at hp1 hl1 HPC
    simp only at hp1 hl1 HPC
    rw [HC2.out] at HPC
    simp only at HPC
    obtain ⟨tb, HTB⟩ : ∃ tb, Hid (tb = str t) := ⟨_, (rfl : str t = _)⟩
    obtain ⟨qb, HQB⟩ : ∃ qb, Hid (qb = str q) := ⟨_, (rfl : str q = _)⟩
    obtain ⟨ss, HSS⟩ : ∃ ss, Hid (ss = str (Crc.sum t)) := ⟨_, (rfl : str (Crc.sum t) = _)⟩
    have ztb : tb.size ≤ 1073741824 := by rw [HTB.out, str_size]; omega
    have HTab : Hid (Tab w) := hT
    clear h hz
    go_enter Tryz.func38, Tryz.ntmps38
    go_wp2_with fail
    refine (cerr_any b s _ _ _ HC.out).mono ?_
    rintro e w1 ⟨rfl, rfl⟩
    go_wp2_with fail
    refine (kplace_all b s _ _ _ HC.out).mono ?_
    rintro e w1 ⟨rfl, rfl⟩
    go_wp2_with fail
    refine (kcounted_all b s c c1 t _ (HC.out.setThird _) hp (by omega) HC1).mono ?_
    rintro e w2 ⟨rfl, hc2, hf2⟩
    have HCF : Hid (CFr (w.setCell ⟨b, 3, none⟩ (.int .i64 (c.a : Nat))) w2 b) := hf2
    have HS3 : Hid (w2.cell? ⟨b, 3, none⟩ = some (.int .i64 (c.a : Nat)) ∧ w2.frozen? ⟨b, 3, none⟩ = false) := by
      obtain ⟨k1, k2⟩ := hf2.out.k 3 (by omega)
      rw [World.cell?_setCell_same _ _ _ s3] at k1
      rw [World.frozen?_setCell] at k2
      exact ⟨k1, k2.trans f3⟩
    have HT1 : Hid (Tab (w.setCell ⟨b, 3, none⟩ (.int .i64 (c.a : Nat)))) := fun i hi => by
      rw [World.cell?_setCell_other _ _ _ _ (by intro e; cases e; omega)]; exact HTab.out i hi
    have HT2 : Hid (Tab w2) := HT1.out.cfr hf2.out hb0
    have HCU : Hid (Cur w2 b s (c1.a : Nat) (c1.z : Nat)) := hc2
    have HG2 : Hid (w.grownBy w2 (some b)) := (cgrown_set w ⟨b, 3, none⟩ _).trans hf2.out.g
    rw [← HTB.out]
    clear hc2 hf2 s3 f3
    have HTK : Hid (Calls Tryz.prog 68 #[.pointer (some ⟨b, 0, none⟩), .int .i64 4] w2 fun e w' => e = .returned (.string qb) ∧ Hid (Cur w' b s (c2.a : Nat) (c2.z : Nat)) ∧ Hid (CFr w2 w' b)) := by
      refine (ktake_all b s c1 c2 4 q _ HCU.out hp1 (by omega) (by decide) HC2).mono ?_
      rintro e w3 ⟨rfl, hc3, hf3⟩
      exact ⟨by rw [HQB.out], hc3, hf3⟩
    have HSM : Hid (∀ w3 : World, Hid (Cur w3 b s (c2.a : Nat) (c2.z : Nat)) → Hid (CFr w2 w3 b) → Calls Tryz.prog 36 #[.string tb] w3 fun e w' => e = .returned (.string ss) ∧ Hid (Cur w' b s (c2.a : Nat) (c2.z : Nat)) ∧ Hid (CFr w2 w' b)) := by
      intro w3 hc3 hf3
      refine (sum_any tb _ (by omega) (HT2.out.cfr hf3.out hb0)).mono ?_
      rintro e w4 ⟨rfl, hb4⟩
      exact ⟨by rw [HSS.out, HTB.out, data_str], hc3.out.over hb4, hf3.out.trans (CFr.below hb4 hc3.out.lt)⟩
    by_cases heq : q = Crc.sum t
    · have hse : (qb.toList == ss.toList) = true := by rw [HQB.out, HSS.out, toList_str, toList_str, heq]; simp
      have HCE : Hid (c' = c2) := by show _ = _; rw [HPC.out.2.1, if_pos heq]
      clear heq
      go_wp2_with fail
      refine HTK.out.mono ?_
      rintro e w3 ⟨rfl, HC3, HF3⟩
      go_wp2_with fail
      refine (HSM.out _ HC3 HF3).mono ?_
      rintro e w4 ⟨rfl, HC4, HF4⟩
      go_wp2
      go_ret
      exact ⟨by rw [HPC.out.1, ← HTB.out]; rfl, by rw [HCE.out, HPC.out.2.2]; exact ⟨HC4.out, ((HF4.out.k 3 (by omega)).1).trans HS3.out.1, ((HF4.out.k 3 (by omega)).2).trans HS3.out.2⟩, HG2.out.trans HF4.out.g⟩
    · have hse : (qb.toList == ss.toList) = false := by rw [HQB.out, HSS.out, toList_str, toList_str]; simpa using heq
      have HCE : Hid (cfl c2 5 = c') := by show _ = _; rw [HPC.out.2.1, if_neg heq]
      clear heq
      go_wp2_with fail
      refine HTK.out.mono ?_
      rintro e w3 ⟨rfl, HC3, HF3⟩
      go_wp2_with fail
      refine (HSM.out _ HC3 HF3).mono ?_
      rintro e w4 ⟨rfl, HC4, HF4⟩
      go_wp2_with fail
      refine (kfail_all b s c2 c' 5 _ HC4.out HCE).mono ?_
      rintro e w5 ⟨rfl, HC5, HF5⟩
      go_wp2
      go_ret
      exact ⟨by rw [HPC.out.1, ← HTB.out]; rfl, by rw [HPC.out.2.2]; exact ⟨HC5.out, (((HF4.out.trans HF5.out).k 3 (by omega)).1).trans HS3.out.1, (((HF4.out.trans HF5.out).k 3 (by omega)).2).trans HS3.out.2⟩, HG2.out.trans (HF4.out.trans HF5.out).g⟩
  · have h0 := HX.out
    unfold pageSt at h0
    rw [if_pos hz] at h0
    have HPC : Hid (x = [] ∧ c' = c ∧ st' = st) := by cases h0; exact ⟨rfl, rfl, rfl⟩
    clear h0
    have hz' : ((c.z : Int) != 0) = true := by simp [hz]
    have HH : Hid (PCur w b s c st) := h
    clear hz h
    go_enter Tryz.func38, Tryz.ntmps38
    go_wp2_with fail
    refine (cerr_any b s _ _ _ HC.out).mono ?_
    rintro e w1 ⟨rfl, rfl⟩
    go_wp2
    go_ret
    exact ⟨by rw [HPC.out.1]; rfl, by rw [HPC.out.2.1, HPC.out.2.2]; exact HH, cgrown_refl _ _⟩
end Go.Proofs.YtnnldpccagajbaaGreatDoor
