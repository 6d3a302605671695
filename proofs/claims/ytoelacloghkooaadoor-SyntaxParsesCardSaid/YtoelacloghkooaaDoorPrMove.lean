/-
  The program's lexer: move, take.
-/
import Derived.Test.YtoelacloghkooaaDoorPrLex
namespace Go.Proofs.YtoelacloghkooaaDoor
open Go.ChangeShapes Go.WideShapes Go.ChangeAt Go.RowKit
set_option linter.unusedVariables false
def lineB (c : UInt8) : Bool := decide (c.toNat ≠ 10)
set_option maxRecDepth 100000 in
theorem inLine_any (c : UInt8) (w : World) :
    Calls Tryd.prog 62 #[.int .u8 (c.toNat : Int)] w fun e w' => e = .returned (.bool (lineB c)) ∧ w = w' := by
  have HD : Hid (((c.toNat : Int) != 10) = lineB c) := by show _ = _; unfold lineB; rw [Bool.eq_iff_iff, bne_iff_ne]; simp; omega
  go_enter Tryd.func62, Tryd.ntmps62
  go_wp2
  go_ret
  exact ⟨by rw [← HD.out]; rfl, rfl⟩
/-- a remark is a run of bytes, and what is behind it -/
theorem skip_line (l : List UInt8) : skipGo true l = runLen lineB l + skipGo false (l.drop (runLen lineB l)) := by
  unfold runLen
  induction l with
  | nil => rfl
  | cons c t ih =>
    rw [skipGo, List.takeWhile_cons]
    by_cases h : c = 10
    · subst h; simp [lineB, skipGo]
    · have h2 : lineB c = true := by
        unfold lineB; simp; intro g; exact h (UInt8.toNat_inj.1 (by rw [g]; rfl))
      rw [if_neg h, h2, ih]; simp; omega
theorem skip_remark (s : ByteArray) (q : Nat) (h : q < s.size) (h37 : s[q].toNat = 37) : skipTo s.data.toList q = skipTo s.data.toList (q + runLen lineB (s.data.toList.drop q)) ∧ 0 < runLen lineB (s.data.toList.drop q) := by
  have e : s[q] = 37 := by apply UInt8.toNat_inj.1; rw [h37]; rfl
  have h2 : skipGo false (s.data.toList.drop q) = skipGo true (s.data.toList.drop q) := by
    rw [drop_byte s q h, e, skipGo, skipGo]; simp
  refine ⟨?_, ?_⟩
  · unfold skipTo
    rw [h2, skip_line, List.drop_drop]; omega
  · unfold runLen
    rw [drop_byte s q h, e, List.takeWhile_cons]
    simp [lineB]
set_option maxRecDepth 100000 in
set_option maxHeartbeats 2000000 in
theorem pmove_any (b : Nat) (s : ByteArray) (p n : Nat) (w : World) (h : Rd w b s p) (hp : p + n ≤ s.size) (hs : s.size ≤ 1073741824) :
    Calls Tryd.prog 43 #[.pointer (some ⟨b, 0, none⟩), .int .i64 (n : Nat)] w fun e w' => e = .returned (.tuple #[]) ∧ Rd w' b s (skipTo s.data.toList (p + n) : Nat) ∧ RFr w w' b := by
  have HR : Hid (Rd w b s p) := h
  obtain ⟨c0, c1, f1⟩ := h
  go_enter Tryd.func43, Tryd.ntmps43
  go_wp2
  go_loopw [24, 35] (fun _ _ wr => ∃ q : Nat, q ≤ s.size ∧ Hid (Rd wr b s q) ∧ Hid (RFr w wr b) ∧ Hid (skipTo s.data.toList (p + n) = skipTo s.data.toList q)) (fun _ _ wr => s.size + 1 - placeOf wr b)
  case atStart => exact ⟨p + n, hp, HR.out.set _, RFr.set _ _ _, (rfl : _ = _)⟩
  case round =>
    obtain ⟨q, hq, HQ, HF, HS⟩ := hrel
    clear c0 c1 f1
    have HPQ : Hid (placeOf wr b = q) := placeOf_rd HQ.out
    go_wp2_with fail
    refine (pended_any b s q _ HQ.out).mono ?_
    rintro e w1 ⟨rfl, n1, rfl⟩
    have HQ1 : Hid (Rd (wr.drewN n1) b s q) := HQ.out.drewN _
    have HF1 : Hid (RFr w (wr.drewN n1) b) := HF.out.trans (RFr.draws _ _ _)
    have HPQ1 : Hid (placeOf (wr.drewN n1) b = q) := placeOf_rd HQ1.out
    generalize wr.drewN n1 = w1 at *
    obtain ⟨c0, c1, f1⟩ := HQ1.out
    by_cases hlt : q < s.size
    · have hc := byte_le s[q]
      have hd : decide (q = s.size) = false := by simp; omega
      have HD : Hid (s.data.toList.drop q = s[q] :: s.data.toList.drop (q + 1)) := drop_byte s q hlt
      rw [hd]
      clear hd
      by_cases h37 : s[q].toNat = 37
      · have g1 : ((s[q].toNat : Int) == 32) = false := by rw [beq_eq_false_iff_ne]; omega
        have g2 : ((s[q].toNat : Int) == 9) = false := by rw [beq_eq_false_iff_ne]; omega
        have g3 : ((s[q].toNat : Int) == 10) = false := by rw [beq_eq_false_iff_ne]; omega
        have g4 : ((s[q].toNat : Int) == 37) = true := by simp [h37]
        have HK := hide (skip_remark s q hlt h37)
        have hrl := runLen_le lineB (s.extract q s.size).data.toList
        have hsz : (s.extract q s.size).size ≤ 140737488355328 := by simp; omega
        rw [rest_list s q hq] at hrl
        obtain ⟨m, HM⟩ : ∃ m, Hid (runLen lineB (s.data.toList.drop q) = m) := ⟨_, (rfl : _ = _)⟩
        rw [HM.out] at HK hrl
        have hm : q + m ≤ s.size := by rw [List.length_drop] at hrl; have : s.data.toList.length = s.size := by simp
                                       omega
        have HRUN : Hid (∀ w, Calls Tryd.prog 61 #[.string (s.extract q s.size), .func (.func 62) #[] #[]] w fun e w' => e = .returned (.int .i64 (m : Nat)) ∧ w' = w) := by
          intro w
          refine (run_any 62 lineB (fun args w => by first | rfl | kernel_rfl) (fun c w => inLine_any c w) _ w hsz).mono ?_
          rintro e w2 ⟨rfl, rfl⟩
          exact ⟨by rw [rest_list s q hq, HM.out], rfl⟩
        have hm0 : 0 < m := HK.out.2
        have HSM : Hid (skipTo s.data.toList (p + n) = skipTo s.data.toList (q + m)) := by show _ = _; rw [HS.out]; exact HK.out.1
        have HWR : Hid (IntKind.i64.wrap ((q : Int) + (m : Int)) = (q : Int) + m) := by show _ = _; rw [IntKind.wrap_i64]; omega
        clear h37 hrl
        go_wp2_with fail
        go_quiet (fail)
        go_upto_region 8 with fail
        generalize hwx : World.drewN _ _ = wx
        have HQ2 : Hid (Rd wx b s q) := by rw [← hwx]; exact HQ1.out.drewN _
        have HF2 : Hid (RFr w wx b) := by rw [← hwx]; exact HF1.out.trans (RFr.draws _ _ _)
        clear hwx c0 c1 f1
        obtain ⟨c0, c1, f1⟩ := HQ2.out
        have HPM : Hid (placeOf ((wx.setCell ⟨b, 1, none⟩ (.int .i64 ((q : Int) + (m : Int)))).drew) b = q + m) := placeOf_rd (k := q + m) ((HQ2.out.set ((q : Int) + (m : Int))).drewN 1)
        go_region_law (first | (go_simp; go_at_call 61; refine (HRUN.out _).mono ?_; rintro e w3 ⟨rfl, rfl⟩))
        all_goals
          rw [HWR.out]
          go_wp2
          go_roundw
          case rel => exact ⟨q + m, hm, (HQ2.out.set ((q : Int) + (m : Int))).drewN 1, (HF2.out.trans (RFr.set _ _ _)).trans (RFr.draws _ _ 1), HSM⟩
          case measure => rw [HPM.out, HPQ.out]; omega
      · have g4 : ((s[q].toNat : Int) == 37) = false := by rw [beq_eq_false_iff_ne]; omega
        by_cases hbl : s[q].toNat = 32 ∨ s[q].toNat = 9 ∨ s[q].toNat = 10
        · have HSN : Hid (skipTo s.data.toList (p + n) = skipTo s.data.toList (q + 1)) := by
            show _ = _
            rw [HS.out]
            unfold skipTo
            have e : s[q] = 32 ∨ s[q] = 9 ∨ s[q] = 10 := by
              rcases hbl with h5 | h5 | h5
              · exact Or.inl (by apply UInt8.toNat_inj.1; rw [h5]; rfl)
              · exact Or.inr (Or.inl (by apply UInt8.toNat_inj.1; rw [h5]; rfl))
              · exact Or.inr (Or.inr (by apply UInt8.toNat_inj.1; rw [h5]; rfl))
            rw [HD.out, skipGo, if_pos e]; omega
          have hcase : ((s[q].toNat : Int) == 32) = true ∨ (((s[q].toNat : Int) == 32) = false ∧ ((s[q].toNat : Int) == 9) = true) ∨ (((s[q].toNat : Int) == 32) = false ∧ ((s[q].toNat : Int) == 9) = false ∧ ((s[q].toNat : Int) == 10) = true) := by
            rcases hbl with h5 | h5 | h5
            · exact Or.inl (by simp [h5])
            · exact Or.inr (Or.inl ⟨by simp [h5], by simp [h5]⟩)
            · exact Or.inr (Or.inr ⟨by simp [h5], by simp [h5], by simp [h5]⟩)
          clear hbl h37
          rcases hcase with g1 | ⟨g1, g2⟩ | ⟨g1, g2, g3⟩
          all_goals
            go_wp2_with fail
            go_quiet (fail)
            go_wp2
            go_roundw
            case rel => exact ⟨q + 1, by omega, (HQ1.out.drewN _).set _, (HF1.out.trans (RFr.draws _ _ _)).trans (RFr.set _ _ _), HSN⟩
            case measure => rw [placeOf_set (HQ1.out.drewN _), HPQ.out]; omega
        · have HSN : Hid (skipTo s.data.toList (p + n) = q) := by
            show _ = _
            rw [HS.out]
            unfold skipTo
            rw [HD.out, skipGo, if_neg (fun e => hbl (by rcases e with e | e | e <;> rw [e] <;> decide)), if_neg (fun e => h37 (by rw [e]; rfl))]; rfl
          have g1 : ((s[q].toNat : Int) == 32) = false := by rw [beq_eq_false_iff_ne]; omega
          have g2 : ((s[q].toNat : Int) == 9) = false := by rw [beq_eq_false_iff_ne]; omega
          have g3 : ((s[q].toNat : Int) == 10) = false := by rw [beq_eq_false_iff_ne]; omega
          clear hbl h37
          go_wp2_with fail
          go_quiet (fail)
          go_wp2
          refine bodyPost_ret (results_none rfl _ _ _) rfl ?_
          exact ⟨rfl, by rw [HSN.out]; exact HQ1.out.drewN _, HF1.out.trans (RFr.draws _ _ _)⟩
    · have HSN : Hid (skipTo s.data.toList (p + n) = q) := by
        show _ = _
        rw [HS.out]
        unfold skipTo
        rw [skip_end s q (by omega)]; rfl
      have hd : decide (q = s.size) = true := by simp; omega
      rw [hd]
      clear hd
      go_wp2
      go_end0
      exact ⟨rfl, by rw [HSN.out]; exact HQ1.out, HF1.out⟩
set_option maxRecDepth 100000 in
set_option maxHeartbeats 1000000 in
theorem ptake_any (b : Nat) (s sg : ByteArray) (p : Nat) (w : World) (h : Rd w b s p) (hp : p ≤ s.size) (hs : s.size ≤ 1073741824) :
    Calls Tryd.prog 47 #[.pointer (some ⟨b, 0, none⟩), .string sg] w fun e w' => e = .returned (.bool (signF s.data.toList sg.data.toList p).isSome) ∧ Rd w' b s ((signF s.data.toList sg.data.toList p).getD p : Nat) ∧ RFr w w' b := by
  have HR : Hid (Rd w b s p) := h
  have HB := hide (pbegins_any b s sg p w h hp hs)
  obtain ⟨B, HBB⟩ : ∃ B, Hid (starts s.data.toList p sg.data.toList = B) := ⟨_, (rfl : _ = _)⟩
  rw [HBB.out] at HB
  have HSF : Hid (signF s.data.toList sg.data.toList p = if B then some (skipTo s.data.toList (p + sg.size)) else none) := by
    have hl : sg.data.toList.length = sg.size := by simp
    show _ = _; unfold signF; rw [HBB.out, hl]
  have HLE : Hid (B = true → p + sg.size ≤ s.size) := by
    intro hb
    have h1 := HBB.out
    rw [hb] at h1
    unfold starts at h1
    have := (List.isPrefixOf_iff_prefix.1 h1).length_le
    rw [List.length_drop] at this
    have e1 : s.data.toList.length = s.size := by simp
    have e2 : sg.data.toList.length = sg.size := by simp
    omega
  go_enter Tryd.func47, Tryd.ntmps47
  go_wp2_with fail
  refine HB.out.mono ?_
  rintro e w1 ⟨rfl, n, rfl⟩
  cases B with
  | true =>
    have hle := HLE.out rfl
    clear HLE
    go_wp2_with fail
    refine (pmove_any b s p sg.size _ (HR.out.drewN _) hle hs).mono ?_
    rintro e w2 ⟨rfl, g, f⟩
    have HG := hide g
    have HF : Hid (RFr w w2 b) := (RFr.draws _ _ _).trans f
    clear g f
    go_wp2
    go_ret
    rw [HSF.out]
    exact ⟨rfl, HG.out, HF.out⟩
  | false =>
    go_wp2
    go_ret
    rw [HSF.out]
    exact ⟨rfl, HR.out.drewN _, RFr.draws _ _ _⟩
end Go.Proofs.YtoelacloghkooaaDoor
