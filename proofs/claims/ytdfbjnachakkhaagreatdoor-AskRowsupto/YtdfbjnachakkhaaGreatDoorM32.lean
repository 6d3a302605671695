import Derived.Test.YtdfbjnachakkhaaGreatDoorM03
import Derived.Deep.RegionLaw
namespace Go.Proofs.YtdfbjnachakkhaaGreatDoor
open Go.ChangeShapes Go.WideShapes Go.ChangeAt Go.RowKit
set_option linter.unusedVariables false
theorem prefix_take (l sg : List UInt8) : sg.isPrefixOf l = (decide (sg.length ≤ l.length) && decide (l.take sg.length = sg)) := by
  rw [Bool.eq_iff_iff]
  simp only [List.isPrefixOf_iff_prefix, Bool.and_eq_true, decide_eq_true_eq]
  constructor
  · intro h; exact ⟨h.length_le, (List.prefix_iff_eq_take.1 h).symm⟩
  · intro h; exact List.prefix_iff_eq_take.2 h.2.symm
set_option maxRecDepth 100000 in
set_option maxHeartbeats 1000000 in
theorem sprefix_any (s sg : ByteArray) (w : World) :
    Calls Tryz.prog 198 #[.string s, .string sg] w fun e w' => e = .returned (.bool (sg.data.toList.isPrefixOf s.data.toList)) ∧ w = w' := by
  have hl1 : s.data.toList.length = s.size := by simp
  have hl2 : sg.data.toList.length = sg.size := by simp
  have hp := prefix_take s.data.toList sg.data.toList
  rw [hl1, hl2] at hp
  by_cases h : sg.size ≤ s.size
  · have he : (s.extract 0 sg.size).data.toList = s.data.toList.take sg.size := by
      have := extract_take s 0 sg.size
      rwa [Nat.zero_add, List.drop_zero] at this
    have HP : Hid (sg.data.toList.isPrefixOf s.data.toList = ((s.extract 0 sg.size).toList == sg.toList)) := by
      show _ = _
      rw [hp, toList_of, toList_of, he, Bool.eq_iff_iff]
      simp [h]
    clear hl1 hl2 hp he
    go_enter Tryz.func198, Tryz.ntmps198
    go_wp2
    go_ret
    exact ⟨by rw [HP.out]; rfl, rfl⟩
  · have HP : Hid (sg.data.toList.isPrefixOf s.data.toList = false) := by show _ = _; rw [hp]; simp [h]
    have h' : s.size < sg.size := by omega
    clear hl1 hl2 hp h
    go_enter Tryz.func198, Tryz.ntmps198
    go_wp2
    go_ret
    exact ⟨by rw [HP.out]; rfl, rfl⟩
set_option maxRecDepth 100000 in
theorem prefix_any (s sg : ByteArray) (w : World) :
    Calls Tryz.prog 169 #[.string s, .string sg] w fun e w' => e = .returned (.bool (sg.data.toList.isPrefixOf s.data.toList)) ∧ w' = w := by
  have HE := hide (sprefix_any s sg w)
  generalize sg.data.toList.isPrefixOf s.data.toList = R at HE ⊢
  go_enter Tryz.func169, Tryz.ntmps169
  go_wp2_with fail
  refine HE.out.mono ?_
  rintro e w1 ⟨rfl, rfl⟩
  go_wp2
  go_ret
  exact ⟨rfl, rfl⟩
/-- the rest of a text, from a place on -/
theorem rest_list (s : ByteArray) (p : Nat) (h : p ≤ s.size) : (s.extract p s.size).data.toList = s.data.toList.drop p := by
  have := extract_take s p (s.size - p)
  rw [show p + (s.size - p) = s.size from by omega] at this
  rw [this]
  exact List.take_of_length_le (by simp)
set_option maxRecDepth 100000 in
set_option maxHeartbeats 1000000 in
theorem pbegins_any (b : Nat) (s sg : ByteArray) (p : Nat) (w : World) (h : Rd w b s p) (hp : p ≤ s.size) (hs : s.size ≤ 1073741824) :
    Calls Tryz.prog 123 #[.pointer (some ⟨b, 0, none⟩), .string sg] w fun e w' => e = .returned (.bool (starts s.data.toList p sg.data.toList)) ∧ ∃ n, w' = w.drewN n := by
  have HB : Hid (sg.data.toList.isPrefixOf (s.extract p s.size).data.toList = starts s.data.toList p sg.data.toList) := by show _ = _; unfold starts; rw [rest_list s p hp]
  have HT : Hid (∀ w, Calls Tryz.prog 169 #[.string (s.extract p s.size), .string sg] w fun e w' => e = .returned (.bool (starts s.data.toList p sg.data.toList)) ∧ w' = w) := by
    intro w; rw [← HB.out]; exact prefix_any _ _ w
  obtain ⟨c0, c1, f1⟩ := h
  clear HB
  generalize starts s.data.toList p sg.data.toList = R at *
  go_enter Tryz.func123, Tryz.ntmps123
  go_wp2_with fail
  go_quiet ((go_at_call 169; refine Calls.quiet_of_same (HT.out _)))
  go_wp2
  go_ret
  exact ⟨rfl, _, rfl⟩
set_option maxRecDepth 100000 in
theorem pended_any (b : Nat) (s : ByteArray) (p : Nat) (w : World) (h : Rd w b s p) :
    Calls Tryz.prog 84 #[.pointer (some ⟨b, 0, none⟩)] w fun e w' => e = .returned (.bool (decide (p = s.size))) ∧ ∃ n, w' = w.drewN n := by
  obtain ⟨c0, c1, f1⟩ := h
  have HD : Hid (((p : Int) == (s.size : Int)) = decide (p = s.size)) := by show _ = _; rw [Bool.eq_iff_iff]; simp; omega
  go_enter Tryz.func84, Tryz.ntmps84
  go_wp2_with fail
  go_quiet (fail)
  go_wp2
  go_ret
  exact ⟨by rw [← HD.out]; rfl, _, rfl⟩
set_option maxRecDepth 100000 in
theorem pleft_any (b : Nat) (s : ByteArray) (p : Nat) (w : World) (h : Rd w b s p) :
    Calls Tryz.prog 43 #[.pointer (some ⟨b, 0, none⟩)] w fun e w' => e = .returned (.bool (!decide (p = s.size))) ∧ ∃ n, w' = w.drewN n := by
  have HE := hide (pended_any b s p w h)
  generalize decide (p = s.size) = D at HE ⊢
  go_enter Tryz.func43, Tryz.ntmps43
  go_wp2_with fail
  refine HE.out.mono ?_
  rintro e w1 ⟨rfl, n, rfl⟩
  go_wp2
  go_ret
  exact ⟨rfl, _, rfl⟩
set_option maxRecDepth 100000 in
set_option maxHeartbeats 1000000 in
theorem pwordAt_any (b : Nat) (s : ByteArray) (p : Nat) (w : World) (h : Rd w b s p) (hp : p ≤ s.size) (hs : s.size ≤ 1073741824) :
    Calls Tryz.prog 117 #[.pointer (some ⟨b, 0, none⟩)] w fun e w' => e = .returned (.string (str (wordAt s.data.toList p))) ∧ ∃ n, w' = w.drewN n := by
  obtain ⟨c0, c1, f1⟩ := h
  have hsz : (s.extract p s.size).size = s.size - p := by
    simp
  obtain ⟨n, HN⟩ : ∃ n, Hid (runLen wordB (s.extract p s.size).data.toList = n) := ⟨_, (rfl : _ = _)⟩
  have hn : n ≤ (s.extract p s.size).size := by
    have := runLen_le wordB (s.extract p s.size).data.toList
    rw [HN.out] at this
    simpa using this
  have HW : Hid ((s.extract p s.size).extract 0 n = str (wordAt s.data.toList p)) := by
    show _ = _
    apply ByteArray.ext
    apply Array.toList_inj.1
    have e1 := extract_take (s.extract p s.size) 0 n
    simp only [Nat.zero_add, List.drop_zero] at e1
    rw [e1, data_str, rest_list s p hp, ← HN.out]
    unfold runLen
    rw [rest_list s p hp]
    exact take_word s.data.toList p
  obtain ⟨R, HR⟩ : ∃ R, Hid (s.extract p s.size = R) := ⟨_, (rfl : _ = _)⟩
  rw [HR.out] at HN HW hn hsz
  have hRs : R.size ≤ 140737488355328 := by omega
  go_enter Tryz.func117, Tryz.ntmps117
  go_wp2_with fail
  go_quiet (fail)
  rw [HR.out]
  go_wp2_with fail
  refine (run_any 128 wordB (fun args w => by first | rfl | kernel_rfl) (fun c w => pword_any c w) R _ hRs).mono ?_
  rintro e w1 ⟨rfl, rfl⟩
  rw [HN.out]
  go_wp2
  rw [HW.out]
  go_ret
  exact ⟨rfl, _, rfl⟩
end Go.Proofs.YtdfbjnachakkhaaGreatDoor

namespace Go.Proofs.YtdfbjnachakkhaaGreatDoor
open Go.ChangeShapes Go.WideShapes Go.ChangeAt Go.RowKit
set_option linter.unusedVariables false
def lineB (c : UInt8) : Bool := decide (c.toNat ≠ 10)
set_option maxRecDepth 100000 in
theorem inLine_any (c : UInt8) (w : World) :
    Calls Tryz.prog 116 #[.int .u8 (c.toNat : Int)] w fun e w' => e = .returned (.bool (lineB c)) ∧ w = w' := by
  have HD : Hid (((c.toNat : Int) != 10) = lineB c) := by show _ = _; unfold lineB; rw [Bool.eq_iff_iff, bne_iff_ne]; simp; omega
  go_enter Tryz.func116, Tryz.ntmps116
  go_wp2
  go_ret
  exact ⟨by rw [← HD.out]; rfl, rfl⟩
/-- a remark is a run of bytes, and what is behind it -/
theorem skip_line (l : List UInt8) : skipGo true l = runLen lineB l + skipGo false (l.drop (runLen lineB l)) := by
  unfold runLen
  induction l with
  | nil => rfl
  | cons c t ih =>
    rw [skipGo, List.takeWhile_cons]
    by_cases h : c = 10
    · subst h; simp [lineB, skipGo]
    · have h2 : lineB c = true := by
        unfold lineB; simp; intro g; exact h (UInt8.toNat_inj.1 (by rw [g]; rfl))
      rw [if_neg h, h2, ih]; simp; omega
theorem skip_remark (s : ByteArray) (q : Nat) (h : q < s.size) (h37 : s[q].toNat = 37) : skipTo s.data.toList q = skipTo s.data.toList (q + runLen lineB (s.data.toList.drop q)) ∧ 0 < runLen lineB (s.data.toList.drop q) := by
  have e : s[q] = 37 := by apply UInt8.toNat_inj.1; rw [h37]; rfl
  have h2 : skipGo false (s.data.toList.drop q) = skipGo true (s.data.toList.drop q) := by
    rw [drop_byte s q h, e, skipGo, skipGo]; simp
  refine ⟨?_, ?_⟩
  · unfold skipTo
    rw [h2, skip_line, List.drop_drop]; omega
  · unfold runLen
    rw [drop_byte s q h, e, List.takeWhile_cons]
    simp [lineB]
set_option maxRecDepth 100000 in
set_option maxHeartbeats 2000000 in
theorem pmove_any (b : Nat) (s : ByteArray) (p n : Nat) (w : World) (h : Rd w b s p) (hp : p + n ≤ s.size) (hs : s.size ≤ 1073741824) :
    Calls Tryz.prog 78 #[.pointer (some ⟨b, 0, none⟩), .int .i64 (n : Nat)] w fun e w' => e = .returned (.tuple #[]) ∧ Rd w' b s (skipTo s.data.toList (p + n) : Nat) ∧ RFr w w' b := by
  have HR : Hid (Rd w b s p) := h
  obtain ⟨c0, c1, f1⟩ := h
  go_enter Tryz.func78, Tryz.ntmps78
  go_wp2
  go_loopw [24, 35] (fun _ _ wr => ∃ q : Nat, q ≤ s.size ∧ Hid (Rd wr b s q) ∧ Hid (RFr w wr b) ∧ Hid (skipTo s.data.toList (p + n) = skipTo s.data.toList q)) (fun _ _ wr => s.size + 1 - placeOf wr b)
  case atStart => exact ⟨p + n, hp, HR.out.set _, RFr.set _ _ _, (rfl : _ = _)⟩
  case round =>
    obtain ⟨q, hq, HQ, HF, HS⟩ := hrel
    clear c0 c1 f1
    have HPQ : Hid (placeOf wr b = q) := placeOf_rd HQ.out
    go_wp2_with fail
    refine (pended_any b s q _ HQ.out).mono ?_
    rintro e w1 ⟨rfl, n1, rfl⟩
    have HQ1 : Hid (Rd (wr.drewN n1) b s q) := HQ.out.drewN _
    have HF1 : Hid (RFr w (wr.drewN n1) b) := HF.out.trans (RFr.draws _ _ _)
    have HPQ1 : Hid (placeOf (wr.drewN n1) b = q) := placeOf_rd HQ1.out
    generalize wr.drewN n1 = w1 at *
    obtain ⟨c0, c1, f1⟩ := HQ1.out
    by_cases hlt : q < s.size
    · have hc := byte_le s[q]
      have hd : decide (q = s.size) = false := by simp; omega
      have HD : Hid (s.data.toList.drop q = s[q] :: s.data.toList.drop (q + 1)) := drop_byte s q hlt
      rw [hd]
      clear hd
      by_cases h37 : s[q].toNat = 37
      · have g1 : ((s[q].toNat : Int) == 32) = false := by rw [beq_eq_false_iff_ne]; omega
        have g2 : ((s[q].toNat : Int) == 9) = false := by rw [beq_eq_false_iff_ne]; omega
        have g3 : ((s[q].toNat : Int) == 10) = false := by rw [beq_eq_false_iff_ne]; omega
        have g4 : ((s[q].toNat : Int) == 37) = true := by simp [h37]
        have HK := hide (skip_remark s q hlt h37)
        have hrl := runLen_le lineB (s.extract q s.size).data.toList
        have hsz : (s.extract q s.size).size ≤ 140737488355328 := by simp; omega
        rw [rest_list s q hq] at hrl
        obtain ⟨m, HM⟩ : ∃ m, Hid (runLen lineB (s.data.toList.drop q) = m) := ⟨_, (rfl : _ = _)⟩
        rw [HM.out] at HK hrl
        have hm : q + m ≤ s.size := by rw [List.length_drop] at hrl; have : s.data.toList.length = s.size := by simp
                                       omega
        have HRUN : Hid (∀ w, Calls Tryz.prog 115 #[.string (s.extract q s.size), .func (.func 116) #[] #[]] w fun e w' => e = .returned (.int .i64 (m : Nat)) ∧ w' = w) := by
          intro w
          refine (run_any 116 lineB (fun args w => by first | rfl | kernel_rfl) (fun c w => inLine_any c w) _ w hsz).mono ?_
          rintro e w2 ⟨rfl, rfl⟩
          exact ⟨by rw [rest_list s q hq, HM.out], rfl⟩
        have hm0 : 0 < m := HK.out.2
        have HSM : Hid (skipTo s.data.toList (p + n) = skipTo s.data.toList (q + m)) := by show _ = _; rw [HS.out]; exact HK.out.1
        have HWR : Hid (IntKind.i64.wrap ((q : Int) + (m : Int)) = (q : Int) + m) := by show _ = _; rw [IntKind.wrap_i64]; omega
        clear h37 hrl
        go_wp2_with fail
        go_quiet (fail)
        go_upto_region 8 with fail
        generalize hwx : World.drewN _ _ = wx
        have HQ2 : Hid (Rd wx b s q) := by rw [← hwx]; exact HQ1.out.drewN _
        have HF2 : Hid (RFr w wx b) := by rw [← hwx]; exact HF1.out.trans (RFr.draws _ _ _)
        clear hwx c0 c1 f1
        obtain ⟨c0, c1, f1⟩ := HQ2.out
        have HPM : Hid (placeOf ((wx.setCell ⟨b, 1, none⟩ (.int .i64 ((q : Int) + (m : Int)))).drew) b = q + m) := placeOf_rd (k := q + m) ((HQ2.out.set ((q : Int) + (m : Int))).drewN 1)
        go_region_law (first | (go_simp; go_at_call 115; refine (HRUN.out _).mono ?_; rintro e w3 ⟨rfl, rfl⟩))
        all_goals
          rw [HWR.out]
          go_wp2
          go_roundw
          case rel => exact ⟨q + m, hm, (HQ2.out.set ((q : Int) + (m : Int))).drewN 1, (HF2.out.trans (RFr.set _ _ _)).trans (RFr.draws _ _ 1), HSM⟩
          case measure => rw [HPM.out, HPQ.out]; omega
      · have g4 : ((s[q].toNat : Int) == 37) = false := by rw [beq_eq_false_iff_ne]; omega
        by_cases hbl : s[q].toNat = 32 ∨ s[q].toNat = 9 ∨ s[q].toNat = 10
        · have HSN : Hid (skipTo s.data.toList (p + n) = skipTo s.data.toList (q + 1)) := by
            show _ = _
            rw [HS.out]
            unfold skipTo
            have e : s[q] = 32 ∨ s[q] = 9 ∨ s[q] = 10 := by
              rcases hbl with h5 | h5 | h5
              · exact Or.inl (by apply UInt8.toNat_inj.1; rw [h5]; rfl)
              · exact Or.inr (Or.inl (by apply UInt8.toNat_inj.1; rw [h5]; rfl))
              · exact Or.inr (Or.inr (by apply UInt8.toNat_inj.1; rw [h5]; rfl))
            rw [HD.out, skipGo, if_pos e]; omega
          have hcase : ((s[q].toNat : Int) == 32) = true ∨ (((s[q].toNat : Int) == 32) = false ∧ ((s[q].toNat : Int) == 9) = true) ∨ (((s[q].toNat : Int) == 32) = false ∧ ((s[q].toNat : Int) == 9) = false ∧ ((s[q].toNat : Int) == 10) = true) := by
            rcases hbl with h5 | h5 | h5
            · exact Or.inl (by simp [h5])
            · exact Or.inr (Or.inl ⟨by simp [h5], by simp [h5]⟩)
            · exact Or.inr (Or.inr ⟨by simp [h5], by simp [h5], by simp [h5]⟩)
          clear hbl h37
          rcases hcase with g1 | ⟨g1, g2⟩ | ⟨g1, g2, g3⟩
          all_goals
            go_wp2_with fail
            go_quiet (fail)
            go_wp2
            go_roundw
            case rel => exact ⟨q + 1, by omega, (HQ1.out.drewN _).set _, (HF1.out.trans (RFr.draws _ _ _)).trans (RFr.set _ _ _), HSN⟩
            case measure => rw [placeOf_set (HQ1.out.drewN _), HPQ.out]; omega
        · have HSN : Hid (skipTo s.data.toList (p + n) = q) := by
            show _ = _
            rw [HS.out]
            unfold skipTo
            rw [HD.out, skipGo, if_neg (fun e => hbl (by rcases e with e | e | e <;> rw [e] <;> decide)), if_neg (fun e => h37 (by rw [e]; rfl))]; rfl
          have g1 : ((s[q].toNat : Int) == 32) = false := by rw [beq_eq_false_iff_ne]; omega
          have g2 : ((s[q].toNat : Int) == 9) = false := by rw [beq_eq_false_iff_ne]; omega
          have g3 : ((s[q].toNat : Int) == 10) = false := by rw [beq_eq_false_iff_ne]; omega
          clear hbl h37
          go_wp2_with fail
          go_quiet (fail)
          go_wp2
          refine bodyPost_ret (results_none rfl _ _ _) rfl ?_
          exact ⟨rfl, by rw [HSN.out]; exact HQ1.out.drewN _, HF1.out.trans (RFr.draws _ _ _)⟩
    · have HSN : Hid (skipTo s.data.toList (p + n) = q) := by
        show _ = _
        rw [HS.out]
        unfold skipTo
        rw [skip_end s q (by omega)]; rfl
      have hd : decide (q = s.size) = true := by simp; omega
      rw [hd]
      clear hd
      go_wp2
      go_end0
      exact ⟨rfl, by rw [HSN.out]; exact HQ1.out, HF1.out⟩
set_option maxRecDepth 100000 in
set_option maxHeartbeats 1000000 in
theorem ptake_any (b : Nat) (s sg : ByteArray) (p : Nat) (w : World) (h : Rd w b s p) (hp : p ≤ s.size) (hs : s.size ≤ 1073741824) :
    Calls Tryz.prog 83 #[.pointer (some ⟨b, 0, none⟩), .string sg] w fun e w' => e = .returned (.bool (signF s.data.toList sg.data.toList p).isSome) ∧ Rd w' b s ((signF s.data.toList sg.data.toList p).getD p : Nat) ∧ RFr w w' b := by
  have HR : Hid (Rd w b s p) := h
  have HB := hide (pbegins_any b s sg p w h hp hs)
  obtain ⟨B, HBB⟩ : ∃ B, Hid (starts s.data.toList p sg.data.toList = B) := ⟨_, (rfl : _ = _)⟩
  rw [HBB.out] at HB
  have HSF : Hid (signF s.data.toList sg.data.toList p = if B then some (skipTo s.data.toList (p + sg.size)) else none) := by
    have hl : sg.data.toList.length = sg.size := by simp
    show _ = _; unfold signF; rw [HBB.out, hl]
  have HLE : Hid (B = true → p + sg.size ≤ s.size) := by
    intro hb
    have h1 := HBB.out
    rw [hb] at h1
    unfold starts at h1
    have := (List.isPrefixOf_iff_prefix.1 h1).length_le
    rw [List.length_drop] at this
    have e1 : s.data.toList.length = s.size := by simp
    have e2 : sg.data.toList.length = sg.size := by simp
    omega
  go_enter Tryz.func83, Tryz.ntmps83
  go_wp2_with fail
  refine HB.out.mono ?_
  rintro e w1 ⟨rfl, n, rfl⟩
  cases B with
  | true =>
    have hle := HLE.out rfl
    clear HLE
    go_wp2_with fail
    refine (pmove_any b s p sg.size _ (HR.out.drewN _) hle hs).mono ?_
    rintro e w2 ⟨rfl, g, f⟩
    have HG := hide g
    have HF : Hid (RFr w w2 b) := (RFr.draws _ _ _).trans f
    clear g f
    go_wp2
    go_ret
    rw [HSF.out]
    exact ⟨rfl, HG.out, HF.out⟩
  | false =>
    go_wp2
    go_ret
    rw [HSF.out]
    exact ⟨rfl, HR.out.drewN _, RFr.draws _ _ _⟩
end Go.Proofs.YtdfbjnachakkhaaGreatDoor
