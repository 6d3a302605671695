/-
  The document's Reader: next at a word.
-/
import Derived.Test.YtoelacloghkooaaDoorRdNext
namespace Go.Proofs.YtoelacloghkooaaDoor
open Go.ChangeShapes Go.WideShapes Go.ChangeAt Go.RowKit
set_option linter.unusedVariables false
theorem extract_word (s : ByteArray) (p k n : Nat) (hn : n = (wordAt s.data.toList p).length) (hk : k = p + n) : (s.extract p k).data.toList = wordAt s.data.toList p := by
  subst hk
  have e : wordAt s.data.toList p = (s.data.toList.drop p).take n := by rw [hn]; exact List.prefix_iff_eq_take.1 (List.takeWhile_prefix _)
  rw [e, ByteArray.data_extract, Array.toList_extract, List.extract_eq_take_drop, Nat.add_sub_cancel_left]
set_option maxRecDepth 100000 in
set_option maxHeartbeats 1000000 in
theorem rnext_word (b : Nat) (s : ByteArray) (i : Nat) (kd : Int) (tx : ByteArray) (a x : Int) (w : World) (h : RS w b s i kd tx a 0 x) (hi : i ≤ s.size) (hs : s.size ≤ 1073741824)
    (p : Nat) (hp : p = skipTo s.data.toList i) (hlt : p < s.size) (hw : wordB s[p] = true) (hu : s[p].toNat ≠ 95) (n : Nat) (hn : n = (wordAt s.data.toList p).length) :
    Calls Tryd.prog 15 #[.pointer (some ⟨b, 0, none⟩)] w fun en w' => en = .returned (.tuple #[]) ∧ RS w' b s (p + n : Nat) (wordKindF (wordAt s.data.toList p) : Nat) (s.extract p (p + n)) p 0 x ∧ RFx w w' b := by
  have HS : Hid (RS w b s i kd tx a 0 x) := h
  have HP : Hid (p = skipTo s.data.toList i) := hp
  have HN : Hid (n = (wordAt s.data.toList p).length) := hn
  have HW : Hid (wordB s[p] = true) := hw
  have hu2 : ((s[p].toNat : Int) != 95) = true := by rw [bne_iff_ne]; omega
  have hc := byte_le s[p]
  clear h hp hn hw hu
  go_enter Tryd.func15, Tryd.ntmps15
  go_wp2_with fail
  refine (rskip_any b s i _ HS.out.rd hi hs).mono ?_
  rintro en w1 ⟨rfl, HR, HF⟩
  have HS1 : Hid (RS w1 b s p kd tx a 0 x) := by
    have := HS.out.skipped HF HR
    rw [HP.out]; exact this
  have HX : Hid (RFx w w1 b) := HF.x
  clear HR HF HS
  obtain ⟨c0, c1, c2, c3, c4, c5, c6, f1, f2, f3, f4, f5, f6⟩ := HS1.out
  go_wp2
  generalize hw2 : World.setCell _ _ _ = w2
  have HS2 : Hid (RS w2 b s p 0 ByteArray.empty p 0 x) := by rw [← hw2]; exact ((HS1.out.set2 0).set3 _).set4 _
  have HX2 : Hid (RFx w w2 b) := by rw [← hw2]; exact ((HX.out.trans (RFx.set _ _ _ _)).trans (RFx.set _ _ _ _)).trans (RFx.set _ _ _ _)
  clear hw2 c0 c1 c2 c3 c4 c5 c6 f1 f2 f3 f4 f5 f6 HX HS1
  obtain ⟨c0, c1, c2, c3, c4, c5, c6, f1, f2, f3, f4, f5, f6⟩ := HS2.out
  go_wp2_with fail
  go_quiet (fail)
  go_wp2_with fail
  refine (word_any s[p] _).mono ?_
  rintro e w3 ⟨rfl, rfl⟩
  rw [HW.out]
  go_wp2
  go_loopw [49] (fun _ wr => ∃ k : Nat, p ≤ k ∧ k ≤ s.size ∧ Hid (RS wr b s k 0 ByteArray.empty p 0 x) ∧ Hid (RFx w wr b) ∧ Hid (∀ j c, j < k - p → (s.data.toList.drop p)[j]? = some c → wordB c = true)) (fun _ wr => s.size - placeOf wr b)
  case atStart => exact ⟨p, Nat.le_refl _, by omega, HS2.out.drewN _, HX2.out.trans (RFx.draws _ _ _), fun j c hj => by omega⟩
  case round =>
    obtain ⟨k, hpk, hk, HK, HFK, HA⟩ := hrel
    clear c0 c1 c2 c3 c4 c5 c6 f1 f2 f3 f4 f5 f6 HS2 HX2
    obtain ⟨c0, c1, c2, c3, c4, c5, c6, f1, f2, f3, f4, f5, f6⟩ := HK.out
    have HPL : Hid (placeOf wr b = k) := placeOf_rd HK.out.rd
    by_cases hkl : k < s.size
    · have hck := byte_le s[k]
      cases hwk : wordB s[k] with
      | true =>
        have HA2 : Hid (∀ j c, j < k + 1 - p → (s.data.toList.drop p)[j]? = some c → wordB c = true) := by
          intro j c hj hcc
          by_cases e : j = k - p
          · subst e
            rw [List.getElem?_drop, Nat.add_sub_cancel' hpk, name_get s k hkl] at hcc
            cases hcc; exact hwk
          · exact HA.out j c (by omega) hcc
        have HT : Hid (∀ w, Calls Tryd.prog 34 #[.int .u8 (s[k].toNat : Int)] w fun e w' => e = .returned (.bool true) ∧ w' = w) := by
          intro w; have := word_any s[k] w; rw [hwk] at this; exact this.mono (fun e w' h => ⟨h.1, h.2.symm⟩)
        clear hwk
        go_wp2_with fail
        go_quiet ((go_at_call 34; refine Calls.quiet_of_same (HT.out _)))
        go_wp2
        go_roundw
        case rel => exact ⟨k + 1, by omega, by omega, (HK.out.drewN _).set1 _, (HFK.out.trans (RFx.draws _ _ _)).trans (RFx.set _ _ _ _), HA2⟩
        case measure => rw [placeOf_set (HK.out.drewN _).rd, HPL.out]; omega
      | false =>
        have HNK : Hid (k = p + n) := by
          have e : runLen wordB (s.data.toList.drop p) = k - p := runLen_is wordB _ (k - p) HA.out (fun c hcc => by
            rw [List.getElem?_drop, Nat.add_sub_cancel' hpk, name_get s k hkl] at hcc; cases hcc; exact hwk) (by simp; omega)
          have : n = k - p := by rw [HN.out]; exact e
          show _ = _; omega
        have HT : Hid (∀ w, Calls Tryd.prog 34 #[.int .u8 (s[k].toNat : Int)] w fun e w' => e = .returned (.bool false) ∧ w' = w) := by
          intro w; have := word_any s[k] w; rw [hwk] at this; exact this.mono (fun e w' h => ⟨h.1, h.2.symm⟩)
        have hpk2 : p < k := by
          rcases Nat.eq_or_lt_of_le hpk with e | e
          · subst e; rw [HW.out] at hwk; cases hwk
          · exact e
        have HEX : Hid ((s.extract p k).data.toList = wordAt s.data.toList p) := extract_word s p k n HN.out HNK.out
        have HLN : Hid ((s.extract p k).size = n) := by
          have := congrArg List.length HEX.out
          rw [← HN.out, Array.length_toList] at this; exact this
        have HPOS : Hid (0 < (s.extract p k).size ∧ (s.extract p k).size ≤ 140737488355328) := by
          have := HNK.out
          show _ ∧ _; rw [HLN.out]; omega
        clear hwk
        go_wp2_with fail
        go_quiet ((go_at_call 34; refine Calls.quiet_of_same (HT.out _)))
        go_wp2_with fail
        go_quiet (fail)
        go_wp2_with fail
        refine (rkind_any (s.extract p k) _ HPOS.out.1 HPOS.out.2).mono ?_
        rintro e w4 ⟨rfl, rfl⟩
        rw [HEX.out]
        go_wp2
        refine bodyPost_ret (results_none rfl _ _ _) rfl ?_
        refine ⟨rfl, ?_, ((((HFK.out.trans (RFx.draws _ _ _)).trans (RFx.set _ _ _ _)).trans (RFx.set _ _ _ _)).trans (RFx.set _ _ _ _))⟩
        rw [← HNK.out]
        exact ((((HK.out.drewN _).set2 _).set3 _).set4 _)
    · have hke : k = s.size := by omega
      have HNK : Hid (k = p + n) := by
        have e : runLen wordB (s.data.toList.drop p) = k - p := runLen_is wordB _ (k - p) HA.out (fun c hcc => by
          rw [List.getElem?_drop, Nat.add_sub_cancel' hpk, List.getElem?_eq_none (by simp; omega)] at hcc; cases hcc) (by simp; omega)
        have : n = k - p := by rw [HN.out]; exact e
        show _ = _; omega
      have hpk2 : p < k := by omega
      have HEX : Hid ((s.extract p k).data.toList = wordAt s.data.toList p) := extract_word s p k n HN.out HNK.out
      have HLN : Hid ((s.extract p k).size = n) := by
        have := congrArg List.length HEX.out
        rw [← HN.out, Array.length_toList] at this; exact this
      have HPOS : Hid (0 < (s.extract p k).size ∧ (s.extract p k).size ≤ 140737488355328) := by
        have := HNK.out
        show _ ∧ _; rw [HLN.out]; omega
      clear hke
      go_wp2_with fail
      go_quiet (fail)
      go_wp2_with fail
      go_quiet (fail)
      go_wp2_with fail
      refine (rkind_any (s.extract p k) _ HPOS.out.1 HPOS.out.2).mono ?_
      rintro e w4 ⟨rfl, rfl⟩
      rw [HEX.out]
      go_wp2
      refine bodyPost_ret (results_none rfl _ _ _) rfl ?_
      refine ⟨rfl, ?_, ((((HFK.out.trans (RFx.draws _ _ _)).trans (RFx.set _ _ _ _)).trans (RFx.set _ _ _ _)).trans (RFx.set _ _ _ _))⟩
      rw [← HNK.out]
      exact ((((HK.out.drewN _).set2 _).set3 _).set4 _)
end Go.Proofs.YtoelacloghkooaaDoor
