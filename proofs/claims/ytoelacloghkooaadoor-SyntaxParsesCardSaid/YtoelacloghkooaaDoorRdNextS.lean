/-
  The document's Reader: next at a sign.
-/
import Derived.Test.YtoelacloghkooaaDoorRdNextW
namespace Go.Proofs.YtoelacloghkooaaDoor
open Go.ChangeShapes Go.WideShapes Go.ChangeAt Go.RowKit
set_option linter.unusedVariables false
set_option maxRecDepth 100000 in
set_option maxHeartbeats 2000000 in
theorem rnext_sign (b : Nat) (s : ByteArray) (i : Nat) (kd : Int) (tx : ByteArray) (a x : Int) (w : World) (h : RS w b s i kd tx a 0 x) (hi : i ≤ s.size) (hs : s.size ≤ 1073741824)
    (p : Nat) (hp : p = skipTo s.data.toList i) (hlt : p < s.size) (hw : wordB s[p] = false ∨ s[p].toNat = 95) (m : Nat) (hm : m = signLen s p s[p]) :
    Calls Tryd.prog 15 #[.pointer (some ⟨b, 0, none⟩)] w fun en w' => en = .returned (.tuple #[]) ∧ RS w' b s ((if s[p].toNat = 34 then p else p + m : Nat)) 7 (s.extract p (p + m)) p 0 x ∧ RFx w w' b := by
  have HS : Hid (RS w b s i kd tx a 0 x) := h
  have HP : Hid (p = skipTo s.data.toList i) := hp
  have hc := byte_le s[p]
  have hcase : (wordB s[p] = false ∨ (wordB s[p] = true ∧ ((s[p].toNat : Int) != 95) = false)) := by
    rcases hw with h | h
    · exact Or.inl h
    · cases wordB s[p]
      · exact Or.inl rfl
      · exact Or.inr ⟨rfl, by simp [h]⟩
  have hsign : (((s[p].toNat : Int) == 33) = true ∧ ((s[p].toNat : Int) != 34) = true ∧ p + 2 ≤ s.size ∧ m = 2 ∧ Hid (¬ s[p].toNat = 34)) ∨
      (((s[p].toNat : Int) == 33) = true ∧ ((s[p].toNat : Int) != 34) = true ∧ s.size < p + 2 ∧ m = 1 ∧ Hid (¬ s[p].toNat = 34)) ∨
      (((s[p].toNat : Int) == 33) = false ∧ ((s[p].toNat : Int) == 58) = true ∧ ((s[p].toNat : Int) != 34) = true ∧ p + 2 ≤ s.size ∧ m = 2 ∧ Hid (¬ s[p].toNat = 34)) ∨
      (((s[p].toNat : Int) == 33) = false ∧ ((s[p].toNat : Int) == 58) = true ∧ ((s[p].toNat : Int) != 34) = true ∧ s.size < p + 2 ∧ m = 1 ∧ Hid (¬ s[p].toNat = 34)) ∨
      (((s[p].toNat : Int) == 33) = false ∧ ((s[p].toNat : Int) == 58) = false ∧ ((s[p].toNat : Int) != 34) = true ∧ m = 1 ∧ Hid (¬ s[p].toNat = 34)) ∨
      (((s[p].toNat : Int) == 33) = false ∧ ((s[p].toNat : Int) == 58) = false ∧ ((s[p].toNat : Int) != 34) = false ∧ m = 1 ∧ Hid (s[p].toNat = 34)) := by
    rw [hm]
    unfold signLen Hid
    by_cases h33 : s[p].toNat = 33
    · by_cases h2 : p + 2 ≤ s.size
      · left; simp [h33, h2]
      · right; left; simp [h33, h2]; omega
    · have e33 : ((s[p].toNat : Int) == 33) = false := by rw [beq_eq_false_iff_ne]; omega
      by_cases h58 : s[p].toNat = 58
      · by_cases h2 : p + 2 ≤ s.size
        · right; right; left; simp [h58, h2]
        · right; right; right; left; simp [h58, h2]; omega
      · have e58 : ((s[p].toNat : Int) == 58) = false := by rw [beq_eq_false_iff_ne]; omega
        by_cases h34 : s[p].toNat = 34
        · right; right; right; right; right; simp [h34]
        · right; right; right; right; left
          have e34 : ((s[p].toNat : Int) != 34) = true := by rw [bne_iff_ne]; omega
          simp [h33, h58, e33, e58, e34, h34]
  clear h hp hw hm
  go_enter Tryd.func15, Tryd.ntmps15
  go_wp2_with fail
  refine (rskip_any b s i _ HS.out.rd hi hs).mono ?_
  rintro en w1 ⟨rfl, HR, HF⟩
  have HS1 : Hid (RS w1 b s p kd tx a 0 x) := by
    have := HS.out.skipped HF HR
    rw [HP.out]; exact this
  have HX : Hid (RFx w w1 b) := HF.x
  clear HR HF HS
  obtain ⟨c0, c1, c2, c3, c4, c5, c6, f1, f2, f3, f4, f5, f6⟩ := HS1.out
  go_wp2
  generalize hw2 : World.setCell _ _ _ = w2
  have HS2 : Hid (RS w2 b s p 0 ByteArray.empty p 0 x) := by rw [← hw2]; exact ((HS1.out.set2 0).set3 _).set4 _
  have HX2 : Hid (RFx w w2 b) := by rw [← hw2]; exact ((HX.out.trans (RFx.set _ _ _ _)).trans (RFx.set _ _ _ _)).trans (RFx.set _ _ _ _)
  clear hw2 c0 c1 c2 c3 c4 c5 c6 f1 f2 f3 f4 f5 f6 HX HS1
  obtain ⟨c0, c1, c2, c3, c4, c5, c6, f1, f2, f3, f4, f5, f6⟩ := HS2.out
  have HSG := (⟨hsign⟩ : PLift _)
  clear hsign
  go_wp2_with fail
  go_quiet (fail)
  go_wp2_with fail
  refine (word_any s[p] _).mono ?_
  rintro e w3 ⟨rfl, rfl⟩
  rcases hcase with HW | ⟨HW, hu⟩
  all_goals
    rw [HW]
    clear HW
    rcases HSG.down with ⟨g1, g2, g3, rfl, G⟩ | ⟨g1, g2, g3, rfl, G⟩ | ⟨g1, g0, g2, g3, rfl, G⟩ | ⟨g1, g0, g2, g3, rfl, G⟩ | ⟨g1, g0, g2, rfl, G⟩ | ⟨g1, g0, g2, rfl, G⟩
    iterate 5
      · clear HSG
        go_wp2
        go_end0
        refine ⟨rfl, ?_, ((((HX2.out.trans (RFx.draws _ _ _)).trans (RFx.set _ _ _ _)).trans (RFx.set _ _ _ _)).trans (RFx.set _ _ _ _)).trans (RFx.set _ _ _ _)⟩
        try rw [if_neg G.out]
        exact ((((HS2.out.drewN _).set2 _).set3 _).set4 _).set1 _
    · clear HSG
      go_wp2
      go_end0
      refine ⟨rfl, ?_, (((HX2.out.trans (RFx.draws _ _ _)).trans (RFx.set _ _ _ _)).trans (RFx.set _ _ _ _)).trans (RFx.set _ _ _ _)⟩
      try rw [if_pos G.out]
      exact (((HS2.out.drewN _).set2 _).set3 _).set4 _
end Go.Proofs.YtoelacloghkooaaDoor
