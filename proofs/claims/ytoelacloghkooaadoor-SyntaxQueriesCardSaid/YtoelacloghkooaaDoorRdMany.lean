/-
  The document's Reader: many.
-/
import Derived.Test.YtoelacloghkooaaDoorRdTerm
namespace Go.Proofs.YtoelacloghkooaaDoor
open Go.ChangeShapes Go.WideShapes Go.ChangeAt Go.RowKit
set_option linter.unusedVariables false
theorem manyS_fit (s : ByteArray) (no : Bool) {st : RSt} (h : Fit s st) : Fit s (manyS no st) := by
  unfold manyS; split
  · exact failS_fit s _ _ h (by decide)
  · exact h
/-- behind too many terms no other one is read -/
theorem many_stops (s : ByteArray) (st : RSt) (h : Fit s st) (sg : List UInt8) : isS sg (termS s (manyS false st)).2 = false := by
  by_cases he : st.e = 0
  · unfold manyS
    split
    · have hd : (failS 7 st.a st).e ≠ 0 := by unfold failS; rw [if_pos he]; simp
      rw [termS_dead s hd]; exact isS_dead hd sg
    · rename_i hn
      simp only [Bool.or_eq_true, decide_eq_true_eq, Bool.false_and, Bool.false_eq_true, or_false, not_or] at hn
      have hq : quotS s st = st := by unfold quotS; rw [if_neg hn.2]
      have hk : termKind st.kd = false := by
        have := h.2.2 he
        simp [termKind, hn.1.1.1, hn.1.1.2, hn.1.2, this]
      rw [termS_no hq hk]
      apply isS_dead
      unfold failS; rw [if_pos he]; simp
  · rw [manyS_dead he, termS_dead s he]; exact isS_dead he sg
set_option maxRecDepth 100000 in
set_option maxHeartbeats 4000000 in
theorem rmany_any (b : Nat) (s : ByteArray) (st : RSt) (no : Bool) (w : World) (h : RP w b s st) :
    Calls Tryd.prog 38 #[.pointer (some ⟨b, 0, none⟩), .bool no] w fun en w' => en = .returned (.tuple #[]) ∧ RP w' b s (manyS no st) ∧ RFx w w' b := by
  have HS : Hid (RP w b s st) := h
  obtain ⟨c0, c1, c2, c3, c4, c5, c6, f1, f2, f3, f4, f5, f6⟩ := h
  have e1 : ∀ n : Nat, ((st.kd : Int) == (n : Nat)) = true ↔ st.kd = n := fun n => by simp; omega
  have e2 : ∀ n : Nat, ((st.kd : Int) == (n : Nat)) = false ↔ ¬ st.kd = n := fun n => by rw [beq_eq_false_iff_ne]; omega
  obtain ⟨Q, HQ⟩ : ∃ Q, Hid (isS [34] st = Q) := ⟨_, (rfl : _ = _)⟩
  have hcase : ((((st.kd : Int) == 1) = true ∨ (((st.kd : Int) == 1) = false ∧ ((st.kd : Int) == 2) = true) ∨ (((st.kd : Int) == 1) = false ∧ ((st.kd : Int) == 2) = false ∧ ((st.kd : Int) == 3) = true) ∨ (((st.kd : Int) == 1) = false ∧ ((st.kd : Int) == 2) = false ∧ ((st.kd : Int) == 3) = false ∧ no = true ∧ ((st.kd : Int) == 4) = true)) ∧ Hid (manyS no st = failS 7 st.a st)) ∨
      ((((st.kd : Int) == 1) = false ∧ ((st.kd : Int) == 2) = false ∧ ((st.kd : Int) == 3) = false ∧ no = true ∧ ((st.kd : Int) == 4) = false) ∧ Hid (manyS no st = if Q then failS 7 st.a st else st)) ∨
      ((((st.kd : Int) == 1) = false ∧ ((st.kd : Int) == 2) = false ∧ ((st.kd : Int) == 3) = false ∧ no = false) ∧ Hid (manyS no st = if Q then failS 7 st.a st else st)) := by
    have a1 := e1 1
    have a2 := e1 2
    have a3 := e1 3
    have a4 := e1 4
    have b1 := e2 1
    have b2 := e2 2
    have b3 := e2 3
    have b4 := e2 4
    simp only [Int.cast_ofNat_Int] at a1 a2 a3 a4 b1 b2 b3 b4
    have hq := HQ.out
    unfold Hid manyS
    rw [hq]
    by_cases h1 : st.kd = 1
    · left; exact ⟨Or.inl (a1.2 h1), by simp [h1]⟩
    · by_cases h2 : st.kd = 2
      · left; exact ⟨Or.inr (Or.inl ⟨b1.2 h1, a2.2 h2⟩), by simp [h2]⟩
      · by_cases h3 : st.kd = 3
        · left; exact ⟨Or.inr (Or.inr (Or.inl ⟨b1.2 h1, b2.2 h2, a3.2 h3⟩)), by simp [h3]⟩
        · cases no with
          | true =>
            by_cases h4 : st.kd = 4
            · left; exact ⟨Or.inr (Or.inr (Or.inr ⟨b1.2 h1, b2.2 h2, b3.2 h3, rfl, a4.2 h4⟩)), by simp [h4]⟩
            · right; left; exact ⟨⟨b1.2 h1, b2.2 h2, b3.2 h3, rfl, b4.2 h4⟩, by simp [h1, h2, h3, h4]⟩
          | false => right; right; exact ⟨⟨b1.2 h1, b2.2 h2, b3.2 h3, rfl⟩, by simp [h1, h2, h3]⟩
  clear e1 e2
  generalize manyS no st = M at hcase ⊢
  go_enter Tryd.func38, Tryd.ntmps38
  rcases hcase with ⟨hk, HM⟩ | ⟨⟨g1, g2, g3, rfl, g4⟩, HM⟩ | ⟨⟨g1, g2, g3, rfl⟩, HM⟩
  · rcases hk with g1 | ⟨g1, g2⟩ | ⟨g1, g2, g3⟩ | ⟨g1, g2, g3, rfl, g4⟩
    all_goals
      go_wp2_with fail
      refine (rfailS_any b s st 7 st.a _ HS.out).mono ?_
      rintro en w5 ⟨rfl, HN, HFR⟩
      have HN5 : Hid (RP w5 b s M) := by rw [HM.out]; exact HN
      have HG5 : Hid (RFx w w5 b) := HFR
      clear HN HFR
      go_wp2
      go_end0
      exact ⟨rfl, HN5.out, HG5.out⟩
  all_goals
    go_wp2_with fail
    refine (ris_any b s (str [34]) st _ HS.out).mono ?_
    rintro en w1 ⟨rfl, rfl⟩
    rw [data_str, HQ.out]
    cases Q with
    | true =>
      go_wp2_with fail
      refine (rfailS_any b s st 7 st.a _ HS.out).mono ?_
      rintro en w5 ⟨rfl, HN, HFR⟩
      have HN5 : Hid (RP w5 b s M) := by rw [HM.out]; exact HN
      have HG5 : Hid (RFx w w5 b) := HFR
      clear HN HFR
      go_wp2
      go_end0
      exact ⟨rfl, HN5.out, HG5.out⟩
    | false =>
      have HN5 : Hid (RP w b s M) := by rw [HM.out]; exact HS.out
      go_wp2
      go_end0
      exact ⟨rfl, HN5.out, RFx.refl _ _⟩
end Go.Proofs.YtoelacloghkooaaDoor
