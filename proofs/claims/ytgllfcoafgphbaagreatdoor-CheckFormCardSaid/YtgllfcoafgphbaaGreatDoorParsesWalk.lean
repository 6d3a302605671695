import Derived.Test.YtgllfcoafgphbaaGreatDoorM33
import Derived.Test.YtgllfcoafgphbaaGreatDoorQueriesWalk
import Derived.Test.YtgllfcoafgphbaaGreatDoorM10
/-
  SyntaxParses' walk.
-/
namespace Go.Proofs.YtgllfcoafgphbaaGreatDoor
open Go.ChangeShapes Go.WideShapes Go.ChangeAt Go.RowKit
set_option linter.unusedVariables false
def rsOf : Except PErr (List PRule) → List PRule
  | .error _ => []
  | .ok rs => rs
theorem rulesQ_of {base : Nat} {r : Except PErr (List PRule)} {en : Ending} {w : World} (h : RulesQ base r en w) : ∃ v hs bs, en = .returned (.tuple #[v, .int .i64 (eOf r : Nat), .int .i64 (xOf r : Nat)]) ∧ RulesAt 76 164 112 base w v (rsOf r) hs bs := by
  cases r with
  | error er => obtain ⟨e, x⟩ := er; exact ⟨_, _, _, h, RulesAt.nil _ _ _ _ _⟩
  | ok rs => exact h
theorem rulesR_of {tT tP tR : TypeId} {base : Nat} {r : Except PErr (List PRule)} {en : Ending} {w : World} (h : RulesR tT tP tR base r en w) : ∃ v hs bs, en = .returned (.tuple #[v, .int .i64 (eOf r : Nat), .int .i64 (xOf r : Nat)]) ∧ RulesAt tT tP tR base w v (rsOf r) hs bs := by
  cases r with
  | error er => obtain ⟨e, x⟩ := er; exact ⟨_, _, _, h, RulesAt.nil _ _ _ _ _⟩
  | ok rs => exact h
theorem rsOf_len (l : List UInt8) : (rsOf (parseF l)).length ≤ 200 ∧ ∀ r ∈ rsOf (parseF l), Small r := by
  cases h : parseF l with
  | error er => simp [rsOf]
  | ok rs => exact parseF_len l rs h
theorem SoftRow.grown {g base z : Nat} {w1 w : World} {v : Value} (h : SoftRow g base w1.heap.size z w1 v) (hg : w1.grownBy w none) : SoftRow g base w1.heap.size z w v := by
  obtain ⟨xa, xn, xc, he, hn, h0 | ⟨k, rfl, h1, h2, h3, h4, h5⟩⟩ := h
  · exact ⟨xa, xn, xc, he, hn, Or.inl h0⟩
  · refine ⟨_, xn, xc, he, hn, Or.inr ⟨k, rfl, h1, h2, h3, fun m hm => ?_, fun m => ?_⟩⟩
    · obtain ⟨x, hx⟩ := h4 m hm; exact ⟨x, grown_cell hg hx⟩
    · rw [← h5 m]; exact World.frozen?_of_block (w := w1) (hg.block k h2 (by simp))
/-- rules may be spoilt -/
theorem spoilt_rules {w1 w : World} {base g cap : Nat} {tT tP tR : TypeId} {rs : List PRule} {hs bs : List Value} (h : RulesAt tT tP tR base w1 (.slice (some ⟨g, 0, none⟩) rs.length cap) rs hs bs) (h1 : tT ≠ tR) (h2 : tP ≠ tR) (hl : ∀ r ∈ rs, Small r) (hg : w1.grownBy w none) : Spoilt w base w1.heap.size g rs.length 4 [(1, 3), (3, 10)] w := by
  have h' := h.kept hg (fun g e => by cases e)
  have hb := own_blk h.own rfl
  refine ⟨hb.1, hb.2, Mid.refl _ _ _, fun i hi => ?_, fun i => own_soft h'.own i, fun i hi oz ho => ?_⟩
  · have hm2 : i < (rulesV rs hs bs).length := by rw [rulesV_len rs hs bs h.lh h.lb]; exact hi
    have := h'.own.cells rfl i _ (List.getElem?_eq_getElem hm2)
    rw [add_zero] at this
    exact ⟨_, this⟩
  · have hi1 : i < hs.length := by rw [h.lh]; exact hi
    have hi2 : i < bs.length := by rw [h.lb]; exact hi
    have hsm := hl _ (List.getElem_mem hi)
    simp at ho
    rcases ho with rfl | rfl
    · have hc := h'.own.cells rfl (i * 4 + 1) hs[i] (by rw [rulesV_at rs hs bs i 1 rs[i] hs[i] bs[i] (List.getElem?_eq_getElem hi) (List.getElem?_eq_getElem hi1) (List.getElem?_eq_getElem hi2) (by omega)]; rfl)
      rw [add_zero] at hc
      exact ⟨_, hc, (soft_terms (h.heads i rs[i] hs[i] (List.getElem?_eq_getElem hi) (List.getElem?_eq_getElem hi1)) h.own h1 rfl (by have := hsm.1; omega) (Nat.le_refl _)).grown hg⟩
    · have hc := h'.own.cells rfl (i * 4 + 3) bs[i] (by rw [rulesV_at rs hs bs i 3 rs[i] hs[i] bs[i] (List.getElem?_eq_getElem hi) (List.getElem?_eq_getElem hi1) (List.getElem?_eq_getElem hi2) (by omega)]; rfl)
      rw [add_zero] at hc
      obtain ⟨us, hu⟩ := h.bodies i rs[i] bs[i] (List.getElem?_eq_getElem hi) (List.getElem?_eq_getElem hi2)
      exact ⟨_, hc, (soft_parts hu h.own h2 rfl (by have := hsm.2.1; omega) (Nat.le_refl _)).grown hg⟩
end Go.Proofs.YtgllfcoafgphbaaGreatDoor
