/-
  The document's add, where the rows are the call's own.
-/
import Derived.Test.YtaeloanlllaphaaDoorTake
import Derived.Test.YtaeloanlllaphaaDoorDeepPush
namespace Go.Proofs.YtaeloanlllaphaaDoor
open Go.ChangeShapes Go.WideShapes Go.ChangeAt Go.RowKit
set_option linter.unusedVariables false
/-- rows that rise, in memory of one's own from base on -/
def AccD (base : Nat) (w : World) (v : Value) (K : List (List (List UInt8))) : Prop := ∃ us, Deep base w v us K ∧ RisesL K ∧ (∀ q ∈ K, q.length ≤ 140737488355328) ∧ base ≤ w.heap.size
theorem AccD.start {base : Nat} {w : World} (hb : base ≤ w.heap.size) : AccD base w (.slice none 0 0) [] := ⟨[], ⟨World.ownsRow_nil _ _ _ _, rfl, fun i x r hx => by simp at hx⟩, List.Pairwise.nil, fun q hq => by simp at hq, hb⟩
theorem AccD.shape {base : Nat} {w : World} {v : Value} {K : List (List (List UInt8))} (h : AccD base w v K) : ∃ a c, v = .slice a K.length c := by
  obtain ⟨us, h1, -⟩ := h
  obtain ⟨a, c, e⟩ := own_shape3 h1.1
  exact ⟨a, c, by rw [← h1.2.1]; exact e⟩
/-- what is new, or is a row of texts that others made, leaves them alone -/
theorem AccD.grown {base : Nat} {w w' : World} {v : Value} {K : List (List (List UInt8))} (h : AccD base w v K) (hg : w.grownBy w' none) : AccD base w' v K := by
  obtain ⟨us, h1, h2, h3, h4⟩ := h
  have keep : ∀ {e : TypeId} {x : Value} {n : Nat} {xs : List Value}, w.ownsRow base e 1 x n xs → w'.ownsRow base e 1 x n xs := fun {e x n xs} ho => ho.kept hg (by
    cases x.ownBlock with
    | none => exact Or.inl rfl
    | some g => exact Or.inr (by simp))
  exact ⟨us, ⟨keep h1.1, h1.2.1, fun i x r hx hr => keep (h1.2.2 i x r hx hr)⟩, h2, h3, Nat.le_trans h4 hg.size⟩
theorem insVL_gen {P : Value → List (List UInt8) → Prop} {us : List Value} {K : List (List (List UInt8))} {r : List (List UInt8)} {x : Value} (hl : us.length = K.length) (h : ∀ (i : Nat) (y : Value) (q : List (List UInt8)), us[i]? = some y → K[i]? = some q → P y q) (hx : P x r) :
    (insVL us K r x).length = (insL K r).length ∧ ∀ (i : Nat) (y : Value) (q : List (List UInt8)), (insVL us K r x)[i]? = some y → (insL K r)[i]? = some q → P y q := by
  unfold insVL insL
  by_cases hm : r ∈ K
  · rw [if_pos hm, if_pos hm]; exact ⟨hl, h⟩
  · rw [if_neg hm, if_neg hm]
    have ha := aheadL_le K r
    generalize aheadL K r = a at *
    have l1 : (us.take a).length = a := by simp; omega
    have l2 : (K.take a).length = a := by simp; omega
    refine ⟨by simp; omega, fun i y q hy hq => ?_⟩
    rcases Nat.lt_trichotomy i a with c | c | c
    · rw [List.getElem?_append_left (by omega), List.getElem?_take_of_lt c] at hy hq
      exact h i y q hy hq
    · subst c
      rw [List.getElem?_append_right (by omega)] at hy hq
      rw [l1, Nat.sub_self] at hy
      rw [l2, Nat.sub_self] at hq
      simp at hy hq
      subst hy hq
      exact hx
    · rw [List.getElem?_append_right (by omega)] at hy hq
      rw [l1] at hy
      rw [l2] at hq
      obtain ⟨d, hd⟩ : ∃ d, i - a = d + 1 := ⟨i - a - 1, by omega⟩
      rw [hd, List.getElem?_cons_succ, List.getElem?_drop] at hy hq
      exact h (a + d) y q hy hq
theorem add_accD (base : Nat) (w : World) (v vr : Value) (K : List (List (List UInt8))) (r : List (List UInt8)) (h : AccD base w v K) (hr : w.ownsRow base 9 1 vr r.length (ts r)) (hl : K.length ≤ 1099511627776) (hrl : r.length ≤ 140737488355328) :
    Calls Tryd.prog 26 #[v, vr] w fun e w' => ∃ v', e = .returned v' ∧ AccD base w' v' (insL K r) ∧ Below base w w' := by
  obtain ⟨us, hd, h3, h4, h5⟩ := h
  refine (add_grown base v vr us K r w hd.1 h5 ⟨hd.2.1, fun i x q hx hq => own_strs (hd.2.2 i x q hx hq)⟩ (own_strs hr) h3 hl h4 hrl).mono ?_
  rintro e w' ⟨v', rfl, ho, hg⟩
  have hin := insVL_gen (P := fun x q => w'.ownsRow base 9 1 x q.length (ts q)) (x := vr) (r := r) hd.2.1 (fun i y q hy hq => (hd.2.2 i y q hy hq).kept hg (kind_ne (hd.2.2 i y q hy hq) hd.1 (by decide))) (hr.kept hg (kind_ne hr hd.1 (by decide)))
  refine ⟨v', rfl, ⟨insVL us K r vr, ⟨ho, hin.1, hin.2⟩, insL_rises K r h3, fun q hq => ?_, Nat.le_trans h5 hg.size⟩, (Below.refl base w).grown hg h5 (fun k hk => (hd.1.lt k hk).1)⟩
  rcases (mem_insL K r q).1 hq with rfl | hq
  · exact hrl
  · exact h4 q hq
end Go.Proofs.YtaeloanlllaphaaDoor
