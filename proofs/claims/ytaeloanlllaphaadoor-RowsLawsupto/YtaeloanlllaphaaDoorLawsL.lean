/-
  What goes together of Union, Minus and Join: in plain lists. Nothing of the program.
-/
import Derived.Test.YtaeloanlllaphaaDoorJoinL
namespace Go.Proofs.YtaeloanlllaphaaDoor
set_option linter.unusedVariables false
abbrev minusL (a b : List (List (List UInt8))) : List (List (List UInt8)) := sortL (a.filter fun r => !decide (r ∈ b))
theorem mem_minusL (a b : List (List (List UInt8))) (x : List (List UInt8)) : x ∈ minusL a b ↔ x ∈ a ∧ x ∉ b := by
  rw [minusL, mem_sortL, List.mem_filter]
  simp
theorem union_comm (a b : List (List (List UInt8))) : sortL (a ++ b) = sortL (b ++ a) := sortL_same _ _ (fun x => by rw [List.mem_append, List.mem_append]; exact Or.comm)
theorem minus_union (a b : List (List (List UInt8))) : minusL (sortL (a ++ b)) b = minusL a b := sortL_same _ _ (fun x => by
  rw [List.mem_filter, List.mem_filter, mem_sortL, List.mem_append]
  constructor
  · rintro ⟨h | h, h2⟩
    · exact ⟨h, h2⟩
    · simp [h] at h2
  · rintro ⟨h, h2⟩; exact ⟨Or.inl h, h2⟩)
theorem back_union (a b : List (List (List UInt8))) : sortL (minusL a b ++ b) = sortL (a ++ b) := sortL_same _ _ (fun x => by
  rw [List.mem_append, List.mem_append, mem_minusL]
  constructor
  · rintro (⟨h, _⟩ | h)
    · exact Or.inl h
    · exact Or.inr h
  · rintro (h | h)
    · by_cases hb : x ∈ b
      · exact Or.inr hb
      · exact Or.inl ⟨h, hb⟩
    · exact Or.inr h)
theorem both_ways (a b : List (List (List UInt8))) : minusL (sortL a) (minusL (sortL a) b) = minusL b (minusL b a) := by
  refine risesL_unique _ _ (sortL_rises _) (sortL_rises _) (fun x => ?_)
  rw [mem_minusL, mem_minusL, mem_minusL, mem_minusL, mem_sortL]
  constructor
  · rintro ⟨h1, h2⟩
    have hb : x ∈ b := Classical.byContradiction (fun h => h2 ⟨h1, h⟩)
    exact ⟨hb, fun h => h.2 h1⟩
  · rintro ⟨h1, h2⟩
    have ha : x ∈ a := Classical.byContradiction (fun h => h2 ⟨h1, h⟩)
    exact ⟨ha, fun h => h.2 h1⟩
theorem join_rise (a b : List (List (List UInt8))) (on : List (Int × Int)) : joinL a b on = joinL (sortL a) (sortL b) on := by
  refine risesL_unique _ _ (sortL_rises _) (sortL_rises _) (fun x => ?_)
  rw [mem_joinL, mem_joinL]
  constructor
  · rintro ⟨r, hr, s, hs, h⟩
    exact ⟨r, (mem_sortL a r).2 hr, s, (mem_sortL b s).2 hs, h⟩
  · rintro ⟨r, hr, s, hs, h⟩
    exact ⟨r, (mem_sortL a r).1 hr, s, (mem_sortL b s).1 hs, h⟩
theorem join_len (a b : List (List (List UInt8))) (on : List (Int × Int)) : (joinL a b on).length ≤ (sortL a).length * (sortL b).length := by
  rw [← join_sorted]
  exact Nat.le_trans (sortL_len _) (flat_len _ _ _ (fun r _ => withP_len r _ on))
theorem nodup_le {α : Type} (L M : List α) (hL : L.Nodup) (h : ∀ x ∈ L, x ∈ M) : L.length ≤ M.length := by
  induction L generalizing M with
  | nil => simp
  | cons a L ih =>
    obtain ⟨hna, hnd⟩ := List.nodup_cons.1 hL
    obtain ⟨s, t, rfl⟩ := List.append_of_mem (h a (by simp))
    have := ih (s ++ t) hnd (fun x hx => by
      have hx2 := h x (by simp [hx])
      rcases List.mem_append.1 hx2 with h3 | h3
      · exact List.mem_append_left _ h3
      · rcases List.mem_cons.1 h3 with h4 | h4
        · subst h4; exact absurd hx hna
        · exact List.mem_append_right _ h4)
    rw [List.length_append] at this
    simp only [List.length_cons, List.length_append]; omega
theorem union_len (a b : List (List (List UInt8))) : (sortL a).length ≤ (sortL (a ++ b)).length :=
  nodup_le _ _ (risesL_nodup (sortL_rises a)) (fun x hx => (mem_sortL _ x).2 (List.mem_append_left _ ((mem_sortL a x).1 hx)))
theorem some_len (a : List (List (List UInt8))) (h : 0 < a.length) : 0 < (sortL a).length := by
  cases a with
  | nil => simp at h
  | cons r a => exact List.length_pos_of_mem ((mem_sortL (r :: a) r).2 (by simp))
end Go.Proofs.YtaeloanlllaphaaDoor
