/-
  C1, C2: rows in another order and more than once: the same answer. Nothing of the program.
-/
import Derived.Test.YtiinohajdibflabDoorTidyFacts
import Derived.Test.YtiinohajdibflabDoorRefEncode
namespace Go.Proofs.YtiinohajdibflabDoor
theorem bad_good (m : Nat) (i : Nat) (rows : List (List (List UInt8))) (h : ∀ r ∈ rows, r.length = m ∧ ∀ t ∈ r, t.length ≤ 200) : bad m i rows = none := by
  induction rows generalizing i with
  | nil => rfl
  | cons r rest ih =>
    have h1 := h r (by simp)
    rw [bad, if_pos h1.1, if_pos (by simpa using h1.2)]
    exact ih (i + 1) (fun x hx => h x (by simp [hx]))
theorem bad_not0 (m i : Nat) (rows : List (List (List UInt8))) (e j : Nat) (h : bad m i rows = some (e, j)) : e ≠ 0 := by
  induction rows generalizing i with
  | nil => simp [bad] at h
  | cons r rest ih =>
    rw [bad] at h
    split at h
    · split at h
      · exact ih (i + 1) h
      · cases h; decide
    · cases h; decide
/-- rows turned round, and then as they were -/
def twice (rows : List (List (List UInt8))) : List (List (List UInt8)) := rows.reverse ++ rows
theorem mem_twice (rows : List (List (List UInt8))) (r : List (List UInt8)) : r ∈ twice rows ↔ r ∈ rows := by simp [twice]
theorem sortU_twice (m : Nat) (rows : List (List (List UInt8))) (h : ∀ r ∈ rows, r.length = m) : sortU (twice rows) = sortU rows := by
  have h2 : ∀ r ∈ twice rows, r.length = m := fun r hr => h r ((mem_twice rows r).1 hr)
  exact rises_unique m _ _ (sortU_rises m _ h2) (sortU_rises m _ h) (fun x => by rw [mem_sortU m _ h2, mem_sortU m _ h, mem_twice])
theorem tidy_twice (name : List UInt8) (ar : Int) (rows : List (List (List UInt8))) : tidy name ar (twice rows) = tidy name ar rows ∨ ((tidy name ar rows).1 ≠ 0 ∧ (tidy name ar (twice rows)).1 ≠ 0) := by
  unfold tidy
  by_cases h1 : isName name = false
  · simp only [h1, if_true, true_or]
  · rw [if_neg h1, if_neg h1]
    by_cases h2 : ar < 0 ∨ 8 < ar
    · rw [if_pos h2, if_pos h2]; exact Or.inl rfl
    · rw [if_neg h2, if_neg h2]
      cases hb : bad ar.toNat 0 rows with
      | none =>
        have hg := bad_none _ _ _ hb
        rw [bad_good ar.toNat 0 (twice rows) (fun r hr => hg r ((mem_twice rows r).1 hr)), sortU_twice ar.toNat rows (fun r hr => (hg r hr).1)]
        exact Or.inl rfl
      | some p =>
        obtain ⟨e, i⟩ := p
        cases hb2 : bad ar.toNat 0 (twice rows) with
        | none =>
          have hg := bad_none _ _ _ hb2
          rw [bad_good ar.toNat 0 rows (fun r hr => hg r ((mem_twice rows r).2 hr))] at hb
          cases hb
        | some p2 =>
          obtain ⟨e2, i2⟩ := p2
          exact Or.inr ⟨bad_not0 _ _ _ _ _ hb, bad_not0 _ _ _ _ _ hb2⟩
theorem encode_err (name : List UInt8) (ar : Int) (rows : List (List (List UInt8))) (h : (tidy name ar rows).1 ≠ 0) : (encode name ar rows).2.1 ≠ 0 := by
  rw [encode_bad name ar rows _ _ _ rfl h]; exact h
theorem encode_twice (name : List UInt8) (ar : Int) (rows : List (List (List UInt8))) : encode name ar (twice rows) = encode name ar rows ∨ ((encode name ar rows).2.1 ≠ 0 ∧ (encode name ar (twice rows)).2.1 ≠ 0) := by
  rcases tidy_twice name ar rows with h | ⟨h1, h2⟩
  · left; unfold encode; rw [h]
  · exact Or.inr ⟨encode_err _ _ _ h1, encode_err _ _ _ h2⟩
end Go.Proofs.YtiinohajdibflabDoor
