/-
  Rows in memory; the document's place, walked.
-/
import Derived.Test.YtaeloanlllaphaaDoorOrder
namespace Go.Proofs.YtaeloanlllaphaaDoor
open Go.ChangeShapes Go.WideShapes Go.ChangeAt Go.RowKit
set_option linter.unusedVariables false
/-- a slice that holds values -/
def Vals (w : World) (v : Value) (vs : List Value) : Prop :=
  ∃ (a : Option Addr) (cap : Nat), v = .slice a vs.length cap ∧ ((vs = [] ∧ (a = none → cap = 0)) ∨ ∃ b off, a = some ⟨b, off, none⟩ ∧ ∀ (i : Nat) (x : Value), vs[i]? = some x → w.cell? ⟨b, off + i, none⟩ = some x)
/-- a slice of slices that reads as rows -/
def Rows2 (w : World) (v : Value) (vs : List Value) (L : List (List (List UInt8))) : Prop :=
  Vals w v vs ∧ vs.length = L.length ∧ ∀ (i : Nat) (x : Value) (r : List (List UInt8)), vs[i]? = some x → L[i]? = some r → Strs w x r
theorem val_at {vs : List Value} {k : Nat} (h : k < vs.length) : vs[k]? = some vs[k] := List.getElem?_eq_getElem h
theorem row_at {L : List (List (List UInt8))} {k : Nat} (h : k < L.length) : L[k]? = some L[k] := List.getElem?_eq_getElem h
theorem lt_of_some {α : Type} {l : List α} {k : Nat} {x : α} (h : l[k]? = some x) : k < l.length := by
  rcases Nat.lt_or_ge k l.length with h1 | h1
  · exact h1
  · rw [List.getElem?_eq_none h1] at h; cases h
theorem ahead_mem (m : Nat) (L : List (List (List UInt8))) (r : List (List UInt8)) (hL : Rises m L) (hr : r.length = m) (k : Nat) (h1 : ∀ i a, i < k → L[i]? = some a → ordR a r = -1) (h2 : ∀ i a, k ≤ i → L[i]? = some a → ordR a r ≠ -1) :
    (r ∈ L) ↔ ∃ a, L[k]? = some a ∧ ordR a r = 0 := by
  constructor
  · intro hm
    obtain ⟨j, hj⟩ := List.mem_iff_getElem?.1 hm
    have h0 := ordR_self r
    have hjk : k ≤ j := by
      rcases Nat.lt_or_ge j k with h | h
      · have := h1 j r h hj; omega
      · exact h
    rcases Nat.eq_or_lt_of_le hjk with e | e
    · subst e; exact ⟨r, hj, h0⟩
    · have hk : k < L.length := by have := lt_of_some hj; omega
      have := hL.2 k j _ r e (row_at hk) hj
      exact absurd this (h2 k _ (Nat.le_refl _) (row_at hk))
  · rintro ⟨a, ha, h0⟩
    have hma := List.mem_of_getElem? ha
    have := ordR_eq a r (by rw [hL.1 a hma, hr]) h0
    rw [← this]; exact hma
end Go.Proofs.YtaeloanlllaphaaDoor
