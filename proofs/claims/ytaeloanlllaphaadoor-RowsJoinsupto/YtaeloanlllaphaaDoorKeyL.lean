/-
  The key of a row, in plain lists: no two rows have one key. Nothing of the program.
-/
import Derived.Test.YtaeloanlllaphaaDoorRefUnion
import Derived.Lib.ItoaNum
namespace Go.Proofs.YtaeloanlllaphaaDoor
set_option linter.unusedVariables false
/-- each text behind its length and a colon -/
def keyT (t : List UInt8) : List UInt8 := Lib.decDigits t.length ++ (58 :: t)
def keyL : List (List UInt8) → List UInt8
  | [] => []
  | t :: r => keyT t ++ keyL r
theorem keyL_append (a b : List (List UInt8)) : keyL (a ++ b) = keyL a ++ keyL b := by
  induction a with
  | nil => rfl
  | cons t a ih => rw [List.cons_append, keyL, keyL, ih, List.append_assoc]
theorem keyL_next (row : List (List UInt8)) (k : Nat) (h : k < row.length) : keyL (row.take (k + 1)) = keyL (row.take k) ++ keyT row[k] := by
  rw [List.take_succ_eq_append_getElem h, keyL_append]; simp [keyL]
theorem keyL_part (row : List (List UInt8)) (k : Nat) : (keyL (row.take k)).length ≤ (keyL row).length := by
  conv => rhs; rw [← List.take_append_drop k row, keyL_append, List.length_append]
  omega
theorem dec_digit (u : Nat) : ∀ c ∈ Lib.decDigits u, c ≠ 58 := by
  induction u using Nat.strongRecOn with
  | ind u ih =>
    have hd : ∀ d, d < 10 → UInt8.ofNat (48 + d) ≠ 58 := by decide
    rw [Lib.decDigits]
    split
    · rename_i h
      intro c hc
      simp only [List.mem_singleton] at hc
      subst hc; exact hd u h
    · rename_i h
      intro c hc
      rcases List.mem_append.1 hc with hc | hc
      · exact ih (u / 10) (by omega) c hc
      · simp only [List.mem_singleton] at hc
        subst hc; exact hd (u % 10) (Nat.mod_lt _ (by omega))
def decVal (l : List UInt8) : Nat := l.foldl (fun a c => a * 10 + (c.toNat - 48)) 0
theorem dec_val (u : Nat) : decVal (Lib.decDigits u) = u := by
  induction u using Nat.strongRecOn with
  | ind u ih =>
    have hd : ∀ d, d < 10 → (UInt8.ofNat (48 + d)).toNat - 48 = d := by decide
    rw [Lib.decDigits]
    split
    · rename_i h
      simp only [decVal, List.foldl_cons, List.foldl_nil]
      rw [hd u h]; omega
    · rename_i h
      have := ih (u / 10) (by omega)
      unfold decVal at this ⊢
      rw [List.foldl_append, this]
      simp only [List.foldl_cons, List.foldl_nil]
      rw [hd (u % 10) (Nat.mod_lt _ (by omega))]
      omega
theorem dec_inj {u v : Nat} (h : Lib.decDigits u = Lib.decDigits v) : u = v := by
  rw [← dec_val u, ← dec_val v, h]
theorem cut_at (X Y P Q : List UInt8) (hX : ∀ c ∈ X, c ≠ 58) (hY : ∀ c ∈ Y, c ≠ 58) (h : X ++ 58 :: P = Y ++ 58 :: Q) : X = Y ∧ P = Q := by
  induction X generalizing Y with
  | nil =>
    cases Y with
    | nil => simpa using h
    | cons y Y =>
      simp only [List.nil_append, List.cons_append, List.cons.injEq] at h
      exact absurd h.1.symm (hY y (by simp))
  | cons x X ih =>
    cases Y with
    | nil =>
      simp only [List.nil_append, List.cons_append, List.cons.injEq] at h
      exact absurd h.1 (hX x (by simp))
    | cons y Y =>
      simp only [List.cons_append, List.cons.injEq] at h
      obtain ⟨h1, h2⟩ := ih Y (fun c hc => hX c (by simp [hc])) (fun c hc => hY c (by simp [hc])) h.2
      exact ⟨by rw [h.1, h1], h2⟩
theorem keyL_inj (a b : List (List UInt8)) (h : keyL a = keyL b) : a = b := by
  have ne : ∀ (t : List UInt8) (r : List (List UInt8)), keyL (t :: r) ≠ [] := by
    intro t r h
    have := congrArg List.length h
    simp [keyL, keyT] at this
  induction a generalizing b with
  | nil =>
    cases b with
    | nil => rfl
    | cons t b => exact absurd h.symm (ne t b)
  | cons s a ih =>
    cases b with
    | nil => exact absurd h (ne s a)
    | cons t b =>
      simp only [keyL, keyT, List.append_assoc, List.cons_append] at h
      obtain ⟨h1, h2⟩ := cut_at _ _ _ _ (dec_digit _) (dec_digit _) h
      obtain ⟨h3, h4⟩ := List.append_inj h2 (dec_inj h1)
      rw [h3, ih b h4]
theorem keyL_iff (a b : List (List UInt8)) : keyL a = keyL b ↔ a = b := ⟨keyL_inj a b, fun h => by rw [h]⟩
theorem dec_len (u : Nat) (h : u < 100000000000000) : (Lib.decDigits u).length ≤ 14 := by
  have go : ∀ (k u : Nat), u < 10 ^ (k + 1) → (Lib.decDigits u).length ≤ k + 1 := by
    intro k
    induction k with
    | zero =>
      intro u hu
      rw [Lib.decDigits, dif_pos (by simpa using hu)]; simp
    | succ k ih =>
      intro u hu
      rw [Lib.decDigits]
      split
      · simp
      · rw [List.length_append]
        have := ih (u / 10) (by rw [Nat.pow_succ] at hu; omega)
        simp; omega
  exact go 13 u (by simpa using h)
/-- how long a key is at most -/
theorem keyL_len (row : List (List UInt8)) (h : ∀ t ∈ row, t.length ≤ 1048576) : (keyL row).length ≤ row.length * 1048600 := by
  induction row with
  | nil => simp [keyL]
  | cons t r ih =>
    have h1 := ih (fun x hx => h x (by simp [hx]))
    have h2 := h t (by simp)
    have h3 := dec_len t.length (by omega)
    simp only [keyL, keyT, List.length_append, List.length_cons]
    omega
end Go.Proofs.YtaeloanlllaphaaDoor
