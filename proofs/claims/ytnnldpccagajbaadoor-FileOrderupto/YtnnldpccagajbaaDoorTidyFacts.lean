/-
  What is known of tidy rows. Nothing of the program.
-/
import Derived.Test.YtnnldpccagajbaaDoorPacks
import Derived.Test.YtnnldpccagajbaaDoorRefTidy
namespace Go.Proofs.YtnnldpccagajbaaDoor
theorem bad_none (m : Nat) (i : Nat) (rows : List (List (List UInt8))) (h : bad m i rows = none) : ∀ r ∈ rows, r.length = m ∧ ∀ t ∈ r, t.length ≤ 200 := by
  induction rows generalizing i with
  | nil => simp
  | cons r rest ih =>
    rw [bad] at h
    by_cases h1 : r.length = m
    · rw [if_pos h1] at h
      by_cases h2 : r.all (fun t => decide (t.length ≤ 200)) = true
      · rw [if_pos h2] at h
        intro x hx
        rcases List.mem_cons.1 hx with rfl | hx
        · exact ⟨h1, fun t ht => by simpa using List.all_eq_true.1 h2 t ht⟩
        · exact ih (i + 1) h x hx
      · rw [if_neg h2] at h; cases h
    · rw [if_neg h1] at h; cases h
structure Tidy (name : List UInt8) (ar : Int) (L : List (List (List UInt8))) : Prop where
  isn : isName name = true
  a0 : 0 ≤ ar
  a8 : ar ≤ 8
  few : L.length ≤ 2000
  rows : ∀ r ∈ L, r.length = ar.toNat ∧ ∀ t ∈ r, t.length ≤ 200
  rise : Rises ar.toNat L
theorem tidy_facts (name : List UInt8) (ar : Int) (rows : List (List (List UInt8))) (ti : Nat) (L : List (List (List UInt8))) (h : tidy name ar rows = (0, ti, L)) : ti = 0 ∧ L = sortU rows ∧ Tidy name ar L := by
  unfold tidy at h
  split at h
  · simp at h
  · rename_i h1
    split at h
    · simp at h
    · rename_i h2
      split at h
      · rename_i e i he
        exfalso
        have key : ∀ (m i : Nat) (rows : List (List (List UInt8))) (e j : Nat), bad m i rows = some (e, j) → e ≠ 0 := by
          intro m i rows
          induction rows generalizing i with
          | nil => intro e j hh; simp [bad] at hh
          | cons r rest ih =>
            intro e j hh
            rw [bad] at hh
            split at hh
            · split at hh
              · exact ih (i + 1) e j hh
              · cases hh; decide
            · cases hh; decide
        have := key _ _ _ _ _ he
        cases h
        exact this rfl
      · rename_i he
        have hb := bad_none _ _ _ he
        split at h
        · simp at h
        · rename_i h3
          cases h
          refine ⟨rfl, rfl, ?_⟩
          have hm : ∀ r ∈ rows, r.length = ar.toNat := fun r hr => (hb r hr).1
          exact ⟨by simpa using h1, by omega, by omega, by omega, fun r hr => hb r ((mem_sortU ar.toNat rows hm r).1 hr), sortU_rises ar.toNat rows hm⟩
theorem flat_len (m : Nat) (L : List (List (List UInt8))) (h : ∀ r ∈ L, r.length = m) : L.flatten.length = m * L.length := by
  induction L with
  | nil => simp
  | cons r rest ih =>
    rw [List.flatten_cons, List.length_append, h r (by simp), ih (fun x hx => h x (by simp [hx])), List.length_cons, Nat.mul_add]; omega
theorem allT_len (rows : List (List (List UInt8))) : (allT rows).length ≤ rows.flatten.length := by
  unfold allT
  rw [List.length_map]
  have := sortU_len (rows.flatten.map fun t => [t])
  rw [List.length_map] at this
  exact this
theorem page_len (s : List UInt8) (h : s.length < 9223372036854775808) : (page s).length ≤ s.length + 13 := by
  have := vb_length9 s.length h
  unfold page
  simp only [List.length_append]
  have : (Crc.sum s).length = 4 := rfl
  omega
theorem colF_len (all : List (List UInt8)) (c : Nat) (last : Int) (rows : List (List (List UInt8))) : (colF all c last rows).length ≤ 9 * rows.length := by
  induction rows generalizing last with
  | nil => simp [colF]
  | cons r rest ih =>
    rw [colF, List.length_append, List.length_cons]
    have h1 := ih (find all (r.getD c []))
    have h2 := fold_bd (find all (r.getD c []) - last)
    have h3 := vb_length9 (fold (find all (r.getD c []) - last)).toNat (by omega)
    omega
theorem colsF_len (all : List (List UInt8)) (rows : List (List (List UInt8))) (n : Nat) (h : rows.length ≤ 67108864) : (colsF all rows n).length ≤ n * (9 * rows.length + 13) := by
  induction n with
  | zero => simp [colsF]
  | succ n ih =>
    rw [colsF_succ, List.length_append]
    have h1 := colF_len all n 0 rows
    have h2 := page_len (colF all n 0 rows) (by omega)
    rw [Nat.add_mul]; omega
end Go.Proofs.YtnnldpccagajbaaDoor
