/-
  C1 in plain lists: rows that rise, each but once.
-/
import Derived.Test.YtnnldpccagajbaaDoorPut
import Derived.Test.YtnnldpccagajbaaDoorNames
namespace Go.Proofs.YtnnldpccagajbaaDoor
theorem rises_nil (m : Nat) : Rises m [] := ⟨by simp, by simp⟩
theorem rises_tail {m : Nat} {a : List (List UInt8)} {L : List (List (List UInt8))} (h : Rises m (a :: L)) : Rises m L :=
  ⟨fun r hr => h.1 r (by simp [hr]), fun i j x y hij hx hy => h.2 (i + 1) (j + 1) x y (by omega) (by simpa using hx) (by simpa using hy)⟩
theorem rises_head {m : Nat} {a : List (List UInt8)} {L : List (List (List UInt8))} (h : Rises m (a :: L)) : ∀ x ∈ L, ordR a x = -1 := by
  intro x hx
  obtain ⟨j, hj⟩ := List.mem_iff_getElem?.1 hx
  exact h.2 0 (j + 1) a x (by omega) (by simp) (by simpa using hj)
theorem rises_cons {m : Nat} {a : List (List UInt8)} {L : List (List (List UInt8))} (h : Rises m L) (ha : a.length = m) (hx : ∀ x ∈ L, ordR a x = -1) : Rises m (a :: L) := by
  refine ⟨fun r hr => ?_, fun i j x y hij hx' hy => ?_⟩
  · rcases List.mem_cons.1 hr with rfl | hr
    · exact ha
    · exact h.1 r hr
  · cases j with
    | zero => omega
    | succ j =>
      have hy' : L[j]? = some y := by simpa using hy
      cases i with
      | zero => simp at hx'; subst hx'; exact hx y (List.mem_of_getElem? hy')
      | succ i => exact h.2 i j x y (by omega) (by simpa using hx') hy'
theorem ins_nil (r : List (List UInt8)) : ins [] r = [r] := by simp [ins, ahead]
theorem ahead_cons (a : List (List UInt8)) (L : List (List (List UInt8))) (r : List (List UInt8)) : ahead (a :: L) r = if ordR a r = -1 then ahead L r + 1 else 0 := by
  unfold ahead; rw [List.takeWhile_cons]
  by_cases h : ordR a r = -1 <;> simp [h]
theorem mem_ins (L : List (List (List UInt8))) (r x : List (List UInt8)) : x ∈ ins L r ↔ x = r ∨ x ∈ L := by
  unfold ins
  split
  · rename_i h
    constructor
    · exact Or.inr
    · rintro (rfl | h2)
      · exact h
      · exact h2
  · constructor
    · intro h
      rcases List.mem_append.1 h with h | h
      · exact Or.inr (List.mem_of_mem_take h)
      · rcases List.mem_cons.1 h with h | h
        · exact Or.inl h
        · exact Or.inr (List.mem_of_mem_drop h)
    · intro h
      rcases h with rfl | h
      · simp
      · rw [← List.take_append_drop (ahead L r) L] at h
        rcases List.mem_append.1 h with h | h
        · simp [h]
        · simp [h]
theorem ins_rises (m : Nat) (L : List (List (List UInt8))) (r : List (List UInt8)) (hL : Rises m L) (hr : r.length = m) : Rises m (ins L r) := by
  by_cases hm : r ∈ L
  · unfold ins; rw [if_pos hm]; exact hL
  · unfold ins; rw [if_neg hm]
    induction L with
    | nil => simpa [ahead] using rises_cons (rises_nil m) hr (by simp)
    | cons a L ih =>
      have ht := rises_tail hL
      have hh := rises_head hL
      have ham : a.length = m := hL.1 a (by simp)
      have hnm : r ∉ L := fun h => hm (by simp [h])
      have hne : a ≠ r := fun h => hm (by simp [h])
      rw [ahead_cons]
      by_cases ho : ordR a r = -1
      · rw [if_pos ho]
        simp only [List.take_succ_cons, List.drop_succ_cons, List.cons_append]
        refine rises_cons (ih ht hnm) ham (fun x hx => ?_)
        rcases List.mem_append.1 hx with hx | hx
        · exact hh x (List.mem_of_mem_take hx)
        · rcases List.mem_cons.1 hx with rfl | hx
          · exact ho
          · exact hh x (List.mem_of_mem_drop hx)
      · rw [if_neg ho]
        simp only [List.take_zero, List.drop_zero, List.nil_append]
        have hra : ordR r a = -1 := by
          have h3 := ordR_tri a r
          have h4 := ordR_neg a r
          have h5 : ordR a r ≠ 0 := fun h => hne (ordR_eq a r (by rw [ham, hr]) h)
          omega
        refine rises_cons hL hr (fun x hx => ?_)
        rcases List.mem_cons.1 hx with rfl | hx
        · exact hra
        · exact ordR_trans r a x hra (hh x hx) (by rw [hr, ham]) (by rw [ham, ht.1 x hx])
theorem rises_unique (m : Nat) (L M : List (List (List UInt8))) (hL : Rises m L) (hM : Rises m M) (h : ∀ x, x ∈ L ↔ x ∈ M) : L = M := by
  induction L generalizing M with
  | nil =>
    cases M with
    | nil => rfl
    | cons b M => exact absurd ((h b).2 (by simp)) (by simp)
  | cons a L ih =>
    cases M with
    | nil => exact absurd ((h a).1 (by simp)) (by simp)
    | cons b M =>
      have hab : a = b := by
        rcases List.mem_cons.1 ((h a).1 (by simp)) with e | e
        · exact e
        · rcases List.mem_cons.1 ((h b).2 (by simp)) with f | f
          · exact f.symm
          · have h1 := rises_head hM a e
            have h2 := rises_head hL b f
            have h3 := ordR_neg a b
            omega
      subst hab
      have hna : ∀ {K : List (List (List UInt8))}, Rises m (a :: K) → a ∉ K := fun hK hm => by
        have := rises_head hK a hm
        rw [ordR_self] at this; omega
      rw [ih M (rises_tail hL) (rises_tail hM) (fun x => ?_)]
      constructor
      · intro hx
        rcases List.mem_cons.1 ((h x).1 (by simp [hx])) with e | e
        · subst e; exact absurd hx (hna hL)
        · exact e
      · intro hx
        rcases List.mem_cons.1 ((h x).2 (by simp [hx])) with e | e
        · subst e; exact absurd hx (hna hM)
        · exact e
/-- all rows, rising, each but once -/
def sortU (rows : List (List (List UInt8))) : List (List (List UInt8)) := rows.foldl ins []
theorem foldl_ins (m : Nat) (rows L : List (List (List UInt8))) (hL : Rises m L) (hr : ∀ r ∈ rows, r.length = m) : Rises m (rows.foldl ins L) ∧ ∀ x, x ∈ rows.foldl ins L ↔ x ∈ L ∨ x ∈ rows := by
  induction rows generalizing L with
  | nil => exact ⟨hL, by simp⟩
  | cons r rows ih =>
    have h1 := ih (ins L r) (ins_rises m L r hL (hr r (by simp))) (fun x hx => hr x (by simp [hx]))
    refine ⟨h1.1, fun x => ?_⟩
    rw [List.foldl_cons, h1.2 x, mem_ins]
    simp only [List.mem_cons]
    constructor
    · rintro ((h | h) | h)
      · exact Or.inr (Or.inl h)
      · exact Or.inl h
      · exact Or.inr (Or.inr h)
    · rintro (h | h | h)
      · exact Or.inl (Or.inr h)
      · exact Or.inl (Or.inl h)
      · exact Or.inr h
theorem sortU_rises (m : Nat) (rows : List (List (List UInt8))) (hr : ∀ r ∈ rows, r.length = m) : Rises m (sortU rows) := (foldl_ins m rows [] (rises_nil m) hr).1
theorem mem_sortU (m : Nat) (rows : List (List (List UInt8))) (hr : ∀ r ∈ rows, r.length = m) (x : List (List UInt8)) : x ∈ sortU rows ↔ x ∈ rows := by
  have := (foldl_ins m rows [] (rises_nil m) hr).2 x
  unfold sortU; rw [this]; simp
/-- any rising list with the same rows is it: in whatever order rows come, and however often -/
theorem sortU_is (m : Nat) (rows L : List (List (List UInt8))) (hr : ∀ r ∈ rows, r.length = m) (hL : Rises m L) (h : ∀ x, x ∈ L ↔ x ∈ rows) : sortU rows = L :=
  rises_unique m _ _ (sortU_rises m rows hr) hL (fun x => by rw [mem_sortU m rows hr, h])
theorem sortU_congr (m : Nat) (A B : List (List (List UInt8))) (hA : ∀ r ∈ A, r.length = m) (hB : ∀ r ∈ B, r.length = m) (h : ∀ x, x ∈ A ↔ x ∈ B) : sortU A = sortU B :=
  sortU_is m A _ hA (sortU_rises m B hB) (fun x => by rw [mem_sortU m B hB, h])
theorem sortU_self (m : Nat) (L : List (List (List UInt8))) (h : Rises m L) : sortU L = L := sortU_is m L L h.1 h (fun _ => Iff.rfl)
/-- what is wrong with rows of which each should have m texts, from the i-th on: the error and its place -/
def bad (m : Nat) (i : Nat) : List (List (List UInt8)) → Option (Nat × Nat)
  | [] => none
  | r :: rest => if r.length = m then (if r.all (fun t => decide (t.length ≤ 200)) then bad m (i + 1) rest else some (1, i)) else some (9, i)
/-- C1: an error and its place, or the tidy rows -/
def tidy (name : List UInt8) (arity : Int) (rows : List (List (List UInt8))) : Nat × Nat × List (List (List UInt8)) :=
  if isName name = false then (8, 0, []) else if arity < 0 ∨ 8 < arity then (3, 0, []) else
  match bad arity.toNat 0 rows with
  | some (e, i) => (e, i, [])
  | none => if 2000 < (sortU rows).length then (7, 0, []) else (0, 0, sortU rows)
end Go.Proofs.YtnnldpccagajbaaDoor
