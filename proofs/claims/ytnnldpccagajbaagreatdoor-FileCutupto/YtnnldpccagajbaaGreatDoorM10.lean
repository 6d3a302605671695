import Derived.Test.YtnnldpccagajbaaGreatDoorM09
import Derived.Laws.BitsAllLaws
import Derived.Laws.Bits128
import Derived.Test.YtnnldpccagajbaaGreatDoorM01
import Derived.Test.YtnnldpccagajbaaGreatDoorM06
/-
  C1 in plain lists: rows that rise, each but once.
-/
namespace Go.Proofs.YtnnldpccagajbaaGreatDoor
theorem rises_nil (m : Nat) : Rises m [] := ⟨by simp, by simp⟩
theorem rises_tail {m : Nat} {a : List (List UInt8)} {L : List (List (List UInt8))} (h : Rises m (a :: L)) : Rises m L :=
  ⟨fun r hr => h.1 r (by simp [hr]), fun i j x y hij hx hy => h.2 (i + 1) (j + 1) x y (by omega) (by simpa using hx) (by simpa using hy)⟩
theorem rises_head {m : Nat} {a : List (List UInt8)} {L : List (List (List UInt8))} (h : Rises m (a :: L)) : ∀ x ∈ L, ordR a x = -1 := by
  intro x hx
  obtain ⟨j, hj⟩ := List.mem_iff_getElem?.1 hx
  exact h.2 0 (j + 1) a x (by omega) (by simp) (by simpa using hj)
theorem rises_cons {m : Nat} {a : List (List UInt8)} {L : List (List (List UInt8))} (h : Rises m L) (ha : a.length = m) (hx : ∀ x ∈ L, ordR a x = -1) : Rises m (a :: L) := by
  refine ⟨fun r hr => ?_, fun i j x y hij hx' hy => ?_⟩
  · rcases List.mem_cons.1 hr with rfl | hr
    · exact ha
    · exact h.1 r hr
  · cases j with
    | zero => omega
    | succ j =>
      have hy' : L[j]? = some y := by simpa using hy
      cases i with
      | zero => simp at hx'; subst hx'; exact hx y (List.mem_of_getElem? hy')
      | succ i => exact h.2 i j x y (by omega) (by simpa using hx') hy'
theorem ins_nil (r : List (List UInt8)) : ins [] r = [r] := by simp [ins, ahead]
theorem ahead_cons (a : List (List UInt8)) (L : List (List (List UInt8))) (r : List (List UInt8)) : ahead (a :: L) r = if ordR a r = -1 then ahead L r + 1 else 0 := by
  unfold ahead; rw [List.takeWhile_cons]
  by_cases h : ordR a r = -1 <;> simp [h]
theorem mem_ins (L : List (List (List UInt8))) (r x : List (List UInt8)) : x ∈ ins L r ↔ x = r ∨ x ∈ L := by
  unfold ins
  split
  · rename_i h
    constructor
    · exact Or.inr
    · rintro (rfl | h2)
      · exact h
      · exact h2
  · constructor
    · intro h
      rcases List.mem_append.1 h with h | h
      · exact Or.inr (List.mem_of_mem_take h)
      · rcases List.mem_cons.1 h with h | h
        · exact Or.inl h
        · exact Or.inr (List.mem_of_mem_drop h)
    · intro h
      rcases h with rfl | h
      · simp
      · rw [← List.take_append_drop (ahead L r) L] at h
        rcases List.mem_append.1 h with h | h
        · simp [h]
        · simp [h]
theorem ins_rises (m : Nat) (L : List (List (List UInt8))) (r : List (List UInt8)) (hL : Rises m L) (hr : r.length = m) : Rises m (ins L r) := by
  by_cases hm : r ∈ L
  · unfold ins; rw [if_pos hm]; exact hL
  · unfold ins; rw [if_neg hm]
    induction L with
    | nil => simpa [ahead] using rises_cons (rises_nil m) hr (by simp)
    | cons a L ih =>
      have ht := rises_tail hL
      have hh := rises_head hL
      have ham : a.length = m := hL.1 a (by simp)
      have hnm : r ∉ L := fun h => hm (by simp [h])
      have hne : a ≠ r := fun h => hm (by simp [h])
      rw [ahead_cons]
      by_cases ho : ordR a r = -1
      · rw [if_pos ho]
        simp only [List.take_succ_cons, List.drop_succ_cons, List.cons_append]
        refine rises_cons (ih ht hnm) ham (fun x hx => ?_)
        rcases List.mem_append.1 hx with hx | hx
        · exact hh x (List.mem_of_mem_take hx)
        · rcases List.mem_cons.1 hx with rfl | hx
          · exact ho
          · exact hh x (List.mem_of_mem_drop hx)
      · rw [if_neg ho]
        simp only [List.take_zero, List.drop_zero, List.nil_append]
        have hra : ordR r a = -1 := by
          have h3 := ordR_tri a r
          have h4 := ordR_neg a r
          have h5 : ordR a r ≠ 0 := fun h => hne (ordR_eq a r (by rw [ham, hr]) h)
          omega
        refine rises_cons hL hr (fun x hx => ?_)
        rcases List.mem_cons.1 hx with rfl | hx
        · exact hra
        · exact ordR_trans r a x hra (hh x hx) (by rw [hr, ham]) (by rw [ham, ht.1 x hx])
theorem rises_unique (m : Nat) (L M : List (List (List UInt8))) (hL : Rises m L) (hM : Rises m M) (h : ∀ x, x ∈ L ↔ x ∈ M) : L = M := by
  induction L generalizing M with
  | nil =>
    cases M with
    | nil => rfl
    | cons b M => exact absurd ((h b).2 (by simp)) (by simp)
  | cons a L ih =>
    cases M with
    | nil => exact absurd ((h a).1 (by simp)) (by simp)
    | cons b M =>
      have hab : a = b := by
        rcases List.mem_cons.1 ((h a).1 (by simp)) with e | e
        · exact e
        · rcases List.mem_cons.1 ((h b).2 (by simp)) with f | f
          · exact f.symm
          · have h1 := rises_head hM a e
            have h2 := rises_head hL b f
            have h3 := ordR_neg a b
            omega
      subst hab
      have hna : ∀ {K : List (List (List UInt8))}, Rises m (a :: K) → a ∉ K := fun hK hm => by
        have := rises_head hK a hm
        rw [ordR_self] at this; omega
      rw [ih M (rises_tail hL) (rises_tail hM) (fun x => ?_)]
      constructor
      · intro hx
        rcases List.mem_cons.1 ((h x).1 (by simp [hx])) with e | e
        · subst e; exact absurd hx (hna hL)
        · exact e
      · intro hx
        rcases List.mem_cons.1 ((h x).2 (by simp [hx])) with e | e
        · subst e; exact absurd hx (hna hM)
        · exact e
/-- all rows, rising, each but once -/
def sortU (rows : List (List (List UInt8))) : List (List (List UInt8)) := rows.foldl ins []
theorem foldl_ins (m : Nat) (rows L : List (List (List UInt8))) (hL : Rises m L) (hr : ∀ r ∈ rows, r.length = m) : Rises m (rows.foldl ins L) ∧ ∀ x, x ∈ rows.foldl ins L ↔ x ∈ L ∨ x ∈ rows := by
  induction rows generalizing L with
  | nil => exact ⟨hL, by simp⟩
  | cons r rows ih =>
    have h1 := ih (ins L r) (ins_rises m L r hL (hr r (by simp))) (fun x hx => hr x (by simp [hx]))
    refine ⟨h1.1, fun x => ?_⟩
    rw [List.foldl_cons, h1.2 x, mem_ins]
    simp only [List.mem_cons]
    constructor
    · rintro ((h | h) | h)
      · exact Or.inr (Or.inl h)
      · exact Or.inl h
      · exact Or.inr (Or.inr h)
    · rintro (h | h | h)
      · exact Or.inl (Or.inr h)
      · exact Or.inl (Or.inl h)
      · exact Or.inr h
theorem sortU_rises (m : Nat) (rows : List (List (List UInt8))) (hr : ∀ r ∈ rows, r.length = m) : Rises m (sortU rows) := (foldl_ins m rows [] (rises_nil m) hr).1
theorem mem_sortU (m : Nat) (rows : List (List (List UInt8))) (hr : ∀ r ∈ rows, r.length = m) (x : List (List UInt8)) : x ∈ sortU rows ↔ x ∈ rows := by
  have := (foldl_ins m rows [] (rises_nil m) hr).2 x
  unfold sortU; rw [this]; simp
/-- any rising list with the same rows is it: in whatever order rows come, and however often -/
theorem sortU_is (m : Nat) (rows L : List (List (List UInt8))) (hr : ∀ r ∈ rows, r.length = m) (hL : Rises m L) (h : ∀ x, x ∈ L ↔ x ∈ rows) : sortU rows = L :=
  rises_unique m _ _ (sortU_rises m rows hr) hL (fun x => by rw [mem_sortU m rows hr, h])
theorem sortU_congr (m : Nat) (A B : List (List (List UInt8))) (hA : ∀ r ∈ A, r.length = m) (hB : ∀ r ∈ B, r.length = m) (h : ∀ x, x ∈ A ↔ x ∈ B) : sortU A = sortU B :=
  sortU_is m A _ hA (sortU_rises m B hB) (fun x => by rw [mem_sortU m B hB, h])
theorem sortU_self (m : Nat) (L : List (List (List UInt8))) (h : Rises m L) : sortU L = L := sortU_is m L L h.1 h (fun _ => Iff.rfl)
/-- what is wrong with rows of which each should have m texts, from the i-th on: the error and its place -/
def bad (m : Nat) (i : Nat) : List (List (List UInt8)) → Option (Nat × Nat)
  | [] => none
  | r :: rest => if r.length = m then (if r.all (fun t => decide (t.length ≤ 200)) then bad m (i + 1) rest else some (1, i)) else some (9, i)
/-- C1: an error and its place, or the tidy rows -/
def tidy (name : List UInt8) (arity : Int) (rows : List (List (List UInt8))) : Nat × Nat × List (List (List UInt8)) :=
  if isName name = false then (8, 0, []) else if arity < 0 ∨ 8 < arity then (3, 0, []) else
  match bad arity.toNat 0 rows with
  | some (e, i) => (e, i, [])
  | none => if 2000 < (sortU rows).length then (7, 0, []) else (0, 0, sortU rows)
end Go.Proofs.YtnnldpccagajbaaGreatDoor

/-
  Plain facts on bits and numbers, for the walks of this seat. Nothing of the program.
-/
namespace Go.Proofs.YtnnldpccagajbaaGreatDoor

theorem not64 (x : Int) (h1 : -9223372036854775808 ≤ x) (h2 : x ≤ 9223372036854775807) : bits .xor .i64 (-1) x = -1 - x := by
  show IntKind.i64.wrap ((BitVec.ofInt 64 (-1) ^^^ BitVec.ofInt 64 x).toNat : Int) = _
  have e1 : BitVec.ofInt 64 (-1) = BitVec.allOnes 64 := by decide
  rw [e1, BitVec.allOnes_xor, BitVec.toNat_not, BitVec.toNat_ofInt, IntKind.wrap_i64]
  omega

theorem and1 (n : Int) : bits .and .i64 n 1 = n % 2 := by
  have h1 : (BitVec.ofInt 64 1).toNat = 2 ^ 1 - 1 := by decide
  have key : (BitVec.ofInt 64 n &&& BitVec.ofInt 64 1).toNat = (n % ((2 ^ 64 : Nat) : Int)).toNat % 2 ^ 1 := by
    rw [BitVec.toNat_and, BitVec.toNat_ofInt, h1, Nat.and_two_pow_sub_one_eq_mod]
  show IntKind.i64.wrap ((BitVec.ofInt 64 n &&& BitVec.ofInt 64 1).toNat : Nat) = n % 2
  rw [key, IntKind.wrap_i64]
  omega

/-- A2: what Fold answers -/
def fold (n : Int) : Int := if 0 ≤ n ∧ n < 4611686018427387904 then 2 * n else if n < 0 ∧ -4611686018427387904 ≤ n then -2 * n - 1 else 0
/-- A2: what Unfold answers -/
def unfold (n : Int) : Int := if n < 0 then 0 else if n % 2 = 0 then n / 2 else -1 - n / 2

theorem fold_bd (n : Int) : 0 ≤ fold n ∧ fold n ≤ 9223372036854775807 := by
  unfold fold; split
  · omega
  · split <;> omega
theorem unfold_bd (n : Int) (h : n ≤ 9223372036854775807) : -4611686018427387904 ≤ unfold n ∧ unfold n ≤ 4611686018427387903 := by
  unfold Go.Proofs.YtnnldpccagajbaaGreatDoor.unfold; split
  · omega
  · split <;> omega
theorem back (n : Int) (h1 : -4611686018427387904 ≤ n) (h2 : n < 4611686018427387904) : unfold (fold n) = n := by
  unfold fold; split
  · unfold Go.Proofs.YtnnldpccagajbaaGreatDoor.unfold; rw [if_neg (by omega), if_pos (by omega)]; omega
  · rw [if_pos (by omega)]; unfold Go.Proofs.YtnnldpccagajbaaGreatDoor.unfold; rw [if_neg (by omega), if_neg (by omega)]; omega
theorem again (n : Int) (h1 : 0 ≤ n) (h2 : n ≤ 9223372036854775807) : fold (unfold n) = n := by
  unfold Go.Proofs.YtnnldpccagajbaaGreatDoor.unfold; rw [if_neg (by omega)]; split
  · unfold fold; rw [if_pos (by omega)]; omega
  · unfold fold; rw [if_neg (by omega), if_pos (by omega)]; omega

end Go.Proofs.YtnnldpccagajbaaGreatDoor

/-
  Chapter 3's bytes in plain words of lists: what Encode answers. Nothing of the program.
-/
namespace Go.Proofs.YtnnldpccagajbaaGreatDoor
/-- a page: its length, what it has, its sum -/
def page (s : List UInt8) : List UInt8 := vb s.length ++ (s ++ Crc.sum s)
/-- all texts of rows, each once, rising -/
def allT (rows : List (List (List UInt8))) : List (List UInt8) := (sortU (rows.flatten.map fun t => [t])).map fun r => r.headD []
/-- how the numbers of a column's texts go up and down -/
def colF (all : List (List UInt8)) (c : Nat) : Int → List (List (List UInt8)) → List UInt8
  | _, [] => []
  | last, r :: rest => vb (fold (find all (r.getD c []) - last)).toNat ++ colF all c (find all (r.getD c [])) rest
/-- the first page -/
def headT (name : List UInt8) (ar n : Nat) : List UInt8 := vb name.length ++ (name ++ (vb ar ++ vb n))
def colsF (all : List (List UInt8)) (rows : List (List (List UInt8))) (n : Nat) : List UInt8 := ((List.range n).map fun c => page (colF all c 0 rows)).flatten
def bodyP (name : List UInt8) (ar : Nat) (rows : List (List (List UInt8))) : List UInt8 :=
  [82, 69, 76, 49] ++ (page (headT name ar rows.length) ++ (page (build (allT rows)).1 ++ colsF (allT rows) rows ar))
def packF (name : List UInt8) (ar : Nat) (rows : List (List (List UInt8))) : List UInt8 := bodyP name ar rows ++ Crc.sum (bodyP name ar rows)
/-- C2 -/
def encode (name : List UInt8) (ar : Int) (rows : List (List (List UInt8))) : List UInt8 × Nat × Nat :=
  match tidy name ar rows with
  | (0, _, L) => if 65536 < (packF name ar.toNat L).length then ([], 1, 0) else (packF name ar.toNat L, 0, 0)
  | (e + 1, i, _) => ([], e + 1, i)
theorem colsF_succ (all : List (List UInt8)) (rows : List (List (List UInt8))) (n : Nat) : colsF all rows (n + 1) = colsF all rows n ++ page (colF all n 0 rows) := by
  unfold colsF
  rw [List.range_succ, List.map_append, List.flatten_append]; simp
end Go.Proofs.YtnnldpccagajbaaGreatDoor
