/-
  Rows of any lengths: their order, and lists of them that rise. In plain lists.
-/
import Derived.Test.YtaeloanlllaphaaDoorPut
namespace Go.Proofs.YtaeloanlllaphaaDoor
set_option linter.unusedVariables false
/-- -1, 0 or 1: rows of any length, one ahead of one that it begins -/
def cmpL : List (List UInt8) → List (List UInt8) → Int
  | [], [] => 0
  | [], _ :: _ => -1
  | _ :: _, [] => 1
  | x :: a, y :: b => if Op.bytesLess x y then -1 else if Op.bytesLess y x then 1 else cmpL a b
theorem cmpL_ord (a b : List (List UInt8)) : cmpL a b = if ordR a b ≠ 0 then ordR a b else if a.length < b.length then -1 else if b.length < a.length then 1 else 0 := by
  induction a generalizing b with
  | nil => cases b <;> simp [cmpL, ordR]
  | cons x a ih =>
    cases b with
    | nil => simp [cmpL, ordR]
    | cons y b =>
      rw [cmpL, ordR]
      split
      · simp
      · split
        · simp
        · rw [ih b]; simp
theorem cmpL_tri (a b : List (List UInt8)) : cmpL a b = -1 ∨ cmpL a b = 0 ∨ cmpL a b = 1 := by
  rw [cmpL_ord]
  have := ordR_tri a b
  split
  · exact this
  · split
    · exact Or.inl rfl
    · split
      · exact Or.inr (Or.inr rfl)
      · exact Or.inr (Or.inl rfl)
theorem cmpL_neg (a b : List (List UInt8)) : cmpL b a = - cmpL a b := by
  have h := ordR_neg a b
  rw [cmpL_ord b a, cmpL_ord a b, h]
  by_cases h0 : ordR a b = 0
  · rw [h0]
    simp only [Int.neg_zero, ne_eq, not_true_eq_false, if_false]
    by_cases h1 : a.length < b.length
    · rw [if_neg (by omega), if_pos h1, if_pos h1]; rfl
    · by_cases h2 : b.length < a.length
      · rw [if_pos h2, if_neg h1, if_pos h2]
      · rw [if_neg h2, if_neg h1, if_neg h1, if_neg h2]; rfl
  · rw [if_pos (by omega), if_pos h0]
theorem cmpL_eq (a b : List (List UInt8)) (h : cmpL a b = 0) : a = b := by
  rw [cmpL_ord] at h
  by_cases h0 : ordR a b = 0
  · rw [if_neg (by omega)] at h
    by_cases h1 : a.length < b.length
    · rw [if_pos h1] at h; omega
    · rw [if_neg h1] at h
      by_cases h2 : b.length < a.length
      · rw [if_pos h2] at h; omega
      · exact ordR_eq a b (by omega) h0
  · rw [if_pos h0] at h; exact absurd h h0
theorem cmpL_self (a : List (List UInt8)) : cmpL a a = 0 := by
  have := cmpL_neg a a; omega
theorem cmpL_trans (a b c : List (List UInt8)) (h1 : cmpL a b = -1) (h2 : cmpL b c = -1) : cmpL a c = -1 := by
  induction a generalizing b c with
  | nil =>
    cases b with
    | nil => simp [cmpL] at h1
    | cons y b =>
      cases c with
      | nil => simp [cmpL] at h2
      | cons z c => rfl
  | cons x a ih =>
    cases b with
    | nil => simp [cmpL] at h1
    | cons y b =>
      cases c with
      | nil => simp [cmpL] at h2
      | cons z c =>
        rw [cmpL] at h1 h2 ⊢
        cases a1 : Op.bytesLess x y with
        | true =>
          cases b1 : Op.bytesLess y z with
          | true => rw [less_trans x y z a1 b1]; rfl
          | false =>
            cases b2 : Op.bytesLess z y with
            | true => rw [b1, b2] at h2; simp at h2
            | false => rw [← less_eq b1 b2, a1]; rfl
        | false =>
          cases a2 : Op.bytesLess y x with
          | true => rw [a1, a2] at h1; simp at h1
          | false =>
            have e := less_eq a1 a2
            subst e
            rw [a1] at h1
            simp only [Bool.false_eq_true, if_false] at h1
            cases b1 : Op.bytesLess x z with
            | true => rfl
            | false =>
              cases b2 : Op.bytesLess z x with
              | true => rw [b1, b2] at h2; simp at h2
              | false =>
                rw [b1, b2] at h2
                simp only [Bool.false_eq_true, if_false] at h2 ⊢
                exact ih b c h1 h2
/-- of one length: the order is the elder one -/
theorem cmpL_same (a b : List (List UInt8)) (h : a.length = b.length) : cmpL a b = ordR a b := by
  rw [cmpL_ord]
  by_cases h0 : ordR a b = 0
  · rw [if_neg (by omega), if_neg (by omega), if_neg (by omega), h0]
  · rw [if_pos h0]
/-- rows that rise -/
def RisesL (L : List (List (List UInt8))) : Prop := L.Pairwise fun a b => cmpL a b = -1
def aheadL (L : List (List (List UInt8))) (r : List (List UInt8)) : Nat := (L.takeWhile fun a => decide (cmpL a r = -1)).length
def insL (L : List (List (List UInt8))) (r : List (List UInt8)) : List (List (List UInt8)) := if r ∈ L then L else L.take (aheadL L r) ++ r :: L.drop (aheadL L r)
def insVL (vs : List Value) (L : List (List (List UInt8))) (r : List (List UInt8)) (x : Value) : List Value := if r ∈ L then vs else vs.take (aheadL L r) ++ x :: vs.drop (aheadL L r)
theorem aheadL_le (L : List (List (List UInt8))) (r : List (List UInt8)) : aheadL L r ≤ L.length := by
  unfold aheadL; exact (List.takeWhile_sublist _).length_le
theorem aheadL_cons (a : List (List UInt8)) (L : List (List (List UInt8))) (r : List (List UInt8)) : aheadL (a :: L) r = if cmpL a r = -1 then aheadL L r + 1 else 0 := by
  unfold aheadL; rw [List.takeWhile_cons]
  by_cases h : cmpL a r = -1 <;> simp [h]
theorem aheadL_of (L : List (List (List UInt8))) (r : List (List UInt8)) (k : Nat) (hk : k ≤ L.length) (h1 : ∀ i a, i < k → L[i]? = some a → cmpL a r = -1) (h2 : ∀ a, L[k]? = some a → cmpL a r ≠ -1) : aheadL L r = k := by
  induction L generalizing k with
  | nil => simp at hk; subst hk; rfl
  | cons x L ih =>
    rw [aheadL_cons]
    cases k with
    | zero => rw [if_neg (h2 x (by simp))]
    | succ k =>
      rw [if_pos (h1 0 x (by omega) (by simp)), ih k (by simpa using hk) (fun i a hi ha => h1 (i + 1) a (by omega) (by simpa using ha)) (fun a ha => h2 a (by simpa using ha))]
theorem mem_insL (L : List (List (List UInt8))) (r x : List (List UInt8)) : x ∈ insL L r ↔ x = r ∨ x ∈ L := by
  unfold insL
  split
  · rename_i h
    constructor
    · exact Or.inr
    · rintro (rfl | h2)
      · exact h
      · exact h2
  · constructor
    · intro h
      rcases List.mem_append.1 h with h | h
      · exact Or.inr (List.mem_of_mem_take h)
      · rcases List.mem_cons.1 h with h | h
        · exact Or.inl h
        · exact Or.inr (List.mem_of_mem_drop h)
    · intro h
      rcases h with rfl | h
      · simp
      · rw [← List.take_append_drop (aheadL L r) L] at h
        rcases List.mem_append.1 h with h | h
        · simp [h]
        · simp [h]
theorem insL_length (L : List (List (List UInt8))) (r : List (List UInt8)) : (insL L r).length ≤ L.length + 1 := by
  unfold insL; split
  · omega
  · simp; omega
theorem insL_rises (L : List (List (List UInt8))) (r : List (List UInt8)) (hL : RisesL L) : RisesL (insL L r) := by
  by_cases hm : r ∈ L
  · unfold insL; rw [if_pos hm]; exact hL
  · unfold insL; rw [if_neg hm]
    induction L with
    | nil => simp [aheadL, RisesL]
    | cons a L ih =>
      obtain ⟨hh, ht⟩ := List.pairwise_cons.1 hL
      have hnm : r ∉ L := fun h => hm (by simp [h])
      have hne : a ≠ r := fun h => hm (by simp [h])
      rw [aheadL_cons]
      by_cases ho : cmpL a r = -1
      · rw [if_pos ho]
        simp only [List.take_succ_cons, List.drop_succ_cons, List.cons_append]
        refine List.pairwise_cons.2 ⟨fun x hx => ?_, ih ht hnm⟩
        rcases List.mem_append.1 hx with hx | hx
        · exact hh x (List.mem_of_mem_take hx)
        · rcases List.mem_cons.1 hx with rfl | hx
          · exact ho
          · exact hh x (List.mem_of_mem_drop hx)
      · rw [if_neg ho]
        simp only [List.take_zero, List.drop_zero, List.nil_append]
        have hra : cmpL r a = -1 := by
          have h3 := cmpL_tri a r
          have h4 := cmpL_neg a r
          have h5 : cmpL a r ≠ 0 := fun h => hne (cmpL_eq a r h)
          omega
        refine List.pairwise_cons.2 ⟨fun x hx => ?_, hL⟩
        rcases List.mem_cons.1 hx with rfl | hx
        · exact hra
        · exact cmpL_trans r a x hra (hh x hx)
theorem risesL_unique (L M : List (List (List UInt8))) (hL : RisesL L) (hM : RisesL M) (h : ∀ x, x ∈ L ↔ x ∈ M) : L = M := by
  induction L generalizing M with
  | nil =>
    cases M with
    | nil => rfl
    | cons b M => exact absurd ((h b).2 (by simp)) (by simp)
  | cons a L ih =>
    cases M with
    | nil => exact absurd ((h a).1 (by simp)) (by simp)
    | cons b M =>
      obtain ⟨hL1, hL2⟩ := List.pairwise_cons.1 hL
      obtain ⟨hM1, hM2⟩ := List.pairwise_cons.1 hM
      have hab : a = b := by
        rcases List.mem_cons.1 ((h a).1 (by simp)) with e | e
        · exact e
        · rcases List.mem_cons.1 ((h b).2 (by simp)) with f | f
          · exact f.symm
          · have h1 := hM1 a e
            have h2 := hL1 b f
            have h3 := cmpL_neg a b
            omega
      subst hab
      have na : a ∉ L := fun hm => by have := hL1 a hm; rw [cmpL_self] at this; omega
      have nb : a ∉ M := fun hm => by have := hM1 a hm; rw [cmpL_self] at this; omega
      rw [ih M hL2 hM2 (fun x => ?_)]
      constructor
      · intro hx
        rcases List.mem_cons.1 ((h x).1 (by simp [hx])) with e | e
        · subst e; exact absurd hx na
        · exact e
      · intro hx
        rcases List.mem_cons.1 ((h x).2 (by simp [hx])) with e | e
        · subst e; exact absurd hx nb
        · exact e
/-- all rows, rising, each but once -/
def sortL (rows : List (List (List UInt8))) : List (List (List UInt8)) := rows.foldl insL []
theorem foldl_insL (rows L : List (List (List UInt8))) (hL : RisesL L) : RisesL (rows.foldl insL L) ∧ ∀ x, x ∈ rows.foldl insL L ↔ x ∈ L ∨ x ∈ rows := by
  induction rows generalizing L with
  | nil => exact ⟨hL, fun x => by simp⟩
  | cons r rest ih =>
    obtain ⟨h1, h2⟩ := ih (insL L r) (insL_rises L r hL)
    refine ⟨h1, fun x => ?_⟩
    rw [List.foldl_cons, h2, mem_insL, List.mem_cons]
    constructor
    · rintro ((h | h) | h)
      · exact Or.inr (Or.inl h)
      · exact Or.inl h
      · exact Or.inr (Or.inr h)
    · rintro (h | h | h)
      · exact Or.inl (Or.inr h)
      · exact Or.inl (Or.inl h)
      · exact Or.inr h
theorem sortL_rises (rows : List (List (List UInt8))) : RisesL (sortL rows) := (foldl_insL rows [] List.Pairwise.nil).1
theorem mem_sortL (rows : List (List (List UInt8))) (x : List (List UInt8)) : x ∈ sortL rows ↔ x ∈ rows := by
  have := (foldl_insL rows [] List.Pairwise.nil).2 x
  simpa [sortL] using this
theorem sortL_is (rows K : List (List (List UInt8))) (hK : RisesL K) (h : ∀ x, x ∈ K ↔ x ∈ rows) : sortL rows = K :=
  risesL_unique _ _ (sortL_rises rows) hK (fun x => by rw [mem_sortL, h])
theorem sortL_same (A B : List (List (List UInt8))) (h : ∀ x, x ∈ A ↔ x ∈ B) : sortL A = sortL B :=
  sortL_is A _ (sortL_rises B) (fun x => by rw [mem_sortL, h])
theorem sortL_filter (A : List (List (List UInt8))) (p : List (List UInt8) → Bool) : (sortL A).filter p = sortL (A.filter p) :=
  (sortL_is _ _ ((sortL_rises A).filter p) (fun x => by rw [List.mem_filter, List.mem_filter, mem_sortL])).symm
theorem sortL_len (rows : List (List (List UInt8))) : (sortL rows).length ≤ rows.length := by
  have : ∀ (rows L : List (List (List UInt8))), (rows.foldl insL L).length ≤ L.length + rows.length := by
    intro rows
    induction rows with
    | nil => intro L; simp
    | cons r rest ih =>
      intro L
      have h1 := ih (insL L r)
      have h2 := insL_length L r
      simp only [List.foldl_cons, List.length_cons]; omega
  have := this rows []
  simpa [sortL] using this
theorem risesL_nodup {L : List (List (List UInt8))} (h : RisesL L) : L.Nodup :=
  h.imp (fun {a b} hab e => by subst e; rw [cmpL_self] at hab; omega)
theorem insL_in (L : List (List (List UInt8))) (r : List (List UInt8)) (h : r ∈ L) : insL L r = L := by unfold insL; rw [if_pos h]
/-- what the search from the end finds -/
theorem insL_found (L : List (List (List UInt8))) (r : List (List UInt8)) (k : Nat) (hL : RisesL L) (hk : k ≤ L.length) (h2 : ∀ i a, k ≤ i → L[i]? = some a → cmpL a r = 1) (h1 : 0 < k → ∃ a, L[k - 1]? = some a ∧ cmpL a r = -1) :
    r ∉ L ∧ aheadL L r = k := by
  have hlow : ∀ i a, i < k → L[i]? = some a → cmpL a r = -1 := by
    intro i a hi ha
    obtain ⟨b, hb, hbr⟩ := h1 (by omega)
    rcases Nat.lt_or_ge i (k - 1) with c | c
    · have hil : i < L.length := by omega
      have hkl : k - 1 < L.length := by omega
      have := List.pairwise_iff_getElem.1 hL i (k - 1) hil hkl c
      have ea : L[i] = a := by have := List.getElem?_eq_getElem hil; rw [this] at ha; exact Option.some.inj ha
      have eb : L[k - 1] = b := by have := List.getElem?_eq_getElem hkl; rw [this] at hb; exact Option.some.inj hb
      rw [ea, eb] at this
      exact cmpL_trans a b r this hbr
    · obtain rfl : i = k - 1 := by omega
      rw [hb] at ha; cases ha; exact hbr
  refine ⟨fun hm => ?_, aheadL_of L r k hk hlow (fun a ha h => by have := h2 k a (Nat.le_refl _) ha; omega)⟩
  obtain ⟨i, hi⟩ := List.mem_iff_getElem?.1 hm
  have h0 := cmpL_self r
  rcases Nat.lt_or_ge i k with c | c
  · have := hlow i r c hi; omega
  · have := h2 i r c hi; omega
theorem insVL_fits {w : World} {us : List Value} {K : List (List (List UInt8))} {r : List (List UInt8)} {x : Value} (h : us.length = K.length ∧ ∀ (i : Nat) (y : Value) (q : List (List UInt8)), us[i]? = some y → K[i]? = some q → Strs w y q) (hx : Strs w x r) :
    (insVL us K r x).length = (insL K r).length ∧ ∀ (i : Nat) (y : Value) (q : List (List UInt8)), (insVL us K r x)[i]? = some y → (insL K r)[i]? = some q → Strs w y q := by
  unfold insVL insL
  by_cases hm : r ∈ K
  · rw [if_pos hm, if_pos hm]; exact h
  · rw [if_neg hm, if_neg hm]
    have ha := aheadL_le K r
    generalize aheadL K r = a at *
    have l1 : (us.take a).length = a := by simp; omega
    have l2 : (K.take a).length = a := by simp; omega
    refine ⟨by simp; omega, fun i y q hy hq => ?_⟩
    rcases Nat.lt_trichotomy i a with c | c | c
    · rw [List.getElem?_append_left (by omega), List.getElem?_take_of_lt c] at hy hq
      exact h.2 i y q hy hq
    · subst c
      rw [List.getElem?_append_right (by omega)] at hy hq
      rw [l1, Nat.sub_self] at hy
      rw [l2, Nat.sub_self] at hq
      simp at hy hq
      subst hy hq
      exact hx
    · rw [List.getElem?_append_right (by omega)] at hy hq
      rw [l1] at hy
      rw [l2] at hq
      obtain ⟨d, hd⟩ : ∃ d, i - a = d + 1 := ⟨i - a - 1, by omega⟩
      rw [hd, List.getElem?_cons_succ, List.getElem?_drop] at hy hq
      exact h.2 (a + d) y q hy hq
end Go.Proofs.YtaeloanlllaphaaDoor
