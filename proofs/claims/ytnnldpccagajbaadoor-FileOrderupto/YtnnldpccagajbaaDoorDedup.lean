/-
  Sorted rows without those that come twice: in plain lists. Nothing of the program.
-/
import Derived.Test.YtnnldpccagajbaaDoorTidies
namespace Go.Proofs.YtnnldpccagajbaaDoor
/-- of the first k pairs those whose row differs from the one ahead -/
def dk (ps : List (Value × List (List UInt8))) : Nat → List (Value × List (List UInt8))
  | 0 => []
  | k + 1 => match ps[k]? with
    | none => dk ps k
    | some y => if 0 < k ∧ (ps[k - 1]?).map (·.2) = some y.2 then dk ps k else dk ps k ++ [y]
theorem dk_same (ps : List (Value × List (List UInt8))) (k : Nat) (x y : Value × List (List UInt8)) (h0 : 0 < k) (hx : ps[k - 1]? = some x) (hy : ps[k]? = some y) (h : y.2 = x.2) : dk ps (k + 1) = dk ps k := by
  rw [dk, hy]; simp only; rw [if_pos ⟨h0, by rw [hx, h]; rfl⟩]
theorem dk_other (ps : List (Value × List (List UInt8))) (k : Nat) (x y : Value × List (List UInt8)) (hx : ps[k - 1]? = some x) (hy : ps[k]? = some y) (h : y.2 ≠ x.2) : dk ps (k + 1) = dk ps k ++ [y] := by
  rw [dk, hy]; simp only; rw [if_neg]
  intro ⟨_, e⟩
  rw [hx] at e
  simp at e
  exact h e.symm
theorem dk_one (ps : List (Value × List (List UInt8))) (y : Value × List (List UInt8)) (hy : ps[0]? = some y) : dk ps 1 = [y] := by
  rw [dk, hy]; simp [dk]
theorem dk_len (ps : List (Value × List (List UInt8))) (k : Nat) : (dk ps k).length ≤ k := by
  induction k with
  | zero => simp [dk]
  | succ k ih =>
    rw [dk]
    split
    · omega
    · split
      · omega
      · rw [List.length_append]; simp; omega
theorem dk_mem (ps : List (Value × List (List UInt8))) (k : Nat) : ∀ p ∈ dk ps k, ∃ i, i < k ∧ ps[i]? = some p := by
  induction k with
  | zero => simp [dk]
  | succ k ih =>
    intro p hp
    rw [dk] at hp
    split at hp
    · obtain ⟨i, hi, h⟩ := ih p hp; exact ⟨i, by omega, h⟩
    · rename_i y hy
      split at hp
      · obtain ⟨i, hi, h⟩ := ih p hp; exact ⟨i, by omega, h⟩
      · rcases List.mem_append.1 hp with hp | hp
        · obtain ⟨i, hi, h⟩ := ih p hp; exact ⟨i, by omega, h⟩
        · simp at hp; subst hp; exact ⟨k, by omega, hy⟩
theorem dk_all (ps : List (Value × List (List UInt8))) (k : Nat) : ∀ i p, i < k → ps[i]? = some p → ∃ q ∈ dk ps k, q.2 = p.2 := by
  induction k with
  | zero => intro i p hi; omega
  | succ k ih =>
    intro i p hi hp
    rw [dk]
    split
    · rename_i hn
      rcases Nat.lt_or_ge i k with c | c
      · exact ih i p c hp
      · obtain rfl : i = k := by omega
        rw [hn] at hp; cases hp
    · rename_i y hy
      split
      · rename_i hc
        rcases Nat.lt_or_ge i k with c | c
        · exact ih i p c hp
        · obtain rfl : i = k := by omega
          rw [hy] at hp
          cases hp
          obtain ⟨h0, h1⟩ := hc
          obtain ⟨x, hx, hxy⟩ := Option.map_eq_some_iff.1 h1
          obtain ⟨q, hq, hqx⟩ := ih (i - 1) x (by omega) hx
          exact ⟨q, hq, by rw [hqx, hxy]⟩
      · rcases Nat.lt_or_ge i k with c | c
        · obtain ⟨q, hq, h⟩ := ih i p c hp
          exact ⟨q, List.mem_append_left _ hq, h⟩
        · obtain rfl : i = k := by omega
          rw [hy] at hp
          cases hp
          exact ⟨p, by simp, rfl⟩
theorem not_less (m : Nat) (a b : List (List UInt8)) (ha : a.length = m) (hb : b.length = m) (h : ordR b a ≠ -1) : a = b ∨ ordR a b = -1 := by
  rcases ordR_tri a b with h1 | h1 | h1
  · exact Or.inr h1
  · exact Or.inl (ordR_eq a b (by omega) h1)
  · have := ordR_neg a b
    rw [h1] at this; exact absurd this h
theorem dk_rises (m : Nat) (ps : List (Value × List (List UInt8))) (hm : ∀ p ∈ ps, p.2.length = m) (hs : ∀ (i j : Nat) (a b : Value × List (List UInt8)), i < j → ps[i]? = some a → ps[j]? = some b → ordR b.2 a.2 ≠ -1) (k : Nat) : Rises m ((dk ps k).map (·.2)) := by
  induction k with
  | zero => simp [dk]; exact rises_nil m
  | succ k ih =>
    rw [dk]
    split
    · exact ih
    · rename_i y hy
      split
      · exact ih
      · rename_i hc
        rw [List.map_append]
        refine ⟨?_, ?_⟩
        · intro r hr
          rcases List.mem_append.1 hr with hr | hr
          · exact ih.1 r hr
          · simp at hr; subst hr; exact hm y (List.mem_of_getElem? hy)
        · intro i j a b hij ha hb
          have hl : ((dk ps k).map (·.2)).length = (dk ps k).length := by simp
          rcases Nat.lt_or_ge j (dk ps k).length with c | c
          · rw [List.getElem?_append_left (by omega)] at ha hb
            exact ih.2 i j a b hij ha hb
          · rw [List.getElem?_append_right (by omega)] at hb
            have hb' : b = y.2 := by
              have hj : j - ((dk ps k).map (·.2)).length = 0 := by
                rcases Nat.eq_zero_or_pos (j - ((dk ps k).map (·.2)).length) with z | z
                · exact z
                · rw [List.getElem?_eq_none (by simp; omega)] at hb; cases hb
              rw [hj] at hb
              simpa using hb.symm
            subst hb'
            rw [List.getElem?_append_left (by
              have : i < j := hij
              have : j ≤ (dk ps k).length := by
                rcases Nat.lt_or_ge (dk ps k).length j with z | z
                · rw [List.getElem?_eq_none (by simp; omega)] at hb; cases hb
                · exact z
              omega)] at ha
            rw [List.getElem?_map] at ha
            obtain ⟨q, hq, rfl⟩ := Option.map_eq_some_iff.1 ha
            obtain ⟨i', hi', hqi⟩ := dk_mem ps k q (List.mem_of_getElem? hq)
            have k0 : 0 < k := by omega
            have hkl : k < ps.length := (List.getElem?_eq_some_iff.1 hy).1
            have hx : ps[k - 1]? = some ps[k - 1] := List.getElem?_eq_getElem (by omega)
            have hym : y.2.length = m := hm y (List.mem_of_getElem? hy)
            have hxm : (ps[k - 1]).2.length = m := hm _ (List.getElem_mem _)
            have hqm : q.2.length = m := hm q (List.mem_of_getElem? hqi)
            have hxy : ordR (ps[k - 1]).2 y.2 = -1 := by
              rcases not_less m _ _ hxm hym (hs (k - 1) k _ _ (by omega) hx hy) with e | e
              · exact absurd ⟨k0, by rw [hx, ← e]; rfl⟩ hc
              · exact e
            rcases Nat.lt_or_ge i' (k - 1) with z | z
            · rcases not_less m _ _ hqm hxm (hs i' (k - 1) _ _ z hqi hx) with e | e
              · rw [e]; exact hxy
              · exact ordR_trans _ _ _ e hxy (by omega) (by omega)
            · obtain rfl : i' = k - 1 := by omega
              rw [hx] at hqi
              cases hqi
              exact hxy
/-- all pairs sorted and rid of twins: the document's rows -/
theorem dk_sortU (m : Nat) (ps : List (Value × List (List UInt8))) (rows : List (List (List UInt8))) (hm : ∀ p ∈ ps, p.2.length = m) (hs : ∀ (i j : Nat) (a b : Value × List (List UInt8)), i < j → ps[i]? = some a → ps[j]? = some b → ordR b.2 a.2 ≠ -1)
    (hr : ∀ r ∈ rows, r.length = m) (hmem : ∀ x, x ∈ ps.map (·.2) ↔ x ∈ rows) : (dk ps ps.length).map (·.2) = sortU rows := by
  refine (sortU_is m rows _ hr (dk_rises m ps hm hs _) (fun x => ?_)).symm
  rw [← hmem]
  constructor
  · intro h
    obtain ⟨q, hq, rfl⟩ := List.mem_map.1 h
    obtain ⟨i, _, hi⟩ := dk_mem ps _ q hq
    exact List.mem_map.2 ⟨q, List.mem_of_getElem? hi, rfl⟩
  · intro h
    obtain ⟨q, hq, rfl⟩ := List.mem_map.1 h
    obtain ⟨i, hi, rfl⟩ := List.getElem_of_mem hq
    obtain ⟨p, hp, e⟩ := dk_all ps ps.length i _ hi (List.getElem?_eq_getElem hi)
    exact List.mem_map.2 ⟨p, hp, e⟩
end Go.Proofs.YtnnldpccagajbaaDoor
