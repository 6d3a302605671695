/-
  Chapter 2 in plain words of lists, more: texts read loosely, as the program reads them. Nothing of the program.
-/
import Derived.Test.YtiinohajdibflaaTexts
namespace Go.Proofs.Ytiinohajdibflaa
/-- texts read one behind the other, none of more than 200 bytes -/
def loose : Nat → List UInt8 → List UInt8 → Option (List (List UInt8))
  | 0, _, _ => some []
  | n + 1, p, d => match rd d with
    | none => none
    | some (head, d1) => match rd d1 with
      | none => none
      | some (rest, d2) => if d2.length < rest then none else if p.length < head then none else if 200 < head + rest then none else match loose n (p.take head ++ d2.take rest) (d2.drop rest) with
        | none => none
        | some l => some ((p.take head ++ d2.take rest) :: l)
theorem rd_shrinks (d d1 : List UInt8) (n : Nat) (h : rd d = some (n, d1)) : d1.length < d.length := by
  unfold rd at h
  split at h
  · cases h
  · rename_i n' k hu
    cases h
    have := uv_len _ _ _ _ _ hu
    rw [List.length_drop]; omega
theorem parse_count (n : Nat) (p d : List UInt8) (l : List (List UInt8)) (h : parse n p d = some l) : n ≤ d.length := by
  induction n generalizing p d l with
  | zero => omega
  | succ n ih =>
    rw [parse] at h
    split at h
    · cases h
    · rename_i head d1 h1
      have s1 := rd_shrinks _ _ _ h1
      split at h
      · cases h
      · split at h
        · cases h
        · rename_i rest d2 h2
          have s2 := rd_shrinks _ _ _ h2
          split at h
          · cases h
          · split at h
            · cases h
            · rename_i l' h3
              have := ih _ _ _ h3
              rw [List.length_drop] at this
              omega
theorem loose_some (n : Nat) (p d : List UInt8) (l : List (List UInt8)) (h : loose n p d = some l) : parse n p d = some l := by
  induction n generalizing p d l with
  | zero => simpa [loose, parse] using h
  | succ n ih =>
    rw [loose] at h
    split at h
    · cases h
    · rename_i head d1 h1
      split at h
      · cases h
      · rename_i rest d2 h2
        split at h
        · cases h
        · rename_i c1
          split at h
          · cases h
          · rename_i c2
            split at h
            · cases h
            · split at h
              · cases h
              · rename_i l' h3
                rw [parse, h1]
                simp only
                rw [if_neg c2, h2]
                simp only
                rw [if_neg c1, ih _ _ _ h3]
                exact h
theorem loose_none (n : Nat) (p d : List UInt8) (l : List (List UInt8)) (h : loose n p d = none) (hp : parse n p d = some l) : ∃ t ∈ l, 200 < t.length := by
  induction n generalizing p d l with
  | zero => simp [loose] at h
  | succ n ih =>
    rw [parse] at hp
    split at hp
    · cases hp
    · rename_i head d1 h1
      split at hp
      · cases hp
      · rename_i c2
        split at hp
        · cases hp
        · rename_i rest d2 h2
          split at hp
          · cases hp
          · rename_i c1
            rw [loose, h1] at h
            simp only [h2, if_neg c1, if_neg c2] at h
            split at hp
            · cases hp
            · rename_i l' h3
              cases hp
              split at h
              · rename_i c3
                refine ⟨_, List.mem_cons_self, ?_⟩
                rw [List.length_append, List.length_take, List.length_take]; omega
              · split at h
                · rename_i h4
                  obtain ⟨t, ht, h5⟩ := ih _ _ _ h4 h3
                  exact ⟨t, List.mem_cons_of_mem _ ht, h5⟩
                · cases h
theorem loose_step (s : ByteArray) (n p head k1 rest k2 : Nat) (ah : List UInt8) (h1 : uv 0 0 (from_ s p) = some (head, k1)) (h2 : head ≤ ah.length)
    (h3 : uv 0 0 (from_ s (p + k1)) = some (rest, k2)) (h4 : rest + (p + k1 + k2) ≤ s.size) (h5 : head + rest ≤ 200) :
    loose (n + 1) ah (from_ s p) = (loose n (ah.take head ++ (from_ s (p + k1 + k2)).take rest) (from_ s (p + k1 + k2 + rest))).map ((ah.take head ++ (from_ s (p + k1 + k2)).take rest) :: ·) := by
  rw [loose, rd_some s p head k1 h1]
  simp only
  rw [rd_some s (p + k1) rest k2 h3]
  simp only
  rw [if_neg (by rw [from_len]; omega), if_neg (by omega), if_neg (by omega), from_drop]
  cases loose n (ah.take head ++ (from_ s (p + k1 + k2)).take rest) (from_ s (p + k1 + k2 + rest)) <;> rfl
theorem loose_none1 (s : ByteArray) (n p : Nat) (ah : List UInt8) (h1 : uv 0 0 (from_ s p) = none) : loose (n + 1) ah (from_ s p) = none := by
  rw [loose, rd_none s p h1]
theorem loose_none2 (s : ByteArray) (n p head k1 : Nat) (ah : List UInt8) (h1 : uv 0 0 (from_ s p) = some (head, k1)) (h3 : uv 0 0 (from_ s (p + k1)) = none) : loose (n + 1) ah (from_ s p) = none := by
  rw [loose, rd_some s p head k1 h1]; simp only
  rw [rd_none s _ h3]
theorem loose_none3 (s : ByteArray) (n p head k1 rest k2 : Nat) (ah : List UInt8) (h1 : uv 0 0 (from_ s p) = some (head, k1))
    (h3 : uv 0 0 (from_ s (p + k1)) = some (rest, k2)) (h4 : s.size - (p + k1 + k2) < rest ∨ ah.length < head ∨ 200 < head + rest) : loose (n + 1) ah (from_ s p) = none := by
  rw [loose, rd_some s p head k1 h1]; simp only
  rw [rd_some s (p + k1) rest k2 h3]; simp only
  rw [from_len]
  split
  · rfl
  · split
    · rfl
    · split
      · rfl
      · omega
theorem open_loose (s : ByteArray) (n k : Nat) (h : uv 0 0 (from_ s 0) = some (n, k)) :
    open_ s.data.toList = match loose n [] (from_ s k) with | none => none | some l => if build l = (s.data.toList, 0, 0) then some l else none := by
  by_cases hn : s.size < n
  · rw [open_none2 s n k h hn]
    cases hl : loose n [] (from_ s k) with
    | none => rfl
    | some l =>
      have := parse_count _ _ _ _ (loose_some _ _ _ _ hl)
      rw [from_len] at this
      omega
  · rw [open_of s n k h (by omega)]
    cases hl : loose n [] (from_ s k) with
    | some l => rw [loose_some _ _ _ _ hl]
    | none =>
      cases hp : parse n [] (from_ s k) with
      | none => rfl
      | some l =>
        simp only
        obtain ⟨t, ht, h2⟩ := loose_none _ _ _ _ hl hp
        rw [if_neg]
        intro hb
        have hg : good none l = true := (build_ok l).1 (by rw [hb])
        have := good_len l none hg t ht
        omega
end Go.Proofs.Ytiinohajdibflaa
