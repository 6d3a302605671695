/-
  Pick and Join in plain lists. Nothing of the program.
-/
import Derived.Test.YtaeloanlllaphaaDoorSortL
namespace Go.Proofs.YtaeloanlllaphaaDoor
set_option linter.unusedVariables false
/-- has a row that column? -/
def goodC (row : List (List UInt8)) (c : Int) : Bool := decide (0 ≤ c) && decide (c < row.length)
def atC (row : List (List UInt8)) (c : Int) : List UInt8 := row.getD c.toNat []
/-- the texts in columns, if the row has all of these -/
def takeL (row : List (List UInt8)) (cols : List Int) : Option (List (List UInt8)) := if cols.all (goodC row) then some (cols.map (atC row)) else none
/-- do two rows go together? -/
def goes (a b : List (List UInt8)) (on : List (Int × Int)) : Bool := on.all fun p => goodC a p.1 && goodC b p.2 && (atC a p.1 == atC b p.2)
theorem goes_iff (a b : List (List UInt8)) (on : List (Int × Int)) : goes a b on = true ↔ ∃ t, takeL a (on.map (·.1)) = some t ∧ takeL b (on.map (·.2)) = some t := by
  unfold goes takeL
  constructor
  · intro h
    rw [List.all_eq_true] at h
    have h1 : (on.map (·.1)).all (goodC a) = true := by
      rw [List.all_eq_true]
      intro c hc
      obtain ⟨p, hp, rfl⟩ := List.mem_map.1 hc
      have := h p hp
      simp only [Bool.and_eq_true] at this
      exact this.1.1
    have h2 : (on.map (·.2)).all (goodC b) = true := by
      rw [List.all_eq_true]
      intro c hc
      obtain ⟨p, hp, rfl⟩ := List.mem_map.1 hc
      have := h p hp
      simp only [Bool.and_eq_true] at this
      exact this.1.2
    refine ⟨(on.map (·.1)).map (atC a), by rw [if_pos h1], ?_⟩
    rw [if_pos h2]
    congr 1
    rw [List.map_map, List.map_map]
    apply List.map_congr_left
    intro p hp
    have := h p hp
    simp only [Bool.and_eq_true, beq_iff_eq] at this
    exact this.2.symm
  · rintro ⟨t, h1, h2⟩
    split at h1
    · rename_i g1
      split at h2
      · rename_i g2
        rw [List.all_eq_true] at g1 g2 ⊢
        have e := Option.some.inj (h1.trans h2.symm)
        rw [List.map_map, List.map_map] at e
        intro p hp
        have e2 := List.map_inj_left.1 e p hp
        simp only [Function.comp_apply] at e2
        rw [g1 _ (List.mem_map.2 ⟨p, hp, rfl⟩), g2 _ (List.mem_map.2 ⟨p, hp, rfl⟩), e2]
        simp
      · cases h2
    · cases h1
theorem takeL_len (row : List (List UInt8)) (cols : List Int) (t : List (List UInt8)) (h : takeL row cols = some t) : t.length = cols.length := by
  unfold takeL at h
  split at h
  · cases h; simp
  · cases h
theorem atC_mem (row : List (List UInt8)) (c : Int) (h : goodC row c = true) : atC row c ∈ row := by
  unfold goodC at h
  simp only [Bool.and_eq_true, decide_eq_true_eq] at h
  unfold atC
  rw [List.getD, List.getElem?_eq_getElem (by omega)]
  exact List.getElem_mem _
theorem takeL_mem (row : List (List UInt8)) (cols : List Int) (t : List (List UInt8)) (h : takeL row cols = some t) : ∀ x ∈ t, x ∈ row := by
  unfold takeL at h
  split at h
  · rename_i g
    cases h
    rw [List.all_eq_true] at g
    intro x hx
    obtain ⟨c, hc, rfl⟩ := List.mem_map.1 hx
    exact atC_mem row c (g c hc)
  · cases h
/-- the document's Pick and Join -/
def pickL (a : List (List (List UInt8))) (cols : List Int) : List (List (List UInt8)) := sortL (a.filterMap fun r => takeL r cols)
/-- a row with each of those that go with it -/
def withL (r : List (List UInt8)) (b : List (List (List UInt8))) (on : List (Int × Int)) : List (List (List UInt8)) := (b.filter fun s => goes r s on).map (r ++ ·)
def joinL (a b : List (List (List UInt8))) (on : List (Int × Int)) : List (List (List UInt8)) := sortL (a.flatMap fun r => withL r b on)
theorem mem_withL (r x : List (List UInt8)) (b : List (List (List UInt8))) (on : List (Int × Int)) : x ∈ withL r b on ↔ ∃ s ∈ b, goes r s on = true ∧ x = r ++ s := by
  unfold withL
  rw [List.mem_map]
  constructor
  · rintro ⟨s, hs, rfl⟩
    obtain ⟨h1, h2⟩ := List.mem_filter.1 hs
    exact ⟨s, h1, h2, rfl⟩
  · rintro ⟨s, h1, h2, rfl⟩
    exact ⟨s, List.mem_filter.2 ⟨h1, h2⟩, rfl⟩
theorem mem_joinL (a b : List (List (List UInt8))) (on : List (Int × Int)) (x : List (List UInt8)) : x ∈ joinL a b on ↔ ∃ r ∈ a, ∃ s ∈ b, goes r s on = true ∧ x = r ++ s := by
  unfold joinL
  rw [mem_sortL, List.mem_flatMap]
  constructor
  · rintro ⟨r, hr, hx⟩
    exact ⟨r, hr, (mem_withL r x b on).1 hx⟩
  · rintro ⟨r, hr, hx⟩
    exact ⟨r, hr, (mem_withL r x b on).2 hx⟩
/-- the program's way: the partners that have the same texts in their columns -/
def partnersL (b : List (List (List UInt8))) (cols : List Int) (t : List (List UInt8)) : List (List (List UInt8)) := b.filter fun s => takeL s cols == some t
def withP (r : List (List UInt8)) (b : List (List (List UInt8))) (on : List (Int × Int)) : List (List (List UInt8)) := match takeL r (on.map (·.1)) with
  | none => []
  | some t => (partnersL b (on.map (·.2)) t).map (r ++ ·)
theorem withP_eq (r : List (List UInt8)) (b : List (List (List UInt8))) (on : List (Int × Int)) : withP r b on = withL r b on := by
  unfold withP withL partnersL
  cases h : takeL r (on.map (·.1)) with
  | none =>
    rw [List.filter_eq_nil_iff.2 (fun s hs hg => by
      obtain ⟨t, h1, _⟩ := (goes_iff r s on).1 hg
      rw [h] at h1; cases h1)]
    rfl
  | some t =>
    simp only
    congr 1
    apply List.filter_congr
    intro s hs
    rw [Bool.eq_iff_iff, beq_iff_eq, goes_iff, h]
    constructor
    · intro h2; exact ⟨t, rfl, h2⟩
    · rintro ⟨t', h1, h2⟩
      cases h1; exact h2
theorem join_sorted (a b : List (List (List UInt8))) (on : List (Int × Int)) : sortL ((sortL a).flatMap fun r => withP r (sortL b) on) = joinL a b on := by
  refine sortL_same _ _ (fun x => ?_)
  rw [List.mem_flatMap, List.mem_flatMap]
  constructor
  · rintro ⟨r, hr, hx⟩
    rw [withP_eq, mem_withL] at hx
    obtain ⟨s, hs, hg, rfl⟩ := hx
    exact ⟨r, (mem_sortL a r).1 hr, (mem_withL r _ b on).2 ⟨s, (mem_sortL b s).1 hs, hg, rfl⟩⟩
  · rintro ⟨r, hr, hx⟩
    rw [mem_withL] at hx
    obtain ⟨s, hs, hg, rfl⟩ := hx
    exact ⟨r, (mem_sortL a r).2 hr, by rw [withP_eq, mem_withL]; exact ⟨s, (mem_sortL b s).2 hs, hg, rfl⟩⟩
theorem flat_len (A : List (List (List UInt8))) (f : List (List UInt8) → List (List (List UInt8))) (n : Nat) (h : ∀ r ∈ A, (f r).length ≤ n) : (A.flatMap f).length ≤ A.length * n := by
  induction A with
  | nil => simp
  | cons r A ih =>
    have h1 := h r (by simp)
    have h2 := ih (fun x hx => h x (by simp [hx]))
    rw [List.flatMap_cons, List.length_append, List.length_cons, Nat.add_mul, Nat.one_mul]; omega
theorem withP_len (r : List (List UInt8)) (b : List (List (List UInt8))) (on : List (Int × Int)) : (withP r b on).length ≤ b.length := by
  rw [withP_eq]
  unfold withL
  rw [List.length_map]; exact List.length_filter_le _ _
end Go.Proofs.YtaeloanlllaphaaDoor
