/-
  An argument that is a relation, opened; what it weighs.
-/
import Derived.Test.YtnnldpccagajbaaDoorArgs
import Derived.Test.YtnnldpccagajbaaDoorPlace
import Derived.Deep.Slices
import Derived.Lib.SmallJoins
namespace Go.Proofs.YtnnldpccagajbaaDoor
open Go.ChangeShapes Go.WideShapes Go.ChangeAt Go.RowKit
set_option linter.unusedVariables false
set_option maxRecDepth 100000
theorem cells_row : Tryd.prog.cellsOf 35 = 1 := by kernel_rfl
theorem bulk_mem {H : Type} (l : List (DataW H)) (d : DataW H) (h : d ∈ l) : Rows.uptoBulk d ≤ Rows.uptoBulkAll l := by
  induction l with
  | nil => simp at h
  | cons x l ih =>
    simp only [Rows.uptoBulkAll]
    rcases List.mem_cons.1 h with rfl | h
    · omega
    · have := ih h; omega
theorem strs_trod {H : Type} {enc : TypeId × Value → H} {W : World} {fuel : Nat} {x : Value} {y : DataW H × List MemPlace}
    (hf : DataW.trod enc Tryd.prog W 0 (fun _ => true) true fuel 35 [x] = some y) :
    ∃ l : List (List UInt8), Strs W x l ∧ l.length ≤ Rows.uptoBulk y.1 := by
  rcases open_strings Tryd.underlying35 Tryd.underlying9 cells_string hf with ⟨hcs, rfl⟩ | ⟨a, len, cap, ss, hcs, _, hl, hm, hz, rfl, hcell, hws⟩
  · cases hcs
    exact ⟨[], ⟨none, 0, rfl, Or.inl ⟨rfl, fun _ => rfl⟩⟩, by simp⟩
  · cases hcs
    simp only [if_true] at hz
    have hlen : ((ss.take len).map fun s => s.data.toList).length = len := by simp; omega
    have hs1 : (strs (H := H) (ss.take len)).length = len := by unfold strs; simp; omega
    refine ⟨(ss.take len).map fun s => s.data.toList, ⟨some a, cap, by rw [hlen], ?_⟩, ?_⟩
    · by_cases h0 : len = 0
      · subst h0; exact Or.inl ⟨by simp, fun h => by cases h⟩
      · have c0 := hcell 0 (by omega)
        have ha : a = ⟨a.block, a.off, none⟩ := by
          have := addr_plain c0
          cases a
          simp only [Addr.add] at this
          simp_all
        right
        refine ⟨a.block, a.off, by rw [← ha], fun i x hx => ?_⟩
        have hi : i < len := by
          rcases Nat.lt_or_ge i len with h | h
          · exact h
          · rw [List.getElem?_eq_none (by rw [hlen]; exact h)] at hx; cases hx
        have ci := hcell i (by omega)
        have hx2 : (ss.getD i ByteArray.empty) = str x := by
          rw [List.getElem?_map, List.getElem?_take_of_lt hi] at hx
          have his : i < ss.length := by omega
          rw [List.getElem?_eq_getElem his] at hx
          simp only [Option.map_some, Option.some.injEq] at hx
          rw [← hx, str_data]
          simp [List.getD, List.getElem?_eq_getElem his]
        have hadd : a.add i = ⟨a.block, a.off + i, none⟩ := by
          conv => lhs; rw [ha]
          exact add_plain _ _ _
        rw [← hx2, ← ci, hadd]
    · rw [hlen]
      have := bulk_len (strs (H := H) (ss.take len))
      rw [hs1] at this
      simp only [Rows.uptoBulk]; omega
theorem choose_row {W : World} {B : Nat} (V : Nat → Value) (n : Nat) (h : ∀ i, i < n → ∃ l : List (List UInt8), Strs W (V i) l ∧ l.length ≤ B) :
    ∃ rows : List (List (List UInt8)), rows.length = n ∧ (∀ (i : Nat) (r : List (List UInt8)), rows[i]? = some r → Strs W (V i) r) ∧ ∀ r ∈ rows, r.length ≤ B := by
  induction n with
  | zero => exact ⟨[], rfl, fun i r hr => by simp at hr, by simp⟩
  | succ n ih =>
    obtain ⟨rows, h1, h2, h3⟩ := ih (fun i hi => h i (by omega))
    obtain ⟨l, hl, hb⟩ := h n (by omega)
    refine ⟨rows ++ [l], by simp [h1], fun i r hr => ?_, fun r hr => ?_⟩
    · rcases Nat.lt_or_ge i rows.length with c | c
      · rw [List.getElem?_append_left c] at hr; exact h2 i r hr
      · rw [List.getElem?_append_right c] at hr
        have : i - rows.length = 0 := by
          rcases Nat.eq_zero_or_pos (i - rows.length) with z | z
          · exact z
          · rw [List.getElem?_eq_none (by simp; omega)] at hr; cases hr
        rw [this] at hr
        simp at hr
        subst hr
        obtain rfl : i = n := by omega
        exact hl
    · rcases List.mem_append.1 hr with hr | hr
      · exact h3 r hr
      · simp at hr; subst hr; exact hb
theorem rows_trod {H : Type} {enc : TypeId × Value → H} {W : World} {fuel : Nat} {rv : Value} {y : DataW H × List MemPlace}
    (hf : DataW.trod enc Tryd.prog W 0 (fun _ => true) true fuel 22 [rv] = some y) :
    ∃ (vs : List Value) (rows : List (List (List UInt8))), Rows2 W rv vs rows ∧ rows.length ≤ Rows.uptoBulk y.1 ∧ ∀ r ∈ rows, r.length ≤ Rows.uptoBulk y.1 := by
  rcases Go.Deep.open_slice1 Tryd.underlying22 cells_row hf with ⟨hcs, rfl⟩ | ⟨a, len, cap, m, n, V, D, Pl, hcs, hb, hl, hm, hmm, rfl, hx⟩
  · cases hcs
    exact ⟨[], [], ⟨⟨none, 0, rfl, Or.inl ⟨rfl, fun _ => rfl⟩⟩, rfl, fun i x r hx => by simp at hx⟩, by simp, by simp⟩
  · cases hcs
    simp only [if_true] at hmm
    have hmm' := hmm.symm
    subst hmm'
    have hB : ∀ i, i < len → Rows.uptoBulk (D i) ≤ Rows.uptoBulkAll ((List.range len).map D) := fun i hi => bulk_mem _ _ (List.mem_map.2 ⟨i, List.mem_range.2 hi, rfl⟩)
    obtain ⟨rows, h1, h2, h3⟩ := choose_row (W := W) (B := Rows.uptoBulkAll ((List.range len).map D)) V len (fun i hi => by
      obtain ⟨l, hs, hbk⟩ := strs_trod (hx i (by omega)).2
      exact ⟨l, hs, Nat.le_trans hbk (hB i hi)⟩)
    have hbl := bulk_len ((List.range len).map D)
    simp only [List.length_map, List.length_range] at hbl
    refine ⟨(List.range len).map V, rows, ⟨⟨some a, cap, by simp, ?_⟩, by simp [h1], fun i x r hx' hr => ?_⟩, by simp only [Rows.uptoBulk]; omega, fun r hr => by have := h3 r hr; simp only [Rows.uptoBulk]; omega⟩
    · by_cases h0 : len = 0
      · subst h0; exact Or.inl ⟨by simp, fun h => by cases h⟩
      · have c0 := (hx 0 (by omega)).1
        have ha : a = ⟨a.block, a.off, none⟩ := by
          have := addr_plain c0
          cases a
          simp only [Addr.add] at this
          simp_all
        right
        refine ⟨a.block, a.off, by rw [← ha], fun i x hx' => ?_⟩
        have hi : i < len := by
          rcases Nat.lt_or_ge i len with h | h
          · exact h
          · rw [List.getElem?_eq_none (by simpa using h)] at hx'; cases hx'
        have ci := (hx i (by omega)).1
        have hadd : a.add i = ⟨a.block, a.off + i, none⟩ := by
          conv => lhs; rw [ha]
          exact add_plain _ _ _
        rw [List.getElem?_map, List.getElem?_range hi] at hx'
        cases hx'
        rw [← hadd]; exact ci
    · have hi : i < len := by
        rcases Nat.lt_or_ge i len with h | h
        · exact h
        · rw [List.getElem?_eq_none (by simpa using h)] at hx'; cases hx'
      rw [List.getElem?_map, List.getElem?_range hi] at hx'
      cases hx'
      exact h2 i r hr
theorem arg_rel {H : Type} {enc : TypeId × Value → H} {W : World} {base : Nat} {v : Value} {d : DataW H} {p : List MemPlace}
    (hv : Value.okWide Tryd.prog W .any base 24 v) (h : DataW.Trod enc Tryd.prog W 0 (fun _ => true) true 24 v d p) :
    ∃ (name : ByteArray) (ar : Int) (rv : Value) (vs : List Value) (rows : List (List (List UInt8))), v = .agg #[.string name, .int .i64 ar, rv] ∧ Rows2 W rv vs rows ∧ name.size ≤ Rows.uptoBulk d ∧ rows.length ≤ Rows.uptoBulk d ∧ (∀ r ∈ rows, r.length ≤ Rows.uptoBulk d) ∧ -9223372036854775808 ≤ ar ∧ ar ≤ 9223372036854775807 := by
  obtain ⟨v0, v1, v2, y0, y1, y2, n, rfl, rfl, rfl, t0, t1, t2⟩ := Joins.open_agg3 Tryd.underlying24 (by kernel_rfl) (by kernel_rfl) hv h
  obtain ⟨s, hs, rfl, hsz⟩ := DataW.trod_string Tryd.underlying9 t0
  cases hs
  obtain ⟨ar, har, rfl, hwf⟩ := DataW.trod_int Tryd.underlying3 t1
  cases har
  obtain ⟨vs, rows, hr, hl, hr2⟩ := rows_trod t2
  obtain ⟨b1, b2⟩ := bounds_i64 hwf
  have hb0 : Rows.uptoBulk (DataW.lit (H := H) (.string s.data.toList)) = s.size + 1 := by rw [bulk_string]; simp
  refine ⟨s, ar, v2, vs, rows, rfl, hr, ?_, ?_, fun r hr' => ?_, b1, b2⟩
  · simp only [Rows.uptoBulk, Rows.uptoBulkAll] at hb0 ⊢; omega
  · simp only [Rows.uptoBulk, Rows.uptoBulkAll]; omega
  · have := hr2 r hr'
    simp only [Rows.uptoBulk, Rows.uptoBulkAll]; omega
end Go.Proofs.YtnnldpccagajbaaDoor
