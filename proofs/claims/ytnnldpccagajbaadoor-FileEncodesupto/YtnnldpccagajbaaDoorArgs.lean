/-
  Arguments that are lists of texts, opened; what they weigh.
-/
import Derived.Test.YtnnldpccagajbaaDoorLists
import Derived.ShutString
import Derived.ChangeOld
import Derived.SizedLaws
import Derived.SliceStrings
import Derived.Deep.CondSized
namespace Go.Proofs.YtnnldpccagajbaaDoor
open Go.ChangeShapes Go.WideShapes Go.ChangeAt Go.RowKit
set_option linter.unusedVariables false
set_option maxRecDepth 100000
theorem cells_string : Tryd.prog.cellsOf 9 = 1 := by kernel_rfl
theorem bytes_string : Tryd.prog.bytesOf 9 = 16 := by kernel_rfl
theorem laidOut : laidOutB Tryd.prog = true := by kernel_rfl
theorem bulk_pos {H : Type} (d : DataW H) : 1 ≤ Rows.uptoBulk d := by
  cases d with
  | lit x => cases x <;> simp [Rows.uptoBulk]
  | _ => simp [Rows.uptoBulk]
theorem bulk_len {H : Type} (l : List (DataW H)) : l.length ≤ Rows.uptoBulkAll l := by
  induction l with
  | nil => simp
  | cons d l ih => have := bulk_pos d; simp only [List.length_cons, Rows.uptoBulkAll]; omega
theorem bulk_bound {H : Type} {l : List (DataW H)} (h : Rows.uptoSmall H l = true) : Rows.uptoBulkAll l ≤ 1048576 := of_decide_eq_true h
theorem bulk_string {H : Type} (s : List UInt8) : Rows.uptoBulk (DataW.lit (H := H) (.string s)) = s.length + 1 := by simp [Rows.uptoBulk]
theorem addr_plain {w : World} {a : Addr} {v : Value} (h : w.cell? a = some v) : a = ⟨a.block, a.off, none⟩ := by
  have := World.cell?_spot h
  cases a; simp_all
theorem add_plain (b off i : Nat) : (⟨b, off, none⟩ : Addr).add i = ⟨b, off + i, none⟩ := by unfold Addr.add; split <;> simp_all
theorem arg_strs {H : Type} {enc : TypeId × Value → H} {W : World} {base : Nat} {v : Value} {d : DataW H} {p : List MemPlace}
    (hv : Value.okWide Tryd.prog W .any base 35 v) (h : DataW.Trod enc Tryd.prog W 0 (fun _ => true) true 35 v d p) :
    ∃ l : List (List UInt8), Strs W v l ∧ l.length ≤ Rows.uptoBulk d ∧ ((∃ elems spare, d = .slice elems spare ∧ l.length = elems.length) ∨ l = []) := by
  obtain ⟨a0, len, cap, rfl⟩ := okWide_slice Tryd.underlying35 hv
  obtain ⟨fuel, hf⟩ := h
  rcases open_strings Tryd.underlying35 Tryd.underlying9 cells_string hf with ⟨hcs, hx⟩ | ⟨a, len', cap', ss, hcs, _, hl, hm, hz, hx, hcell, hws⟩
  · simp [Value.cells] at hcs
    obtain ⟨rfl, rfl, rfl⟩ := hcs
    exact ⟨[], ⟨none, 0, rfl, Or.inl ⟨rfl, fun _ => rfl⟩⟩, by simp, Or.inr rfl⟩
  · simp [Value.cells] at hcs
    obtain ⟨rfl, rfl, rfl⟩ := hcs
    simp only [Prod.mk.injEq] at hx
    obtain ⟨rfl, rfl⟩ := hx
    simp only [if_true] at hz
    have hlen : ((ss.take len).map fun s => s.data.toList).length = len := by simp; omega
    have hs1 : (strs (H := H) (ss.take len)).length = len := by unfold strs; simp; omega
    refine ⟨(ss.take len).map fun s => s.data.toList, ⟨some a, cap, by rw [hlen], ?_⟩, ?_, Or.inl ⟨_, _, rfl, by rw [hlen, hs1]⟩⟩
    · by_cases h0 : len = 0
      · subst h0; exact Or.inl ⟨by simp, fun h => by cases h⟩
      · have c0 := hcell 0 (by omega)
        have ha : a = ⟨a.block, a.off, none⟩ := by
          have := addr_plain c0
          cases a
          simp only [Addr.add] at this
          simp_all
        right
        refine ⟨a.block, a.off, by rw [← ha], fun i x hx => ?_⟩
        have hi : i < len := by
          rcases Nat.lt_or_ge i len with h | h
          · exact h
          · rw [List.getElem?_eq_none (by rw [hlen]; exact h)] at hx; cases hx
        have ci := hcell i (by omega)
        have hx2 : (ss.getD i ByteArray.empty) = str x := by
          rw [List.getElem?_map, List.getElem?_take_of_lt hi] at hx
          have his : i < ss.length := by omega
          rw [List.getElem?_eq_getElem his] at hx
          simp only [Option.map_some, Option.some.injEq] at hx
          rw [← hx, str_data]
          simp [List.getD, List.getElem?_eq_getElem his]
        have hadd : a.add i = ⟨a.block, a.off + i, none⟩ := by
          conv => lhs; rw [ha]
          exact add_plain _ _ _
        rw [← hx2, ← ci, hadd]
    · rw [hlen]
      have := bulk_len (strs (H := H) (ss.take len))
      rw [hs1] at this
      simp only [Rows.uptoBulk]; omega
end Go.Proofs.YtnnldpccagajbaaDoor
