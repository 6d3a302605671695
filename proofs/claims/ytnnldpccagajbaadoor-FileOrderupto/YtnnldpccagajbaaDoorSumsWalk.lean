/-
  A3's two laws, out of a contract for the program's Sum. T: what of the world the contract leans on (a table at package level, if there is one).
-/
import Derived.Test.YtnnldpccagajbaaDoorRefSum
import Derived.Test.YtnnldpccagajbaaDoorTurned
namespace Go.Proofs.YtnnldpccagajbaaDoor
open Go.ChangeShapes Go.WideShapes Go.ChangeAt Go.RowKit
set_option linter.unusedVariables false
/-- the program's Sum answers the document's; what it leans on stays where old memory stays -/
structure SumSaid (T : World → Prop) : Prop where
  kept : ∀ w w' : World, T w → Below w.heap.size w w' → T w'
  call : ∀ (s : ByteArray) (w : World), s.size ≤ 140737488355328 → T w → Calls Tryd.prog 31 #[.string s] w fun e w' => e = .returned (.string (str (Crc.sum s.data.toList))) ∧ Below w.heap.size w w'
theorem turned_bool (s : ByteArray) (l : List UInt8) (f : Nat) (h : Near s.data.toList l f 32) (hf : f ≤ 8 * s.size) :
    (((str (Crc.sum s.data.toList)).toList == (str (Crc.sum (str l).data.toList)).toList) == ((str l).toList == s.toList)) = true := by
  rw [toList_str, toList_str, toList_str, toList_of, data_str]
  obtain ⟨h1, M, h2, h3⟩ := h
  by_cases e : l = s.data.toList
  · subst e; simp
  · have hne : ¬ Crc.sum s.data.toList = Crc.sum l := fun h => e (Crc.sum_turned _ _ M f h1.symm h2 (by simpa using hf) h3 h).symm
    have a1 : (Crc.sum s.data.toList == Crc.sum l) = false := by simp [hne]
    have a2 : (l == s.data.toList) = false := by simp [e]
    rw [a1, a2]; rfl
end Go.Proofs.YtnnldpccagajbaaDoor
