/-
  Which texts are names: in plain lists, and the document's IsName, walked.
-/
import Derived.Test.YtaeloanlllaphaaDoorBase
namespace Go.Proofs.YtaeloanlllaphaaDoor
open Go.ChangeShapes Go.WideShapes Go.ChangeAt Go.RowKit
set_option linter.unusedVariables false
def smallB (c : UInt8) : Bool := decide (97 ≤ c.toNat) && decide (c.toNat ≤ 122)
def wordB (c : UInt8) : Bool := smallB c || (decide (65 ≤ c.toNat) && decide (c.toNat ≤ 90)) || (decide (48 ≤ c.toNat) && decide (c.toNat ≤ 57)) || decide (c.toNat = 95)
def isName (s : List UInt8) : Bool := match s with
  | [] => false
  | c :: t => decide (s.length ≤ 30) && smallB c && !(s == [110, 111, 116]) && t.all wordB
theorem bool_eq {a b : Bool} (h : a = true ↔ b = true) : a = b := by cases a <;> cases b <;> simp_all
theorem name_step (l : List UInt8) (k : Nat) (c : UInt8) (hk : 1 ≤ k) (hc : l[k]? = some c) : (l.drop 1).take k = (l.drop 1).take (k - 1) ++ [c] := by
  obtain ⟨m, rfl⟩ : ∃ m, k = m + 1 := ⟨k - 1, by omega⟩
  have hl : m < (l.drop 1).length := by
    have : m + 1 < l.length := by
      rcases Nat.lt_or_ge (m + 1) l.length with h | h
      · exact h
      · rw [List.getElem?_eq_none h] at hc; cases hc
    simp; omega
  have he : (l.drop 1)[m]? = some c := by rw [List.getElem?_drop, Nat.add_comm]; exact hc
  rw [Nat.add_sub_cancel, List.take_succ_eq_append_getElem hl]
  rw [List.getElem?_eq_getElem hl] at he
  cases he; rfl
theorem name_of (s : ByteArray) (h0 : 0 < s.size) : isName s.data.toList = (decide (s.size ≤ 30) && smallB s[0] && !(s.data.toList == [110, 111, 116]) && (s.data.toList.drop 1).all wordB) := by
  have hl : 0 < s.data.toList.length := by simpa using h0
  have e : s.data.toList = s[0] :: s.data.toList.drop 1 := by
    conv => lhs; rw [← List.drop_zero (l := s.data.toList), List.drop_eq_getElem_cons hl]
    rfl
  have e2 : isName s.data.toList = isName (s[0] :: s.data.toList.drop 1) := by rw [← e]
  rw [e2, isName, ← e]
  simp
theorem name_get (s : ByteArray) (k : Nat) (h : k < s.size) : s.data.toList[k]? = some s[k] := by
  rw [List.getElem?_eq_getElem (by simpa using h)]; rfl
end Go.Proofs.YtaeloanlllaphaaDoor
