/-
  The document's Tidy, walked.
-/
import Derived.Test.YtaeloanlllaphaaDoorTidies
namespace Go.Proofs.YtaeloanlllaphaaDoor
open Go.ChangeShapes Go.WideShapes Go.ChangeAt Go.RowKit
set_option linter.unusedVariables false
/-- what Tidy leaves -/
def Tidied (base : Nat) (w : World) (name : ByteArray) (ar : Int) (t : Nat × Nat × List (List (List UInt8))) (e : Ending) (w' : World) : Prop :=
  if t.1 = 0 then ∃ v vs, e = .returned (.tuple #[.agg #[.string name, .int .i64 ar, v], .int .i64 0, .int .i64 0]) ∧ w'.ownsRow base 33 1 v vs.length vs ∧ vs.length = t.2.2.length ∧ ∀ (i : Nat) (x : Value) (r : List (List UInt8)), vs[i]? = some x → t.2.2[i]? = some r → Strs w x r
  else e = .returned (.tuple #[.agg #[.string { data := #[] }, .int .i64 0, .slice none 0 0], .int .i64 (t.1 : Nat), .int .i64 (t.2.1 : Nat)])
theorem tidied_bad {base : Nat} {w : World} {name : ByteArray} {ar : Int} {t : Nat × Nat × List (List (List UInt8))} {w' : World} {a b : Int} (e i : Nat) (l : List (List (List UInt8))) (h : t = (e, i, l)) (he : e ≠ 0) (ha : a = e) (hb : b = i) :
    Tidied base w name ar t (.returned (.tuple #[.agg #[.string { data := #[] }, .int .i64 0, .slice none 0 0], .int .i64 a, .int .i64 b])) w' := by
  subst h ha hb; unfold Tidied; rw [if_neg he]
theorem ins_length (L : List (List (List UInt8))) (r : List (List UInt8)) : (ins L r).length ≤ L.length + 1 := by
  unfold ins; split
  · omega
  · simp; omega
theorem foldl_len (rows L : List (List (List UInt8))) : (rows.foldl ins L).length ≤ L.length + rows.length := by
  induction rows generalizing L with
  | nil => simp
  | cons r rest ih =>
    have h1 := ih (ins L r)
    have h2 := ins_length L r
    simp only [List.foldl_cons, List.length_cons]; omega
theorem sortU_len (rows : List (List (List UInt8))) : (sortU rows).length ≤ rows.length := by
  have := foldl_len rows []
  simpa [sortU] using this
theorem own_base {w : World} {base base2 : Nat} {e : TypeId} {size : Nat} {v : Value} {n : Nat} {xs : List Value} (h : w.ownsRow base e size v n xs) (hb : base2 ≤ base) : w.ownsRow base2 e size v n xs := by
  refine ⟨h.1, ?_⟩
  rcases h.2 with h2 | ⟨g, cap, cur, h1, hg, r⟩
  · exact Or.inl h2
  · exact Or.inr ⟨g, cap, cur, h1, by omega, r⟩
theorem insV_fits {w : World} {us : List Value} {K : List (List (List UInt8))} {r : List (List UInt8)} {x : Value} (h : us.length = K.length ∧ ∀ (i : Nat) (y : Value) (q : List (List UInt8)), us[i]? = some y → K[i]? = some q → Strs w y q) (hx : Strs w x r) :
    (insV us K r x).length = (ins K r).length ∧ ∀ (i : Nat) (y : Value) (q : List (List UInt8)), (insV us K r x)[i]? = some y → (ins K r)[i]? = some q → Strs w y q := by
  unfold insV ins
  by_cases hm : r ∈ K
  · rw [if_pos hm, if_pos hm]; exact h
  · rw [if_neg hm, if_neg hm]
    have ha := ahead_le K r
    generalize ahead K r = a at *
    have l1 : (us.take a).length = a := by simp; omega
    have l2 : (K.take a).length = a := by simp; omega
    refine ⟨by simp; omega, fun i y q hy hq => ?_⟩
    rcases Nat.lt_trichotomy i a with c | c | c
    · rw [List.getElem?_append_left (by omega), List.getElem?_take_of_lt c] at hy hq
      exact h.2 i y q hy hq
    · subst c
      rw [List.getElem?_append_right (by omega)] at hy hq
      rw [l1, Nat.sub_self] at hy
      rw [l2, Nat.sub_self] at hq
      simp at hy hq
      subst hy hq
      exact hx
    · rw [List.getElem?_append_right (by omega)] at hy hq
      rw [l1] at hy
      rw [l2] at hq
      obtain ⟨d, hd⟩ : ∃ d, i - a = d + 1 := ⟨i - a - 1, by omega⟩
      rw [hd, List.getElem?_cons_succ, List.getElem?_drop] at hy hq
      exact h.2 (a + d) y q hy hq
end Go.Proofs.YtaeloanlllaphaaDoor
