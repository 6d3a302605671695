/-
  A row put behind rows that the call owns.
-/
import Derived.Test.YtaeloanlllaphaaDoorRowsWalk
namespace Go.Proofs.YtaeloanlllaphaaDoor
open Go.ChangeShapes Go.WideShapes Go.ChangeAt Go.RowKit
set_option linter.unusedVariables false
theorem Deep.push {base b1 : Nat} {w1 wa w2 : World} {v v1 v2 : Value} {us : List Value} {L : List (List (List UInt8))} {row : List (List UInt8)} (hd : Deep base w1 v us L) (ho : w1.ownsRow b1 9 1 v1 row.length (ts row)) (hb : base ≤ b1) (ha : Below w1.heap.size w1 wa) (hg : wa.grownBy w2 v.ownBlock) (hown2 : w2.ownsRow base 33 1 v2 (us.length + 1) (us ++ [v1])) : Deep base w2 v2 (us ++ [v1]) (L ++ [row]) := by
  have hlen := hd.2.1
  have hv := own_below hd.1 ha
  refine ⟨by rw [List.length_append]; exact hown2, by simp [hlen], fun i x r hx hr => ?_⟩
  by_cases hik : i < us.length
  · rw [List.getElem?_append_left hik] at hx
    rw [List.getElem?_append_left (by omega)] at hr
    have h0 := own_below (hd.2.2 i x r hx hr) ha
    exact h0.kept hg (kind_ne h0 hv (by decide))
  · have hie : i = us.length := by
      have := (List.getElem?_eq_some_iff.1 hx).1
      simp at this; omega
    subst hie
    rw [List.getElem?_append_right (Nat.le_refl _), Nat.sub_self] at hx
    rw [List.getElem?_append_right (by omega), hlen, Nat.sub_self] at hr
    simp at hx hr
    subst hx
    subst hr
    have hka := own_below ho ha
    exact (own_mono hka hb).kept hg (kind_ne hka hv (by decide))
end Go.Proofs.YtaeloanlllaphaaDoor
