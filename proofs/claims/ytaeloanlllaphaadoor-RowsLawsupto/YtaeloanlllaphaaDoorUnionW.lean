/-
  The program's Union, walked.
-/
import Derived.Test.YtaeloanlllaphaaDoorConcatR
import Derived.Test.YtaeloanlllaphaaDoorRisingL
import Derived.Test.YtaeloanlllaphaaDoorRefUnion
namespace Go.Proofs.YtaeloanlllaphaaDoor
open Go.ChangeShapes Go.WideShapes Go.ChangeAt Go.RowKit
set_option linter.unusedVariables false
theorem Rows2.oneCells {w : World} {v : Value} {vs : List Value} {L : List (List (List UInt8))} (h : Rows2 w v vs L) : ∀ x ∈ vs, x.oneCell' = true := by
  intro x hx
  obtain ⟨i, hi, rfl⟩ := List.getElem_of_mem hx
  have hir : i < L.length := by have := h.2.1; omega
  obtain ⟨a, c, e, _⟩ := h.2.2 i vs[i] L[i] (val_at hi) (row_at hir)
  rw [e]; rfl
theorem Rows2.both {w : World} {va vb v : Value} {xs ys : List Value} {la lb : List (List (List UInt8))} (ha : Rows2 w va xs la) (hb : Rows2 w vb ys lb) (hv : Vals w v (xs ++ ys)) : Rows2 w v (xs ++ ys) (la ++ lb) := by
  have h1 := ha.2.1
  have h2 := hb.2.1
  refine ⟨hv, by simp; omega, fun i x r hx hr => ?_⟩
  rcases Nat.lt_or_ge i xs.length with c | c
  · rw [List.getElem?_append_left c] at hx
    rw [List.getElem?_append_left (by omega)] at hr
    exact ha.2.2 i x r hx hr
  · rw [List.getElem?_append_right c] at hx
    rw [List.getElem?_append_right (by omega)] at hr
    exact hb.2.2 (i - xs.length) x r hx (by rw [h1]; exact hr)
set_option maxRecDepth 100000 in
set_option maxHeartbeats 1000000 in
theorem union_any (va vb : Value) (xs ys : List Value) (la lb : List (List (List UInt8))) (w : World) (ha : Rows2 w va xs la) (hb : Rows2 w vb ys lb) (hla : la.length ≤ 16777216) (hlb : lb.length ≤ 16777216)
    (hra : ∀ r ∈ la, r.length ≤ 1099511627776) (hrb : ∀ r ∈ lb, r.length ≤ 1099511627776) :
    Calls Tryd.prog 8 #[va, vb] w fun e w' => (∃ v us, e = .returned v ∧ Deep w.heap.size w' v us (sortL (la ++ lb))) ∧ Below w.heap.size w w' := by
  have HA : Hid (Rows2 w va xs la) := ha
  have HB : Hid (Rows2 w vb ys lb) := hb
  have HR : Hid (∀ r ∈ la ++ lb, r.length ≤ 1099511627776) := by
    intro r hr
    rcases List.mem_append.1 hr with h | h
    · exact hra r h
    · exact hrb r h
  obtain ⟨aa, ca, rfl, -⟩ := rows_cell ha
  obtain ⟨ab, cb, rfl, -⟩ := rows_cell hb
  clear ha hb hra hrb
  go_enter Tryd.func8, Tryd.ntmps8
  go_wp2_with fail
  obtain ⟨w1, HW1⟩ : ∃ w1, Hid (w1 = w.alloc (.cells #[.slice aa la.length ca, .slice ab lb.length cb] 22)) := ⟨_, rfl⟩
  have HB1 : Hid (Below w.heap.size w w1) := by rw [HW1.out]; exact (Below.refl _ _).alloc (Nat.le_refl _) _
  have HV1 : Hid (VV w1 (.slice (some ⟨w.heap.size, 0, none⟩) 2 2) [.slice aa la.length ca, .slice ab lb.length cb] [xs, ys]) := by
    refine ⟨⟨_, 2, rfl, Or.inr ⟨w.heap.size, 0, rfl, fun i x hx => ?_⟩⟩, rfl, fun i x r hx hr => ?_⟩
    · rw [HW1.out]
      match i, hx with
      | 0, hx => simp at hx; subst hx; exact World.cell?_alloc_at _ _ _ _ rfl
      | 1, hx => simp at hx; subst hx; exact World.cell?_alloc_at _ _ _ _ rfl
    · match i, hx, hr with
      | 0, hx, hr => simp at hx hr; subst hx hr; exact (HA.out.1.kept HB1.out)
      | 1, hx, hr => simp at hx hr; subst hx hr; exact (HB.out.1.kept HB1.out)
  rw [← HW1.out]
  have hxl := HA.out.2.1
  have hyl := HB.out.2.1
  have HCN : Hid (Calls Tryd.prog 20 #[.slice (some ⟨w.heap.size, 0, none⟩) 2 2] w1 fun e w' => (∃ v', e = .returned v' ∧ w'.ownsRow w1.heap.size 33 1 v' (xs ++ ys).length (xs ++ ys)) ∧ Below w1.heap.size w1 w') := by
    have hfl : [xs, ys].flatten = xs ++ ys := by simp
    have := concatR_any _ _ [xs, ys] w1 HV1.out (fun r hr x hx => by
      simp at hr
      rcases hr with rfl | rfl
      · exact HA.out.oneCells x hx
      · exact HB.out.oneCells x hx) (by simp) (by rw [hfl, List.length_append]; omega)
    rw [hfl] at this
    exact this
  clear hxl hyl
  refine HCN.out.mono ?_
  rintro e w2 ⟨⟨v2, rfl, ho2⟩, hb2⟩
  have HB2 : Hid (Below w.heap.size w w2) := HB1.out.trans (hb2.mono HB1.out.size)
  have HR2 : Hid (Rows2 w2 v2 (xs ++ ys) (la ++ lb)) := (HA.out.kept HB2.out).both (HB.out.kept HB2.out) (own_vals ho2)
  clear ho2 hb2 HCN
  go_wp2_with fail
  refine (rising_any _ _ (la ++ lb) _ HR2.out (by rw [List.length_append]; omega) HR.out).mono ?_
  rintro e w3 ⟨⟨v3, us3, rfl, hd3⟩, hb3⟩
  have HB3 : Hid (Below w.heap.size w w3) := HB2.out.trans (hb3.mono HB2.out.size)
  have HD3 : Hid (Deep w.heap.size w3 v3 us3 (sortL (la ++ lb))) := ⟨own_mono hd3.1 HB2.out.size, hd3.2.1, fun i x r hx hr => own_mono (hd3.2.2 i x r hx hr) HB2.out.size⟩
  clear hd3 hb3
  go_wp2
  go_ret
  exact ⟨⟨_, us3, rfl, HD3.out⟩, HB3.out⟩
end Go.Proofs.YtaeloanlllaphaaDoor
