/-
  The law RowsSets, walked.
-/
import Derived.Test.YtaeloanlllaphaaDoorMinusW
import Derived.Test.YtaeloanlllaphaaDoorUnionW
import Derived.Test.YtaeloanlllaphaaDoorSpoilM
import Derived.Test.YtaeloanlllaphaaDoorSameRows
namespace Go.Proofs.YtaeloanlllaphaaDoor
open Go.ChangeShapes Go.WideShapes Go.ChangeAt Go.RowKit
set_option linter.unusedVariables false
/-- rows that are small enough -/
def Small (L : List (List (List UInt8))) : Prop := L.length ≤ 1048576 ∧ ∀ r ∈ L, r.length ≤ 1048576 ∧ ∀ t ∈ r, t.length ≤ 1048576
theorem Small.rows {L : List (List (List UInt8))} (h : Small L) (n : Nat) (hn : 1048576 ≤ n) : ∀ r ∈ L, r.length ≤ n := fun r hr => Nat.le_trans (h.2 r hr).1 hn
theorem same_true (va vb : Value) (xs ys : List Value) (L : List (List (List UInt8))) (w : World) (ha : Rows2 w va xs L) (hb : Rows2 w vb ys L) (hl : L.length ≤ 1099511627776) (hr : ∀ r ∈ L, r.length ≤ 1099511627776) :
    Calls Tryd.prog 10 #[va, vb] w fun e w' => e = .returned (.bool true) ∧ ∃ n, w' = w.drewN n := by
  have := sameRows_any va vb xs ys L L w ha hb hl hl hr hr
  rw [show (L == L) = true from by simp] at this
  exact this
theorem Acc.rows {w0 w : World} {v : Value} {K : List (List (List UInt8))} (h : Acc w0 w v K) : ∃ us, Rows2 w v us K := by
  obtain ⟨us, h1, h2, h3, h4, h5⟩ := h
  exact ⟨us, own_vals h1, h2.1, fun i x r hx hr => (h2.2 i x r hx hr).kept h5⟩
theorem Acc.below {w0 w : World} {v : Value} {K : List (List (List UInt8))} (h : Acc w0 w v K) : Below w0.heap.size w0 w := by
  obtain ⟨us, h1, h2, h3, h4, h5⟩ := h
  exact h5
theorem below_dr (w : World) (n : Nat) : Below w.heap.size w (w.drewN n) := below_drewN (Below.refl _ _) n
theorem Rows2.under {w w' : World} {v : Value} {vs : List Value} {L : List (List (List UInt8))} (h : Rows2 w v vs L) (hb : Below w.heap.size w w') : Rows2 w' v vs L := h.kept hb
theorem none_rows (w : World) : Rows2 w (.slice none 0 0) [] [] := ⟨⟨none, 0, rfl, Or.inl ⟨rfl, fun _ => rfl⟩⟩, rfl, fun i x r hx => by simp at hx⟩
theorem bound_sort {L : List (List (List UInt8))} {n : Nat} (h : ∀ r ∈ L, r.length ≤ n) : ∀ r ∈ sortL L, r.length ≤ n := fun r hr => h r ((mem_sortL L r).1 hr)
set_option maxRecDepth 100000 in
set_option maxHeartbeats 2000000 in
theorem sets_any (va vb : Value) (xs ys : List Value) (la lb : List (List (List UInt8))) (w : World) (ha : Rows2 w va xs la) (hb : Rows2 w vb ys lb) (ht : Tab w) (hsa : Small la) (hsb : Small lb) :
    Calls Tryd.prog 3 #[va, vb] w fun e w' => e = .returned (.bool true) ∧ Below w.heap.size w w' := by
  have HA : Hid (Rows2 w va xs la) := ha
  have HB : Hid (Rows2 w vb ys lb) := hb
  have HT : Hid (Tab w) := ht
  have HSA : Hid (Small la) := hsa
  have HSB : Hid (Small lb) := hsb
  have HLA : Hid (la.length ≤ 1048576) := hsa.1
  have HLB : Hid (lb.length ≤ 1048576) := hsb.1
  have HM0 : Hid (Small (sortL la)) := ⟨Nat.le_trans (sortL_len la) hsa.1, fun r hr => hsa.2 r ((mem_sortL la r).1 hr)⟩
  have HMU : Hid ((sortL (la ++ lb)).length ≤ 1099511627776 ∧ ∀ r ∈ sortL (la ++ lb), r.length ≤ 1099511627776) := by
    refine ⟨?_, fun r hr => ?_⟩
    · have := sortL_len (la ++ lb)
      rw [List.length_append] at this
      have := hsa.1; have := hsb.1; omega
    · rcases List.mem_append.1 ((mem_sortL _ r).1 hr) with h | h
      · have := (hsa.2 r h).1; omega
      · have := (hsb.2 r h).1; omega
  have HMM : Hid ((sortL (la.filter fun r => !decide (r ∈ lb))).length ≤ 1099511627776 ∧ ∀ r ∈ sortL (la.filter fun r => !decide (r ∈ lb)), r.length ≤ 1099511627776) := by
    refine ⟨?_, fun r hr => ?_⟩
    · have := sortL_len (la.filter fun r => !decide (r ∈ lb))
      have h2 := List.length_filter_le (fun r => !decide (r ∈ lb)) la
      have := hsa.1; omega
    · have := (hsa.2 r (List.mem_filter.1 ((mem_sortL _ r).1 hr)).1).1; omega
  obtain ⟨aa, ca, hva, -⟩ := rows_cell ha
  obtain ⟨ab, cb, hvb, -⟩ := rows_cell hb
  clear ha hb ht hsa hsb hva hvb
  go_enter Tryd.func3, Tryd.ntmps3
  go_wp2_with fail
  refine (rowsOf_any _ xs la _ HA.out (by have := HLA.out; omega) (HSA.out.rows _ (by omega))).mono ?_
  rintro e w1 ⟨⟨vx, ux, rfl, hdx⟩, hb1⟩
  have HB1 : Hid (Below w.heap.size w w1) := hb1
  have HA1 : Hid (Rows2 w1 va xs la) := HA.out.under hb1
  have HBB1 : Hid (Rows2 w1 vb ys lb) := HB.out.under hb1
  have HX1 : Hid (Rows2 w1 vx ux la) := hdx.rows
  clear hdx hb1
  go_wp2_with fail
  refine (rowsOf_any _ ys lb _ HBB1.out (by have := HLB.out; omega) (HSB.out.rows _ (by omega))).mono ?_
  rintro e w2 ⟨⟨vy, uy, rfl, hdy⟩, hb2⟩
  have HB2 : Hid (Below w.heap.size w w2) := HB1.out.trans (hb2.mono HB1.out.size)
  have HX2 : Hid (Rows2 w2 vx ux la) := HX1.out.under hb2
  have HY2 : Hid (Rows2 w2 vy uy lb) := hdy.rows
  clear hdy hb2 HA1 HBB1 HX1 HB1
  go_wp2_with fail
  refine (rise_any _ ux la _ HX2.out (by have := HLA.out; omega) (HSA.out.rows _ (by omega))).mono ?_
  rintro e w3 ⟨⟨vr, ur, rfl, hdr⟩, hb3⟩
  have HR3 : Hid (Deep w2.heap.size w3 vr ur (sortL la)) := hdr
  have HS23 : Hid (Below w2.heap.size w2 w3) := hb3
  have HB3 : Hid (Below w.heap.size w w3) := HB2.out.trans (hb3.mono HB2.out.size)
  clear hdr hb3
  go_wp2_with fail
  refine (union_any _ _ ux uy la lb _ (HX2.out.under HS23.out) (HY2.out.under HS23.out) (by have := HLA.out; omega) (by have := HLB.out; omega) (HSA.out.rows _ (by omega)) (HSB.out.rows _ (by omega))).mono ?_
  rintro e w4 ⟨⟨vu, uu, rfl, hdu⟩, hb4⟩
  have HU4 : Hid (Deep w3.heap.size w4 vu uu (sortL (la ++ lb))) := hdu
  have HS34 : Hid (Below w3.heap.size w3 w4) := hb4
  have HS24 : Hid (Below w2.heap.size w2 w4) := HS23.out.trans (hb4.mono HS23.out.size)
  have HB4 : Hid (Below w.heap.size w w4) := HB2.out.trans (HS24.out.mono HB2.out.size)
  clear hdu hb4
  go_wp2_with fail
  refine (minus_any _ _ ux uy la lb _ (HX2.out.under HS24.out) (HY2.out.under HS24.out) (HT.out.kept HB4.out) (by have := HLA.out; omega) (by have := HLB.out; omega) HSA.out.2 HSB.out.2).mono ?_
  rintro e w5 ⟨⟨vm, um, rfl, hdm⟩, hb5⟩
  have HM5 : Hid (Deep w4.heap.size w5 vm um (sortL (la.filter fun r => !decide (r ∈ lb)))) := hdm
  have HS45 : Hid (Below w4.heap.size w4 w5) := hb5
  have HB5 : Hid (Below w.heap.size w w5) := HB4.out.trans (hb5.mono HB4.out.size)
  clear hdm hb5
  go_wp2_with fail
  refine (runion_any _ _ xs [] la [] _ (HA.out.under HB5.out) (none_rows _) (by have := HLA.out; omega) (by simp) (HSA.out.rows _ (by omega)) (by simp)).mono ?_
  rintro e w6 ⟨v6, rfl, hacc6⟩
  rw [List.append_nil] at hacc6
  have HS56 : Hid (Below w5.heap.size w5 w6) := hacc6.below
  obtain ⟨us6, hr6⟩ := hacc6.rows
  have HR6 : Hid (Rows2 w6 v6 us6 (sortL la)) := hr6
  have HRR6 : Hid (Rows2 w6 vr ur (sortL la)) := ((HR3.out.rows.under HS34.out).under HS45.out).under HS56.out
  clear hacc6 hr6
  go_wp2_with fail
  refine (same_true _ _ ur us6 (sortL la) _ HRR6.out HR6.out (by have := HM0.out.1; omega) (HM0.out.rows _ (by omega))).mono ?_
  rintro e w6b ⟨rfl, hd6⟩
  obtain ⟨n6, rfl⟩ := hd6
  obtain ⟨w7, HW7⟩ : ∃ w7, Hid (w7 = w6.drewN n6) := ⟨_, rfl⟩
  rw [← HW7.out]
  have HS57 : Hid (Below w5.heap.size w5 w7) := by rw [HW7.out]; exact below_drewN HS56.out n6
  have HB7 : Hid (Below w.heap.size w w7) := HB5.out.trans (HS57.out.mono HB5.out.size)
  clear HR6 HRR6 HS56 HW7
  go_wp2_with fail
  refine (runion_any _ _ xs ys la lb _ (HA.out.under HB7.out) (HB.out.under HB7.out) (by have := HLA.out; omega) (by have := HLB.out; omega) (HSA.out.rows _ (by omega)) (HSB.out.rows _ (by omega))).mono ?_
  rintro e w8 ⟨v8, rfl, hacc8⟩
  have HS78 : Hid (Below w7.heap.size w7 w8) := hacc8.below
  obtain ⟨us8, hr8⟩ := hacc8.rows
  have HR8 : Hid (Rows2 w8 v8 us8 (sortL (la ++ lb))) := hr8
  have HRR8 : Hid (Rows2 w8 vu uu (sortL (la ++ lb))) := ((HU4.out.rows.under HS45.out).under HS57.out).under HS78.out
  clear hacc8 hr8
  go_wp2_with fail
  refine (same_true _ _ uu us8 _ _ HRR8.out HR8.out HMU.out.1 HMU.out.2).mono ?_
  rintro e w8b ⟨rfl, hd8⟩
  obtain ⟨n8, rfl⟩ := hd8
  obtain ⟨w9, HW9⟩ : ∃ w9, Hid (w9 = w8.drewN n8) := ⟨_, rfl⟩
  rw [← HW9.out]
  have HS59 : Hid (Below w5.heap.size w5 w9) := by rw [HW9.out]; exact below_drewN (HS57.out.trans (HS78.out.mono HS57.out.size)) n8
  have HB9 : Hid (Below w.heap.size w w9) := HB5.out.trans (HS59.out.mono HB5.out.size)
  clear HR8 HRR8 HS78 HW9 HS57
  go_wp2_with fail
  refine (rminus_any _ _ xs ys la lb _ (HA.out.under HB9.out) (HB.out.under HB9.out) (by have := HLA.out; omega) (by have := HLB.out; omega) (HSA.out.rows _ (by omega)) (HSB.out.rows _ (by omega))).mono ?_
  rintro e w10 ⟨v10, rfl, hacc10⟩
  have HS90 : Hid (Below w9.heap.size w9 w10) := hacc10.below
  obtain ⟨us10, hr10⟩ := hacc10.rows
  have HR10 : Hid (Rows2 w10 v10 us10 (sortL (la.filter fun r => !decide (r ∈ lb)))) := hr10
  have HRR10 : Hid (Rows2 w10 vm um (sortL (la.filter fun r => !decide (r ∈ lb)))) := (HM5.out.rows.under HS59.out).under HS90.out
  clear hacc10 hr10
  go_wp2_with fail
  refine (same_true _ _ um us10 _ _ HRR10.out HR10.out HMM.out.1 HMM.out.2).mono ?_
  rintro e w10b ⟨rfl, hd10⟩
  obtain ⟨n10, rfl⟩ := hd10
  obtain ⟨w11, HW11⟩ : ∃ w11, Hid (w11 = w10.drewN n10) := ⟨_, rfl⟩
  rw [← HW11.out]
  have HS511 : Hid (Below w5.heap.size w5 w11) := by rw [HW11.out]; exact below_drewN (HS59.out.trans (HS90.out.mono HS59.out.size)) n10
  have HB11 : Hid (Below w.heap.size w w11) := HB5.out.trans (HS511.out.mono HB5.out.size)
  clear HR10 HRR10 HS90 HW11 HS59
  have HS411 : Hid (Below w4.heap.size w4 w11) := HS45.out.trans (HS511.out.mono HS45.out.size)
  have HS311 : Hid (Below w3.heap.size w3 w11) := HS34.out.trans (HS411.out.mono HS34.out.size)
  have HS211 : Hid (Below w2.heap.size w2 w11) := HS23.out.trans (HS311.out.mono HS23.out.size)
  go_wp2_with fail
  refine (spoilt_any _ _ ur (sortL la) w3 _ HR3.out (HR3.out.kept HS311.out) (by have := HM0.out.1; omega) (HM0.out.rows _ (by omega))).mono ?_
  rintro e w12 ⟨rfl, hm12⟩
  have HM12 : Hid (Mid w2.heap.size w3.heap.size w11 w12) := hm12
  have HS212 : Hid (Below w2.heap.size w2 w12) := HS211.out.trans (hm12.below HS211.out.size)
  have HU12 : Hid (Deep w3.heap.size w12 vu uu (sortL (la ++ lb))) := hm12.deep (HU4.out.kept HS411.out) (Nat.le_refl _)
  have HMM12 : Hid (Deep w4.heap.size w12 vm um (sortL (la.filter fun r => !decide (r ∈ lb)))) := hm12.deep (HM5.out.kept HS511.out) HS34.out.size
  clear hm12
  go_wp2_with fail
  refine (spoilt_any _ _ uu (sortL (la ++ lb)) w4 _ HU4.out HU12.out HMU.out.1 HMU.out.2).mono ?_
  rintro e w13 ⟨rfl, hm13⟩
  have HS213 : Hid (Below w2.heap.size w2 w13) := HS212.out.trans ((hm13.below (by have := HS23.out.size; have := HS34.out.size; have := HS411.out.size; have := HM12.out.size; omega)).mono HS23.out.size)
  have HMM13 : Hid (Deep w4.heap.size w13 vm um (sortL (la.filter fun r => !decide (r ∈ lb)))) := hm13.deep HMM12.out (Nat.le_refl _)
  have HSZ13 : Hid (w4.heap.size ≤ w13.heap.size) := by have := hm13.size; have := HS411.out.size; have := HM12.out.size; show _ ≤ _; omega
  clear hm13
  go_wp2_with fail
  refine (spoilt_any _ _ um _ w5 _ HM5.out HMM13.out HMM.out.1 HMM.out.2).mono ?_
  rintro e w14 ⟨rfl, hm14⟩
  have HS214 : Hid (Below w2.heap.size w2 w14) := HS213.out.trans ((hm14.below HSZ13.out).mono (by have := HS23.out.size; have := HS34.out.size; omega))
  have HB14 : Hid (Below w.heap.size w w14) := HB2.out.trans (HS214.out.mono HB2.out.size)
  clear hm14
  go_wp2_with fail
  refine (same_true _ _ ux xs la _ (HX2.out.under HS214.out) (HA.out.under HB14.out) (by have := HLA.out; omega) (HSA.out.rows _ (by omega))).mono ?_
  rintro e w14b ⟨rfl, hd14⟩
  obtain ⟨n14, rfl⟩ := hd14
  obtain ⟨w15, HW15⟩ : ∃ w15, Hid (w15 = w14.drewN n14) := ⟨_, rfl⟩
  rw [← HW15.out]
  have HS215 : Hid (Below w2.heap.size w2 w15) := by rw [HW15.out]; exact below_drewN HS214.out n14
  have HB15 : Hid (Below w.heap.size w w15) := HB2.out.trans (HS215.out.mono HB2.out.size)
  clear HW15
  go_wp2_with fail
  refine (same_true _ _ uy ys lb _ (HY2.out.under HS215.out) (HB.out.under HB15.out) (by have := HLB.out; omega) (HSB.out.rows _ (by omega))).mono ?_
  rintro e w16 ⟨rfl, hd16⟩
  obtain ⟨n16, rfl⟩ := hd16
  go_wp2
  go_ret
  exact ⟨rfl, below_drewN HB15.out n16⟩
end Go.Proofs.YtaeloanlllaphaaDoor
