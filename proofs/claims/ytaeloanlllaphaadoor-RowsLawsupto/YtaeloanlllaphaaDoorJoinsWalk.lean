/-
  The law RowsJoins, walked.
-/
import Derived.Test.YtaeloanlllaphaaDoorSetsWalk
import Derived.Test.YtaeloanlllaphaaDoorJoinW
import Derived.Test.YtaeloanlllaphaaDoorRefJoinW
namespace Go.Proofs.YtaeloanlllaphaaDoor
open Go.ChangeShapes Go.WideShapes Go.ChangeAt Go.RowKit
set_option linter.unusedVariables false
theorem AccD.rows {base : Nat} {w : World} {v : Value} {K : List (List (List UInt8))} (h : AccD base w v K) : ∃ us, Rows2 w v us K := by
  obtain ⟨us, h1, -⟩ := h
  exact ⟨us, h1.rows⟩
theorem joinL_small {la lb : List (List (List UInt8))} (ha : Small la) (hb : Small lb) (on : List (Int × Int)) : (joinL la lb on).length ≤ 1099511627776 ∧ ∀ r ∈ joinL la lb on, r.length ≤ 1099511627776 := by
  refine ⟨?_, fun q hq => ?_⟩
  · have h1 := sortL_len (la.flatMap fun r => withL r lb on)
    have h2 := flat_len la (fun r => withL r lb on) lb.length (fun r _ => withL_len r lb on)
    have h3 : la.length * lb.length ≤ 1048576 * 1048576 := Nat.mul_le_mul ha.1 hb.1
    unfold joinL; omega
  · obtain ⟨r, hr, s, hs, _, rfl⟩ := (mem_joinL la lb on q).1 hq
    have h1 := (ha.2 r hr).1
    have h2 := (hb.2 s hs).1
    rw [List.length_append]; omega
theorem pickL_small {la : List (List (List UInt8))} (ha : Small la) (cols : List Int) (hc : cols.length ≤ 1048576) : (pickL la cols).length ≤ 1099511627776 ∧ ∀ r ∈ pickL la cols, r.length ≤ 1099511627776 := by
  refine ⟨?_, fun q hq => ?_⟩
  · have h1 := sortL_len (la.filterMap fun r => takeL r cols)
    have h2 := List.length_filterMap_le (fun r => takeL r cols) la
    have := ha.1
    unfold pickL; omega
  · obtain ⟨r, _, hr⟩ := List.mem_filterMap.1 ((mem_sortL _ q).1 hq)
    rw [takeL_len r cols q hr]; omega
set_option maxRecDepth 100000 in
set_option maxHeartbeats 2000000 in
theorem joins_any (va vb vo vc : Value) (xs ys : List Value) (la lb : List (List (List UInt8))) (on : List (Int × Int)) (cols : List Int) (w : World) (ha : Rows2 w va xs la) (hb : Rows2 w vb ys lb) (ho : Prs w vo on) (hc : Ints w vc cols) (ht : Tab w) (hsa : Small la) (hsb : Small lb) (hol : on.length ≤ 1048576) (hcl : cols.length ≤ 1048576) :
    Calls Tryd.prog 4 #[va, vb, vo, vc] w fun e w' => e = .returned (.bool true) ∧ Below w.heap.size w w' := by
  have HA : Hid (Rows2 w va xs la) := ha
  have HB : Hid (Rows2 w vb ys lb) := hb
  have HO : Hid (Prs w vo on) := ho
  have HC : Hid (Ints w vc cols) := hc
  have HT : Hid (Tab w) := ht
  have HSA : Hid (Small la) := hsa
  have HSB : Hid (Small lb) := hsb
  have HLA : Hid (la.length ≤ 1048576) := hsa.1
  have HLB : Hid (lb.length ≤ 1048576) := hsb.1
  have HMJ : Hid ((joinL la lb on).length ≤ 1099511627776 ∧ ∀ r ∈ joinL la lb on, r.length ≤ 1099511627776) := joinL_small hsa hsb on
  have HMP : Hid ((pickL la cols).length ≤ 1099511627776 ∧ ∀ r ∈ pickL la cols, r.length ≤ 1099511627776) := pickL_small hsa cols hcl
  clear ha hb ho hc ht hsa hsb
  go_enter Tryd.func4, Tryd.ntmps4
  go_wp2_with fail
  refine (rowsOf_any _ xs la _ HA.out (by have := HLA.out; omega) (HSA.out.rows _ (by omega))).mono ?_
  rintro e w1 ⟨⟨vx, ux, rfl, hdx⟩, hb1⟩
  have HB1 : Hid (Below w.heap.size w w1) := hb1
  have HX1 : Hid (Rows2 w1 vx ux la) := hdx.rows
  clear hdx hb1
  go_wp2_with fail
  refine (rowsOf_any _ ys lb _ (HB.out.under HB1.out) (by have := HLB.out; omega) (HSB.out.rows _ (by omega))).mono ?_
  rintro e w2 ⟨⟨vy, uy, rfl, hdy⟩, hb2⟩
  have HB2 : Hid (Below w.heap.size w w2) := HB1.out.trans (hb2.mono HB1.out.size)
  have HX2 : Hid (Rows2 w2 vx ux la) := HX1.out.under hb2
  have HY2 : Hid (Rows2 w2 vy uy lb) := hdy.rows
  clear hdy hb2 HX1 HB1
  go_wp2_with fail
  refine (join_any _ _ _ ux uy la lb on _ HX2.out HY2.out (HO.out.kept HB2.out) (HT.out.kept HB2.out) HLA.out HLB.out hol HSA.out.2 HSB.out.2).mono ?_
  rintro e w3 ⟨⟨vj, uj, rfl, hdj⟩, hb3⟩
  have HJ3 : Hid (Deep w2.heap.size w3 vj uj (joinL la lb on)) := hdj
  have HS23 : Hid (Below w2.heap.size w2 w3) := hb3
  have HB3 : Hid (Below w.heap.size w w3) := HB2.out.trans (hb3.mono HB2.out.size)
  clear hdj hb3
  go_wp2_with fail
  refine (pick_any _ _ ux la cols _ (HX2.out.under HS23.out) (HC.out.kept HB3.out) (by have := HLA.out; omega) (by omega) (HSA.out.rows _ (by omega))).mono ?_
  rintro e w4 ⟨⟨vk, uk, rfl, hdk⟩, hb4⟩
  have HK4 : Hid (Deep w3.heap.size w4 vk uk (pickL la cols)) := hdk
  have HS34 : Hid (Below w3.heap.size w3 w4) := hb4
  have HB4 : Hid (Below w.heap.size w w4) := HB3.out.trans (hb4.mono HB3.out.size)
  clear hdk hb4
  go_wp2_with fail
  refine (rjoin_any _ _ _ xs ys la lb on _ (HA.out.under HB4.out) (HB.out.under HB4.out) (HO.out.kept HB4.out) HLA.out HLB.out hol (HSA.out.rows _ (by omega)) (HSB.out.rows _ (by omega))).mono ?_
  rintro e w5 ⟨⟨v5, rfl, hacc5⟩, hb5⟩
  obtain ⟨us5, hr5⟩ := hacc5.rows
  have HR5 : Hid (Rows2 w5 v5 us5 (joinL la lb on)) := hr5
  have HS45 : Hid (Below w4.heap.size w4 w5) := hb5
  have HJ5 : Hid (Rows2 w5 vj uj (joinL la lb on)) := (HJ3.out.rows.under HS34.out).under HS45.out
  clear hacc5 hr5 hb5
  go_wp2_with fail
  refine (same_true _ _ uj us5 _ _ HJ5.out HR5.out HMJ.out.1 HMJ.out.2).mono ?_
  rintro e w5b ⟨rfl, hd5⟩
  obtain ⟨n5, rfl⟩ := hd5
  obtain ⟨w6, HW6⟩ : ∃ w6, Hid (w6 = w5.drewN n5) := ⟨_, rfl⟩
  rw [← HW6.out]
  have HS46 : Hid (Below w4.heap.size w4 w6) := by rw [HW6.out]; exact below_drewN HS45.out n5
  have HB6 : Hid (Below w.heap.size w w6) := HB4.out.trans (HS46.out.mono HB4.out.size)
  clear HR5 HJ5 HS45 HW6
  go_wp2_with fail
  refine (rpick_any _ _ xs la cols _ (HA.out.under HB6.out) (HC.out.kept HB6.out) (by have := HLA.out; omega) (by omega) (HSA.out.rows _ (by omega))).mono ?_
  rintro e w7 ⟨⟨v7, rfl, hacc7⟩, hb7⟩
  obtain ⟨us7, hr7⟩ := hacc7.rows
  have HR7 : Hid (Rows2 w7 v7 us7 (pickL la cols)) := hr7
  have HS67 : Hid (Below w6.heap.size w6 w7) := hb7
  have HK7 : Hid (Rows2 w7 vk uk (pickL la cols)) := (HK4.out.rows.under HS46.out).under HS67.out
  clear hacc7 hr7 hb7
  go_wp2_with fail
  refine (same_true _ _ uk us7 _ _ HK7.out HR7.out HMP.out.1 HMP.out.2).mono ?_
  rintro e w7b ⟨rfl, hd7⟩
  obtain ⟨n7, rfl⟩ := hd7
  obtain ⟨w8, HW8⟩ : ∃ w8, Hid (w8 = w7.drewN n7) := ⟨_, rfl⟩
  rw [← HW8.out]
  have HS48 : Hid (Below w4.heap.size w4 w8) := by rw [HW8.out]; exact below_drewN (HS46.out.trans (HS67.out.mono HS46.out.size)) n7
  have HS38 : Hid (Below w3.heap.size w3 w8) := HS34.out.trans (HS48.out.mono HS34.out.size)
  have HS28 : Hid (Below w2.heap.size w2 w8) := HS23.out.trans (HS38.out.mono HS23.out.size)
  clear HR7 HK7 HS67 HW8 HS46
  go_wp2_with fail
  refine (spoilt_any _ _ uj (joinL la lb on) w3 _ HJ3.out (HJ3.out.kept HS38.out) HMJ.out.1 HMJ.out.2).mono ?_
  rintro e w9 ⟨rfl, hm9⟩
  have HS29 : Hid (Below w2.heap.size w2 w9) := HS28.out.trans (hm9.below HS28.out.size)
  have HK9 : Hid (Deep w3.heap.size w9 vk uk (pickL la cols)) := hm9.deep (HK4.out.kept HS48.out) (Nat.le_refl _)
  have HSZ9 : Hid (w3.heap.size ≤ w9.heap.size) := Nat.le_trans HS38.out.size hm9.size
  clear hm9
  go_wp2_with fail
  refine (spoilt_any _ _ uk (pickL la cols) w4 _ HK4.out HK9.out HMP.out.1 HMP.out.2).mono ?_
  rintro e w10 ⟨rfl, hm10⟩
  have HS210 : Hid (Below w2.heap.size w2 w10) := HS29.out.trans ((hm10.below HSZ9.out).mono HS23.out.size)
  have HB10 : Hid (Below w.heap.size w w10) := HB2.out.trans (HS210.out.mono HB2.out.size)
  clear hm10
  go_wp2_with fail
  refine (same_true _ _ ux xs la _ (HX2.out.under HS210.out) (HA.out.under HB10.out) (by have := HLA.out; omega) (HSA.out.rows _ (by omega))).mono ?_
  rintro e w10b ⟨rfl, hd10⟩
  obtain ⟨n10, rfl⟩ := hd10
  obtain ⟨w11, HW11⟩ : ∃ w11, Hid (w11 = w10.drewN n10) := ⟨_, rfl⟩
  rw [← HW11.out]
  have HS211 : Hid (Below w2.heap.size w2 w11) := by rw [HW11.out]; exact below_drewN HS210.out n10
  have HB11 : Hid (Below w.heap.size w w11) := HB2.out.trans (HS211.out.mono HB2.out.size)
  clear HW11
  go_wp2_with fail
  refine (same_true _ _ uy ys lb _ (HY2.out.under HS211.out) (HB.out.under HB11.out) (by have := HLB.out; omega) (HSB.out.rows _ (by omega))).mono ?_
  rintro e w12 ⟨rfl, hd12⟩
  obtain ⟨n12, rfl⟩ := hd12
  go_wp2
  go_ret
  exact ⟨rfl, below_drewN HB11.out n12⟩
end Go.Proofs.YtaeloanlllaphaaDoor
