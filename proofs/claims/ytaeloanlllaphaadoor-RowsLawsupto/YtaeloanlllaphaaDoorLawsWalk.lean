/-
  The law RowsLaws, walked.
-/
import Derived.Test.YtaeloanlllaphaaDoorJoinsWalk
import Derived.Test.YtaeloanlllaphaaDoorLawsL
namespace Go.Proofs.YtaeloanlllaphaaDoor
open Go.ChangeShapes Go.WideShapes Go.ChangeAt Go.RowKit
set_option linter.unusedVariables false
/-- rows that are small enough, twice as many as may come in -/
def Fit2 (L : List (List (List UInt8))) : Prop := L.length ≤ 2097152 ∧ ∀ r ∈ L, r.length ≤ 1048576 ∧ ∀ t ∈ r, t.length ≤ 1048576
theorem Fit2.len {L : List (List (List UInt8))} (h : Fit2 L) (n : Nat) (hn : 2097152 ≤ n) : L.length ≤ n := Nat.le_trans h.1 hn
theorem Fit2.len1 {L : List (List (List UInt8))} (h : Fit2 L) (hl : L.length ≤ 1048576) : L.length ≤ 1048576 := hl
theorem Fit2.row {L : List (List (List UInt8))} (h : Fit2 L) (n : Nat) (hn : 1048576 ≤ n) : ∀ r ∈ L, r.length ≤ n := fun r hr => Nat.le_trans (h.2 r hr).1 hn
theorem Small.fit {L : List (List (List UInt8))} (h : Small L) : Fit2 L := ⟨Nat.le_trans h.1 (by omega), h.2⟩
theorem Small.rise {L : List (List (List UInt8))} (h : Small L) : Small (sortL L) := ⟨Nat.le_trans (sortL_len L) h.1, fun r hr => h.2 r ((mem_sortL L r).1 hr)⟩
theorem Small.minus {L : List (List (List UInt8))} (h : Small L) (M : List (List (List UInt8))) : Small (minusL L M) :=
  ⟨Nat.le_trans (sortL_len _) (Nat.le_trans (List.length_filter_le _ _) h.1), fun r hr => h.2 r ((mem_minusL L M r).1 hr).1⟩
theorem Small.union {A B : List (List (List UInt8))} (ha : Small A) (hb : Small B) : Fit2 (sortL (A ++ B)) := by
  refine ⟨?_, fun r hr => ?_⟩
  · have := sortL_len (A ++ B)
    rw [List.length_append] at this
    have := ha.1; have := hb.1; omega
  · rcases List.mem_append.1 ((mem_sortL _ r).1 hr) with h | h
    · exact ha.2 r h
    · exact hb.2 r h
theorem Fit2.wide {L : List (List (List UInt8))} (h : Fit2 L) : L.length ≤ 1099511627776 ∧ ∀ r ∈ L, r.length ≤ 1099511627776 := ⟨h.len _ (by omega), h.row _ (by omega)⟩
set_option maxRecDepth 100000 in
set_option maxHeartbeats 4000000 in
theorem laws_any (va vb vo : Value) (xs ys : List Value) (la lb : List (List (List UInt8))) (on : List (Int × Int)) (w : World) (ha : Rows2 w va xs la) (hb : Rows2 w vb ys lb) (ho : Prs w vo on) (ht : Tab w) (hsa : Small la) (hsb : Small lb) (hol : on.length ≤ 1048576) :
    Calls Tryd.prog 5 #[va, vb, vo] w fun e w' => e = .returned (.bool true) ∧ Below w.heap.size w w' := by
  have HA : Hid (Rows2 w va xs la) := ha
  have HB : Hid (Rows2 w vb ys lb) := hb
  have HO : Hid (Prs w vo on) := ho
  have HT : Hid (Tab w) := ht
  have HSA : Hid (Fit2 la) := hsa.fit
  have HSB : Hid (Fit2 lb) := hsb.fit
  have HL_a : Hid (la.length ≤ 1048576) := hsa.1
  have HL_b : Hid (lb.length ≤ 1048576) := hsb.1
  have HL_r : Hid ((sortL la).length ≤ 1048576) := hsa.rise.1
  have HL_rb : Hid ((sortL lb).length ≤ 1048576) := hsb.rise.1
  have HS_u : Hid (Fit2 (sortL (la ++ lb))) := hsa.union hsb
  have HS_n : Hid (Fit2 (minusL la lb)) := (hsa.minus lb).fit
  have HS_r : Hid (Fit2 (sortL la)) := hsa.rise.fit
  have HS_rb : Hid (Fit2 (sortL lb)) := hsb.rise.fit
  have HS_ta : Hid (Fit2 (minusL (sortL la) lb)) := (hsa.rise.minus lb).fit
  have HS_ka : Hid (Fit2 (minusL lb la)) := (hsb.minus la).fit
  have HQ_u := HS_u.out.wide
  have HQ_u : Hid ((sortL (la ++ lb)).length ≤ 1099511627776 ∧ ∀ r ∈ sortL (la ++ lb), r.length ≤ 1099511627776) := HS_u.out.wide
  have HQ_w := HQ_u
  have HQ_m : Hid ((minusL la lb).length ≤ 1099511627776 ∧ ∀ r ∈ minusL la lb, r.length ≤ 1099511627776) := HS_n.out.wide
  have HQ_t : Hid ((minusL lb (minusL lb la)).length ≤ 1099511627776 ∧ ∀ r ∈ minusL lb (minusL lb la), r.length ≤ 1099511627776) := (hsb.minus _).fit.wide
  have HQ_j : Hid ((joinL la lb on).length ≤ 1099511627776 ∧ ∀ r ∈ joinL la lb on, r.length ≤ 1099511627776) := joinL_small hsa hsb on
  clear ha hb ho ht hsa hsb
  go_enter Tryd.func5, Tryd.ntmps5
  go_wp2_with fail
  refine (union_any _ _ xs ys la lb _ HA.out HB.out (HSA.out.len _ (by omega)) (HSB.out.len _ (by omega)) (HSA.out.row _ (by omega)) (HSB.out.row _ (by omega))).mono ?_
  rintro e w1 ⟨⟨vu, uu, rfl, hd⟩, hb⟩
  have HZ1 : Hid (Below w.heap.size w w1) := hb
  have Hu1 : Hid (Rows2 w1 vu uu (sortL (la ++ lb))) := by exact hd.rows
  clear hd hb
  go_wp2_with fail
  refine (union_any _ _ ys xs lb la _ (HB.out.under HZ1.out) (HA.out.under HZ1.out) (HSB.out.len _ (by omega)) (HSA.out.len _ (by omega)) (HSB.out.row _ (by omega)) (HSA.out.row _ (by omega))).mono ?_
  rintro e w2 ⟨⟨vv, uv, rfl, hd⟩, hb⟩
  have HZ2 : Hid (Below w.heap.size w w2) := HZ1.out.trans (hb.mono HZ1.out.size)
  have Hu2 : Hid (Rows2 w2 vu uu (sortL (la ++ lb))) := Hu1.out.under hb
  clear Hu1
  have Hv2 : Hid (Rows2 w2 vv uv (sortL (la ++ lb))) := by rw [union_comm]; exact hd.rows
  clear hd hb
  go_wp2_with fail
  refine (minus_any _ _ uu ys (sortL (la ++ lb)) lb _ Hu2.out (HB.out.under HZ2.out) (HT.out.kept HZ2.out) (HS_u.out.len _ (by omega)) (HSB.out.len _ (by omega)) HS_u.out.2 HSB.out.2).mono ?_
  rintro e w3 ⟨⟨vm, um, rfl, hd⟩, hb⟩
  have HZ3 : Hid (Below w.heap.size w w3) := HZ2.out.trans (hb.mono HZ2.out.size)
  have Hu3 : Hid (Rows2 w3 vu uu (sortL (la ++ lb))) := Hu2.out.under hb
  have Hv3 : Hid (Rows2 w3 vv uv (sortL (la ++ lb))) := Hv2.out.under hb
  clear Hu2 Hv2
  have Hm3 : Hid (Rows2 w3 vm um (minusL la lb)) := by rw [← minus_union]; exact hd.rows
  clear hd hb
  go_wp2_with fail
  refine (minus_any _ _ xs ys la lb _ (HA.out.under HZ3.out) (HB.out.under HZ3.out) (HT.out.kept HZ3.out) (HSA.out.len _ (by omega)) (HSB.out.len _ (by omega)) HSA.out.2 HSB.out.2).mono ?_
  rintro e w4 ⟨⟨vn, un, rfl, hd⟩, hb⟩
  have HZ4 : Hid (Below w.heap.size w w4) := HZ3.out.trans (hb.mono HZ3.out.size)
  have Hu4 : Hid (Rows2 w4 vu uu (sortL (la ++ lb))) := Hu3.out.under hb
  have Hv4 : Hid (Rows2 w4 vv uv (sortL (la ++ lb))) := Hv3.out.under hb
  have Hm4 : Hid (Rows2 w4 vm um (minusL la lb)) := Hm3.out.under hb
  clear Hu3 Hv3 Hm3
  have Hn4 : Hid (Rows2 w4 vn un (minusL la lb)) := by exact hd.rows
  clear hd hb
  go_wp2_with fail
  refine (union_any _ _ un ys (minusL la lb) lb _ Hn4.out (HB.out.under HZ4.out) (HS_n.out.len _ (by omega)) (HSB.out.len _ (by omega)) (HS_n.out.row _ (by omega)) (HSB.out.row _ (by omega))).mono ?_
  rintro e w5 ⟨⟨vw, uw, rfl, hd⟩, hb⟩
  have HZ5 : Hid (Below w.heap.size w w5) := HZ4.out.trans (hb.mono HZ4.out.size)
  have Hu5 : Hid (Rows2 w5 vu uu (sortL (la ++ lb))) := Hu4.out.under hb
  have Hv5 : Hid (Rows2 w5 vv uv (sortL (la ++ lb))) := Hv4.out.under hb
  have Hm5 : Hid (Rows2 w5 vm um (minusL la lb)) := Hm4.out.under hb
  have Hn5 : Hid (Rows2 w5 vn un (minusL la lb)) := Hn4.out.under hb
  clear Hu4 Hv4 Hm4 Hn4
  have Hw5 : Hid (Rows2 w5 vw uw (sortL (la ++ lb))) := by rw [← back_union]; exact hd.rows
  clear hd hb
  go_wp2_with fail
  refine (rise_any _ xs la _ (HA.out.under HZ5.out) (HSA.out.len _ (by omega)) (HSA.out.row _ (by omega))).mono ?_
  rintro e w6 ⟨⟨vr, ur, rfl, hd⟩, hb⟩
  have HZ6 : Hid (Below w.heap.size w w6) := HZ5.out.trans (hb.mono HZ5.out.size)
  have Hu6 : Hid (Rows2 w6 vu uu (sortL (la ++ lb))) := Hu5.out.under hb
  have Hv6 : Hid (Rows2 w6 vv uv (sortL (la ++ lb))) := Hv5.out.under hb
  have Hm6 : Hid (Rows2 w6 vm um (minusL la lb)) := Hm5.out.under hb
  have Hn6 : Hid (Rows2 w6 vn un (minusL la lb)) := Hn5.out.under hb
  have Hw6 : Hid (Rows2 w6 vw uw (sortL (la ++ lb))) := Hw5.out.under hb
  clear Hu5 Hv5 Hm5 Hn5 Hw5
  have Hr6 : Hid (Rows2 w6 vr ur (sortL la)) := by exact hd.rows
  clear hd hb
  go_wp2_with fail
  refine (minus_any _ _ ur ys (sortL la) lb _ Hr6.out (HB.out.under HZ6.out) (HT.out.kept HZ6.out) (HS_r.out.len _ (by omega)) (HSB.out.len _ (by omega)) HS_r.out.2 HSB.out.2).mono ?_
  rintro e w7 ⟨⟨vta, uta, rfl, hd⟩, hb⟩
  have HZ7 : Hid (Below w.heap.size w w7) := HZ6.out.trans (hb.mono HZ6.out.size)
  have Hu7 : Hid (Rows2 w7 vu uu (sortL (la ++ lb))) := Hu6.out.under hb
  have Hv7 : Hid (Rows2 w7 vv uv (sortL (la ++ lb))) := Hv6.out.under hb
  have Hm7 : Hid (Rows2 w7 vm um (minusL la lb)) := Hm6.out.under hb
  have Hn7 : Hid (Rows2 w7 vn un (minusL la lb)) := Hn6.out.under hb
  have Hw7 : Hid (Rows2 w7 vw uw (sortL (la ++ lb))) := Hw6.out.under hb
  have Hr7 : Hid (Rows2 w7 vr ur (sortL la)) := Hr6.out.under hb
  clear Hu6 Hv6 Hm6 Hn6 Hw6 Hr6
  have Hta7 : Hid (Rows2 w7 vta uta (minusL (sortL la) lb)) := by exact hd.rows
  clear hd hb
  go_wp2_with fail
  refine (minus_any _ _ ur uta (sortL la) (minusL (sortL la) lb) _ Hr7.out Hta7.out (HT.out.kept HZ7.out) (HS_r.out.len _ (by omega)) (HS_ta.out.len _ (by omega)) HS_r.out.2 HS_ta.out.2).mono ?_
  rintro e w8 ⟨⟨vt, ut, rfl, hd⟩, hb⟩
  have HZ8 : Hid (Below w.heap.size w w8) := HZ7.out.trans (hb.mono HZ7.out.size)
  have Hu8 : Hid (Rows2 w8 vu uu (sortL (la ++ lb))) := Hu7.out.under hb
  have Hv8 : Hid (Rows2 w8 vv uv (sortL (la ++ lb))) := Hv7.out.under hb
  have Hm8 : Hid (Rows2 w8 vm um (minusL la lb)) := Hm7.out.under hb
  have Hn8 : Hid (Rows2 w8 vn un (minusL la lb)) := Hn7.out.under hb
  have Hw8 : Hid (Rows2 w8 vw uw (sortL (la ++ lb))) := Hw7.out.under hb
  have Hr8 : Hid (Rows2 w8 vr ur (sortL la)) := Hr7.out.under hb
  have Hta8 : Hid (Rows2 w8 vta uta (minusL (sortL la) lb)) := Hta7.out.under hb
  clear Hu7 Hv7 Hm7 Hn7 Hw7 Hr7 Hta7
  have Ht8 : Hid (Rows2 w8 vt ut (minusL lb (minusL lb la))) := by rw [← both_ways]; exact hd.rows
  clear hd hb
  go_wp2_with fail
  refine (minus_any _ _ ys xs lb la _ (HB.out.under HZ8.out) (HA.out.under HZ8.out) (HT.out.kept HZ8.out) (HSB.out.len _ (by omega)) (HSA.out.len _ (by omega)) HSB.out.2 HSA.out.2).mono ?_
  rintro e w9 ⟨⟨vka, uka, rfl, hd⟩, hb⟩
  have HZ9 : Hid (Below w.heap.size w w9) := HZ8.out.trans (hb.mono HZ8.out.size)
  have Hu9 : Hid (Rows2 w9 vu uu (sortL (la ++ lb))) := Hu8.out.under hb
  have Hv9 : Hid (Rows2 w9 vv uv (sortL (la ++ lb))) := Hv8.out.under hb
  have Hm9 : Hid (Rows2 w9 vm um (minusL la lb)) := Hm8.out.under hb
  have Hn9 : Hid (Rows2 w9 vn un (minusL la lb)) := Hn8.out.under hb
  have Hw9 : Hid (Rows2 w9 vw uw (sortL (la ++ lb))) := Hw8.out.under hb
  have Hr9 : Hid (Rows2 w9 vr ur (sortL la)) := Hr8.out.under hb
  have Hta9 : Hid (Rows2 w9 vta uta (minusL (sortL la) lb)) := Hta8.out.under hb
  have Ht9 : Hid (Rows2 w9 vt ut (minusL lb (minusL lb la))) := Ht8.out.under hb
  clear Hu8 Hv8 Hm8 Hn8 Hw8 Hr8 Hta8 Ht8
  have Hka9 : Hid (Rows2 w9 vka uka (minusL lb la)) := by exact hd.rows
  clear hd hb
  go_wp2_with fail
  refine (minus_any _ _ ys uka lb (minusL lb la) _ (HB.out.under HZ9.out) Hka9.out (HT.out.kept HZ9.out) (HSB.out.len _ (by omega)) (HS_ka.out.len _ (by omega)) HSB.out.2 HS_ka.out.2).mono ?_
  rintro e w10 ⟨⟨vk, uk, rfl, hd⟩, hb⟩
  have HZ10 : Hid (Below w.heap.size w w10) := HZ9.out.trans (hb.mono HZ9.out.size)
  have Hu10 : Hid (Rows2 w10 vu uu (sortL (la ++ lb))) := Hu9.out.under hb
  have Hv10 : Hid (Rows2 w10 vv uv (sortL (la ++ lb))) := Hv9.out.under hb
  have Hm10 : Hid (Rows2 w10 vm um (minusL la lb)) := Hm9.out.under hb
  have Hn10 : Hid (Rows2 w10 vn un (minusL la lb)) := Hn9.out.under hb
  have Hw10 : Hid (Rows2 w10 vw uw (sortL (la ++ lb))) := Hw9.out.under hb
  have Hr10 : Hid (Rows2 w10 vr ur (sortL la)) := Hr9.out.under hb
  have Hta10 : Hid (Rows2 w10 vta uta (minusL (sortL la) lb)) := Hta9.out.under hb
  have Ht10 : Hid (Rows2 w10 vt ut (minusL lb (minusL lb la))) := Ht9.out.under hb
  have Hka10 : Hid (Rows2 w10 vka uka (minusL lb la)) := Hka9.out.under hb
  clear Hu9 Hv9 Hm9 Hn9 Hw9 Hr9 Hta9 Ht9 Hka9
  have Hk10 : Hid (Rows2 w10 vk uk (minusL lb (minusL lb la))) := by exact hd.rows
  clear hd hb
  go_wp2_with fail
  refine (same_true _ _ uu uv (sortL (la ++ lb)) _ Hu10.out Hv10.out HQ_u.out.1 HQ_u.out.2).mono ?_
  rintro e wd ⟨rfl, hd⟩
  obtain ⟨nd, rfl⟩ := hd
  obtain ⟨w11, HW⟩ : ∃ w11, Hid (w11 = w10.drewN nd) := ⟨_, rfl⟩
  rw [← HW.out]
  have HZ11 : Hid (Below w.heap.size w w11) := by rw [HW.out]; exact below_drewN HZ10.out nd
  have Hu11 : Hid (Rows2 w11 vu uu (sortL (la ++ lb))) := by rw [HW.out]; exact Hu10.out.under (below_dr _ nd)
  have Hv11 : Hid (Rows2 w11 vv uv (sortL (la ++ lb))) := by rw [HW.out]; exact Hv10.out.under (below_dr _ nd)
  have Hm11 : Hid (Rows2 w11 vm um (minusL la lb)) := by rw [HW.out]; exact Hm10.out.under (below_dr _ nd)
  have Hn11 : Hid (Rows2 w11 vn un (minusL la lb)) := by rw [HW.out]; exact Hn10.out.under (below_dr _ nd)
  have Hw11 : Hid (Rows2 w11 vw uw (sortL (la ++ lb))) := by rw [HW.out]; exact Hw10.out.under (below_dr _ nd)
  have Hr11 : Hid (Rows2 w11 vr ur (sortL la)) := by rw [HW.out]; exact Hr10.out.under (below_dr _ nd)
  have Hta11 : Hid (Rows2 w11 vta uta (minusL (sortL la) lb)) := by rw [HW.out]; exact Hta10.out.under (below_dr _ nd)
  have Ht11 : Hid (Rows2 w11 vt ut (minusL lb (minusL lb la))) := by rw [HW.out]; exact Ht10.out.under (below_dr _ nd)
  have Hka11 : Hid (Rows2 w11 vka uka (minusL lb la)) := by rw [HW.out]; exact Hka10.out.under (below_dr _ nd)
  have Hk11 : Hid (Rows2 w11 vk uk (minusL lb (minusL lb la))) := by rw [HW.out]; exact Hk10.out.under (below_dr _ nd)
  clear HW Hu10 Hv10 Hm10 Hn10 Hw10 Hr10 Hta10 Ht10 Hka10 Hk10
  go_wp2_with fail
  refine (same_true _ _ um un (minusL la lb) _ Hm11.out Hn11.out HQ_m.out.1 HQ_m.out.2).mono ?_
  rintro e wd ⟨rfl, hd⟩
  obtain ⟨nd, rfl⟩ := hd
  obtain ⟨w12, HW⟩ : ∃ w12, Hid (w12 = w11.drewN nd) := ⟨_, rfl⟩
  rw [← HW.out]
  have HZ12 : Hid (Below w.heap.size w w12) := by rw [HW.out]; exact below_drewN HZ11.out nd
  have Hu12 : Hid (Rows2 w12 vu uu (sortL (la ++ lb))) := by rw [HW.out]; exact Hu11.out.under (below_dr _ nd)
  have Hv12 : Hid (Rows2 w12 vv uv (sortL (la ++ lb))) := by rw [HW.out]; exact Hv11.out.under (below_dr _ nd)
  have Hm12 : Hid (Rows2 w12 vm um (minusL la lb)) := by rw [HW.out]; exact Hm11.out.under (below_dr _ nd)
  have Hn12 : Hid (Rows2 w12 vn un (minusL la lb)) := by rw [HW.out]; exact Hn11.out.under (below_dr _ nd)
  have Hw12 : Hid (Rows2 w12 vw uw (sortL (la ++ lb))) := by rw [HW.out]; exact Hw11.out.under (below_dr _ nd)
  have Hr12 : Hid (Rows2 w12 vr ur (sortL la)) := by rw [HW.out]; exact Hr11.out.under (below_dr _ nd)
  have Hta12 : Hid (Rows2 w12 vta uta (minusL (sortL la) lb)) := by rw [HW.out]; exact Hta11.out.under (below_dr _ nd)
  have Ht12 : Hid (Rows2 w12 vt ut (minusL lb (minusL lb la))) := by rw [HW.out]; exact Ht11.out.under (below_dr _ nd)
  have Hka12 : Hid (Rows2 w12 vka uka (minusL lb la)) := by rw [HW.out]; exact Hka11.out.under (below_dr _ nd)
  have Hk12 : Hid (Rows2 w12 vk uk (minusL lb (minusL lb la))) := by rw [HW.out]; exact Hk11.out.under (below_dr _ nd)
  clear HW Hu11 Hv11 Hm11 Hn11 Hw11 Hr11 Hta11 Ht11 Hka11 Hk11
  go_wp2_with fail
  refine (same_true _ _ uw uu (sortL (la ++ lb)) _ Hw12.out Hu12.out HQ_w.out.1 HQ_w.out.2).mono ?_
  rintro e wd ⟨rfl, hd⟩
  obtain ⟨nd, rfl⟩ := hd
  obtain ⟨w13, HW⟩ : ∃ w13, Hid (w13 = w12.drewN nd) := ⟨_, rfl⟩
  rw [← HW.out]
  have HZ13 : Hid (Below w.heap.size w w13) := by rw [HW.out]; exact below_drewN HZ12.out nd
  have Hu13 : Hid (Rows2 w13 vu uu (sortL (la ++ lb))) := by rw [HW.out]; exact Hu12.out.under (below_dr _ nd)
  have Hv13 : Hid (Rows2 w13 vv uv (sortL (la ++ lb))) := by rw [HW.out]; exact Hv12.out.under (below_dr _ nd)
  have Hm13 : Hid (Rows2 w13 vm um (minusL la lb)) := by rw [HW.out]; exact Hm12.out.under (below_dr _ nd)
  have Hn13 : Hid (Rows2 w13 vn un (minusL la lb)) := by rw [HW.out]; exact Hn12.out.under (below_dr _ nd)
  have Hw13 : Hid (Rows2 w13 vw uw (sortL (la ++ lb))) := by rw [HW.out]; exact Hw12.out.under (below_dr _ nd)
  have Hr13 : Hid (Rows2 w13 vr ur (sortL la)) := by rw [HW.out]; exact Hr12.out.under (below_dr _ nd)
  have Hta13 : Hid (Rows2 w13 vta uta (minusL (sortL la) lb)) := by rw [HW.out]; exact Hta12.out.under (below_dr _ nd)
  have Ht13 : Hid (Rows2 w13 vt ut (minusL lb (minusL lb la))) := by rw [HW.out]; exact Ht12.out.under (below_dr _ nd)
  have Hka13 : Hid (Rows2 w13 vka uka (minusL lb la)) := by rw [HW.out]; exact Hka12.out.under (below_dr _ nd)
  have Hk13 : Hid (Rows2 w13 vk uk (minusL lb (minusL lb la))) := by rw [HW.out]; exact Hk12.out.under (below_dr _ nd)
  clear HW Hu12 Hv12 Hm12 Hn12 Hw12 Hr12 Hta12 Ht12 Hka12 Hk12
  go_wp2_with fail
  refine (same_true _ _ ut uk (minusL lb (minusL lb la)) _ Ht13.out Hk13.out HQ_t.out.1 HQ_t.out.2).mono ?_
  rintro e wd ⟨rfl, hd⟩
  obtain ⟨nd, rfl⟩ := hd
  obtain ⟨w14, HW⟩ : ∃ w14, Hid (w14 = w13.drewN nd) := ⟨_, rfl⟩
  rw [← HW.out]
  have HZ14 : Hid (Below w.heap.size w w14) := by rw [HW.out]; exact below_drewN HZ13.out nd
  have Hu14 : Hid (Rows2 w14 vu uu (sortL (la ++ lb))) := by rw [HW.out]; exact Hu13.out.under (below_dr _ nd)
  have Hv14 : Hid (Rows2 w14 vv uv (sortL (la ++ lb))) := by rw [HW.out]; exact Hv13.out.under (below_dr _ nd)
  have Hm14 : Hid (Rows2 w14 vm um (minusL la lb)) := by rw [HW.out]; exact Hm13.out.under (below_dr _ nd)
  have Hn14 : Hid (Rows2 w14 vn un (minusL la lb)) := by rw [HW.out]; exact Hn13.out.under (below_dr _ nd)
  have Hw14 : Hid (Rows2 w14 vw uw (sortL (la ++ lb))) := by rw [HW.out]; exact Hw13.out.under (below_dr _ nd)
  have Hr14 : Hid (Rows2 w14 vr ur (sortL la)) := by rw [HW.out]; exact Hr13.out.under (below_dr _ nd)
  have Hta14 : Hid (Rows2 w14 vta uta (minusL (sortL la) lb)) := by rw [HW.out]; exact Hta13.out.under (below_dr _ nd)
  have Ht14 : Hid (Rows2 w14 vt ut (minusL lb (minusL lb la))) := by rw [HW.out]; exact Ht13.out.under (below_dr _ nd)
  have Hka14 : Hid (Rows2 w14 vka uka (minusL lb la)) := by rw [HW.out]; exact Hka13.out.under (below_dr _ nd)
  have Hk14 : Hid (Rows2 w14 vk uk (minusL lb (minusL lb la))) := by rw [HW.out]; exact Hk13.out.under (below_dr _ nd)
  clear HW Hu13 Hv13 Hm13 Hn13 Hw13 Hr13 Hta13 Ht13 Hka13 Hk13
  go_wp2_with fail
  refine (join_any _ _ _ xs ys la lb on _ (HA.out.under HZ14.out) (HB.out.under HZ14.out) (HO.out.kept HZ14.out) (HT.out.kept HZ14.out) (HSA.out.len1 HL_a.out) (HSB.out.len1 HL_b.out) hol HSA.out.2 HSB.out.2).mono ?_
  rintro e w15 ⟨⟨vj, uj, rfl, hd⟩, hb⟩
  have HZ15 : Hid (Below w.heap.size w w15) := HZ14.out.trans (hb.mono HZ14.out.size)
  have Hu15 : Hid (Rows2 w15 vu uu (sortL (la ++ lb))) := Hu14.out.under hb
  have Hv15 : Hid (Rows2 w15 vv uv (sortL (la ++ lb))) := Hv14.out.under hb
  have Hm15 : Hid (Rows2 w15 vm um (minusL la lb)) := Hm14.out.under hb
  have Hn15 : Hid (Rows2 w15 vn un (minusL la lb)) := Hn14.out.under hb
  have Hw15 : Hid (Rows2 w15 vw uw (sortL (la ++ lb))) := Hw14.out.under hb
  have Hr15 : Hid (Rows2 w15 vr ur (sortL la)) := Hr14.out.under hb
  have Hta15 : Hid (Rows2 w15 vta uta (minusL (sortL la) lb)) := Hta14.out.under hb
  have Ht15 : Hid (Rows2 w15 vt ut (minusL lb (minusL lb la))) := Ht14.out.under hb
  have Hka15 : Hid (Rows2 w15 vka uka (minusL lb la)) := Hka14.out.under hb
  have Hk15 : Hid (Rows2 w15 vk uk (minusL lb (minusL lb la))) := Hk14.out.under hb
  clear Hu14 Hv14 Hm14 Hn14 Hw14 Hr14 Hta14 Ht14 Hka14 Hk14
  have Hj15 : Hid (Rows2 w15 vj uj (joinL la lb on)) := by exact hd.rows
  clear hd hb
  go_wp2_with fail
  refine (rise_any _ ys lb _ (HB.out.under HZ15.out) (HSB.out.len _ (by omega)) (HSB.out.row _ (by omega))).mono ?_
  rintro e w16 ⟨⟨vrb, urb, rfl, hd⟩, hb⟩
  have HZ16 : Hid (Below w.heap.size w w16) := HZ15.out.trans (hb.mono HZ15.out.size)
  have Hu16 : Hid (Rows2 w16 vu uu (sortL (la ++ lb))) := Hu15.out.under hb
  have Hv16 : Hid (Rows2 w16 vv uv (sortL (la ++ lb))) := Hv15.out.under hb
  have Hm16 : Hid (Rows2 w16 vm um (minusL la lb)) := Hm15.out.under hb
  have Hn16 : Hid (Rows2 w16 vn un (minusL la lb)) := Hn15.out.under hb
  have Hw16 : Hid (Rows2 w16 vw uw (sortL (la ++ lb))) := Hw15.out.under hb
  have Hr16 : Hid (Rows2 w16 vr ur (sortL la)) := Hr15.out.under hb
  have Hta16 : Hid (Rows2 w16 vta uta (minusL (sortL la) lb)) := Hta15.out.under hb
  have Ht16 : Hid (Rows2 w16 vt ut (minusL lb (minusL lb la))) := Ht15.out.under hb
  have Hka16 : Hid (Rows2 w16 vka uka (minusL lb la)) := Hka15.out.under hb
  have Hk16 : Hid (Rows2 w16 vk uk (minusL lb (minusL lb la))) := Hk15.out.under hb
  have Hj16 : Hid (Rows2 w16 vj uj (joinL la lb on)) := Hj15.out.under hb
  clear Hu15 Hv15 Hm15 Hn15 Hw15 Hr15 Hta15 Ht15 Hka15 Hk15 Hj15
  have Hrb16 : Hid (Rows2 w16 vrb urb (sortL lb)) := by exact hd.rows
  clear hd hb
  go_wp2_with fail
  refine (join_any _ _ _ ur urb (sortL la) (sortL lb) on _ Hr16.out Hrb16.out (HO.out.kept HZ16.out) (HT.out.kept HZ16.out) (HS_r.out.len1 HL_r.out) (HS_rb.out.len1 HL_rb.out) hol HS_r.out.2 HS_rb.out.2).mono ?_
  rintro e w17 ⟨⟨vi, ui, rfl, hd⟩, hb⟩
  have HZ17 : Hid (Below w.heap.size w w17) := HZ16.out.trans (hb.mono HZ16.out.size)
  have Hu17 : Hid (Rows2 w17 vu uu (sortL (la ++ lb))) := Hu16.out.under hb
  have Hv17 : Hid (Rows2 w17 vv uv (sortL (la ++ lb))) := Hv16.out.under hb
  have Hm17 : Hid (Rows2 w17 vm um (minusL la lb)) := Hm16.out.under hb
  have Hn17 : Hid (Rows2 w17 vn un (minusL la lb)) := Hn16.out.under hb
  have Hw17 : Hid (Rows2 w17 vw uw (sortL (la ++ lb))) := Hw16.out.under hb
  have Hr17 : Hid (Rows2 w17 vr ur (sortL la)) := Hr16.out.under hb
  have Hta17 : Hid (Rows2 w17 vta uta (minusL (sortL la) lb)) := Hta16.out.under hb
  have Ht17 : Hid (Rows2 w17 vt ut (minusL lb (minusL lb la))) := Ht16.out.under hb
  have Hka17 : Hid (Rows2 w17 vka uka (minusL lb la)) := Hka16.out.under hb
  have Hk17 : Hid (Rows2 w17 vk uk (minusL lb (minusL lb la))) := Hk16.out.under hb
  have Hj17 : Hid (Rows2 w17 vj uj (joinL la lb on)) := Hj16.out.under hb
  have Hrb17 : Hid (Rows2 w17 vrb urb (sortL lb)) := Hrb16.out.under hb
  clear Hu16 Hv16 Hm16 Hn16 Hw16 Hr16 Hta16 Ht16 Hka16 Hk16 Hj16 Hrb16
  have Hi17 : Hid (Rows2 w17 vi ui (joinL la lb on)) := by rw [join_rise]; exact hd.rows
  clear hd hb
  go_wp2_with fail
  refine (same_true _ _ uj ui (joinL la lb on) _ Hj17.out Hi17.out HQ_j.out.1 HQ_j.out.2).mono ?_
  rintro e wd ⟨rfl, hd⟩
  obtain ⟨nd, rfl⟩ := hd
  obtain ⟨w18, HW⟩ : ∃ w18, Hid (w18 = w17.drewN nd) := ⟨_, rfl⟩
  rw [← HW.out]
  have HZ18 : Hid (Below w.heap.size w w18) := by rw [HW.out]; exact below_drewN HZ17.out nd
  have Hu18 : Hid (Rows2 w18 vu uu (sortL (la ++ lb))) := by rw [HW.out]; exact Hu17.out.under (below_dr _ nd)
  have Hv18 : Hid (Rows2 w18 vv uv (sortL (la ++ lb))) := by rw [HW.out]; exact Hv17.out.under (below_dr _ nd)
  have Hm18 : Hid (Rows2 w18 vm um (minusL la lb)) := by rw [HW.out]; exact Hm17.out.under (below_dr _ nd)
  have Hn18 : Hid (Rows2 w18 vn un (minusL la lb)) := by rw [HW.out]; exact Hn17.out.under (below_dr _ nd)
  have Hw18 : Hid (Rows2 w18 vw uw (sortL (la ++ lb))) := by rw [HW.out]; exact Hw17.out.under (below_dr _ nd)
  have Hr18 : Hid (Rows2 w18 vr ur (sortL la)) := by rw [HW.out]; exact Hr17.out.under (below_dr _ nd)
  have Hta18 : Hid (Rows2 w18 vta uta (minusL (sortL la) lb)) := by rw [HW.out]; exact Hta17.out.under (below_dr _ nd)
  have Ht18 : Hid (Rows2 w18 vt ut (minusL lb (minusL lb la))) := by rw [HW.out]; exact Ht17.out.under (below_dr _ nd)
  have Hka18 : Hid (Rows2 w18 vka uka (minusL lb la)) := by rw [HW.out]; exact Hka17.out.under (below_dr _ nd)
  have Hk18 : Hid (Rows2 w18 vk uk (minusL lb (minusL lb la))) := by rw [HW.out]; exact Hk17.out.under (below_dr _ nd)
  have Hj18 : Hid (Rows2 w18 vj uj (joinL la lb on)) := by rw [HW.out]; exact Hj17.out.under (below_dr _ nd)
  have Hrb18 : Hid (Rows2 w18 vrb urb (sortL lb)) := by rw [HW.out]; exact Hrb17.out.under (below_dr _ nd)
  have Hi18 : Hid (Rows2 w18 vi ui (joinL la lb on)) := by rw [HW.out]; exact Hi17.out.under (below_dr _ nd)
  clear HW Hu17 Hv17 Hm17 Hn17 Hw17 Hr17 Hta17 Ht17 Hka17 Hk17 Hj17 Hrb17 Hi17
  have HBR : Hid (Rows2 w18 vb ys lb) := HB.out.under HZ18.out
  obtain ⟨aa, ca, hva, -⟩ := rows_cell HA.out
  obtain ⟨ao, co, hvo, -⟩ := HO.out
  obtain ⟨au, cu, hvu, -⟩ := rows_cell Hu18.out
  obtain ⟨ar, cr, hvr, -⟩ := rows_cell Hr18.out
  obtain ⟨aj, cj, hvj, -⟩ := rows_cell Hj18.out
  have hur := union_len la lb
  have hsl := some_len la
  have HJL : Hid ((joinL la lb on).length ≤ (sortL la).length * (sortL lb).length) := join_len la lb on
  obtain ⟨nu, HNU⟩ : ∃ nu, Hid (nu = (sortL (la ++ lb)).length) := ⟨_, rfl⟩
  obtain ⟨nr, HNR⟩ : ∃ nr, Hid (nr = (sortL la).length) := ⟨_, rfl⟩
  obtain ⟨nj, HNJ⟩ : ∃ nj, Hid (nj = (joinL la lb on).length) := ⟨_, rfl⟩
  obtain ⟨na, HNA⟩ : ∃ na, Hid (na = la.length) := ⟨_, rfl⟩
  obtain ⟨no, HNO⟩ : ∃ no, Hid (no = on.length) := ⟨_, rfl⟩
  obtain ⟨nb, HNB⟩ : ∃ nb, Hid (nb = (sortL lb).length) := ⟨_, rfl⟩
  rw [← HNU.out] at hvu hur
  rw [← HNR.out] at hvr hur hsl HJL
  rw [← HNJ.out] at hvj HJL
  rw [← HNA.out] at hva hsl
  rw [← HNO.out] at hvo
  rw [← HNB.out] at HJL
  have hol2 : no ≤ 1048576 := by rw [HNO.out]; exact hol
  have hrl2 : nr ≤ 1048576 := by rw [HNR.out]; exact HL_r.out
  have hbl2 : nb ≤ 1048576 := by rw [HNB.out]; exact HL_rb.out
  have hnu2 : nu ≤ 2097152 := by rw [HNU.out]; exact HS_u.out.1
  have hjl2 : nj ≤ 1099511627776 := by rw [HNJ.out]; exact HQ_j.out.1
  have hal2 : na ≤ 1048576 := by rw [HNA.out]; exact HL_a.out
  rw [hva, hvo, hvu, hvr, hvj]
  clear hva hvo hvu hvr hvj hol HQ_u
  by_cases hon : 0 < no
  · by_cases hna : na = 0
    · subst hna
      clear hsl
      go_wp2_with fail
      all_goals go_ret
      all_goals exact ⟨rfl, HZ18.out⟩
    · have hsl2 : 0 < nr := hsl (by omega)
      have hna2 : ((na : Int) == 0) = false := by rw [beq_eq_false_iff_ne]; omega
      clear hsl
      go_wp2_with fail
      all_goals go_ret
      all_goals exact ⟨rfl, HZ18.out⟩
  · have hno : no = 0 := by omega
    subst hno
    clear hon
    go_wp2_with fail
    refine (rise_any _ ys lb _ HBR.out (HSB.out.len _ (by omega)) (HSB.out.row _ (by omega))).mono ?_
    rintro e wz ⟨⟨vz, uz, rfl, hd⟩, hb⟩
    have HZZ : Hid (Below w.heap.size w wz) := HZ18.out.trans (hb.mono HZ18.out.size)
    obtain ⟨az, cz, hvz, -⟩ := rows_cell hd.rows
    rw [← HNB.out] at hvz
    subst hvz
    clear hd hb
    have hpl : nr * nb ≤ 1048576 * 1048576 := Nat.mul_le_mul hrl2 hbl2
    have HDJ : Hid (decide ((nj : Int) ≤ wrap64 ((nr : Int) * (nb : Int))) = true) := by
      show _ = _
      have h1 : ((nr : Int) * (nb : Int)) = ((nr * nb : Nat) : Int) := by rw [Int.natCast_mul]
      have h2 := HJL.out
      rw [h1, decide_eq_true_iff]
      unfold wrap64
      omega
    clear hpl
    by_cases hna : na = 0
    · subst hna
      clear hsl
      go_wp2_with fail
      all_goals go_ret
      all_goals exact ⟨ret_bool HDJ.out, HZZ.out⟩
    · have hsl2 : 0 < nr := hsl (by omega)
      have hna2 : ((na : Int) == 0) = false := by rw [beq_eq_false_iff_ne]; omega
      clear hsl
      go_wp2_with fail
      all_goals go_ret
      all_goals exact ⟨ret_bool HDJ.out, HZZ.out⟩
end Go.Proofs.YtaeloanlllaphaaDoor
