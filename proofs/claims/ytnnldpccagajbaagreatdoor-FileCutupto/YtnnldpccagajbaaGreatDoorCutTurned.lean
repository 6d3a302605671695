import Derived.Test.YtnnldpccagajbaaGreatDoorM40
/-
  FileTurned's and FileCut's walks.
-/
namespace Go.Proofs.YtnnldpccagajbaaGreatDoor
open Go.ChangeShapes Go.WideShapes Go.ChangeAt Go.RowKit
set_option linter.unusedVariables false
set_option maxRecDepth 100000 in
set_option maxHeartbeats 4000000 in
theorem turned_law (name : ByteArray) (ar : Int) (rv : Value) (vs : List Value) (rows : List (List (List UInt8))) (f mask : Int) (hf1 : -9223372036854775808 ≤ f) (hf2 : f ≤ 9223372036854775807) (hm1 : -9223372036854775808 ≤ mask) (hm2 : mask ≤ 9223372036854775807) (w : World) (h : Rows2 w rv vs rows) (hT : Tab w) (hn : name.size ≤ 1099511627776) (hrl : rows.length ≤ 1073741824) (hrr : ∀ r ∈ rows, r.length ≤ 1099511627776) :
    Calls Tryz.prog 5 #[.agg #[.string name, .int .i64 ar, rv], .int .i64 f, .int .i64 mask] w fun e w' => e = .returned (.bool true) ∧ Below w.heap.size w w' := by
  have HH : Hid (Rows2 w rv vs rows) := h
  have HTB : Hid (Tab w) := hT
  have HRR : Hid (∀ r ∈ rows, r.length ≤ 1099511627776) := hrr
  clear hrr hT
  obtain ⟨⟨a, cap, rfl, -⟩, -, -⟩ := h
  obtain ⟨W0, HW0⟩ : ∃ W0, Hid (W0 = w.alloc (.cells #[.string name, .int .i64 ar, .slice a vs.length cap] 28)) := ⟨_, rfl⟩
  have HB0 : Hid (Below w.heap.size w W0) := by rw [HW0.out]; exact (Below.refl _ _).alloc (Nat.le_refl _) _
  have HZ0 : Hid (W0.heap.size = w.heap.size + 1) := by show _ = _; rw [HW0.out]; simp
  have HQ0 : Hid (W0.cell? ⟨w.heap.size, 0, none⟩ = some (.string name) ∧ W0.cell? ⟨w.heap.size, 1, none⟩ = some (.int .i64 ar) ∧ W0.cell? ⟨w.heap.size, 2, none⟩ = some (.slice a vs.length cap)) := by
    rw [HW0.out]; exact ⟨by simp, by simp, by simp⟩
  have hb0 : w.heap.size < W0.heap.size := by have := HZ0.out; omega
  have HR0 : Hid (Rows2 W0 (.slice a vs.length cap) vs rows) := HH.out.kept HB0.out
  have HT0 : Hid (Tab W0) := HTB.out.below HB0.out HTB.out.pos
  obtain ⟨et, ee, ei, HEN⟩ : ∃ et ee ei, Hid (encode name.data.toList ar rows = (et, ee, ei)) := ⟨_, _, _, rfl⟩
  have HEV : Hid (encd (encode name.data.toList ar rows) = .tuple #[.string (str et), .int .i64 (ee : Nat), .int .i64 (ei : Nat)]) := by show _ = _; rw [HEN.out]; rfl
  obtain ⟨se, HSE⟩ : ∃ se, Hid (se = str et) := ⟨_, (rfl : str et = _)⟩
  rw [← HSE.out] at HEV
  go_enter Tryz.func5, Tryz.ntmps5
  go_wp2_with fail
  rw [← HW0.out]
  clear HW0
  refine (relation_any name ar _ vs rows _ HR0.out hrl HRR.out).mono ?_
  rintro e w1 ⟨⟨vx, ux, rfl, hdx⟩, hb1⟩
  obtain ⟨ax, cx, rfl⟩ := own_shape' hdx.1
  have HB01 : Hid (Below W0.heap.size W0 w1) := hb1
  have HX1 : Hid (Rows2 w1 (.slice ax ux.length cx) ux rows) := hdx.rows
  have HT1 : Hid (Tab w1) := HT0.out.below hb1 HT0.out.pos
  clear hb1 hdx
  go_wp2_with fail
  refine (pencode_any name ar _ ux rows w1 HX1.out HT1.out hn hrl HRR.out).mono ?_
  rintro e w2 ⟨rfl, hb2⟩
  rw [HEV.out]
  have HB02 : Hid (Below W0.heap.size W0 w2) := HB01.out.trans (hb2.mono HB01.out.size)
  have q0 := (HB02.out.cell (p := ⟨w.heap.size, 0, none⟩) hb0).trans HQ0.out.1
  have q1 := (HB02.out.cell (p := ⟨w.heap.size, 1, none⟩) hb0).trans HQ0.out.2.1
  have q2 := (HB02.out.cell (p := ⟨w.heap.size, 2, none⟩) hb0).trans HQ0.out.2.2
  clear hb2
  go_wp2_with fail
  refine (rencode_any name ar _ vs rows _ (HR0.out.kept HB02.out) hn hrl HRR.out).mono ?_
  rintro e w3 ⟨rfl, hb3⟩
  rw [HEV.out]
  have HB03 : Hid (Below W0.heap.size W0 w3) := HB02.out.trans (hb3.mono HB02.out.size)
  have HT3 : Hid (Tab w3) := HT0.out.below HB03.out HT0.out.pos
  have HBW : Hid (Below w.heap.size w w3) := HB0.out.trans (HB03.out.mono (by omega))
  have hs3 : W0.heap.size ≤ w3.heap.size := HB03.out.size
  clear hb3 q0 q1 q2 HB01 HB02 HX1 HT1
  have e1 : ((ee : Int) != (ee : Int)) = false := by simp
  by_cases hee : ee = 0
  · subst hee
    have HEK : Hid (encode name.data.toList ar rows = (et, 0, 0)) := encode_three _ _ _ _ _ HEN.out
    have hel : et.length ≤ 65536 := encode_len _ _ _ _ HEK.out
    have zse : se.size ≤ 65536 := by rw [HSE.out, str_size]; exact hel
    go_wp2_with fail
    refine (numY_at _ _).mono ?_
    rintro e w4 ⟨rfl, rfl⟩
    go_wp2_with fail
    refine (turned_key se f mask et name.data.toList ar rows _ HSE HEK zse hf1 hf2 hm1 hm2).mono ?_
    rintro e w5 ⟨⟨tb, rfl, ztb, HK⟩, hb5⟩
    have HT5 : Hid (Tab w5) := HT3.out.below hb5 HT3.out.pos
    have HBW5 : Hid (Below w.heap.size w w5) := HBW.out.trans (hb5.mono HBW.out.size)
    clear hb5
    go_wp2_with fail
    refine (pdecode_any tb _ (by omega) HT5.out).mono ?_
    rintro e w6 ⟨⟨v6, us6, rfl, hd6⟩, hb6⟩
    obtain ⟨a6, c6, rfl⟩ := ownShape hd6.1
    obtain ⟨gd, HG⟩ : ∃ gd, Hid (gd = (decode true tb.data.toList).1) := ⟨_, (rfl : (decode true tb.data.toList).1 = _)⟩
    have HBW6 : Hid (Below w.heap.size w w6) := HBW5.out.trans (hb6.mono HBW5.out.size)
    rw [← HG.out] at HK ⊢
    clear hd6 hb6
    obtain ⟨b, hb1, hb2⟩ : ∃ b, ((gd : Int) == 0) = b ∧ (tb.toList == se.toList) = b := ⟨_, rfl, HK.out⟩
    cases b
    all_goals
      go_wp2_with fail
      refine (numY_at _ _).mono ?_
      rintro e w7 ⟨rfl, rfl⟩
      go_wp2
      go_ret
      exact ⟨rfl, HBW6.out.alloc (by have := HBW6.out.size; omega) _⟩
  · have hne : ((ee : Int) != 0) = true := by simp [hee]
    have heq : ((ee : Int) == (ee : Int)) = true := by simp
    clear hee
    go_wp2_with fail
    refine (numY_at ee _).mono ?_
    rintro e w4 ⟨rfl, rfl⟩
    go_wp2_with fail
    refine (numY_at ee _).mono ?_
    rintro e w4 ⟨rfl, rfl⟩
    go_wp2
    go_ret
    exact ⟨rfl, HBW.out⟩

set_option maxRecDepth 100000 in
set_option maxHeartbeats 4000000 in
theorem cut_law (name : ByteArray) (ar : Int) (rv : Value) (vs : List Value) (rows : List (List (List UInt8))) (n : Int) (more : ByteArray) (hn1 : -9223372036854775808 ≤ n) (hn2 : n ≤ 9223372036854775807) (hmz : more.size ≤ 1048576) (w : World) (h : Rows2 w rv vs rows) (hT : Tab w) (hn : name.size ≤ 1099511627776) (hrl : rows.length ≤ 1073741824) (hrr : ∀ r ∈ rows, r.length ≤ 1099511627776) :
    Calls Tryz.prog 6 #[.agg #[.string name, .int .i64 ar, rv], .int .i64 n, .string more] w fun e w' => e = .returned (.bool true) ∧ Below w.heap.size w w' := by
  have HH : Hid (Rows2 w rv vs rows) := h
  have HTB : Hid (Tab w) := hT
  have HRR : Hid (∀ r ∈ rows, r.length ≤ 1099511627776) := hrr
  clear hrr hT
  obtain ⟨⟨a, cap, rfl, -⟩, -, -⟩ := h
  obtain ⟨W0, HW0⟩ : ∃ W0, Hid (W0 = w.alloc (.cells #[.string name, .int .i64 ar, .slice a vs.length cap] 28)) := ⟨_, rfl⟩
  have HB0 : Hid (Below w.heap.size w W0) := by rw [HW0.out]; exact (Below.refl _ _).alloc (Nat.le_refl _) _
  have HZ0 : Hid (W0.heap.size = w.heap.size + 1) := by show _ = _; rw [HW0.out]; simp
  have HQ0 : Hid (W0.cell? ⟨w.heap.size, 0, none⟩ = some (.string name) ∧ W0.cell? ⟨w.heap.size, 1, none⟩ = some (.int .i64 ar) ∧ W0.cell? ⟨w.heap.size, 2, none⟩ = some (.slice a vs.length cap)) := by
    rw [HW0.out]; exact ⟨by simp, by simp, by simp⟩
  have hb0 : w.heap.size < W0.heap.size := by have := HZ0.out; omega
  have HR0 : Hid (Rows2 W0 (.slice a vs.length cap) vs rows) := HH.out.kept HB0.out
  have HT0 : Hid (Tab W0) := HTB.out.below HB0.out HTB.out.pos
  obtain ⟨et, ee, ei, HEN⟩ : ∃ et ee ei, Hid (encode name.data.toList ar rows = (et, ee, ei)) := ⟨_, _, _, rfl⟩
  have HEV : Hid (encd (encode name.data.toList ar rows) = .tuple #[.string (str et), .int .i64 (ee : Nat), .int .i64 (ei : Nat)]) := by show _ = _; rw [HEN.out]; rfl
  obtain ⟨se, HSE⟩ : ∃ se, Hid (se = str et) := ⟨_, (rfl : str et = _)⟩
  rw [← HSE.out] at HEV
  go_enter Tryz.func6, Tryz.ntmps6
  go_wp2_with fail
  rw [← HW0.out]
  clear HW0
  refine (relation_any name ar _ vs rows _ HR0.out hrl HRR.out).mono ?_
  rintro e w1 ⟨⟨vx, ux, rfl, hdx⟩, hb1⟩
  obtain ⟨ax, cx, rfl⟩ := own_shape' hdx.1
  have HB01 : Hid (Below W0.heap.size W0 w1) := hb1
  have HX1 : Hid (Rows2 w1 (.slice ax ux.length cx) ux rows) := hdx.rows
  have HT1 : Hid (Tab w1) := HT0.out.below hb1 HT0.out.pos
  clear hb1 hdx
  go_wp2_with fail
  refine (pencode_any name ar _ ux rows w1 HX1.out HT1.out hn hrl HRR.out).mono ?_
  rintro e w2 ⟨rfl, hb2⟩
  rw [HEV.out]
  have HB02 : Hid (Below W0.heap.size W0 w2) := HB01.out.trans (hb2.mono HB01.out.size)
  have q0 := (HB02.out.cell (p := ⟨w.heap.size, 0, none⟩) hb0).trans HQ0.out.1
  have q1 := (HB02.out.cell (p := ⟨w.heap.size, 1, none⟩) hb0).trans HQ0.out.2.1
  have q2 := (HB02.out.cell (p := ⟨w.heap.size, 2, none⟩) hb0).trans HQ0.out.2.2
  clear hb2
  go_wp2_with fail
  refine (rencode_any name ar _ vs rows _ (HR0.out.kept HB02.out) hn hrl HRR.out).mono ?_
  rintro e w3 ⟨rfl, hb3⟩
  rw [HEV.out]
  have HB03 : Hid (Below W0.heap.size W0 w3) := HB02.out.trans (hb3.mono HB02.out.size)
  have HT3 : Hid (Tab w3) := HT0.out.below HB03.out HT0.out.pos
  have HBW : Hid (Below w.heap.size w w3) := HB0.out.trans (HB03.out.mono (by omega))
  have hs3 : W0.heap.size ≤ w3.heap.size := HB03.out.size
  clear hb3 q0 q1 q2 HB01 HB02 HX1 HT1
  have e1 : ((ee : Int) != (ee : Int)) = false := by simp
  by_cases hee : ee = 0
  · subst hee
    have HEK : Hid (encode name.data.toList ar rows = (et, 0, 0)) := encode_three _ _ _ _ _ HEN.out
    have hel : et.length ≤ 65536 := encode_len _ _ _ _ HEK.out
    have zse : se.size ≤ 65536 := by rw [HSE.out, str_size]; exact hel
    obtain ⟨tb, HTM⟩ : ∃ tb, Hid (tb = se ++ more) := ⟨_, (rfl : se ++ more = _)⟩
    have ztb : tb.size ≤ 1114112 := by rw [HTM.out, ByteArray.size_append]; omega
    have htd : tb.data.toList = et ++ more.data.toList := by
      rw [HTM.out, HSE.out]
      conv => lhs; rw [← str_data more, str_app, data_str]
    obtain ⟨gd, HG⟩ : ∃ gd, Hid (gd = (decode true tb.data.toList).1) := ⟨_, (rfl : (decode true tb.data.toList).1 = _)⟩
    obtain ⟨b, hq1, hq2⟩ : ∃ b, ((gd : Int) == 0) = b ∧ (more.toList == []) = b := by
      refine ⟨_, rfl, ?_⟩
      rw [HG.out, htd, toList_of]
      by_cases hm : more.data.toList = []
      · rw [hm, List.append_nil, whole_ok _ _ _ _ HEK.out]; rfl
      · have h5 := more_none _ _ _ et _ HEK.out hm
        have hm2 : ¬ more.data = #[] := fun h => hm (by rw [h])
        apply bool_eq
        simp [hm2, h5]
    have hsm : (se.size : Int) + (more.size : Int) ≤ 9223372036854775807 := by omega
    clear htd
    have HBWw3 : Hid (Below w.heap.size w w3) := HBW
    have HTw3 : Hid (Tab w3) := HT3
    by_cases hcut : 0 ≤ n ∧ n < (se.size : Int)
    · obtain ⟨k, rfl⟩ := Int.eq_ofNat_of_zero_le hcut.1
      have hk : k < se.size := by omega
      have hki : (k : Int) < (se.size : Int) := by omega
      obtain ⟨cb, HCB⟩ : ∃ cb, Hid (cb = se.extract 0 k) := ⟨_, (rfl : se.extract 0 k = _)⟩
      have zcb : cb.size ≤ 65536 := by rw [HCB.out, ByteArray.size_extract]; omega
      have hcd : cb.data.toList = et.take k := by
        have h5 := cut_text se 0 k
        rw [from_zero, Nat.zero_add] at h5
        rw [HCB.out, h5, data_str, HSE.out, data_str]
      have hcz : (decode true cb.data.toList).1 ≠ 0 := by
        rw [hcd]
        refine cut_none _ _ _ _ HEK.out k ?_
        rw [HSE.out, str_size] at hk
        exact hk
      obtain ⟨gc, HGC⟩ : ∃ gc, Hid (gc = (decode true cb.data.toList).1) := ⟨_, (rfl : (decode true cb.data.toList).1 = _)⟩
      rw [← HGC.out] at hcz
      have hc0 : ((gc : Int) == 0) = false := by simp [hcz]
      clear hcut hcd hcz
      go_wp2_with fail
      refine (numY_at _ _).mono ?_
      rintro e w4 ⟨rfl, rfl⟩
      go_wp2_with fail
      rw [← HCB.out]
      refine (pdecode_any cb _ (by omega) HT3.out).mono ?_
      rintro e w5 ⟨⟨v5, us5, rfl, hd5⟩, hb5⟩
      obtain ⟨a5, c5, rfl⟩ := ownShape hd5.1
      rw [← HGC.out]
      have HT5 : Hid (Tab w5) := HT3.out.below hb5 HT3.out.pos
      have HBW5 : Hid (Below w.heap.size w w5) := HBW.out.trans (hb5.mono HBW.out.size)
      clear hb5 hd5
      go_wp2_with fail
      refine (numY_at _ _).mono ?_
      rintro e w5' ⟨rfl, rfl⟩
      go_wp2_with fail
      rw [← HTM.out]
      refine (pdecode_any tb _ (by omega) (HT5.out.below ((Below.refl _ _).alloc (Nat.le_refl _) _) HT5.out.pos)).mono ?_
      rintro e w6 ⟨⟨v6, us6, rfl, hd6⟩, hb6⟩
      obtain ⟨a6, c6, rfl⟩ := ownShape hd6.1
      have HBW6 : Hid (Below w.heap.size w w6) := (HBW5.out.alloc HBW5.out.size _).trans (hb6.mono (HBW5.out.alloc HBW5.out.size _).size)
      rw [← HG.out]
      clear hd6 hb6
      cases b
      all_goals
        go_wp2_with fail
        refine (numY_at _ _).mono ?_
        rintro e w7 ⟨rfl, rfl⟩
        go_wp2
        go_ret
        exact ⟨rfl, HBW6.out.alloc (by have := HBW6.out.size; omega) _⟩
    · have hcn : n < 0 ∨ (0 ≤ n ∧ (se.size : Int) ≤ n) := by omega
      clear hcut
      rcases hcn with hc1 | ⟨hc1, hc2⟩
      all_goals
        go_wp2_with fail
        refine (numY_at _ _).mono ?_
        rintro e w4 ⟨rfl, rfl⟩
        go_wp2_with fail
        rw [← HTM.out]
        refine (pdecode_any tb _ (by omega) HTw3.out).mono ?_
        rintro e w6 ⟨⟨v6, us6, rfl, hd6⟩, hb6⟩
        obtain ⟨a6, c6, rfl⟩ := ownShape hd6.1
        have HBW6 : Hid (Below w.heap.size w w6) := HBWw3.out.trans (hb6.mono HBWw3.out.size)
        rw [← HG.out]
        clear hd6 hb6
        cases b
        all_goals
          go_wp2_with fail
          refine (numY_at _ _).mono ?_
          rintro e w7 ⟨rfl, rfl⟩
          go_wp2
          go_ret
          exact ⟨rfl, HBW6.out.alloc (by have := HBW6.out.size; omega) _⟩
  · have hne : ((ee : Int) != 0) = true := by simp [hee]
    have heq : ((ee : Int) == (ee : Int)) = true := by simp
    clear hee
    go_wp2_with fail
    refine (numY_at ee _).mono ?_
    rintro e w4 ⟨rfl, rfl⟩
    go_wp2_with fail
    refine (numY_at ee _).mono ?_
    rintro e w4 ⟨rfl, rfl⟩
    go_wp2
    go_ret
    exact ⟨rfl, HBW.out⟩

end Go.Proofs.YtnnldpccagajbaaGreatDoor
