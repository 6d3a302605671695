import Derived.Test.YtnnldpccagajbaaGreatDoorM40
/-
  FileBack's walk.
-/
namespace Go.Proofs.YtnnldpccagajbaaGreatDoor
open Go.ChangeShapes Go.WideShapes Go.ChangeAt Go.RowKit
set_option linter.unusedVariables false
set_option maxRecDepth 100000 in
set_option maxHeartbeats 4000000 in
theorem back_law (name : ByteArray) (ar : Int) (rv : Value) (vs : List Value) (rows : List (List (List UInt8))) (data : ByteArray) (hdz : data.size ≤ 1048576) (w : World) (h : Rows2 w rv vs rows) (hT : Tab w) (hn : name.size ≤ 1099511627776) (hrl : rows.length ≤ 1073741824) (hrr : ∀ r ∈ rows, r.length ≤ 1099511627776) :
    Calls Tryz.prog 4 #[.agg #[.string name, .int .i64 ar, rv], .string data] w fun e w' => e = .returned (.bool true) ∧ Below w.heap.size w w' := by
  have HH : Hid (Rows2 w rv vs rows) := h
  have HTB : Hid (Tab w) := hT
  have HRR : Hid (∀ r ∈ rows, r.length ≤ 1099511627776) := hrr
  clear hrr hT
  obtain ⟨⟨a, cap, rfl, -⟩, -, -⟩ := h
  obtain ⟨W0, HW0⟩ : ∃ W0, Hid (W0 = w.alloc (.cells #[.string name, .int .i64 ar, .slice a vs.length cap] 28)) := ⟨_, rfl⟩
  have HB0 : Hid (Below w.heap.size w W0) := by rw [HW0.out]; exact (Below.refl _ _).alloc (Nat.le_refl _) _
  have HZ0 : Hid (W0.heap.size = w.heap.size + 1) := by show _ = _; rw [HW0.out]; simp
  have HQ0 : Hid (W0.cell? ⟨w.heap.size, 0, none⟩ = some (.string name) ∧ W0.cell? ⟨w.heap.size, 1, none⟩ = some (.int .i64 ar) ∧ W0.cell? ⟨w.heap.size, 2, none⟩ = some (.slice a vs.length cap)) := by
    rw [HW0.out]; exact ⟨by simp, by simp, by simp⟩
  have hb0 : w.heap.size < W0.heap.size := by have := HZ0.out; omega
  have HR0 : Hid (Rows2 W0 (.slice a vs.length cap) vs rows) := HH.out.kept HB0.out
  have HT0 : Hid (Tab W0) := HTB.out.below HB0.out HTB.out.pos
  obtain ⟨et, ee, ei, HEN⟩ : ∃ et ee ei, Hid (encode name.data.toList ar rows = (et, ee, ei)) := ⟨_, _, _, rfl⟩
  have HEV : Hid (encd (encode name.data.toList ar rows) = .tuple #[.string (str et), .int .i64 (ee : Nat), .int .i64 (ei : Nat)]) := by show _ = _; rw [HEN.out]; rfl
  obtain ⟨se, HSE⟩ : ∃ se, Hid (se = str et) := ⟨_, (rfl : str et = _)⟩
  rw [← HSE.out] at HEV
  go_enter Tryz.func4, Tryz.ntmps4
  go_wp2_with fail
  rw [← HW0.out]
  clear HW0
  refine (relation_any name ar _ vs rows _ HR0.out hrl HRR.out).mono ?_
  rintro e w1 ⟨⟨vx, ux, rfl, hdx⟩, hb1⟩
  obtain ⟨ax, cx, rfl⟩ := own_shape' hdx.1
  have HB01 : Hid (Below W0.heap.size W0 w1) := hb1
  have HX1 : Hid (Rows2 w1 (.slice ax ux.length cx) ux rows) := hdx.rows
  have HT1 : Hid (Tab w1) := HT0.out.below hb1 HT0.out.pos
  clear hb1 hdx
  go_wp2_with fail
  refine (pencode_any name ar _ ux rows w1 HX1.out HT1.out hn hrl HRR.out).mono ?_
  rintro e w2 ⟨rfl, hb2⟩
  rw [HEV.out]
  have HB02 : Hid (Below W0.heap.size W0 w2) := HB01.out.trans (hb2.mono HB01.out.size)
  have q0 := (HB02.out.cell (p := ⟨w.heap.size, 0, none⟩) hb0).trans HQ0.out.1
  have q1 := (HB02.out.cell (p := ⟨w.heap.size, 1, none⟩) hb0).trans HQ0.out.2.1
  have q2 := (HB02.out.cell (p := ⟨w.heap.size, 2, none⟩) hb0).trans HQ0.out.2.2
  clear hb2
  go_wp2_with fail
  refine (rencode_any name ar _ vs rows _ (HR0.out.kept HB02.out) hn hrl HRR.out).mono ?_
  rintro e w3 ⟨rfl, hb3⟩
  rw [HEV.out]
  have HB03 : Hid (Below W0.heap.size W0 w3) := HB02.out.trans (hb3.mono HB02.out.size)
  have HT3 : Hid (Tab w3) := HT0.out.below HB03.out HT0.out.pos
  have HBW : Hid (Below w.heap.size w w3) := HB0.out.trans (HB03.out.mono (by omega))
  have hs3 : W0.heap.size ≤ w3.heap.size := HB03.out.size
  clear hb3 q0 q1 q2 HB01 HB02 HX1 HT1
  have e1 : ((ee : Int) != (ee : Int)) = false := by simp
  by_cases hee : ee = 0
  · subst hee
    have HEK : Hid (encode name.data.toList ar rows = (et, 0, 0)) := encode_three _ _ _ _ _ HEN.out
    have hel : et.length ≤ 65536 := encode_len _ _ _ _ HEK.out
    have zse : se.size ≤ 65536 := by rw [HSE.out, str_size]; exact hel
    obtain ⟨L, hti, hTi, hdec⟩ := decode_encode true _ _ _ _ HEK.out
    have HTD : Hid (tidy name.data.toList ar rows = (0, 0, L)) := hti
    have HDS : Hid (decode true se.data.toList = (0, 0, name.data.toList, ar.toNat, L)) := by show _ = _; rw [HSE.out, data_str]; exact hdec
    have har : ((ar.toNat : Nat) : Int) = ar := Int.toNat_of_nonneg hTi.a0
    have HAR : Hid (((ar.toNat : Nat) : Int) = ar) := har
    have HLL : Hid (L.length ≤ 1073741824 ∧ ∀ r ∈ L, r.length ≤ 1099511627776) := ⟨by have := hTi.few; omega, fun r hr => by have h1 := (hTi.rows r hr).1; have h2 := hTi.a8; omega⟩
    clear hti hTi hdec har
    go_wp2_with fail
    refine (numY_at _ _).mono ?_
    rintro e w4 ⟨rfl, rfl⟩
    go_wp2_with fail
    refine (pdecode_any se _ (by omega) HT3.out).mono ?_
    rintro e w5 ⟨⟨v5, us5, he5, hd5⟩, hb5⟩
    rw [HDS.out] at he5 hd5
    simp only at he5 hd5
    rw [str_data, HAR.out] at he5
    subst he5
    obtain ⟨a5, c5, rfl⟩ := ownShape hd5.1
    obtain ⟨W5, HW5⟩ : ∃ W5, Hid (W5 = w5.alloc (.cells #[.string name, .int .i64 ar, .slice a5 us5.length c5] 24)) := ⟨_, rfl⟩
    have HBA5 : Hid (Below w5.heap.size w5 W5) := by rw [HW5.out]; exact (Below.refl _ _).alloc (Nat.le_refl _) _
    have HQ5 : Hid (W5.cell? ⟨w5.heap.size, 0, none⟩ = some (.string name) ∧ W5.cell? ⟨w5.heap.size, 1, none⟩ = some (.int .i64 ar) ∧ W5.cell? ⟨w5.heap.size, 2, none⟩ = some (.slice a5 us5.length c5)) := by rw [HW5.out]; exact ⟨by simp, by simp, by simp⟩
    have hz5 : w5.heap.size < W5.heap.size := by rw [HW5.out]; simp
    have HD5 : Hid (Deep w3.heap.size W5 (.slice a5 us5.length c5) us5 L) := Deep.kept hd5 HBA5.out
    have HB35 : Hid (Below w3.heap.size w3 W5) := hb5.trans (HBA5.out.mono hb5.size)
    have HB05 : Hid (Below W0.heap.size W0 W5) := HB03.out.trans (HB35.out.mono hs3)
    have HBW5 : Hid (Below w.heap.size w W5) := HBW.out.trans (HB35.out.mono (by omega))
    have hs5 : w3.heap.size ≤ w5.heap.size := hb5.size
    have hlt5 : w.heap.size < w5.heap.size := by omega
    have hbA : Below W0.heap.size W0 w5 := HB03.out.trans (hb5.mono hs3)
    have q0 := (hbA.cell (p := ⟨w.heap.size, 0, none⟩) hb0).trans HQ0.out.1
    have q1 := (hbA.cell (p := ⟨w.heap.size, 1, none⟩) hb0).trans HQ0.out.2.1
    have q2 := (hbA.cell (p := ⟨w.heap.size, 2, none⟩) hb0).trans HQ0.out.2.2
    clear hd5 hb5 hbA
    go_wp2_with fail
    rw [← HW5.out]
    clear HW5 q0 q1 q2
    refine (rtidy_any name ar _ vs rows _ (HR0.out.kept HB05.out) (by omega) hrl HRR.out).mono ?_
    rintro e w6 ⟨hu, hb6⟩
    rw [HTD.out] at hu
    obtain ⟨vu, uu, rfl, hou, hlu, hiu⟩ := hu
    simp only at hlu hiu
    obtain ⟨au, cu, rfl⟩ := ownShape hou
    have HUR : Hid (Rows2 w6 (.slice au uu.length cu) uu L) := ⟨own_vals hou, hlu, fun i x r hx hr => (hiu i x r hx hr).kept hb6⟩
    have d0 := (hb6.cell (p := ⟨w5.heap.size, 0, none⟩) hz5).trans HQ5.out.1
    have d1 := (hb6.cell (p := ⟨w5.heap.size, 1, none⟩) hz5).trans HQ5.out.2.1
    have d2 := (hb6.cell (p := ⟨w5.heap.size, 2, none⟩) hz5).trans HQ5.out.2.2
    have hz6 : w5.heap.size < w6.heap.size := by have := hb6.size; omega
    have HD6 : Hid (Rows2 w6 (.slice a5 us5.length c5) us5 L) := (HD5.out.kept hb6).rows
    have HBW6 : Hid (Below w.heap.size w w6) := HBW5.out.trans (hb6.mono HBW5.out.size)
    clear hou hlu hiu hb6
    obtain ⟨W7, HW7⟩ : ∃ W7, Hid (W7 = w6.alloc (.cells #[.string name, .int .i64 ar, .slice au uu.length cu] 28)) := ⟨_, rfl⟩
    have HBA7 : Hid (Below w6.heap.size w6 W7) := by rw [HW7.out]; exact (Below.refl _ _).alloc (Nat.le_refl _) _
    have HBW7 : Hid (Below w.heap.size w W7) := HBW6.out.trans (HBA7.out.mono HBW6.out.size)
    go_wp2_with fail
    rw [← HW7.out]
    clear HW7 d0 d1 d2
    refine (sameRel_any name ar _ _ us5 uu L _ (HD6.out.kept HBA7.out) (HUR.out.kept HBA7.out) HLL.out.1 HLL.out.2).mono ?_
    rintro e w8 ⟨rfl, hb8⟩
    have HBWw8 : Hid (Below w.heap.size w w8) := HBW7.out.trans (hb8.mono HBW7.out.size)
    have HTw8 : Hid (Tab w8) := HTB.out.below HBWw8.out HTB.out.pos
    clear hb8
    go_wp2_with fail
    refine (numY_at _ _).mono ?_
    rintro e w9 ⟨rfl, rfl⟩
    obtain ⟨er, da, nm, ar2, rw2, HDD⟩ : ∃ er da nm ar2 rw2, Hid (decode true data.data.toList = (er, da, nm, ar2, rw2)) := ⟨_, _, _, _, _, rfl⟩
    go_wp2_with fail
    refine (pdecode_any data _ (by omega) HTw8.out).mono ?_
    rintro e x1 ⟨⟨v1, us1, he1, hd1⟩, hx1⟩
    rw [HDD.out] at he1 hd1
    simp only at he1 hd1
    subst he1
    obtain ⟨a1, c1, rfl⟩ := ownShape hd1.1
    obtain ⟨X1, HX1'⟩ : ∃ X1, Hid (X1 = x1.alloc (.cells #[.string (str nm), .int .i64 (ar2 : Nat), .slice a1 us1.length c1] 24)) := ⟨_, rfl⟩
    have HBA1 : Hid (Below x1.heap.size x1 X1) := by rw [HX1'.out]; exact (Below.refl _ _).alloc (Nat.le_refl _) _
    have HQ1 : Hid (X1.cell? ⟨x1.heap.size, 0, none⟩ = some (.string (str nm)) ∧ X1.cell? ⟨x1.heap.size, 1, none⟩ = some (.int .i64 (ar2 : Nat)) ∧ X1.cell? ⟨x1.heap.size, 2, none⟩ = some (.slice a1 us1.length c1)) := by rw [HX1'.out]; exact ⟨by simp, by simp, by simp⟩
    have hz1 : x1.heap.size < X1.heap.size := by rw [HX1'.out]; simp
    have HD1 : Hid (Deep w8.heap.size X1 (.slice a1 us1.length c1) us1 rw2) := Deep.kept hd1 HBA1.out
    have HBX1 : Hid (Below w.heap.size w X1) := (HBWw8.out.trans (hx1.mono HBWw8.out.size)).trans (HBA1.out.mono (by have := HBWw8.out.size; have := hx1.size; omega))
    have HTX1 : Hid (Tab X1) := HTB.out.below HBX1.out HTB.out.pos
    have HLN : Hid (rw2.length ≤ 2000 ∧ ∀ r ∈ rw2, r.length ≤ 1099511627776) := by
      obtain ⟨h1, h2⟩ := decode_rows data.data.toList
      rw [HDD.out] at h1 h2
      exact ⟨h1, fun r hr => by have := h2 r hr; omega⟩
    clear hd1 hx1
    go_wp2_with fail
    rw [← HX1'.out]
    clear HX1'
    refine (rdecode_any data _ (by omega)).mono ?_
    rintro e x2 ⟨⟨v2, us2, he2, hd2⟩, hx2⟩
    rw [HDD.out] at he2
    simp only at he2
    subst he2
    obtain ⟨a2, c2, rfl⟩ := ownShape hd2.1
    have k0 := (hx2.cell (p := ⟨x1.heap.size, 0, none⟩) hz1).trans HQ1.out.1
    have k1 := (hx2.cell (p := ⟨x1.heap.size, 1, none⟩) hz1).trans HQ1.out.2.1
    have k2 := (hx2.cell (p := ⟨x1.heap.size, 2, none⟩) hz1).trans HQ1.out.2.2
    have hz2 : x1.heap.size < x2.heap.size := by have := hx2.size; omega
    have HD2 : Hid (Deep w8.heap.size x2 (.slice a1 us1.length c1) us1 rw2) := HD1.out.kept hx2
    have HBX2 : Hid (Below w.heap.size w x2) := HBX1.out.trans (hx2.mono HBX1.out.size)
    have HTX2 : Hid (Tab x2) := HTX1.out.below hx2 HTX1.out.pos
    have e2 : ((er : Int) != (er : Int)) = false := by simp
    clear hd2 hx2
    by_cases her : er = 0
    · subst her
      have HEK2 : Hid (encode nm (ar2 : Int) rw2 = (data.data.toList, 0, 0)) := encode_decode true _ _ _ _ _ HDD.out
      have znm : (str nm).size ≤ 30 := by
        obtain ⟨L, -, hTi, -, -, -⟩ := encode_tidy _ _ _ _ HEK2.out
        rw [str_size]; exact isName_len _ hTi.isn
      have HEV2 : Hid (encd (encode (str nm).data.toList (ar2 : Int) rw2) = .tuple #[.string data, .int .i64 0, .int .i64 0]) := by show _ = _; rw [data_str, HEK2.out]; show Value.tuple #[.string (str data.data.toList), _, _] = _; rw [str_data]; rfl
      have hdq : (data.toList == data.toList) = true := by simp
      go_wp2_with fail
      refine (numY_at _ _).mono ?_
      rintro e x3 ⟨rfl, rfl⟩
      go_wp2_with fail
      refine (pencode_any (str nm) ar2 _ us1 rw2 _ ?R1 ?R2 (by omega) (by have := HLN.out.1; omega) HLN.out.2).mono ?_
      case R1 => first | exact HD2.out.rows | exact HD2.out.rows.kept ((Below.refl _ _).alloc (Nat.le_refl _) _)
      case R2 => first | exact HTX2.out | exact HTX2.out.below ((Below.refl _ _).alloc (Nat.le_refl _) _) HTX2.out.pos
      rintro e x4 ⟨rfl, hx4⟩
      rw [HEV2.out]
      have HBX4 : Hid (Below w.heap.size w x4) := by
        first
          | exact HBX2.out.trans (hx4.mono HBX2.out.size)
          | exact (HBX2.out.alloc HBX2.out.size _).trans (hx4.mono (HBX2.out.alloc HBX2.out.size _).size)
      clear hx4 k0 k1 k2
      go_wp2_with fail
      refine (numY_at _ _).mono ?_
      rintro e x5 ⟨rfl, rfl⟩
      go_wp2
      go_ret
      exact ⟨rfl, HBX4.out⟩
    · have hbd := decode_bad data.data.toList (by rw [HDD.out]; exact her)
      rw [HDD.out] at hbd
      have hnm : nm = [] := (Prod.mk.inj hbd).1
      have hrw : rw2 = [] := (Prod.mk.inj (Prod.mk.inj hbd).2).2
      have hu0 : us1.length = 0 := by rw [HD2.out.2.1, hrw]; rfl
      rw [hnm] at k0
      have k0' : x2.cell? ⟨x1.heap.size, 0, none⟩ = some (.string { data := #[] }) := k0
      have hne : ((er : Int) != 0) = true := by simp [her]
      rw [hu0] at k2
      clear hbd her hrw hnm k0
      go_wp2_with fail
      refine (numY_at _ _).mono ?_
      rintro e x3 ⟨rfl, rfl⟩
      go_wp2
      go_ret
      exact ⟨rfl, HBX2.out.alloc HBX2.out.size _⟩
  · have hne0 : ((ee : Int) == 0) = false := by simp [hee]
    have HBWw3 : Hid (Below w.heap.size w w3) := HBW
    have HTw3 : Hid (Tab w3) := HT3
    clear hee
    go_wp2_with fail
    refine (numY_at _ _).mono ?_
    rintro e w4 ⟨rfl, rfl⟩
    obtain ⟨er, da, nm, ar2, rw2, HDD⟩ : ∃ er da nm ar2 rw2, Hid (decode true data.data.toList = (er, da, nm, ar2, rw2)) := ⟨_, _, _, _, _, rfl⟩
    go_wp2_with fail
    refine (pdecode_any data _ (by omega) HTw3.out).mono ?_
    rintro e x1 ⟨⟨v1, us1, he1, hd1⟩, hx1⟩
    rw [HDD.out] at he1 hd1
    simp only at he1 hd1
    subst he1
    obtain ⟨a1, c1, rfl⟩ := ownShape hd1.1
    obtain ⟨X1, HX1'⟩ : ∃ X1, Hid (X1 = x1.alloc (.cells #[.string (str nm), .int .i64 (ar2 : Nat), .slice a1 us1.length c1] 24)) := ⟨_, rfl⟩
    have HBA1 : Hid (Below x1.heap.size x1 X1) := by rw [HX1'.out]; exact (Below.refl _ _).alloc (Nat.le_refl _) _
    have HQ1 : Hid (X1.cell? ⟨x1.heap.size, 0, none⟩ = some (.string (str nm)) ∧ X1.cell? ⟨x1.heap.size, 1, none⟩ = some (.int .i64 (ar2 : Nat)) ∧ X1.cell? ⟨x1.heap.size, 2, none⟩ = some (.slice a1 us1.length c1)) := by rw [HX1'.out]; exact ⟨by simp, by simp, by simp⟩
    have hz1 : x1.heap.size < X1.heap.size := by rw [HX1'.out]; simp
    have HD1 : Hid (Deep w3.heap.size X1 (.slice a1 us1.length c1) us1 rw2) := Deep.kept hd1 HBA1.out
    have HBX1 : Hid (Below w.heap.size w X1) := (HBWw3.out.trans (hx1.mono HBWw3.out.size)).trans (HBA1.out.mono (by have := HBWw3.out.size; have := hx1.size; omega))
    have HTX1 : Hid (Tab X1) := HTB.out.below HBX1.out HTB.out.pos
    have HLN : Hid (rw2.length ≤ 2000 ∧ ∀ r ∈ rw2, r.length ≤ 1099511627776) := by
      obtain ⟨h1, h2⟩ := decode_rows data.data.toList
      rw [HDD.out] at h1 h2
      exact ⟨h1, fun r hr => by have := h2 r hr; omega⟩
    clear hd1 hx1
    go_wp2_with fail
    rw [← HX1'.out]
    clear HX1'
    refine (rdecode_any data _ (by omega)).mono ?_
    rintro e x2 ⟨⟨v2, us2, he2, hd2⟩, hx2⟩
    rw [HDD.out] at he2
    simp only at he2
    subst he2
    obtain ⟨a2, c2, rfl⟩ := ownShape hd2.1
    have k0 := (hx2.cell (p := ⟨x1.heap.size, 0, none⟩) hz1).trans HQ1.out.1
    have k1 := (hx2.cell (p := ⟨x1.heap.size, 1, none⟩) hz1).trans HQ1.out.2.1
    have k2 := (hx2.cell (p := ⟨x1.heap.size, 2, none⟩) hz1).trans HQ1.out.2.2
    have hz2 : x1.heap.size < x2.heap.size := by have := hx2.size; omega
    have HD2 : Hid (Deep w3.heap.size x2 (.slice a1 us1.length c1) us1 rw2) := HD1.out.kept hx2
    have HBX2 : Hid (Below w.heap.size w x2) := HBX1.out.trans (hx2.mono HBX1.out.size)
    have HTX2 : Hid (Tab x2) := HTX1.out.below hx2 HTX1.out.pos
    have e2 : ((er : Int) != (er : Int)) = false := by simp
    clear hd2 hx2
    by_cases her : er = 0
    · subst her
      have HEK2 : Hid (encode nm (ar2 : Int) rw2 = (data.data.toList, 0, 0)) := encode_decode true _ _ _ _ _ HDD.out
      have znm : (str nm).size ≤ 30 := by
        obtain ⟨L, -, hTi, -, -, -⟩ := encode_tidy _ _ _ _ HEK2.out
        rw [str_size]; exact isName_len _ hTi.isn
      have HEV2 : Hid (encd (encode (str nm).data.toList (ar2 : Int) rw2) = .tuple #[.string data, .int .i64 0, .int .i64 0]) := by show _ = _; rw [data_str, HEK2.out]; show Value.tuple #[.string (str data.data.toList), _, _] = _; rw [str_data]; rfl
      have hdq : (data.toList == data.toList) = true := by simp
      go_wp2_with fail
      refine (numY_at _ _).mono ?_
      rintro e x3 ⟨rfl, rfl⟩
      go_wp2_with fail
      refine (pencode_any (str nm) ar2 _ us1 rw2 _ ?R1 ?R2 (by omega) (by have := HLN.out.1; omega) HLN.out.2).mono ?_
      case R1 => first | exact HD2.out.rows | exact HD2.out.rows.kept ((Below.refl _ _).alloc (Nat.le_refl _) _)
      case R2 => first | exact HTX2.out | exact HTX2.out.below ((Below.refl _ _).alloc (Nat.le_refl _) _) HTX2.out.pos
      rintro e x4 ⟨rfl, hx4⟩
      rw [HEV2.out]
      have HBX4 : Hid (Below w.heap.size w x4) := by
        first
          | exact HBX2.out.trans (hx4.mono HBX2.out.size)
          | exact (HBX2.out.alloc HBX2.out.size _).trans (hx4.mono (HBX2.out.alloc HBX2.out.size _).size)
      clear hx4 k0 k1 k2
      go_wp2_with fail
      refine (numY_at _ _).mono ?_
      rintro e x5 ⟨rfl, rfl⟩
      go_wp2
      go_ret
      exact ⟨rfl, HBX4.out⟩
    · have hbd := decode_bad data.data.toList (by rw [HDD.out]; exact her)
      rw [HDD.out] at hbd
      have hnm : nm = [] := (Prod.mk.inj hbd).1
      have hrw : rw2 = [] := (Prod.mk.inj (Prod.mk.inj hbd).2).2
      have hu0 : us1.length = 0 := by rw [HD2.out.2.1, hrw]; rfl
      rw [hnm] at k0
      have k0' : x2.cell? ⟨x1.heap.size, 0, none⟩ = some (.string { data := #[] }) := k0
      have hne : ((er : Int) != 0) = true := by simp [her]
      rw [hu0] at k2
      clear hbd her hrw hnm k0
      go_wp2_with fail
      refine (numY_at _ _).mono ?_
      rintro e x3 ⟨rfl, rfl⟩
      go_wp2
      go_ret
      exact ⟨rfl, HBX2.out.alloc HBX2.out.size _⟩
end Go.Proofs.YtnnldpccagajbaaGreatDoor
