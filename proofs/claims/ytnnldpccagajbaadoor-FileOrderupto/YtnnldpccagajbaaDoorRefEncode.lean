/-
  The document's Encode, walked.
-/
import Derived.Test.YtnnldpccagajbaaDoorRefColumn
import Derived.Test.YtnnldpccagajbaaDoorTidyFacts
import Derived.Deep.RegionHeld3
namespace Go.Proofs.YtnnldpccagajbaaDoor
open Go.ChangeShapes Go.WideShapes Go.ChangeAt Go.RowKit
set_option linter.unusedVariables false
theorem isName_len (s : List UInt8) (h : isName s = true) : s.length ≤ 30 := by
  unfold isName at h
  split at h
  · cases h
  · simp at h; simp; omega
/-- what Encode answers, as values -/
def encd (r : List UInt8 × Nat × Nat) : Value := .tuple #[.string (str r.1), .int .i64 (r.2.1 : Nat), .int .i64 (r.2.2 : Nat)]
theorem encode_bad (name : List UInt8) (ar : Int) (rows : List (List (List UInt8))) (e i : Nat) (L : List (List (List UInt8))) (h : tidy name ar rows = (e, i, L)) (he : e ≠ 0) : encode name ar rows = ([], e, i) := by
  unfold encode; rw [h]
  cases e with
  | zero => exact absurd rfl he
  | succ e => rfl
theorem encode_ok (name : List UInt8) (ar : Int) (rows : List (List (List UInt8))) (i : Nat) (L : List (List (List UInt8))) (h : tidy name ar rows = (0, i, L)) : encode name ar rows = if 65536 < (packF name ar.toNat L).length then ([], 1, 0) else (packF name ar.toNat L, 0, 0) := by
  unfold encode; rw [h]
set_option maxRecDepth 100000 in
set_option maxHeartbeats 4000000 in
theorem rencode_any (name : ByteArray) (ar : Int) (rv : Value) (vs : List Value) (rows : List (List (List UInt8))) (w : World) (h : Rows2 w rv vs rows) (hn : name.size ≤ 1099511627776) (hrl : rows.length ≤ 1073741824) (hrr : ∀ r ∈ rows, r.length ≤ 1099511627776) :
    Calls Tryd.prog 7 #[.agg #[.string name, .int .i64 ar, rv]] w fun e w' => e = .returned (encd (encode name.data.toList ar rows)) ∧ Below w.heap.size w w' := by
  have HH : Hid (Rows2 w rv vs rows) := h
  have HRR : Hid (∀ r ∈ rows, r.length ≤ 1099511627776) := hrr
  clear hrr
  obtain ⟨⟨a, cap, rfl, -⟩, -, -⟩ := h
  obtain ⟨te, ti, tl, HTD⟩ : ∃ te ti tl, Hid (tidy name.data.toList ar rows = (te, ti, tl)) := ⟨_, _, _, rfl⟩
  have HB0 : Hid (Below w.heap.size w (w.alloc (.cells #[.string name, .int .i64 ar, .slice a vs.length cap] 24))) := (Below.refl _ _).alloc (Nat.le_refl _) _
  go_enter Tryd.func7, Tryd.ntmps7
  go_wp2_with fail
  refine (rtidy_any name ar _ vs rows _ (HH.out.kept HB0.out) (by omega) hrl HRR.out).mono ?_
  rintro e w1 ⟨hu, hb1⟩
  rw [HTD.out] at hu
  have HB1 : Hid (Below w.heap.size w w1) := HB0.out.trans (hb1.mono (by simp))
  by_cases hte : te = 0
  · subst hte
    obtain ⟨vu, uu, rfl, hou, hlu, hiu⟩ := hu
    simp only at hlu hiu
    obtain ⟨au, cu, rfl⟩ := ownShape hou
    obtain ⟨hti, htl, HTY⟩ := tidy_facts _ _ _ _ _ HTD.out
    have HUR : Hid (Rows2 w1 (.slice au uu.length cu) uu tl) := ⟨own_vals hou, hlu, fun i x r hx hr => (hiu i x r hx hr).kept hb1⟩
    have HTF : Hid (Tidy name.data.toList ar tl) := HTY
    have HBT : Hid (Below w1.heap.size w1 (w1.alloc (.cells #[.string name, .int .i64 ar, .slice au uu.length cu] 24))) := (Below.refl _ _).alloc (Nat.le_refl _) _
    clear hou hlu hiu hb1 hti htl HTY
    have har0 := HTF.out.a0
    have har8 := HTF.out.a8
    obtain ⟨m, hm⟩ := Int.eq_ofNat_of_zero_le har0
    subst hm
    have hm8 : m ≤ 8 := by omega
    have huu : uu.length ≤ 2000 := by have := HUR.out.2.1; have := HTF.out.few; omega
    have HUL : Hid (uu.length = tl.length) := HUR.out.2.1
    obtain ⟨WT, HWT⟩ : ∃ WT, Hid (WT = w1.alloc (.cells #[.string name, .int .i64 m, .slice au uu.length cu] 24)) := ⟨_, rfl⟩
    have HZT : Hid (WT.heap.size = w1.heap.size + 1) := by show _ = _; rw [HWT.out]; simp
    have HBW : Hid (Below w.heap.size w WT) := by rw [HWT.out]; exact HB1.out.trans (HBT.out.mono HB1.out.size)
    have HQ : Hid (WT.cell? ⟨w1.heap.size, 0, none⟩ = some (.string name) ∧ WT.cell? ⟨w1.heap.size, 1, none⟩ = some (.int .i64 m) ∧ WT.cell? ⟨w1.heap.size, 2, none⟩ = some (.slice au uu.length cu)) := by
      rw [HWT.out]; exact ⟨by simp, by simp, by simp⟩
    have HUT : Hid (Rows2 WT (.slice au uu.length cu) uu tl) := by rw [HWT.out]; exact HUR.out.kept HBT.out
    have hbt : w1.heap.size < WT.heap.size := by have := HZT.out; omega
    have HLT : Hid ((∀ r ∈ tl, r.length ≤ 1099511627776) ∧ (∀ r ∈ tl, r.length = m) ∧ tl.flatten.length ≤ 16000 ∧ tl.length ≤ 2000) := by
      have h1 : ∀ r ∈ tl, r.length = m := fun r hr => by have := (HTF.out.rows r hr).1; simpa using this
      have h2 := flat_len m tl h1
      have h3 := HTF.out.few
      have h4 : m * tl.length ≤ 8 * 2000 := Nat.mul_le_mul hm8 h3
      exact ⟨fun r hr => by rw [h1 r hr]; omega, h1, by omega, h3⟩
    have hall : (allT tl).length ≤ 16000 := by have := allT_len tl; have := HLT.out.2.2.1; omega
    go_wp2_with fail
    rw [← HWT.out]
    clear HWT HBT HUR
    refine (rvarint_any name.size _ (by omega)).mono ?_
    rintro e w2 ⟨rfl, hb2⟩
    have HB2 : Hid (Below WT.heap.size WT w2) := hb2
    have t0 := (HB2.out.cell (p := ⟨w1.heap.size, 0, none⟩) hbt).trans HQ.out.1
    have t1 := (HB2.out.cell (p := ⟨w1.heap.size, 1, none⟩) hbt).trans HQ.out.2.1
    have t2 := (HB2.out.cell (p := ⟨w1.heap.size, 2, none⟩) hbt).trans HQ.out.2.2
    clear hb2
    go_wp2_with fail
    refine (rvarint_any m _ (by omega)).mono ?_
    rintro e w3 ⟨rfl, hb3⟩
    have HB3 : Hid (Below WT.heap.size WT w3) := HB2.out.trans (hb3.mono HB2.out.size)
    clear hb3 t0 t1 t2 HB2
    have t0 := (HB3.out.cell (p := ⟨w1.heap.size, 0, none⟩) hbt).trans HQ.out.1
    have t1 := (HB3.out.cell (p := ⟨w1.heap.size, 1, none⟩) hbt).trans HQ.out.2.1
    have t2 := (HB3.out.cell (p := ⟨w1.heap.size, 2, none⟩) hbt).trans HQ.out.2.2
    go_wp2_with fail
    refine (rvarint_any uu.length _ (by omega)).mono ?_
    rintro e w4 ⟨rfl, hb4⟩
    have HB4 : Hid (Below WT.heap.size WT w4) := HB3.out.trans (hb4.mono HB3.out.size)
    clear hb4 t0 t1 t2 HB3
    have t0 := (HB4.out.cell (p := ⟨w1.heap.size, 0, none⟩) hbt).trans HQ.out.1
    have t1 := (HB4.out.cell (p := ⟨w1.heap.size, 1, none⟩) hbt).trans HQ.out.2.1
    have t2 := (HB4.out.cell (p := ⟨w1.heap.size, 2, none⟩) hbt).trans HQ.out.2.2
    go_wp2_with fail
    refine (rtexts_any _ uu tl _ (HUT.out.kept HB4.out) (by have := HLT.out.2.2.2; omega) HLT.out.1 (by have := HLT.out.2.2.1; omega)).mono ?_
    rintro e w5 ⟨⟨va, rfl, hoa⟩, hb5⟩
    obtain ⟨aa, ac, rfl⟩ := ownShape hoa
    have HB5 : Hid (Below WT.heap.size WT w5) := HB4.out.trans (hb5.mono HB4.out.size)
    have HO5 : Hid (w5.ownsRow w4.heap.size 9 1 (.slice aa (allT tl).length ac) (allT tl).length (ts (allT tl))) := hoa
    clear hb5 hoa t0 t1 t2 HB4
    have t0 := (HB5.out.cell (p := ⟨w1.heap.size, 0, none⟩) hbt).trans HQ.out.1
    have t1 := (HB5.out.cell (p := ⟨w1.heap.size, 1, none⟩) hbt).trans HQ.out.2.1
    have t2 := (HB5.out.cell (p := ⟨w1.heap.size, 2, none⟩) hbt).trans HQ.out.2.2
    obtain ⟨rt, re, ri, HRB⟩ : ∃ rt re ri, Hid (build (allT tl) = (rt, re, ri)) := ⟨_, _, _, rfl⟩
    have HBV : Hid (built (build (allT tl)) = .tuple #[.string (str rt), .int .i64 (re : Nat), .int .i64 (ri : Nat)]) := by show _ = _; rw [HRB.out]; rfl
    have hrt : rt.length ≤ 3488009 := by have := build_len (allT tl) (by omega); rw [HRB.out] at this; simp only at this; omega
    go_wp2_with fail
    refine (rbuild_any _ (allT tl) _ (own_strs HO5.out) (by omega)).mono ?_
    rintro e w6 ⟨rfl, hb6⟩
    rw [HBV.out]
    have HB6 : Hid (Below WT.heap.size WT w6) := HB5.out.trans (hb6.mono HB5.out.size)
    have HO6 : Hid (w6.ownsRow w4.heap.size 9 1 (.slice aa (allT tl).length ac) (allT tl).length (ts (allT tl))) := own_kept HO5.out hb6
    clear hb6 t0 t1 t2 HB5 HO5
    have t0 := (HB6.out.cell (p := ⟨w1.heap.size, 0, none⟩) hbt).trans HQ.out.1
    have t1 := (HB6.out.cell (p := ⟨w1.heap.size, 1, none⟩) hbt).trans HQ.out.2.1
    have t2 := (HB6.out.cell (p := ⟨w1.heap.size, 2, none⟩) hbt).trans HQ.out.2.2
    have hn30 : name.size ≤ 30 := by have := isName_len _ HTF.out.isn; simpa using this
    have l1 := vb_length9 name.size (by omega)
    have l2 := vb_length9 m (by omega)
    have l3 := vb_length9 uu.length (by omega)
    obtain ⟨sa, HSA⟩ : ∃ sa, Hid (sa = str (vb name.size)) := ⟨_, (rfl : str (vb name.size) = _)⟩
    obtain ⟨sb, HSB⟩ : ∃ sb, Hid (sb = str (vb m)) := ⟨_, (rfl : str (vb m) = _)⟩
    obtain ⟨sc, HSC⟩ : ∃ sc, Hid (sc = str (vb uu.length)) := ⟨_, (rfl : str (vb uu.length) = _)⟩
    obtain ⟨sr, HSR⟩ : ∃ sr, Hid (sr = str rt) := ⟨_, (rfl : str rt = _)⟩
    rw [← HSA.out, ← HSB.out, ← HSC.out, ← HSR.out]
    have za : sa.size ≤ 9 := by rw [HSA.out, str_size]; exact l1
    have zb : sb.size ≤ 9 := by rw [HSB.out, str_size]; exact l2
    have zc : sc.size ≤ 9 := by rw [HSC.out, str_size]; exact l3
    have zr : sr.size ≤ 3488009 := by rw [HSR.out, str_size]; exact hrt
    have z1 : (sa ++ name).size ≤ 39 := by rw [ByteArray.size_append]; omega
    have z2 : (sa ++ name ++ sb).size ≤ 48 := by rw [ByteArray.size_append]; omega
    have z3 : (sa ++ name ++ sb ++ sc).size ≤ 57 := by rw [ByteArray.size_append]; omega
    have HH1 : Hid (sa ++ name ++ sb ++ sc = str (headT name.data.toList m tl.length)) := by
      show _ = _
      rw [HSA.out, HSB.out, HSC.out]
      conv => lhs; rw [← str_data name]
      rw [str_app, str_app, str_app, HUL.out]
      unfold headT
      simp [List.append_assoc, str_size]
    clear l1 l2 l3
    go_wp2_with fail
    refine (rpage_any (sa ++ name ++ sb ++ sc) _ (by omega)).mono ?_
    rintro e w7 ⟨rfl, hb7⟩
    obtain ⟨p1, HP1⟩ : ∃ p1, Hid (p1 = str (page (sa ++ name ++ sb ++ sc).data.toList)) := ⟨_, (rfl : str (page (sa ++ name ++ sb ++ sc).data.toList) = _)⟩
    rw [← HP1.out]
    have zp1 : p1.size ≤ 70 := by
      have := page_len (sa ++ name ++ sb ++ sc).data.toList (by simp; omega)
      have z3' : (sa ++ name ++ sb ++ sc).data.toList.length ≤ 57 := by simp; omega
      rw [HP1.out, str_size]; omega
    have HB7 : Hid (Below WT.heap.size WT w7) := HB6.out.trans (hb7.mono HB6.out.size)
    have HO7 : Hid (w7.ownsRow w4.heap.size 9 1 (.slice aa (allT tl).length ac) (allT tl).length (ts (allT tl))) := own_kept HO6.out hb7
    clear hb7 t0 t1 t2 HB6 HO6 z1 z2 z3
    go_wp2_with fail
    refine (rpage_any sr _ (by omega)).mono ?_
    rintro e w8 ⟨rfl, hb8⟩
    obtain ⟨p2, HP2⟩ : ∃ p2, Hid (p2 = str (page sr.data.toList)) := ⟨_, (rfl : str (page sr.data.toList) = _)⟩
    rw [← HP2.out]
    have zp2 : p2.size ≤ 3488022 := by
      have := page_len sr.data.toList (by simp; omega)
      have z3' : sr.data.toList.length ≤ 3488009 := by simpa using zr
      rw [HP2.out, str_size]; omega
    have HB8 : Hid (Below WT.heap.size WT w8) := HB7.out.trans (hb8.mono HB7.out.size)
    have HO8 : Hid (w8.ownsRow w4.heap.size 9 1 (.slice aa (allT tl).length ac) (allT tl).length (ts (allT tl))) := own_kept HO7.out hb8
    clear hb8 HB7 HO7
    have z4 : (({ data := #[82, 69, 76, 49] } : ByteArray) ++ p1).size ≤ 74 := by rw [ByteArray.size_append]; have : ({ data := #[82, 69, 76, 49] } : ByteArray).size = 4 := rfl; omega
    have z5 : (({ data := #[82, 69, 76, 49] } : ByteArray) ++ p1 ++ p2).size ≤ 3488096 := by rw [ByteArray.size_append]; omega
    have HOUT : Hid (({ data := #[82, 69, 76, 49] } : ByteArray) ++ p1 ++ p2 = str ([82, 69, 76, 49] ++ (page (headT name.data.toList m tl.length) ++ (page rt ++ colsF (allT tl) tl 0)))) := by
      show _ = _
      rw [HP1.out, HP2.out, HH1.out, HSR.out, data_str, data_str, show ({ data := #[82, 69, 76, 49] } : ByteArray) = str [82, 69, 76, 49] from rfl, str_app, str_app]
      simp [colsF]
    have HSZ : Hid (([82, 69, 76, 49] ++ (page (headT name.data.toList m tl.length) ++ (page rt ++ colsF (allT tl) tl 0))).length ≤ 3488096) := by
      have := z5
      rw [HOUT.out, str_size] at this
      exact this
    go_wp2
    obtain ⟨s0, HS0⟩ : ∃ s0, Hid (s0 = ({ data := #[82, 69, 76, 49] } : ByteArray) ++ p1 ++ p2) := ⟨_, (rfl : ({ data := #[82, 69, 76, 49] } : ByteArray) ++ p1 ++ p2 = _)⟩
    obtain ⟨s00, HS00⟩ : ∃ s00, Hid (s00 = ({ data := #[82, 69, 76, 49] } : ByteArray) ++ p1) := ⟨_, (rfl : ({ data := #[82, 69, 76, 49] } : ByteArray) ++ p1 = _)⟩
    rw [← HS0.out, ← HS00.out]
    clear z4 z5
    go_loopw [15, 16] (fun ov kv wr => ∃ (k : Nat) (out : List UInt8) (so : ByteArray), k ≤ m ∧ kv = .int .i64 k ∧ ov = .string so ∧ Hid (so = str out) ∧ out.length ≤ 3488096 + k * 18013 ∧ Hid (out = [82, 69, 76, 49] ++ (page (headT name.data.toList m tl.length) ++ (page rt ++ colsF (allT tl) tl k))) ∧ Hid (Below WT.heap.size WT wr) ∧ Hid (wr.ownsRow w4.heap.size 9 1 (.slice aa (allT tl).length ac) (allT tl).length (ts (allT tl)))) (fun _ kv _ => m - (intOf kv).toNat)
    case atStart => exact ⟨0, _, s0, by omega, rfl, rfl, HS0.out.trans HOUT.out, by have := HSZ.out; omega, (rfl : _ = _), HB8, HO8⟩
    case round =>
      obtain ⟨k, out, so, hk, rfl, rfl, HSO, hol, HOT, HB, HO⟩ := hrel
      have t1 := (HB.out.cell (p := ⟨w1.heap.size, 1, none⟩) hbt).trans HQ.out.2.1
      have t2 := (HB.out.cell (p := ⟨w1.heap.size, 2, none⟩) hbt).trans HQ.out.2.2
      have zso : so.size ≤ 3488096 + k * 18013 := by rw [HSO.out, str_size]; exact hol
      by_cases hkm : k < m
      · have hk8 : k * 18013 ≤ 8 * 18013 := Nat.mul_le_mul (by omega) (Nat.le_refl _)
        go_wp2_with fail
        refine (rcolumn_any _ _ uu tl k (allT tl) _ (HUT.out.kept HB.out) (own_strs HO.out) (by have := HLT.out.2.2.2; omega) (by omega) (fun r hr => by have := HLT.out.2.1 r hr; omega) HLT.out.1).mono ?_
        rintro e w9 ⟨rfl, hb9⟩
        obtain ⟨sk, HSK⟩ : ∃ sk, Hid (sk = str (colF (allT tl) k 0 tl)) := ⟨_, (rfl : str (colF (allT tl) k 0 tl) = _)⟩
        rw [← HSK.out]
        have zsk : sk.size ≤ 18000 := by
          have := colF_len (allT tl) k 0 tl
          have := HLT.out.2.2.2
          rw [HSK.out, str_size]; omega
        have HB9 : Hid (Below WT.heap.size WT w9) := HB.out.trans (hb9.mono HB.out.size)
        have HO9 : Hid (w9.ownsRow w4.heap.size 9 1 (.slice aa (allT tl).length ac) (allT tl).length (ts (allT tl))) := own_kept HO.out hb9
        clear hb9 t1 t2 HB HO
        go_wp2_with fail
        refine (rpage_any sk _ (by omega)).mono ?_
        rintro e w10 ⟨rfl, hb10⟩
        obtain ⟨pk, HPK⟩ : ∃ pk, Hid (pk = str (page sk.data.toList)) := ⟨_, (rfl : str (page sk.data.toList) = _)⟩
        rw [← HPK.out]
        have zpk : pk.size ≤ 18013 := by
          have := page_len sk.data.toList (by simp; omega)
          have z3' : sk.data.toList.length ≤ 18000 := by simpa using zsk
          rw [HPK.out, str_size]; omega
        have HB10 : Hid (Below WT.heap.size WT w10) := HB9.out.trans (hb10.mono HB9.out.size)
        have HO10 : Hid (w10.ownsRow w4.heap.size 9 1 (.slice aa (allT tl).length ac) (allT tl).length (ts (allT tl))) := own_kept HO9.out hb10
        have HJ : Hid (so ++ pk = str (out ++ page (colF (allT tl) k 0 tl))) := by
          show _ = _
          rw [HSO.out, HPK.out, HSK.out, data_str, str_app]
        have HOT2 : Hid (out ++ page (colF (allT tl) k 0 tl) = [82, 69, 76, 49] ++ (page (headT name.data.toList m tl.length) ++ (page rt ++ colsF (allT tl) tl (k + 1)))) := by
          show _ = _
          rw [HOT.out, colsF_succ]; simp [List.append_assoc]
        have zj : (out ++ page (colF (allT tl) k 0 tl)).length ≤ 3488096 + (k + 1) * 18013 := by
          have h1 : (so ++ pk).size = so.size + pk.size := ByteArray.size_append
          rw [HJ.out, str_size] at h1
          rw [h1, Nat.add_mul]; omega
        clear hb10 HB9 HO9
        go_wp2
        go_roundw
        case rel => exact ⟨k + 1, out ++ page (colF (allT tl) k 0 tl), so ++ pk, by omega, by go_num, rfl, HJ, zj, HOT2, HB10, HO10⟩
        case measure => simp [intOf]; omega
      · have hke : k = m := by omega
        have HBD : Hid (out = bodyP name.data.toList m tl) := by
          show _ = _
          rw [HOT.out, hke]
          unfold bodyP
          rw [HRB.out]
        have hk8 : k * 18013 ≤ 8 * 18013 := Nat.mul_le_mul (by omega) (Nat.le_refl _)
        clear hke
        go_wp2_with fail
        refine (rsum_any so _ (by omega)).mono ?_
        rintro e w9 ⟨rfl, hb9⟩
        obtain ⟨ss, HSS⟩ : ∃ ss, Hid (ss = str (Crc.sum so.data.toList)) := ⟨_, (rfl : str (Crc.sum so.data.toList) = _)⟩
        rw [← HSS.out]
        have zss : ss.size = 4 := by rw [HSS.out]; rfl
        have HB9 : Hid (Below w.heap.size w w9) := by
          have h1 : Below WT.heap.size WT wr := HB.out
          have h2 : Below WT.heap.size WT w9 := h1.trans (hb9.mono h1.size)
          exact HBW.out.trans (h2.mono HBW.out.size)
        have HPF : Hid (so ++ ss = str (packF name.data.toList m tl)) := by
          show _ = _
          rw [HSO.out, HSS.out, HSO.out, data_str, str_app, HBD.out]; rfl
        have HZP : Hid ((so ++ ss).size = (packF name.data.toList m tl).length) := by show _ = _; rw [HPF.out, str_size]
        have HEN := encode_ok name.data.toList m rows ti tl HTD.out
        rw [Int.toNat_natCast] at HEN
        have HENH : Hid (encode name.data.toList m rows = if 65536 < (packF name.data.toList m tl).length then ([], 1, 0) else (packF name.data.toList m tl, 0, 0)) := HEN
        clear hb9 t1 t2 HEN
        by_cases hbig : 65536 < (so ++ ss).size
        · have hb1 : (65536 : Int) < (so.size : Int) + 4 := by rw [ByteArray.size_append] at hbig; omega
          have HF : Hid (encode name.data.toList m rows = ([], 1, 0)) := by show _ = _; rw [HENH.out, if_pos (by rw [← HZP.out]; exact hbig)]
          clear hbig
          go_wp2
          go_ret3
          exact ⟨by rw [HF.out]; rfl, HB9.out⟩
        · have hb1 : decide ((65536 : Int) < (so.size : Int) + 4) = false := decide_eq_false (by rw [ByteArray.size_append] at hbig; omega)
          have HF : Hid (encode name.data.toList m rows = (packF name.data.toList m tl, 0, 0)) := by show _ = _; rw [HENH.out, if_neg (by rw [← HZP.out]; exact hbig)]
          clear hbig
          go_wp2
          go_ret3
          exact ⟨by rw [HF.out, HPF.out]; rfl, HB9.out⟩
  · have HTE : Hid (te ≠ 0) := hte
    have he : e = .returned (.tuple #[.agg #[.string { data := #[] }, .int .i64 0, .slice none 0 0], .int .i64 (te : Nat), .int .i64 (ti : Nat)]) := by
      unfold Tidied at hu; rw [if_neg hte] at hu; exact hu
    subst he
    have hne : ((te : Int) != 0) = true := by simp [hte]
    have HE : Hid (encode name.data.toList ar rows = ([], te, ti)) := encode_bad _ _ _ _ _ _ HTD.out hte
    clear hu hte hb1
    go_wp2
    go_ret3
    exact ⟨by rw [HE.out]; rfl, HB1.out.alloc HB1.out.size _⟩
end Go.Proofs.YtnnldpccagajbaaDoor
