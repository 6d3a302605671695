/-
  The program's file.pack, walked.
-/
import Derived.Test.YtnnldpccagajbaaDoorColText
import Derived.Test.YtnnldpccagajbaaDoorRefEncode
import Derived.Test.YtnnldpccagajbaaDoorBuildCode
namespace Go.Proofs.YtnnldpccagajbaaDoor
open Go.ChangeShapes Go.WideShapes Go.ChangeAt Go.RowKit Go.WideMaps Go.Maps
set_option linter.unusedVariables false
theorem ones_len (l : List (List UInt8)) : ∀ r ∈ l.map (fun t => [t]), r.length = 1 := fun r hr => by
  obtain ⟨t, _, rfl⟩ := List.mem_map.1 hr; rfl
theorem mem_allP (rows : List (List (List UInt8))) (t : List UInt8) : t ∈ allT rows ↔ t ∈ rows.flatten := by
  unfold allT
  constructor
  · intro h
    obtain ⟨r, hr, rfl⟩ := List.mem_map.1 h
    obtain ⟨x, hx, rfl⟩ := List.mem_map.1 ((mem_sortU 1 _ (ones_len _) r).1 hr)
    exact hx
  · intro h
    exact List.mem_map.2 ⟨[t], (mem_sortU 1 _ (ones_len _) [t]).2 (List.mem_map.2 ⟨t, h, rfl⟩), rfl⟩
theorem nodup_allT (rows : List (List (List UInt8))) : (allT rows).Nodup := by
  obtain ⟨h1, h2⟩ := sortU_rises 1 (rows.flatten.map fun t => [t]) (ones_len _)
  unfold allT
  refine List.pairwise_iff_getElem.2 fun i j hi hj hij => ?_
  rw [List.getElem_map, List.getElem_map]
  rw [List.length_map] at hi hj
  have h3 := h2 i j _ _ hij (List.getElem?_eq_getElem hi) (List.getElem?_eq_getElem hj)
  have l1 := h1 _ (List.getElem_mem hi)
  have l2 := h1 _ (List.getElem_mem hj)
  generalize (sortU (rows.flatten.map fun t => [t]))[i] = a at *
  generalize (sortU (rows.flatten.map fun t => [t]))[j] = b at *
  match a, b, l1, l2 with
  | [x], [y], _, _ =>
    intro e
    simp only [List.headD_cons] at e
    subst e
    rw [ordR_self] at h3
    cases h3
set_option maxRecDepth 100000 in
set_option maxHeartbeats 4000000 in
theorem pack_any (name : ByteArray) (m : Nat) (rv : Value) (vs : List Value) (tl : List (List (List UInt8))) (w : World) (h : Rows2 w rv vs tl) (hT : Tab w) (hF : Tidy name.data.toList m tl) :
    Calls Tryd.prog 13 #[.agg #[.string name, .int .i64 m, rv]] w fun e w' => e = .returned (.string (str (packF name.data.toList m tl))) ∧ Below w.heap.size w w' := by
  have HH : Hid (Rows2 w rv vs tl) := h
  have HTB : Hid (Tab w) := hT
  have HTF : Hid (Tidy name.data.toList m tl) := hF
  have hm8 : m ≤ 8 := by have := hF.a8; omega
  have hvs : vs.length ≤ 2000 := by have := h.2.1; have := hF.few; omega
  have HVL : Hid (vs.length = tl.length) := h.2.1
  obtain ⟨⟨a, cap, rfl, -⟩, -, -⟩ := h
  clear hT hF
  have HLT : Hid ((∀ r ∈ tl, r.length ≤ 1099511627776) ∧ (∀ r ∈ tl, r.length = m) ∧ tl.flatten.length ≤ 16000 ∧ tl.length ≤ 2000) := by
    have h1 : ∀ r ∈ tl, r.length = m := fun r hr => by have := (HTF.out.rows r hr).1; simpa using this
    have h2 := flat_len m tl h1
    have h3 := HTF.out.few
    have h4 : m * tl.length ≤ 8 * 2000 := Nat.mul_le_mul hm8 h3
    exact ⟨fun r hr => by rw [h1 r hr]; omega, h1, by omega, h3⟩
  have HSZ : Hid (∀ t ∈ allT tl, t.length ≤ 1000) := by
    intro t ht
    obtain ⟨r, hr, htr⟩ := List.mem_flatten.1 ((mem_allP tl t).1 ht)
    have := (HTF.out.rows r hr).2 t htr
    omega
  have hall : (allT tl).length ≤ 16000 := by have := allT_len tl; have := HLT.out.2.2.1; omega
  have hn30 : name.size ≤ 30 := by have := isName_len _ HTF.out.isn; simpa using this
  have HB0 : Hid (Below w.heap.size w (w.alloc (.cells #[.string name, .int .i64 m, .slice a vs.length cap] 25))) := (Below.refl _ _).alloc (Nat.le_refl _) _
  go_enter Tryd.func13, Tryd.ntmps13
  obtain ⟨W0, HW0⟩ : ∃ W0, Hid (W0 = w.alloc (.cells #[.string name, .int .i64 m, .slice a vs.length cap] 25)) := ⟨_, rfl⟩
  have HZ0 : Hid (W0.heap.size = w.heap.size + 1) := by show _ = _; rw [HW0.out]; simp
  have HQ : Hid (W0.cell? ⟨w.heap.size, 0, none⟩ = some (.string name) ∧ W0.cell? ⟨w.heap.size, 1, none⟩ = some (.int .i64 m) ∧ W0.cell? ⟨w.heap.size, 2, none⟩ = some (.slice a vs.length cap)) := by
    rw [HW0.out]; exact ⟨by simp, by simp, by simp⟩
  have HU0 : Hid (Rows2 W0 (.slice a vs.length cap) vs tl) := by rw [HW0.out]; exact HH.out.kept HB0.out
  have HT0 : Hid (Tab W0) := by rw [HW0.out]; exact HTB.out.below HB0.out HTB.out.pos
  have hb0 : w.heap.size < W0.heap.size := by have := HZ0.out; omega
  have HBW : Hid (Below w.heap.size w W0) := by rw [HW0.out]; exact HB0.out
  go_wp2_with fail
  rw [← HW0.out]
  clear HW0 HB0
  refine (ptexts_any _ vs tl _ HU0.out (by have := HLT.out.2.2.2; omega) (by have := HLT.out.2.2.1; omega)).mono ?_
  rintro e w1 ⟨⟨vl, rfl, hol⟩, hb1⟩
  obtain ⟨la, lc, rfl⟩ := own_shape2 hol
  have HB1 : Hid (Below W0.heap.size W0 w1) := hb1
  have HO1 : Hid (w1.ownsRow W0.heap.size 9 1 (.slice la (allT tl).length lc) (allT tl).length (ts (allT tl))) := hol
  clear hol hb1
  obtain ⟨rt, re, ri, HRB⟩ : ∃ rt re ri, Hid (build (allT tl) = (rt, re, ri)) := ⟨_, _, _, rfl⟩
  have HBV : Hid (built (build (allT tl)) = .tuple #[.string (str rt), .int .i64 (re : Nat), .int .i64 (ri : Nat)]) := by show _ = _; rw [HRB.out]; rfl
  have hrt : rt.length ≤ 3488009 := by have := build_len (allT tl) (by omega); rw [HRB.out] at this; simp only at this; omega
  go_wp2_with fail
  refine (build_said _ (allT tl) _ (own_strs HO1.out) (by omega)).mono ?_
  rintro e w2 ⟨rfl, hb2⟩
  rw [HBV.out]
  have HB2 : Hid (Below W0.heap.size W0 w2) := HB1.out.trans (hb2.mono HB1.out.size)
  have HO2 : Hid (w2.ownsRow W0.heap.size 9 1 (.slice la (allT tl).length lc) (allT tl).length (ts (allT tl))) := own_kept HO1.out hb2
  clear hb2 HB1 HO1
  go_wp2_with fail
  refine (numbers_any _ (allT tl) _ (own_strs HO2.out) (by omega) HSZ.out).mono ?_
  rintro e w3 ⟨rfl, hm3, hb3⟩
  have HB3 : Hid (Below W0.heap.size W0 w3) := HB2.out.trans (hb3.mono HB2.out.size)
  obtain ⟨M, HM⟩ : ∃ M, Hid (M = w2.heap.size) := ⟨_, (rfl : w2.heap.size = _)⟩
  rw [← HM.out] at hm3 ⊢
  have HM3 : Hid (w3.ownsMap Tryd.prog 9 (plainElem Tryd.prog 3) M (allT tl).length (numD (allT tl) (allT tl).length)) := hm3
  have hM3 : M < w3.heap.size := hm3.lt
  have HU3 : Hid (Rows2 w3 (.slice a vs.length cap) vs tl) := HU0.out.kept HB3.out
  have HT3 : Hid (Tab w3) := HT0.out.below HB3.out HT0.out.pos
  have hb3w : w.heap.size < w3.heap.size := by have := HB3.out.size; omega
  have HQ3 : Hid (w3.cell? ⟨w.heap.size, 0, none⟩ = some (.string name) ∧ w3.cell? ⟨w.heap.size, 1, none⟩ = some (.int .i64 m) ∧ w3.cell? ⟨w.heap.size, 2, none⟩ = some (.slice a vs.length cap)) :=
    ⟨(HB3.out.cell (p := ⟨w.heap.size, 0, none⟩) hb0).trans HQ.out.1, (HB3.out.cell (p := ⟨w.heap.size, 1, none⟩) hb0).trans HQ.out.2.1, (HB3.out.cell (p := ⟨w.heap.size, 2, none⟩) hb0).trans HQ.out.2.2⟩
  have HBW3 : Hid (Below w.heap.size w w3) := HBW.out.trans (HB3.out.mono (Nat.le_of_lt hb0))
  clear hb3 hm3 HB2 HO2 HB3 HBW HQ HU0 HT0 HM hb0
  obtain ⟨sr, HSR⟩ : ∃ sr, Hid (sr = str rt) := ⟨_, (rfl : str rt = _)⟩
  rw [← HSR.out]
  have zr : sr.size ≤ 3488009 := by rw [HSR.out, str_size]; exact hrt
  go_wp2_with fail
  have HB3a : Hid (Below w3.heap.size w3 (w3.alloc (.cells #[.slice none 0 0] 58))) := (Below.refl _ _).alloc (Nat.le_refl _) _
  refine (wtext_any w3.heap.size [] _ _ (Wr.newAt _ _ _ rfl) (by simp; decide)).mono ?_
  rintro e w4 ⟨rfl, hw4, hb4⟩
  rw [List.nil_append] at hw4
  have HB4 : Hid (Below w3.heap.size w3 w4) := HB3a.out.trans hb4
  have HW4 : Hid (Wr w4 w3.heap.size [82, 69, 76, 49]) := hw4
  clear hb4 hw4 HB3a
  obtain ⟨bb, HBB⟩ : ∃ bb, Hid (bb = w3.heap.size) := ⟨_, (rfl : w3.heap.size = _)⟩
  rw [← HBB.out] at HB4 HW4 hb3w hM3
  have t0 := (HB4.out.cell (p := ⟨w.heap.size, 0, none⟩) hb3w).trans HQ3.out.1
  have t1 := (HB4.out.cell (p := ⟨w.heap.size, 1, none⟩) hb3w).trans HQ3.out.2.1
  have t2 := (HB4.out.cell (p := ⟨w.heap.size, 2, none⟩) hb3w).trans HQ3.out.2.2
  have HPOS : Hid (0 < bb) := by rw [HBB.out]; exact HT3.out.pos
  obtain ⟨sh, HSH⟩ : ∃ sh, Hid (sh = str (headT name.data.toList m tl.length)) := ⟨_, (rfl : str (headT name.data.toList m tl.length) = _)⟩
  have l1 := vb_length9 name.size (by omega)
  have l2 := vb_length9 m (by omega)
  have l3 := vb_length9 vs.length (by omega)
  have zh : sh.size ≤ 57 := by
    rw [HSH.out, str_size, ← HVL.out]; unfold headT
    simp only [List.length_append]
    have : name.data.toList.length = name.size := by simp
    rw [this]; omega
  clear l1 l2 l3
  rw [← HBB.out]
  have HPG : Hid (∀ (out : List UInt8) (s : ByteArray) (wx : World), Hid (Wr wx bb out) → Hid (Below bb w3 wx) → out.length + s.size ≤ 1073741824 → Calls Tryd.prog 28 #[.pointer (some ⟨bb, 0, none⟩), .string s] wx fun e w' => e = .returned (.tuple #[]) ∧ Hid (Wr w' bb (out ++ page s.data.toList)) ∧ Hid (Below bb w3 w')) := by
    intro out s wx hw hb hz
    refine (bookpage_any bb out s wx hw.out (HT3.out.below hb.out HPOS.out) HPOS.out (by omega)).mono ?_
    rintro e w5 ⟨rfl, h5, hb5⟩
    exact ⟨rfl, h5, hb.out.trans hb5⟩
  go_wp2_with fail
  refine (headtext_any name m vs.length _ (by omega) (by omega) (by omega)).mono ?_
  rintro e w5 ⟨rfl, hb5⟩
  rw [HVL.out, ← HSH.out, ← HVL.out]
  have HB5 : Hid (Below bb w3 w5) := HB4.out.trans (hb5.mono (Nat.le_of_lt HW4.out.lt))
  have HW5 : Hid (Wr w5 bb [82, 69, 76, 49]) := HW4.out.kept hb5
  clear hb5 t0 t1 t2 HB4 HW4
  go_wp2_with fail
  refine (HPG.out _ sh _ HW5 HB5 (by simp; omega)).mono ?_
  rintro e w6 ⟨rfl, HW6, HB6⟩
  obtain ⟨o6, HO6⟩ : ∃ o6, Hid (o6 = ([82, 69, 76, 49] : List UInt8) ++ page sh.data.toList) := ⟨_, (rfl : ([82, 69, 76, 49] : List UInt8) ++ page sh.data.toList = _)⟩
  rw [← HO6.out] at HW6
  have zo6 : o6.length ≤ 74 := by
    have h1 := page_len sh.data.toList (by simp; omega)
    have h2 : sh.data.toList.length = sh.size := by simp
    rw [HO6.out, List.length_append]; simp only [List.length_cons, List.length_nil]; omega
  clear HB5 HW5
  go_wp2_with fail
  refine (HPG.out _ sr _ HW6 HB6 (by omega)).mono ?_
  rintro e w7 ⟨rfl, HW7, HB7⟩
  have HO7 : Hid (o6 ++ page sr.data.toList = [82, 69, 76, 49] ++ (page (headT name.data.toList m tl.length) ++ (page rt ++ colsF (allT tl) tl 0))) := by
    show _ = _
    rw [HO6.out, HSH.out, HSR.out, data_str, data_str]; simp [colsF]
  obtain ⟨o7, HO7E⟩ : ∃ o7, Hid (o7 = o6 ++ page sr.data.toList) := ⟨_, (rfl : o6 ++ page sr.data.toList = _)⟩
  rw [← HO7E.out] at HW7 HO7
  have zo7 : o7.length ≤ 3488096 := by
    have h1 := page_len sr.data.toList (by simp; omega)
    have h2 : sr.data.toList.length = sr.size := by simp
    rw [HO7E.out, List.length_append]; omega
  clear HB6 HW6
  have t1 := (HB7.out.cell (p := ⟨w.heap.size, 1, none⟩) hb3w).trans HQ3.out.2.1
  go_wp2
  go_loopw [37] (fun kv wr => ∃ (k : Nat) (out : List UInt8), k ≤ m ∧ kv = .int .i64 k ∧ out.length ≤ 3488096 + k * 18013 ∧ Hid (Wr wr bb out) ∧ Hid (Below bb w3 wr) ∧ Hid (out = [82, 69, 76, 49] ++ (page (headT name.data.toList m tl.length) ++ (page rt ++ colsF (allT tl) tl k)))) (fun kv _ => m - (intOf kv).toNat)
  case atStart => exact ⟨0, o7, by omega, rfl, by omega, HW7, HB7, HO7⟩
  case round =>
    obtain ⟨k, out, hk, rfl, hol, HW, HB, HOT⟩ := hrel
    have t2 := (HB.out.cell (p := ⟨w.heap.size, 2, none⟩) hb3w).trans HQ3.out.2.2
    have hk8 : k * 18013 ≤ 8 * 18013 := Nat.mul_le_mul (by omega) (Nat.le_refl _)
    by_cases hkm : k < m
    · have HMR : Hid (wr.ownsMap Tryd.prog 9 (plainElem Tryd.prog 3) M (allT tl).length (numD (allT tl) (allT tl).length)) := ownsMap_below HM3.out HB.out hM3
      have HUR : Hid (Rows2 wr (.slice a vs.length cap) vs tl) := HU3.out.kept (by rw [← HBB.out]; exact HB.out)
      go_wp2_with fail
      refine (pcolumn_any _ vs tl k M _ (allT tl) _ HUR.out HMR.out (by have := HLT.out.2.2.2; omega) (by omega) (fun r hr => by have := HLT.out.2.1 r hr; omega) HLT.out.1 (fun r hr t ht => (mem_allP tl t).2 (List.mem_flatten.2 ⟨r, hr, ht⟩)) (nodup_allT tl) HSZ.out).mono ?_
      rintro e w9 ⟨rfl, hb9⟩
      obtain ⟨sk, HSK⟩ : ∃ sk, Hid (sk = str (colF (allT tl) k 0 tl)) := ⟨_, (rfl : str (colF (allT tl) k 0 tl) = _)⟩
      rw [← HSK.out]
      have zsk : sk.size ≤ 18000 := by
        have := colF_len (allT tl) k 0 tl
        have := HLT.out.2.2.2
        rw [HSK.out, str_size]; omega
      have HB9 : Hid (Below bb w3 w9) := HB.out.trans (hb9.mono (Nat.le_of_lt HW.out.lt))
      have HW9 : Hid (Wr w9 bb out) := HW.out.kept hb9
      clear hb9 t2 HB HW HMR HUR
      go_wp2_with fail
      refine (HPG.out _ sk _ HW9 HB9 (by omega)).mono ?_
      rintro e w10 ⟨rfl, HW10, HB10⟩
      have HPE : Hid (page sk.data.toList = page (colF (allT tl) k 0 tl)) := by show _ = _; rw [HSK.out, data_str]
      rw [HPE.out] at HW10
      have HOT2 : Hid (out ++ page (colF (allT tl) k 0 tl) = [82, 69, 76, 49] ++ (page (headT name.data.toList m tl.length) ++ (page rt ++ colsF (allT tl) tl (k + 1)))) := by
        show _ = _
        rw [HOT.out, colsF_succ]; simp [List.append_assoc]
      have zj : (out ++ page (colF (allT tl) k 0 tl)).length ≤ 3488096 + (k + 1) * 18013 := by
        have h1 := page_len sk.data.toList (by simp; omega)
        have h2 : sk.data.toList.length = sk.size := by simp
        rw [← HPE.out, List.length_append, Nat.add_mul]; omega
      clear HB9 HW9
      go_wp2
      go_roundw
      case rel => exact ⟨k + 1, _, by omega, by go_num, zj, HW10, HB10, HOT2⟩
      case measure => simp [intOf]; omega
    · have hke : k = m := by omega
      have HBD : Hid (out = bodyP name.data.toList m tl) := by
        show _ = _
        rw [HOT.out, hke]
        unfold bodyP
        rw [HRB.out]
      clear hke t2
      obtain ⟨ob, HOB⟩ : ∃ ob, Hid (ob = str out) := ⟨_, (rfl : str out = _)⟩
      have zob : ob.size ≤ 3488096 + k * 18013 := by rw [HOB.out, str_size]; exact hol
      obtain ⟨ss, HSS⟩ : ∃ ss, Hid (ss = str (Crc.sum out)) := ⟨_, (rfl : str (Crc.sum out) = _)⟩
      have zss : ss.size = 4 := by rw [HSS.out]; rfl
      have HTXT : Hid (∀ (w2 : World), Hid (Wr w2 bb out) → Hid (Below bb w3 w2) → Calls Tryd.prog 27 #[.pointer (some ⟨bb, 0, none⟩), .string ss] w2 fun e w' => e = .returned (.tuple #[]) ∧ Hid (Wr w' bb (packF name.data.toList m tl)) ∧ Hid (Below bb w3 w')) := by
        intro w2 hw2 hb2
        refine (wtext_any bb _ ss _ hw2.out (by omega)).mono ?_
        rintro e w3' ⟨rfl, h3, hb3⟩
        have e : out ++ ss.data.toList = packF name.data.toList m tl := by
          rw [HSS.out, data_str, HBD.out]; rfl
        rw [e] at h3; exact ⟨rfl, h3, hb2.out.trans hb3⟩
      go_wp2_with fail
      refine (written_any bb out _ HW.out).mono ?_
      rintro e w5 ⟨rfl, rfl⟩
      rw [← HOB.out]
      go_wp2_with fail
      refine (sum_any ob _ (by omega) (HT3.out.below HB.out HPOS.out)).mono ?_
      rintro e w6 ⟨rfl, hb6⟩
      have HSE : Hid (str (Crc.sum ob.data.toList) = ss) := by show _ = _; rw [HSS.out, HOB.out, data_str]
      rw [HSE.out]
      have HW8 : Hid (Wr w6 bb out) := HW.out.kept hb6
      have HB8 : Hid (Below bb w3 w6) := HB.out.trans (hb6.mono (Nat.le_of_lt HW.out.lt))
      clear hb6 HW HB
      go_wp2_with fail
      refine (HTXT.out _ HW8 HB8).mono ?_
      rintro e w8 ⟨rfl, HW9, HB9⟩
      go_wp2_with fail
      refine (written_any bb _ _ HW9.out).mono ?_
      rintro e w9 ⟨rfl, rfl⟩
      go_wp2
      go_ret
      exact ⟨rfl, HBW3.out.trans (HB9.out.mono (by rw [HBB.out]; exact HBW3.out.size))⟩
end Go.Proofs.YtnnldpccagajbaaDoor
