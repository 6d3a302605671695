import Derived.Test.YtnnldpccagajbaaGreatDoorM35
import Derived.Test.YtnnldpccagajbaaGreatDoorM37
import Derived.Test.YtnnldpccagajbaaGreatDoorM32
/-
  The program's file.Encode, walked.
-/
namespace Go.Proofs.YtnnldpccagajbaaGreatDoor
open Go.ChangeShapes Go.WideShapes Go.ChangeAt Go.RowKit
set_option linter.unusedVariables false
set_option maxRecDepth 100000 in
set_option maxHeartbeats 2000000 in
theorem pencode_any (name : ByteArray) (ar : Int) (rv : Value) (vs : List Value) (rows : List (List (List UInt8))) (w : World) (h : Rows2 w rv vs rows) (hT : Tab w) (hn : name.size ≤ 1099511627776) (hrl : rows.length ≤ 1073741824) (hrr : ∀ r ∈ rows, r.length ≤ 1099511627776) :
    Calls Tryz.prog 12 #[.agg #[.string name, .int .i64 ar, rv]] w fun e w' => e = .returned (encd (encode name.data.toList ar rows)) ∧ Below w.heap.size w w' := by
  have HH : Hid (Rows2 w rv vs rows) := h
  have HTB : Hid (Tab w) := hT
  have HRR : Hid (∀ r ∈ rows, r.length ≤ 1099511627776) := hrr
  clear hrr hT
  obtain ⟨⟨a, cap, rfl, -⟩, -, -⟩ := h
  obtain ⟨te, ti, tl, HTD⟩ : ∃ te ti tl, Hid (tidy name.data.toList ar rows = (te, ti, tl)) := ⟨_, _, _, rfl⟩
  go_enter Tryz.func12, Tryz.ntmps12
  obtain ⟨W0, HW0⟩ : ∃ W0, Hid (W0 = w.alloc (.cells #[.string name, .int .i64 ar, .slice a vs.length cap] 24)) := ⟨_, rfl⟩
  have HB0 : Hid (Below w.heap.size w W0) := by rw [HW0.out]; exact (Below.refl _ _).alloc (Nat.le_refl _) _
  have HZ0 : Hid (W0.heap.size = w.heap.size + 1) := by show _ = _; rw [HW0.out]; simp
  go_wp2_with fail
  rw [← HW0.out]
  clear HW0
  refine (ptidy_any name ar _ vs rows _ (HH.out.kept HB0.out) (by omega) hrl HRR.out).mono ?_
  rintro e w1 ⟨hu, hb1⟩
  rw [HTD.out] at hu
  have HB1 : Hid (Below w.heap.size w w1) := HB0.out.trans (hb1.mono (by have := HZ0.out; omega))
  by_cases hte : te = 0
  · subst hte
    obtain ⟨vu, uu, rfl, hdt⟩ := hu
    simp only at hdt
    obtain ⟨au, cu, rfl⟩ := own_shape' hdt.1
    obtain ⟨hti, htl, HTY⟩ := tidy_facts _ _ _ _ _ HTD.out
    have har0 := HTY.a0
    have har8 := HTY.a8
    obtain ⟨m, hm⟩ := Int.eq_ofNat_of_zero_le har0
    subst hm
    have HTF : Hid (Tidy name.data.toList m tl) := HTY
    have HUR : Hid (Rows2 w1 (.slice au uu.length cu) uu tl) := hdt.rows
    obtain ⟨W1, HW1⟩ : ∃ W1, Hid (W1 = w1.alloc (.cells #[.string name, .int .i64 m, .slice au uu.length cu] 24)) := ⟨_, rfl⟩
    have HBT : Hid (Below w1.heap.size w1 W1) := by rw [HW1.out]; exact (Below.refl _ _).alloc (Nat.le_refl _) _
    have HBW : Hid (Below w.heap.size w W1) := HB1.out.trans (HBT.out.mono HB1.out.size)
    clear hdt hb1 hti htl HTY
    go_wp2_with fail
    rw [← HW1.out]
    clear HW1
    refine (pack_any name m _ uu tl _ (HUR.out.kept HBT.out) (HTB.out.below HBW.out HTB.out.pos) HTF.out).mono ?_
    rintro e w2 ⟨rfl, hb2⟩
    obtain ⟨sp, HSP⟩ : ∃ sp, Hid (sp = str (packF name.data.toList m tl)) := ⟨_, (rfl : str (packF name.data.toList m tl) = _)⟩
    rw [← HSP.out]
    have HB2 : Hid (Below w.heap.size w w2) := HBW.out.trans (hb2.mono HBW.out.size)
    have HZP : Hid (sp.size = (packF name.data.toList m tl).length) := by show _ = _; rw [HSP.out, str_size]
    have HEN := encode_ok name.data.toList m rows ti tl HTD.out
    rw [Int.toNat_natCast] at HEN
    have HENH : Hid (encode name.data.toList m rows = if 65536 < (packF name.data.toList m tl).length then ([], 1, 0) else (packF name.data.toList m tl, 0, 0)) := HEN
    clear hb2 HEN
    by_cases hbig : 65536 < sp.size
    · have HF : Hid (encode name.data.toList m rows = ([], 1, 0)) := by show _ = _; rw [HENH.out, if_pos (by rw [← HZP.out]; exact hbig)]
      go_wp2
      go_ret3
      exact ⟨by rw [HF.out]; rfl, HB2.out⟩
    · have hle : sp.size ≤ 65536 := by omega
      have HF : Hid (encode name.data.toList m rows = (packF name.data.toList m tl, 0, 0)) := by show _ = _; rw [HENH.out, if_neg (by rw [← HZP.out]; exact hbig)]
      clear hbig
      go_wp2
      go_ret3
      exact ⟨by rw [HF.out, HSP.out]; rfl, HB2.out⟩
  · have HTE : Hid (te ≠ 0) := hte
    have he : e = .returned (.tuple #[.agg #[.string { data := #[] }, .int .i64 0, .slice none 0 0], .int .i64 (te : Nat), .int .i64 (ti : Nat)]) := by
      unfold PTidied at hu; rw [if_neg hte] at hu; exact hu
    subst he
    have hne : ((te : Int) != 0) = true := by simp [hte]
    have HE : Hid (encode name.data.toList ar rows = ([], te, ti)) := encode_bad _ _ _ _ _ _ HTD.out hte
    clear hu hte hb1
    go_wp2
    go_ret3
    exact ⟨by rw [HE.out]; rfl, HB1.out.alloc HB1.out.size _⟩
end Go.Proofs.YtnnldpccagajbaaGreatDoor

/-
  The program's sealed and Decode, walked.
-/
namespace Go.Proofs.YtnnldpccagajbaaGreatDoor
open Go.ChangeShapes Go.WideShapes Go.ChangeAt Go.RowKit
set_option linter.unusedVariables false
set_option maxRecDepth 100000 in
set_option maxHeartbeats 400000 in
theorem prefix0_any (s : ByteArray) (w : World) (h4 : 4 ≤ s.size) (r : Bool) (HR : Hid (((s.extract 0 4).toList == [82, 69, 76, 49]) = r)) :
    Calls Tryz.prog 64 #[.string s, .string { data := #[82, 69, 76, 49] }] w fun e w' => e = .returned (.bool r) ∧ w = w' := by
  have h4i : (4 : Int) ≤ (s.size : Int) := by omega
  have hr := HR.out
  go_enter Tryz.func64, Tryz.ntmps64
  go_wp2
  go_ret
  exact ⟨rfl, rfl⟩
set_option maxRecDepth 100000 in
set_option maxHeartbeats 400000 in
theorem prefix_any (s : ByteArray) (w : World) (h4 : 4 ≤ s.size) (r : Bool) (HR : Hid (((s.extract 0 4).toList == [82, 69, 76, 49]) = r)) :
    Calls Tryz.prog 35 #[.string s, .string { data := #[82, 69, 76, 49] }] w fun e w' => e = .returned (.bool r) ∧ w = w' := by
  go_enter Tryz.func35, Tryz.ntmps35
  go_wp2_with fail
  refine (prefix0_any s _ h4 r HR).mono ?_
  rintro e w1 ⟨rfl, rfl⟩
  go_wp2
  go_ret
  exact ⟨rfl, rfl⟩
set_option maxRecDepth 100000 in
set_option maxHeartbeats 1000000 in
theorem psealed_any (d : ByteArray) (w : World) (hd : d.size ≤ 65536) (hT : Tab w) (r : Bool) (HR : Hid (decide (sealed d.data.toList) = r)) :
    Calls Tryz.prog 17 #[.string d] w fun e w' => e = .returned (.bool r) ∧ Below w.heap.size w w' := by
  have HDL : Hid (d.data.toList.length = d.size) := by show _ = _; simp
  by_cases h8 : d.size < 8
  · have HF : Hid (r = false) := by
      show _ = _; rw [← HR.out]
      exact decide_eq_false (fun h => by have := h.1; rw [HDL.out] at this; omega)
    have hd4 : decide (4 ≤ (d.size : Int) - 4) = false := decide_eq_false (by omega)
    go_enter Tryz.func17, Tryz.ntmps17
    go_wp2_with fail
    go_quiet (fail)
    go_wp2
    go_ret
    exact ⟨by rw [HF.out]; rfl, below_drewN (Below.refl _ _) _⟩
  · obtain ⟨n, hn⟩ : ∃ n : Nat, (d.size : Int) - 4 = n := ⟨d.size - 4, by omega⟩
    have hn4 : 4 ≤ n := by omega
    have hnd : n + 4 = d.size := by omega
    have HN : Hid ((d.size : Int) - 4 = n) := hn
    clear hn
    have hn4i : (4 : Int) ≤ (n : Int) := by omega
    have hndi : (n : Int) ≤ (d.size : Int) := by omega
    have hd4 : decide (4 ≤ (n : Int)) = true := decide_eq_true (by omega)
    have HT4 : Hid (d.extract 0 4 = str (d.data.toList.take 4)) := by
      have := cut_text d 0 4
      rw [from_zero] at this
      exact this
    by_cases hmg : d.data.toList.take 4 = [82, 69, 76, 49]
    · have HMQ : Hid (((d.extract 0 4).toList == [82, 69, 76, 49]) = true) := by show _ = _; rw [HT4.out, toList_str, hmg]; rfl
      have HTE : Hid (d.extract n d.size = str (d.data.toList.drop n)) := by
        have := cut_text d n 4
        rw [hnd] at this
        have e : (from_ d n).take 4 = d.data.toList.drop n := by
          unfold from_
          exact List.take_of_length_le (by simp; omega)
        rw [e] at this
        exact this
      have HTN : Hid (d.extract 0 n = str (d.data.toList.take n)) := by
        have := cut_text d 0 n
        rw [from_zero, Nat.zero_add] at this
        exact this
      obtain ⟨bd, HBD⟩ : ∃ bd, Hid (bd = d.extract 0 n) := ⟨_, (rfl : d.extract 0 n = _)⟩
      have zb : bd.size = n := by rw [HBD.out, ByteArray.size_extract]; omega
      obtain ⟨ss, HSS⟩ : ∃ ss, Hid (ss = str (Crc.sum bd.data.toList)) := ⟨_, (rfl : str (Crc.sum bd.data.toList) = _)⟩
      have hsl : sealed d.data.toList ↔ Crc.sum (d.data.toList.take n) = d.data.toList.drop n := by
        unfold sealed
        rw [HDL.out, show d.size - 4 = n from by omega]
        exact ⟨fun h => h.2.2, fun h => ⟨by omega, hmg, h⟩⟩
      have hse : ((d.extract n d.size).toList == ss.toList) = r := by
        rw [← HR.out, HTE.out, HSS.out, HBD.out, HTN.out, data_str, toList_str, toList_str]
        apply bool_eq
        rw [beq_iff_eq, decide_eq_true_iff, hsl]
        exact eq_comm
      have HPF : Hid (∀ wx : World, (∃ n, wx = w.drewN n) → Calls Tryz.prog 35 #[.string d, .string { data := #[82, 69, 76, 49] }] wx fun e w' => e = .returned (.bool true) ∧ ∃ n, w' = w.drewN n) := by
        rintro wx ⟨m, rfl⟩
        refine (prefix_any d _ (by omega) true HMQ).mono ?_
        rintro e w' ⟨rfl, rfl⟩
        exact ⟨rfl, m, rfl⟩
      have HSM : Hid (∀ wx : World, (∃ n, wx = w.drewN n) → Calls Tryz.prog 36 #[.string bd] wx fun e w' => e = .returned (.string ss) ∧ Hid (Below w.heap.size w w')) := by
        rintro wx ⟨m, rfl⟩
        refine (sum_any _ _ (by omega) (hT.below (below_drewN (Below.refl w.heap.size w) m) hT.pos)).mono ?_
        rintro e w2 ⟨rfl, hb2⟩
        exact ⟨by rw [HSS.out], (below_drewN (Below.refl _ _) m).trans hb2⟩
      clear hmg hsl
      go_enter Tryz.func17, Tryz.ntmps17
      go_wp2_with fail
      rw [HN.out]
      go_region_held3 (fun w' => True) (trivial) (first | (go_at_call 35; refine (HPF.out _ ⟨_, rfl⟩).mono ?_; rintro e w1 ⟨rfl, m1, rfl⟩) | (go_at_call 36; rw [← HBD.out]; refine (HSM.out _ ⟨_, rfl⟩).mono ?_; rintro e w2 ⟨rfl, HB2⟩))
      all_goals go_wp2
      all_goals go_ret
      all_goals exact ⟨by rw [← hse]; rfl, HB2.out⟩
    · have HF : Hid (r = false) := by
        show _ = _; rw [← HR.out]
        exact decide_eq_false (fun h => hmg h.2.1)
      have HMQ : Hid (((d.extract 0 4).toList == [82, 69, 76, 49]) = false) := by show _ = _; rw [HT4.out, toList_str]; simpa using hmg
      have HPF : Hid (∀ wx : World, Calls Tryz.prog 35 #[.string d, .string { data := #[82, 69, 76, 49] }] wx fun e w' => e = .returned (.bool false) ∧ w' = wx) := by
        intro wx
        refine (prefix_any d _ (by omega) false HMQ).mono ?_
        rintro e w' ⟨rfl, rfl⟩
        exact ⟨rfl, rfl⟩
      clear hmg
      go_enter Tryz.func17, Tryz.ntmps17
      go_wp2_with fail
      rw [HN.out]
      go_quiet ((go_at_call 35; refine Calls.quiet_of_same (HPF.out _)))
      go_wp2
      go_ret
      exact ⟨by rw [HF.out]; rfl, below_drewN (Below.refl _ _) _⟩
theorem pagesN_err (n a : Nat) (b : List UInt8) (e i : Nat) (h : pagesN n a b = .error (e, i)) : e ≠ 0 := by
  induction n generalizing a b with
  | zero => simp [pagesN] at h
  | succ n ih =>
    rw [pagesN] at h
    cases hp : pageOf b with
    | error x =>
      rw [hp] at h
      cases h
      rcases pageOf_err _ _ hp with h1 | h1 <;> omega
    | ok q =>
      obtain ⟨s, m⟩ := q
      rw [hp] at h
      simp only at h
      cases hq : pagesN n (a + m) (b.drop m) with
      | error y => rw [hq] at h; cases h; exact ih _ _ hq
      | ok l => rw [hq] at h; cases h
theorem splitF_err (b : List UInt8) (e i : Nat) (h : splitF b = .error (e, i)) : e ≠ 0 := by
  unfold splitF at h
  split at h
  · rename_i x hx
    cases h
    rcases pageOf_err _ _ hx with h1 | h1 <;> omega
  · split at h
    · rename_i y hy; cases h; exact pagesN_err _ _ _ _ _ hy
    · cases h
theorem pagesN_ok (n a : Nat) (b : List UInt8) (l : List (List UInt8)) (h : pagesN n a b = .ok l) : l.length = n ∧ ∀ p ∈ l, p.length ≤ b.length := by
  induction n generalizing a b l with
  | zero => rw [pagesN] at h; cases h; simp
  | succ n ih =>
    rw [pagesN] at h
    cases hp : pageOf b with
    | error x => rw [hp] at h; cases h
    | ok q =>
      obtain ⟨s, m⟩ := q
      rw [hp] at h
      simp only at h
      cases hq : pagesN n (a + m) (b.drop m) with
      | error y => rw [hq] at h; cases h
      | ok l2 =>
        rw [hq] at h
        cases h
        obtain ⟨h1, h2⟩ := ih _ _ _ hq
        refine ⟨by simp [h1], fun p hp2 => ?_⟩
        rcases List.mem_cons.1 hp2 with rfl | hp2
        · exact (pageOf_in _ _ _ hp).2.2
        · have := h2 p hp2
          rw [List.length_drop] at this; omega
theorem splitF_ok (b : List UInt8) (l : List (List UInt8)) (h : splitF b = .ok l) : ∃ p0 p1 cols, l = p0 :: p1 :: cols ∧ cols.length ≤ 8 ∧ ∀ p ∈ p0 :: p1 :: cols, p.length ≤ b.length := by
  unfold splitF at h
  split at h
  · cases h
  · rename_i s m hp
    split at h
    · cases h
    · rename_i l2 hq
      cases h
      obtain ⟨h1, h2⟩ := pagesN_ok _ _ _ _ hq
      match l2, h1, h2 with
      | [], h1, _ => simp at h1; omega
      | p1 :: cols, h1, h2 =>
        have := arOf_le s
        refine ⟨s, p1, cols, rfl, by simp at h1; omega, fun p hp2 => ?_⟩
        rcases List.mem_cons.1 hp2 with rfl | hp2
        · have := (pageOf_in _ _ _ hp).2.2
          rw [List.length_drop] at this; omega
        · have := h2 p hp2
          rw [List.length_drop] at this; omega
set_option maxRecDepth 100000 in
set_option maxHeartbeats 4000000 in
theorem pdecode_any (d : ByteArray) (w : World) (hd : d.size ≤ 1073741824) (hT : Tab w) :
    Calls Tryz.prog 7 #[.string d] w fun e w' => Decoded w.heap.size (decode true d.data.toList) e w' ∧ Below w.heap.size w w' := by
  rw [← decode_soft]
  have HDL : Hid (d.data.toList.length = d.size) := by show _ = _; simp
  have hw0 : 0 < w.heap.size := hT.pos
  have HBN : Hid (Below w.heap.size w (w.alloc (.cells #[.string { data := #[] }, .int .i64 0, .slice none 0 0] 24))) := (Below.refl _ _).alloc (Nat.le_refl _) _
  by_cases hbig : 65536 < d.size
  · have HF : Hid (decode false d.data.toList = (1, 0, [], 0, [])) := decode_long _ _ (by rw [HDL.out]; exact hbig)
    go_enter Tryz.func7, Tryz.ntmps7
    go_wp2
    refine bodyPost_ret (v := .tuple #[.agg #[.string { data := #[] }, .int .i64 0, .slice none 0 0], .int .i64 1, .int .i64 0]) (by simp [results, Tryz.results7, go_sem]) rfl ⟨decoded_bad 1 0 HF.out rfl rfl, HBN.out⟩
  · have HNB : Hid (¬ 65536 < d.data.toList.length) := by rw [HDL.out]; exact hbig
    obtain ⟨W0, HW0⟩ : ∃ W0, Hid (W0 = w.alloc (.cells #[.string { data := #[] }, .int .i64 0, .slice none 0 0] 24)) := ⟨_, rfl⟩
    have HB0 : Hid (Below w.heap.size w W0) := by rw [HW0.out]; exact HBN.out
    have HZ0 : Hid (W0.heap.size = w.heap.size + 1) := by show _ = _; rw [HW0.out]; simp
    have HX0 : Hid (RBox W0 w.heap.size) := by rw [HW0.out]; exact RBox.new _ _
    have HT0 : Hid (Tab W0) := hT.below HB0.out hw0
    have hwW : w.heap.size < W0.heap.size := by have := HZ0.out; omega
    obtain ⟨r, HR⟩ : ∃ r, Hid (decide (sealed d.data.toList) = r) := ⟨_, (rfl : decide (sealed d.data.toList) = _)⟩
    go_enter Tryz.func7, Tryz.ntmps7
    go_wp2_with fail
    rw [← HW0.out]
    clear HW0
    refine (psealed_any d _ (by omega) HT0.out r HR).mono ?_
    rintro e w1 ⟨rfl, hb1⟩
    have HX1 : Hid (RBox w1 w.heap.size) := HX0.out.kept hb1 hwW
    have HT1 : Hid (Tab w1) := HT0.out.below hb1 (by omega)
    have HBW : Hid (Below w.heap.size w w1) := HB0.out.trans (hb1.mono (by omega))
    have hs1 : w.heap.size < w1.heap.size := by have := hb1.size; omega
    clear hb1
    cases r with
    | false =>
      have hns : ¬ sealed d.data.toList := by have := HR.out; simpa using this
      have HF : Hid (decode false d.data.toList = (4, 0, [], 0, [])) := decode_open _ _ HNB.out hns
      obtain ⟨k0, k1, k2, f0, f1, f2⟩ := HX1.out
      clear hns
      go_wp2
      refine bodyPost_ret (v := .tuple #[.agg #[.string { data := #[] }, .int .i64 0, .slice none 0 0], .int .i64 4, .int .i64 0]) (by simp [results, Tryz.results7, go_sem, k0, k1, k2]) rfl ⟨decoded_bad 4 0 HF.out rfl rfl, boxed_below HBW.out (Nat.le_refl _) _ _ _⟩
    | true =>
      have hsl : sealed d.data.toList := by have := HR.out; simpa using this
      have HSL : Hid (sealed d.data.toList) := hsl
      have h8 : 8 ≤ d.size := by have := hsl.1; rw [HDL.out] at this; exact this
      clear hsl
      go_wp2_with fail
      refine (psplit_any d _ h8 (by omega) HT1.out).mono ?_
      rintro e w2 ⟨hsp, hb2⟩
      have HX2 : Hid (RBox w2 w.heap.size) := HX1.out.kept hb2 hs1
      have HT2 : Hid (Tab w2) := HT1.out.below hb2 (by omega)
      have HBW2 : Hid (Below w.heap.size w w2) := HBW.out.trans (hb2.mono (by omega))
      have hs2 : w1.heap.size ≤ w2.heap.size := hb2.size
      clear hb2 HBW
      have HBW := HBW2
      cases hspl : splitF (d.data.toList.take (d.data.toList.length - 4)) with
      | error x =>
        obtain ⟨er, a⟩ := x
        rw [hspl] at hsp
        have he : e = .returned (.tuple #[.slice none 0 0, .int .i64 (er : Nat), .int .i64 (a : Nat)]) := hsp
        subst he
        have her := splitF_err _ _ _ hspl
        have HF : Hid (decode false d.data.toList = (er, a, [], 0, [])) := decode_split false _ HNB.out HSL.out er a hspl
        have hne : ((er : Int) != 0) = true := by simp [her]
        obtain ⟨k0, k1, k2, f0, f1, f2⟩ := HX2.out
        clear hspl hsp her
        go_wp2
        refine bodyPost_ret (v := .tuple #[.agg #[.string { data := #[] }, .int .i64 0, .slice none 0 0], .int .i64 (er : Nat), .int .i64 (a : Nat)]) (by simp [results, Tryz.results7, go_sem, k0, k1, k2]) rfl ⟨decoded_bad er a HF.out rfl rfl, boxed_below HBW.out (Nat.le_refl _) _ _ _⟩
      | ok pages =>
        obtain ⟨p0, p1, cols, rfl, hc8, hpl⟩ := splitF_ok _ _ hspl
        rw [hspl] at hsp
        obtain ⟨v, rfl, hov⟩ := hsp
        obtain ⟨va, vc, rfl⟩ := ownShape hov
        have HOV : Hid (w2.ownsRow w1.heap.size 9 1 (.slice va (p0 :: p1 :: cols).length vc) (p0 :: p1 :: cols).length (ts (p0 :: p1 :: cols))) := hov
        have HPL : Hid (∀ p ∈ p0 :: p1 :: cols, p.length ≤ 65536) := fun p hp => by
          have h1 := hpl p hp
          rw [List.length_take, HDL.out] at h1
          omega
        have HSP : Hid (splitF (d.data.toList.take (d.data.toList.length - 4)) = .ok (p0 :: p1 :: cols)) := hspl
        clear hspl hov hpl
        go_wp2_with fail
        refine (punpack_any _ p0 p1 cols _ w1.heap.size HOV.out hc8 HPL.out (by omega)).mono ?_
        rintro e w3 ⟨hr, hb3⟩
        have HX3 : Hid (RBox w3 w.heap.size) := HX2.out.kept hb3 (by omega)
        have HT3 : Hid (Tab w3) := HT2.out.below hb3 (by omega)
        have HBW3 : Hid (Below w.heap.size w w3) := HBW2.out.trans (hb3.mono (by omega))
        have hs3 : w2.heap.size ≤ w3.heap.size := hb3.size
        clear hb3 HBW
        have hlt3 : w.heap.size < w3.heap.size := by omega
        cases hrl : related false (p0 :: p1 :: cols) with
        | none =>
          rw [hrl] at hr
          obtain ⟨z, hz, rfl⟩ := hr
          have HF : Hid (decode false d.data.toList = (4, 0, [], 0, [])) := decode_none false _ HNB.out HSL.out _ HSP.out hrl
          obtain ⟨k0, k1, k2, f0, f1, f2⟩ := HX3.out
          have HAL : Hid (((boxed w3 w.heap.size (.string { data := #[] }) (.int .i64 0) (.slice none 0 0)).alloc (.cells #[.string { data := #[] }, .int .i64 0, .slice none 0 0] 24)).cell? ⟨w.heap.size, 0, none⟩ = some (.string { data := #[] }) ∧ ((boxed w3 w.heap.size (.string { data := #[] }) (.int .i64 0) (.slice none 0 0)).alloc (.cells #[.string { data := #[] }, .int .i64 0, .slice none 0 0] 24)).cell? ⟨w.heap.size, 1, none⟩ = some (.int .i64 0) ∧ ((boxed w3 w.heap.size (.string { data := #[] }) (.int .i64 0) (.slice none 0 0)).alloc (.cells #[.string { data := #[] }, .int .i64 0, .slice none 0 0] 24)).cell? ⟨w.heap.size, 2, none⟩ = some (.slice none 0 0)) := boxed_alloc _ _ _ _ HX3.out hlt3
          clear hrl
          go_wp2
          obtain ⟨a0, a1, a2⟩ := HAL.out
          unfold boxed at a0 a1 a2
          refine bodyPost_ret (v := .tuple #[.agg #[.string { data := #[] }, .int .i64 0, .slice none 0 0], .int .i64 4, .int .i64 0]) (by simp [results, Tryz.results7, go_sem, a0, a1, a2]) rfl ⟨decoded_bad 4 0 HF.out rfl rfl, ?_⟩
          exact (boxed_below HBW3.out (Nat.le_refl _) _ _ _).alloc (show w.heap.size ≤ (boxed w3 w.heap.size (.string { data := #[] }) (.int .i64 0) (.slice none 0 0)).heap.size by rw [boxed_size]; omega) _
        | some q =>
          obtain ⟨name, ar, rows⟩ := q
          rw [hrl] at hr
          obtain ⟨v3, us3, rfl, hd3⟩ := hr
          obtain ⟨a3, c3, rfl⟩ := ownShape hd3.1
          obtain ⟨bn, ba, br, bl⟩ := related_bd _ _ _ _ _ _ _ hrl
          have HD3 : Hid (Deep w2.heap.size w3 (.slice a3 us3.length c3) us3 rows) := hd3
          have HRL : Hid (related false (p0 :: p1 :: cols) = some (name, ar, rows)) := hrl
          have HRB : Hid (∀ r ∈ rows, r.length ≤ 1099511627776) := fun r hr => by rw [bl r hr]; omega
          have zn : (str name).size ≤ 30 := by rw [str_size]; exact bn
          clear hd3 hrl bl bn
          obtain ⟨t, er, ei, HEQ⟩ : ∃ t er ei, Hid (encode name ar rows = (t, er, ei)) := ⟨_, _, _, rfl⟩
          have HEN : Hid (encd (encode (str name).data.toList ar rows) = .tuple #[.string (str t), .int .i64 (er : Nat), .int .i64 (ei : Nat)]) := by show _ = _; rw [data_str, HEQ.out]; rfl
          obtain ⟨W4, HW4⟩ : ∃ W4, Hid (W4 = w3.alloc (.cells #[.string (str name), .int .i64 (ar : Nat), .slice a3 us3.length c3] 24)) := ⟨_, rfl⟩
          have hbA : Below w3.heap.size w3 W4 := by rw [HW4.out]; exact (Below.refl _ _).alloc (Nat.le_refl _) _
          have HBA : Hid (Below w3.heap.size w3 W4) := hbA
          have HQA : Hid (W4.cell? ⟨w3.heap.size, 0, none⟩ = some (.string (str name)) ∧ W4.cell? ⟨w3.heap.size, 1, none⟩ = some (.int .i64 (ar : Nat)) ∧ W4.cell? ⟨w3.heap.size, 2, none⟩ = some (.slice a3 us3.length c3)) := by rw [HW4.out]; exact ⟨by simp, by simp, by simp⟩
          have HZA : Hid (w3.heap.size < W4.heap.size) := by show _ < _; rw [HW4.out]; simp
          clear hbA
          go_wp2_with fail
          rw [← HW4.out]
          clear HW4
          refine (pencode_any (str name) ar _ us3 rows _ (HD3.out.rows.kept HBA.out) (HT3.out.below HBA.out (by omega)) (by omega) (by omega) HRB.out).mono ?_
          rintro e w4 ⟨rfl, hb4⟩
          rw [HEN.out]
          have hB4 : Below w3.heap.size w3 w4 := HBA.out.trans (hb4.mono HBA.out.size)
          obtain ⟨k0, k1, k2, f0, f1, f2⟩ := HX3.out.kept hB4 hlt3
          have HBW : Hid (Below w.heap.size w w4) := HBW3.out.trans (hB4.mono (by omega))
          have HD4 : Hid (Deep w2.heap.size w4 (.slice a3 us3.length c3) us3 rows) := HD3.out.kept hB4
          have q0 := (hb4.cell (p := ⟨w3.heap.size, 0, none⟩) HZA.out).trans HQA.out.1
          have q1 := (hb4.cell (p := ⟨w3.heap.size, 1, none⟩) HZA.out).trans HQA.out.2.1
          have q2 := (hb4.cell (p := ⟨w3.heap.size, 2, none⟩) HZA.out).trans HQA.out.2.2
          have hiff := encode_iff name ar rows d.data.toList
          rw [HEQ.out] at hiff
          simp only at hiff
          clear hb4 hB4
          by_cases her : er = 0
          · by_cases ht : t = d.data.toList
            · have HF : Hid (decode false d.data.toList = (0, 0, name, ar, rows)) := decode_fine false _ HNB.out HSL.out _ HSP.out name ar rows HRL.out (by rw [HEQ.out]; exact hiff.2 ⟨her, ht⟩)
              have hse2 : ((str t).toList == d.toList) = true := by rw [toList_str, toList_of, ht]; simp
              have hr0 : ((er : Int) != 0) = false := by simp [her]
              clear hiff her ht
              go_wp2
              refine bodyPost_ret (v := .tuple #[.agg #[.string (str name), .int .i64 (ar : Nat), .slice a3 us3.length c3], .int .i64 0, .int .i64 0]) (by simp [results, Tryz.results7, go_sem, k0, k1, k2]) rfl ⟨decoded_ok HF.out ((boxed_deep HD4.out (by omega) _ _ _).lower (by omega)), boxed_below HBW.out (Nat.le_refl _) _ _ _⟩
            · have HF : Hid (decode false d.data.toList = (4, 0, [], 0, [])) := decode_other false _ HNB.out HSL.out _ HSP.out name ar rows HRL.out (by rw [HEQ.out]; exact fun h => ht (hiff.1 h).2)
              have hse2 : ((str t).toList == d.toList) = false := by rw [toList_str, toList_of]; simp [ht]
              have hr0 : ((er : Int) != 0) = false := by simp [her]
              clear hiff her ht
              go_wp2
              refine bodyPost_ret (v := .tuple #[.agg #[.string { data := #[] }, .int .i64 0, .slice none 0 0], .int .i64 4, .int .i64 0]) (by simp [results, Tryz.results7, go_sem, k0, k1, k2]) rfl ⟨decoded_bad 4 0 HF.out rfl rfl, boxed_below HBW.out (Nat.le_refl _) _ _ _⟩
          · have HF : Hid (decode false d.data.toList = (4, 0, [], 0, [])) := decode_other false _ HNB.out HSL.out _ HSP.out name ar rows HRL.out (by rw [HEQ.out]; exact fun h => her (hiff.1 h).1)
            have hr0 : ((er : Int) != 0) = true := by simp [her]
            clear hiff her
            go_wp2
            refine bodyPost_ret (v := .tuple #[.agg #[.string { data := #[] }, .int .i64 0, .slice none 0 0], .int .i64 4, .int .i64 0]) (by simp [results, Tryz.results7, go_sem, k0, k1, k2]) rfl ⟨decoded_bad 4 0 HF.out rfl rfl, boxed_below HBW.out (Nat.le_refl _) _ _ _⟩
end Go.Proofs.YtnnldpccagajbaaGreatDoor
