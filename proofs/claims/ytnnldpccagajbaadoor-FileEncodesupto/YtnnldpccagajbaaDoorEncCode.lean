/-
  The program's file.Encode, walked.
-/
import Derived.Test.YtnnldpccagajbaaDoorPackProg
import Derived.Test.YtnnldpccagajbaaDoorTidyCode
namespace Go.Proofs.YtnnldpccagajbaaDoor
open Go.ChangeShapes Go.WideShapes Go.ChangeAt Go.RowKit
set_option linter.unusedVariables false
set_option maxRecDepth 100000 in
set_option maxHeartbeats 2000000 in
theorem pencode_any (name : ByteArray) (ar : Int) (rv : Value) (vs : List Value) (rows : List (List (List UInt8))) (w : World) (h : Rows2 w rv vs rows) (hT : Tab w) (hn : name.size ≤ 1099511627776) (hrl : rows.length ≤ 1073741824) (hrr : ∀ r ∈ rows, r.length ≤ 1099511627776) :
    Calls Tryd.prog 6 #[.agg #[.string name, .int .i64 ar, rv]] w fun e w' => e = .returned (encd (encode name.data.toList ar rows)) ∧ Below w.heap.size w w' := by
  have HH : Hid (Rows2 w rv vs rows) := h
  have HTB : Hid (Tab w) := hT
  have HRR : Hid (∀ r ∈ rows, r.length ≤ 1099511627776) := hrr
  clear hrr hT
  obtain ⟨⟨a, cap, rfl, -⟩, -, -⟩ := h
  obtain ⟨te, ti, tl, HTD⟩ : ∃ te ti tl, Hid (tidy name.data.toList ar rows = (te, ti, tl)) := ⟨_, _, _, rfl⟩
  go_enter Tryd.func6, Tryd.ntmps6
  obtain ⟨W0, HW0⟩ : ∃ W0, Hid (W0 = w.alloc (.cells #[.string name, .int .i64 ar, .slice a vs.length cap] 25)) := ⟨_, rfl⟩
  have HB0 : Hid (Below w.heap.size w W0) := by rw [HW0.out]; exact (Below.refl _ _).alloc (Nat.le_refl _) _
  have HZ0 : Hid (W0.heap.size = w.heap.size + 1) := by show _ = _; rw [HW0.out]; simp
  go_wp2_with fail
  rw [← HW0.out]
  clear HW0
  refine (ptidy_any name ar _ vs rows _ (HH.out.kept HB0.out) (by omega) hrl HRR.out).mono ?_
  rintro e w1 ⟨hu, hb1⟩
  rw [HTD.out] at hu
  have HB1 : Hid (Below w.heap.size w w1) := HB0.out.trans (hb1.mono (by have := HZ0.out; omega))
  by_cases hte : te = 0
  · subst hte
    obtain ⟨vu, uu, rfl, hdt⟩ := hu
    simp only at hdt
    obtain ⟨au, cu, rfl⟩ := own_shape' hdt.1
    obtain ⟨hti, htl, HTY⟩ := tidy_facts _ _ _ _ _ HTD.out
    have har0 := HTY.a0
    have har8 := HTY.a8
    obtain ⟨m, hm⟩ := Int.eq_ofNat_of_zero_le har0
    subst hm
    have HTF : Hid (Tidy name.data.toList m tl) := HTY
    have HUR : Hid (Rows2 w1 (.slice au uu.length cu) uu tl) := hdt.rows
    obtain ⟨W1, HW1⟩ : ∃ W1, Hid (W1 = w1.alloc (.cells #[.string name, .int .i64 m, .slice au uu.length cu] 25)) := ⟨_, rfl⟩
    have HBT : Hid (Below w1.heap.size w1 W1) := by rw [HW1.out]; exact (Below.refl _ _).alloc (Nat.le_refl _) _
    have HBW : Hid (Below w.heap.size w W1) := HB1.out.trans (HBT.out.mono HB1.out.size)
    clear hdt hb1 hti htl HTY
    go_wp2_with fail
    rw [← HW1.out]
    clear HW1
    refine (pack_any name m _ uu tl _ (HUR.out.kept HBT.out) (HTB.out.below HBW.out HTB.out.pos) HTF.out).mono ?_
    rintro e w2 ⟨rfl, hb2⟩
    obtain ⟨sp, HSP⟩ : ∃ sp, Hid (sp = str (packF name.data.toList m tl)) := ⟨_, (rfl : str (packF name.data.toList m tl) = _)⟩
    rw [← HSP.out]
    have HB2 : Hid (Below w.heap.size w w2) := HBW.out.trans (hb2.mono HBW.out.size)
    have HZP : Hid (sp.size = (packF name.data.toList m tl).length) := by show _ = _; rw [HSP.out, str_size]
    have HEN := encode_ok name.data.toList m rows ti tl HTD.out
    rw [Int.toNat_natCast] at HEN
    have HENH : Hid (encode name.data.toList m rows = if 65536 < (packF name.data.toList m tl).length then ([], 1, 0) else (packF name.data.toList m tl, 0, 0)) := HEN
    clear hb2 HEN
    by_cases hbig : 65536 < sp.size
    · have HF : Hid (encode name.data.toList m rows = ([], 1, 0)) := by show _ = _; rw [HENH.out, if_pos (by rw [← HZP.out]; exact hbig)]
      go_wp2
      go_ret3
      exact ⟨by rw [HF.out]; rfl, HB2.out⟩
    · have hle : sp.size ≤ 65536 := by omega
      have HF : Hid (encode name.data.toList m rows = (packF name.data.toList m tl, 0, 0)) := by show _ = _; rw [HENH.out, if_neg (by rw [← HZP.out]; exact hbig)]
      clear hbig
      go_wp2
      go_ret3
      exact ⟨by rw [HF.out, HSP.out]; rfl, HB2.out⟩
  · have HTE : Hid (te ≠ 0) := hte
    have he : e = .returned (.tuple #[.agg #[.string { data := #[] }, .int .i64 0, .slice none 0 0], .int .i64 (te : Nat), .int .i64 (ti : Nat)]) := by
      unfold PTidied at hu; rw [if_neg hte] at hu; exact hu
    subst he
    have hne : ((te : Int) != 0) = true := by simp [hte]
    have HE : Hid (encode name.data.toList ar rows = ([], te, ti)) := encode_bad _ _ _ _ _ _ HTD.out hte
    clear hu hte hb1
    go_wp2
    go_ret3
    exact ⟨by rw [HE.out]; rfl, HB1.out.alloc HB1.out.size _⟩
end Go.Proofs.YtnnldpccagajbaaDoor
