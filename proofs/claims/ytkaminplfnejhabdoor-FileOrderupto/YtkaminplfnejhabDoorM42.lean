import Derived.Test.YtkaminplfnejhabDoorM35
import Derived.Test.YtkaminplfnejhabDoorM41
import Derived.Deep.RegionHeld3
/-
  The program's file.Encode, walked.
-/
namespace Go.Proofs.YtkaminplfnejhabDoor
open Go.ChangeShapes Go.WideShapes Go.ChangeAt Go.RowKit
set_option linter.unusedVariables false
set_option maxRecDepth 100000 in
set_option maxHeartbeats 2000000 in
theorem pencode_any (name : ByteArray) (ar : Int) (rv : Value) (vs : List Value) (rows : List (List (List UInt8))) (w : World) (h : Rows2 w rv vs rows) (hT : Tab w) (hn : name.size ≤ 1099511627776) (hrl : rows.length ≤ 1073741824) (hrr : ∀ r ∈ rows, r.length ≤ 1099511627776) :
    Calls Tryd.prog 8 #[.agg #[.string name, .int .i64 ar, rv]] w fun e w' => e = .returned (encd (encode name.data.toList ar rows)) ∧ Below w.heap.size w w' := by
  have HH : Hid (Rows2 w rv vs rows) := h
  have HTB : Hid (Tab w) := hT
  have HRR : Hid (∀ r ∈ rows, r.length ≤ 1099511627776) := hrr
  clear hrr hT
  obtain ⟨⟨a, cap, rfl, -⟩, -, -⟩ := h
  obtain ⟨te, ti, tl, HTD⟩ : ∃ te ti tl, Hid (tidy name.data.toList ar rows = (te, ti, tl)) := ⟨_, _, _, rfl⟩
  go_enter Tryd.func8, Tryd.ntmps8
  obtain ⟨W0, HW0⟩ : ∃ W0, Hid (W0 = w.alloc (.cells #[.string name, .int .i64 ar, .slice a vs.length cap] 25)) := ⟨_, rfl⟩
  have HB0 : Hid (Below w.heap.size w W0) := by rw [HW0.out]; exact (Below.refl _ _).alloc (Nat.le_refl _) _
  have HZ0 : Hid (W0.heap.size = w.heap.size + 1) := by show _ = _; rw [HW0.out]; simp
  go_wp2_with fail
  rw [← HW0.out]
  clear HW0
  refine (ptidy_any name ar _ vs rows _ (HH.out.kept HB0.out) (by omega) hrl HRR.out).mono ?_
  rintro e w1 ⟨hu, hb1⟩
  rw [HTD.out] at hu
  have HB1 : Hid (Below w.heap.size w w1) := HB0.out.trans (hb1.mono (by have := HZ0.out; omega))
  by_cases hte : te = 0
  · subst hte
    obtain ⟨vu, uu, rfl, hdt⟩ := hu
    simp only at hdt
    obtain ⟨au, cu, rfl⟩ := own_shape' hdt.1
    obtain ⟨hti, htl, HTY⟩ := tidy_facts _ _ _ _ _ HTD.out
    have har0 := HTY.a0
    have har8 := HTY.a8
    obtain ⟨m, hm⟩ := Int.eq_ofNat_of_zero_le har0
    subst hm
    have HTF : Hid (Tidy name.data.toList m tl) := HTY
    have HUR : Hid (Rows2 w1 (.slice au uu.length cu) uu tl) := hdt.rows
    obtain ⟨W1, HW1⟩ : ∃ W1, Hid (W1 = w1.alloc (.cells #[.string name, .int .i64 m, .slice au uu.length cu] 25)) := ⟨_, rfl⟩
    have HBT : Hid (Below w1.heap.size w1 W1) := by rw [HW1.out]; exact (Below.refl _ _).alloc (Nat.le_refl _) _
    have HBW : Hid (Below w.heap.size w W1) := HB1.out.trans (HBT.out.mono HB1.out.size)
    clear hdt hb1 hti htl HTY
    go_wp2_with fail
    rw [← HW1.out]
    clear HW1
    refine (pack_any name m _ uu tl _ (HUR.out.kept HBT.out) (HTB.out.below HBW.out HTB.out.pos) HTF.out).mono ?_
    rintro e w2 ⟨rfl, hb2⟩
    obtain ⟨sp, HSP⟩ : ∃ sp, Hid (sp = str (packF name.data.toList m tl)) := ⟨_, (rfl : str (packF name.data.toList m tl) = _)⟩
    rw [← HSP.out]
    have HB2 : Hid (Below w.heap.size w w2) := HBW.out.trans (hb2.mono HBW.out.size)
    have HZP : Hid (sp.size = (packF name.data.toList m tl).length) := by show _ = _; rw [HSP.out, str_size]
    have HEN := encode_ok name.data.toList m rows ti tl HTD.out
    rw [Int.toNat_natCast] at HEN
    have HENH : Hid (encode name.data.toList m rows = if 65536 < (packF name.data.toList m tl).length then ([], 1, 0) else (packF name.data.toList m tl, 0, 0)) := HEN
    clear hb2 HEN
    by_cases hbig : 65536 < sp.size
    · have HF : Hid (encode name.data.toList m rows = ([], 1, 0)) := by show _ = _; rw [HENH.out, if_pos (by rw [← HZP.out]; exact hbig)]
      go_wp2
      go_ret3
      exact ⟨by rw [HF.out]; rfl, HB2.out⟩
    · have hle : sp.size ≤ 65536 := by omega
      have HF : Hid (encode name.data.toList m rows = (packF name.data.toList m tl, 0, 0)) := by show _ = _; rw [HENH.out, if_neg (by rw [← HZP.out]; exact hbig)]
      clear hbig
      go_wp2
      go_ret3
      exact ⟨by rw [HF.out, HSP.out]; rfl, HB2.out⟩
  · have HTE : Hid (te ≠ 0) := hte
    have he : e = .returned (.tuple #[.agg #[.string { data := #[] }, .int .i64 0, .slice none 0 0], .int .i64 (te : Nat), .int .i64 (ti : Nat)]) := by
      unfold PTidied at hu; rw [if_neg hte] at hu; exact hu
    subst he
    have hne : ((te : Int) != 0) = true := by simp [hte]
    have HE : Hid (encode name.data.toList ar rows = ([], te, ti)) := encode_bad _ _ _ _ _ _ HTD.out hte
    clear hu hte hb1
    go_wp2
    go_ret3
    exact ⟨by rw [HE.out]; rfl, HB1.out.alloc HB1.out.size _⟩
end Go.Proofs.YtkaminplfnejhabDoor

/-
  The law's 'relation', 'sameRelation', 'spoil', walked.
-/
namespace Go.Proofs.YtkaminplfnejhabDoor
open Go.ChangeShapes Go.WideShapes Go.ChangeAt Go.RowKit
set_option linter.unusedVariables false
theorem Rows2.drewN' {w : World} {v : Value} {vs : List Value} {L : List (List (List UInt8))} (h : Rows2 w v vs L) (n : Nat) : Rows2 (w.drewN n) v vs L := h.kept (below_drewN (Below.refl _ _) n)
set_option maxRecDepth 100000 in
set_option maxHeartbeats 2000000 in
theorem relation_any (name : ByteArray) (ar : Int) (rv : Value) (vs : List Value) (rows : List (List (List UInt8))) (w : World) (h : Rows2 w rv vs rows) (hrl : rows.length ≤ 1073741824) (hrr : ∀ r ∈ rows, r.length ≤ 1099511627776) :
    Calls Tryd.prog 6 #[.agg #[.string name, .int .i64 ar, rv]] w fun e w' => (∃ v us, e = .returned (.agg #[.string name, .int .i64 ar, v]) ∧ Deep w.heap.size w' v us rows) ∧ Below w.heap.size w w' := by
  have HH : Hid (Rows2 w rv vs rows) := h
  have HRR : Hid (∀ r ∈ rows, r.length ≤ 1099511627776) := hrr
  clear hrr
  obtain ⟨⟨a, cap, rfl, -⟩, -, -⟩ := h
  go_enter Tryd.func6, Tryd.ntmps6
  go_wp2_with fail
  obtain ⟨W0, HW0⟩ : ∃ W0, Hid (W0 = (w.alloc (.cells #[.string name, .int .i64 ar, .slice a vs.length cap] 24)).alloc (.cells #[.string { data := #[] }, .int .i64 0, .slice none 0 0] 25)) := ⟨_, rfl⟩
  have HB0 : Hid (Below w.heap.size w W0) := by rw [HW0.out]; exact ((Below.refl _ _).alloc (Nat.le_refl _) _).alloc (by simp) _
  have HZ0 : Hid (W0.heap.size = w.heap.size + 2) := by show _ = _; rw [HW0.out]; simp
  have q0 : W0.cell? ⟨w.heap.size, 0, none⟩ = some (.string name) := by rw [HW0.out]; simp
  have q1 : W0.cell? ⟨w.heap.size, 1, none⟩ = some (.int .i64 ar) := by rw [HW0.out]; simp
  have q2 : W0.cell? ⟨w.heap.size, 2, none⟩ = some (.slice a vs.length cap) := by rw [HW0.out]; simp
  have HP : Hid (W0.cell? ⟨w.heap.size + 1, 0, none⟩ = some (.string { data := #[] }) ∧ W0.cell? ⟨w.heap.size + 1, 1, none⟩ = some (.int .i64 0) ∧ W0.cell? ⟨w.heap.size + 1, 2, none⟩ = some (.slice none 0 0)) := by
    rw [HW0.out]; exact ⟨by simp, by simp, by simp⟩
  have HFZ : Hid (∀ i, W0.frozen? ⟨w.heap.size + 1, i, none⟩ = false) := by
    rw [HW0.out]; exact fun i => World.frozen?_alloc_at _ _ _ _ (by simp)
  rw [← HW0.out]
  clear HW0
  have HC : Hid (∀ wx : World, (∃ n, wx = W0.drewN n) → Calls Tryd.prog 17 #[.slice a vs.length cap] wx fun e w' => ∃ (a2 : Option Addr) (c2 : Nat) (us : List Value), e = .returned (.slice a2 us.length c2) ∧ Hid (Deep (w.heap.size + 2) w' (.slice a2 us.length c2) us rows) ∧ Hid (Below w.heap.size w w') ∧ w'.cell? ⟨w.heap.size, 0, none⟩ = some (.string name) ∧ w'.cell? ⟨w.heap.size, 1, none⟩ = some (.int .i64 ar) ∧ w'.cell? ⟨w.heap.size, 2, none⟩ = some (.slice a vs.length cap)
      ∧ w'.cell? ⟨w.heap.size + 1, 0, none⟩ = some (.string { data := #[] }) ∧ w'.cell? ⟨w.heap.size + 1, 1, none⟩ = some (.int .i64 0) ∧ w'.cell? ⟨w.heap.size + 1, 2, none⟩ = some (.slice none 0 0) ∧ w'.frozen? ⟨w.heap.size + 1, 0, none⟩ = false ∧ w'.frozen? ⟨w.heap.size + 1, 1, none⟩ = false ∧ w'.frozen? ⟨w.heap.size + 1, 2, none⟩ = false) := by
    rintro wx ⟨n, rfl⟩
    have hB : Below w.heap.size w (W0.drewN n) := below_drewN HB0.out n
    refine (rowsOf_any _ vs rows _ (HH.out.kept hB) hrl HRR.out).mono ?_
    rintro e w2 ⟨⟨v2, us, rfl, hd⟩, hb2⟩
    obtain ⟨a2, c2, rfl⟩ := own_shape' hd.1
    have hz : (W0.drewN n).heap.size = w.heap.size + 2 := HZ0.out
    have hb3 : Below (w.heap.size + 2) W0 w2 := (below_drewN (Below.refl _ _) n).trans (by rw [← hz]; exact hb2)
    refine ⟨a2, c2, us, rfl, by rw [hz] at hd; exact hd, HB0.out.trans (hb3.mono (by omega)), ?_, ?_, ?_, ?_, ?_, ?_, ?_, ?_, ?_⟩
    · exact (hb3.cell (p := ⟨w.heap.size, 0, none⟩) (show w.heap.size < w.heap.size + 2 by omega)).trans q0
    · exact (hb3.cell (p := ⟨w.heap.size, 1, none⟩) (show w.heap.size < w.heap.size + 2 by omega)).trans q1
    · exact (hb3.cell (p := ⟨w.heap.size, 2, none⟩) (show w.heap.size < w.heap.size + 2 by omega)).trans q2
    · exact (hb3.cell (p := ⟨w.heap.size + 1, 0, none⟩) (show w.heap.size + 1 < w.heap.size + 2 by omega)).trans HP.out.1
    · exact (hb3.cell (p := ⟨w.heap.size + 1, 1, none⟩) (show w.heap.size + 1 < w.heap.size + 2 by omega)).trans HP.out.2.1
    · exact (hb3.cell (p := ⟨w.heap.size + 1, 2, none⟩) (show w.heap.size + 1 < w.heap.size + 2 by omega)).trans HP.out.2.2
    · exact (hb3.frozen (p := ⟨w.heap.size + 1, 0, none⟩) (show w.heap.size + 1 < w.heap.size + 2 by omega)).trans (HFZ.out 0)
    · exact (hb3.frozen (p := ⟨w.heap.size + 1, 1, none⟩) (show w.heap.size + 1 < w.heap.size + 2 by omega)).trans (HFZ.out 1)
    · exact (hb3.frozen (p := ⟨w.heap.size + 1, 2, none⟩) (show w.heap.size + 1 < w.heap.size + 2 by omega)).trans (HFZ.out 2)
  go_region_held3 (fun w' => w'.cell? ⟨w.heap.size, 0, none⟩ = some (.string name) ∧ w'.cell? ⟨w.heap.size, 1, none⟩ = some (.int .i64 ar) ∧ w'.cell? ⟨w.heap.size, 2, none⟩ = some (.slice a vs.length cap)) (go_keep)
    (first | (go_at_call 17; refine (HC.out _ ⟨_, rfl⟩).mono ?_; rintro e w2 ⟨a2, c2, us, rfl, HD2, HB2, k0, k1, k2, p0, p1, p2, f0, f1, f2⟩))
  all_goals go_wp2
  all_goals refine bodyPost_ret (v := .agg #[.string name, .int .i64 ar, .slice a2 us.length c2]) (by simp [results, Tryd.results6, go_sem, p0, p1, p2]) rfl ⟨?_, ?_⟩
  · refine ⟨_, us, rfl, Deep.mono (base := w.heap.size + 2) ?_ (by omega)⟩
    exact ((HD2.out.setBelow (a := ⟨w.heap.size + 1, 0, none⟩) (Nat.lt_succ_self _) _).setBelow (a := ⟨w.heap.size + 1, 1, none⟩) (Nat.lt_succ_self _) _).setBelow (a := ⟨w.heap.size + 1, 2, none⟩) (Nat.lt_succ_self _) _
  · exact ((HB2.out.setCell (p := ⟨w.heap.size + 1, 0, none⟩) (Nat.le_succ _) _).setCell (p := ⟨w.heap.size + 1, 1, none⟩) (Nat.le_succ _) _).setCell (p := ⟨w.heap.size + 1, 2, none⟩) (Nat.le_succ _) _
end Go.Proofs.YtkaminplfnejhabDoor
