/-
  The law's 'relation', 'sameRelation', 'spoil', walked.
-/
import Derived.Test.YtnnldpccagajbaaDoorTidyCode
import Derived.Deep.RegionHeld3
namespace Go.Proofs.YtnnldpccagajbaaDoor
open Go.ChangeShapes Go.WideShapes Go.ChangeAt Go.RowKit
set_option linter.unusedVariables false
theorem Rows2.drewN' {w : World} {v : Value} {vs : List Value} {L : List (List (List UInt8))} (h : Rows2 w v vs L) (n : Nat) : Rows2 (w.drewN n) v vs L := h.kept (below_drewN (Below.refl _ _) n)
set_option maxRecDepth 100000 in
set_option maxHeartbeats 2000000 in
theorem relation_any (name : ByteArray) (ar : Int) (rv : Value) (vs : List Value) (rows : List (List (List UInt8))) (w : World) (h : Rows2 w rv vs rows) (hrl : rows.length ≤ 1073741824) (hrr : ∀ r ∈ rows, r.length ≤ 1099511627776) :
    Calls Tryd.prog 5 #[.agg #[.string name, .int .i64 ar, rv]] w fun e w' => (∃ v us, e = .returned (.agg #[.string name, .int .i64 ar, v]) ∧ Deep w.heap.size w' v us rows) ∧ Below w.heap.size w w' := by
  have HH : Hid (Rows2 w rv vs rows) := h
  have HRR : Hid (∀ r ∈ rows, r.length ≤ 1099511627776) := hrr
  clear hrr
  obtain ⟨⟨a, cap, rfl, -⟩, -, -⟩ := h
  go_enter Tryd.func5, Tryd.ntmps5
  go_wp2_with fail
  obtain ⟨W0, HW0⟩ : ∃ W0, Hid (W0 = (w.alloc (.cells #[.string name, .int .i64 ar, .slice a vs.length cap] 24)).alloc (.cells #[.string { data := #[] }, .int .i64 0, .slice none 0 0] 25)) := ⟨_, rfl⟩
  have HB0 : Hid (Below w.heap.size w W0) := by rw [HW0.out]; exact ((Below.refl _ _).alloc (Nat.le_refl _) _).alloc (by simp) _
  have HZ0 : Hid (W0.heap.size = w.heap.size + 2) := by show _ = _; rw [HW0.out]; simp
  have q0 : W0.cell? ⟨w.heap.size, 0, none⟩ = some (.string name) := by rw [HW0.out]; simp
  have q1 : W0.cell? ⟨w.heap.size, 1, none⟩ = some (.int .i64 ar) := by rw [HW0.out]; simp
  have q2 : W0.cell? ⟨w.heap.size, 2, none⟩ = some (.slice a vs.length cap) := by rw [HW0.out]; simp
  have HP : Hid (W0.cell? ⟨w.heap.size + 1, 0, none⟩ = some (.string { data := #[] }) ∧ W0.cell? ⟨w.heap.size + 1, 1, none⟩ = some (.int .i64 0) ∧ W0.cell? ⟨w.heap.size + 1, 2, none⟩ = some (.slice none 0 0)) := by
    rw [HW0.out]; exact ⟨by simp, by simp, by simp⟩
  have HFZ : Hid (∀ i, W0.frozen? ⟨w.heap.size + 1, i, none⟩ = false) := by
    rw [HW0.out]; exact fun i => World.frozen?_alloc_at _ _ _ _ (by simp)
  rw [← HW0.out]
  clear HW0
  have HC : Hid (∀ wx : World, (∃ n, wx = W0.drewN n) → Calls Tryd.prog 11 #[.slice a vs.length cap] wx fun e w' => ∃ (a2 : Option Addr) (c2 : Nat) (us : List Value), e = .returned (.slice a2 us.length c2) ∧ Hid (Deep (w.heap.size + 2) w' (.slice a2 us.length c2) us rows) ∧ Hid (Below w.heap.size w w') ∧ w'.cell? ⟨w.heap.size, 0, none⟩ = some (.string name) ∧ w'.cell? ⟨w.heap.size, 1, none⟩ = some (.int .i64 ar) ∧ w'.cell? ⟨w.heap.size, 2, none⟩ = some (.slice a vs.length cap)
      ∧ w'.cell? ⟨w.heap.size + 1, 0, none⟩ = some (.string { data := #[] }) ∧ w'.cell? ⟨w.heap.size + 1, 1, none⟩ = some (.int .i64 0) ∧ w'.cell? ⟨w.heap.size + 1, 2, none⟩ = some (.slice none 0 0) ∧ w'.frozen? ⟨w.heap.size + 1, 0, none⟩ = false ∧ w'.frozen? ⟨w.heap.size + 1, 1, none⟩ = false ∧ w'.frozen? ⟨w.heap.size + 1, 2, none⟩ = false) := by
    rintro wx ⟨n, rfl⟩
    have hB : Below w.heap.size w (W0.drewN n) := below_drewN HB0.out n
    refine (rowsOf_any _ vs rows _ (HH.out.kept hB) hrl HRR.out).mono ?_
    rintro e w2 ⟨⟨v2, us, rfl, hd⟩, hb2⟩
    obtain ⟨a2, c2, rfl⟩ := own_shape' hd.1
    have hz : (W0.drewN n).heap.size = w.heap.size + 2 := HZ0.out
    have hb3 : Below (w.heap.size + 2) W0 w2 := (below_drewN (Below.refl _ _) n).trans (by rw [← hz]; exact hb2)
    refine ⟨a2, c2, us, rfl, by rw [hz] at hd; exact hd, HB0.out.trans (hb3.mono (by omega)), ?_, ?_, ?_, ?_, ?_, ?_, ?_, ?_, ?_⟩
    · exact (hb3.cell (p := ⟨w.heap.size, 0, none⟩) (show w.heap.size < w.heap.size + 2 by omega)).trans q0
    · exact (hb3.cell (p := ⟨w.heap.size, 1, none⟩) (show w.heap.size < w.heap.size + 2 by omega)).trans q1
    · exact (hb3.cell (p := ⟨w.heap.size, 2, none⟩) (show w.heap.size < w.heap.size + 2 by omega)).trans q2
    · exact (hb3.cell (p := ⟨w.heap.size + 1, 0, none⟩) (show w.heap.size + 1 < w.heap.size + 2 by omega)).trans HP.out.1
    · exact (hb3.cell (p := ⟨w.heap.size + 1, 1, none⟩) (show w.heap.size + 1 < w.heap.size + 2 by omega)).trans HP.out.2.1
    · exact (hb3.cell (p := ⟨w.heap.size + 1, 2, none⟩) (show w.heap.size + 1 < w.heap.size + 2 by omega)).trans HP.out.2.2
    · exact (hb3.frozen (p := ⟨w.heap.size + 1, 0, none⟩) (show w.heap.size + 1 < w.heap.size + 2 by omega)).trans (HFZ.out 0)
    · exact (hb3.frozen (p := ⟨w.heap.size + 1, 1, none⟩) (show w.heap.size + 1 < w.heap.size + 2 by omega)).trans (HFZ.out 1)
    · exact (hb3.frozen (p := ⟨w.heap.size + 1, 2, none⟩) (show w.heap.size + 1 < w.heap.size + 2 by omega)).trans (HFZ.out 2)
  go_region_held3 (fun w' => w'.cell? ⟨w.heap.size, 0, none⟩ = some (.string name) ∧ w'.cell? ⟨w.heap.size, 1, none⟩ = some (.int .i64 ar) ∧ w'.cell? ⟨w.heap.size, 2, none⟩ = some (.slice a vs.length cap)) (go_keep)
    (first | (go_at_call 11; refine (HC.out _ ⟨_, rfl⟩).mono ?_; rintro e w2 ⟨a2, c2, us, rfl, HD2, HB2, k0, k1, k2, p0, p1, p2, f0, f1, f2⟩))
  all_goals go_wp2
  all_goals refine bodyPost_ret (v := .agg #[.string name, .int .i64 ar, .slice a2 us.length c2]) (by simp [results, Tryd.results5, go_sem, p0, p1, p2]) rfl ⟨?_, ?_⟩
  · refine ⟨_, us, rfl, Deep.mono (base := w.heap.size + 2) ?_ (by omega)⟩
    exact ((HD2.out.setBelow (a := ⟨w.heap.size + 1, 0, none⟩) (Nat.lt_succ_self _) _).setBelow (a := ⟨w.heap.size + 1, 1, none⟩) (Nat.lt_succ_self _) _).setBelow (a := ⟨w.heap.size + 1, 2, none⟩) (Nat.lt_succ_self _) _
  · exact ((HB2.out.setCell (p := ⟨w.heap.size + 1, 0, none⟩) (Nat.le_succ _) _).setCell (p := ⟨w.heap.size + 1, 1, none⟩) (Nat.le_succ _) _).setCell (p := ⟨w.heap.size + 1, 2, none⟩) (Nat.le_succ _) _
set_option maxRecDepth 100000 in
set_option maxHeartbeats 2000000 in
theorem sameRel_any (name : ByteArray) (ar : Int) (va vb : Value) (xs ys : List Value) (L : List (List (List UInt8))) (w : World) (ha : Rows2 w va xs L) (hb : Rows2 w vb ys L) (hl : L.length ≤ 1073741824) (hr : ∀ r ∈ L, r.length ≤ 1099511627776) :
    Calls Tryd.prog 8 #[.agg #[.string name, .int .i64 ar, va], .agg #[.string name, .int .i64 ar, vb]] w fun e w' => e = .returned (.bool true) ∧ Below w.heap.size w w' := by
  have HA : Hid (Rows2 w va xs L) := ha
  have HB : Hid (Rows2 w vb ys L) := hb
  have HRR : Hid (∀ r ∈ L, r.length ≤ 1099511627776) := hr
  clear hr
  obtain ⟨⟨a, ca, rfl, -⟩, -, -⟩ := ha
  obtain ⟨⟨b, cb, rfl, -⟩, -, -⟩ := hb
  have HC : Hid (∀ (wx : World) (j : Nat), Below w.heap.size w wx → Calls Tryd.prog 21 #[.slice a xs.length ca, .slice b ys.length cb] (wx.drewN j) fun e w' => e = .returned (.bool true) ∧ ∃ n, w' = (wx.drewN j).drewN n) := by
    intro wx j hbx
    have h1 := sameRows_any _ _ xs ys L L (wx.drewN j) ((HA.out.kept hbx).drewN' j) ((HB.out.kept hbx).drewN' j) (by omega) (by omega) HRR.out HRR.out
    rw [show (L == L) = true from by simp] at h1
    exact h1
  go_enter Tryd.func8, Tryd.ntmps8
  have HB0 : Hid (Below w.heap.size w ((w.alloc (.cells #[.string name, .int .i64 ar, .slice a xs.length ca] 25)).alloc (.cells #[.string name, .int .i64 ar, .slice b ys.length cb] 24))) := ((Below.refl _ _).alloc (Nat.le_refl _) _).alloc (by simp) _
  go_wp2_with fail
  refine (HC.out _ 0 HB0.out).mono ?_
  rintro e w1 ⟨rfl, n1, rfl⟩
  have hnn : (name.toList == name.toList) = true := by simp
  have haa : (ar == ar) = true := by simp
  go_wp2
  go_ret
  exact ⟨rfl, below_drewN HB0.out _⟩
end Go.Proofs.YtnnldpccagajbaaDoor
