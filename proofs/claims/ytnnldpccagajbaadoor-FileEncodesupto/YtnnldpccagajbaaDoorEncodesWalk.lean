/-
  FileEncodes' walk.
-/
import Derived.Test.YtnnldpccagajbaaDoorEncCode
import Derived.Test.YtnnldpccagajbaaDoorLawRel
namespace Go.Proofs.YtnnldpccagajbaaDoor
open Go.ChangeShapes Go.WideShapes Go.ChangeAt Go.RowKit
set_option linter.unusedVariables false
set_option maxRecDepth 100000 in
set_option maxHeartbeats 400000 in
theorem numE_at (n : Int) (w : World) : Calls Tryd.prog 9 #[.int .i64 n] w fun e w' => e = .returned (.int .i64 n) ∧ w = w' := by
  go_enter Tryd.func9, Tryd.ntmps9
  go_wp2
  go_ret
  exact ⟨rfl, rfl⟩
set_option maxRecDepth 100000 in
set_option maxHeartbeats 2000000 in
theorem encodes_walk (name : ByteArray) (ar : Int) (rv : Value) (vs : List Value) (rows : List (List (List UInt8))) (w : World) (h : Rows2 w rv vs rows) (hT : Tab w) (hn : name.size ≤ 1099511627776) (hrl : rows.length ≤ 1073741824) (hrr : ∀ r ∈ rows, r.length ≤ 1099511627776) :
    Calls Tryd.prog 3 #[.agg #[.string name, .int .i64 ar, rv]] w fun e w' => e = .returned (.bool true) ∧ Below w.heap.size w w' := by
  have HH : Hid (Rows2 w rv vs rows) := h
  have HTB : Hid (Tab w) := hT
  have HRR : Hid (∀ r ∈ rows, r.length ≤ 1099511627776) := hrr
  clear hrr hT
  obtain ⟨⟨a, cap, rfl, -⟩, -, -⟩ := h
  obtain ⟨W0, HW0⟩ : ∃ W0, Hid (W0 = w.alloc (.cells #[.string name, .int .i64 ar, .slice a vs.length cap] 24)) := ⟨_, rfl⟩
  have HB0 : Hid (Below w.heap.size w W0) := by rw [HW0.out]; exact (Below.refl _ _).alloc (Nat.le_refl _) _
  have HZ0 : Hid (W0.heap.size = w.heap.size + 1) := by show _ = _; rw [HW0.out]; simp
  have HQ0 : Hid (W0.cell? ⟨w.heap.size, 0, none⟩ = some (.string name) ∧ W0.cell? ⟨w.heap.size, 1, none⟩ = some (.int .i64 ar) ∧ W0.cell? ⟨w.heap.size, 2, none⟩ = some (.slice a vs.length cap)) := by
    rw [HW0.out]; exact ⟨by simp, by simp, by simp⟩
  have hb0 : w.heap.size < W0.heap.size := by have := HZ0.out; omega
  have HR0 : Hid (Rows2 W0 (.slice a vs.length cap) vs rows) := HH.out.kept HB0.out
  go_enter Tryd.func3, Tryd.ntmps3
  go_wp2_with fail
  rw [← HW0.out]
  clear HW0
  refine (relation_any name ar _ vs rows _ HR0.out hrl HRR.out).mono ?_
  rintro e w1 ⟨⟨vx, ux, rfl, hdx⟩, hb1⟩
  obtain ⟨ax, cx, rfl⟩ := own_shape' hdx.1
  have hs1 : w.heap.size < w1.heap.size := by have := hb1.size; omega
  have HB01 : Hid (Below W0.heap.size W0 w1) := hb1
  have HX1 : Hid (Rows2 w1 (.slice ax ux.length cx) ux rows) := hdx.rows
  clear hb1 hdx
  obtain ⟨WT, HWT⟩ : ∃ WT, Hid (WT = w1.alloc (.cells #[.string name, .int .i64 ar, .slice ax ux.length cx] 25)) := ⟨_, rfl⟩
  have HBX : Hid (Below w1.heap.size w1 WT) := by rw [HWT.out]; exact (Below.refl _ _).alloc (Nat.le_refl _) _
  have HZT : Hid (WT.heap.size = w1.heap.size + 1) := by show _ = _; rw [HWT.out]; simp
  have HQX : Hid (WT.cell? ⟨w1.heap.size, 0, none⟩ = some (.string name) ∧ WT.cell? ⟨w1.heap.size, 1, none⟩ = some (.int .i64 ar) ∧ WT.cell? ⟨w1.heap.size, 2, none⟩ = some (.slice ax ux.length cx)) := by
    rw [HWT.out]; exact ⟨by simp, by simp, by simp⟩
  have HB0T : Hid (Below W0.heap.size W0 WT) := HB01.out.trans (HBX.out.mono HB01.out.size)
  have HQR : Hid (WT.cell? ⟨w.heap.size, 0, none⟩ = some (.string name) ∧ WT.cell? ⟨w.heap.size, 1, none⟩ = some (.int .i64 ar) ∧ WT.cell? ⟨w.heap.size, 2, none⟩ = some (.slice a vs.length cap)) :=
    ⟨(HB0T.out.cell (p := ⟨w.heap.size, 0, none⟩) hb0).trans HQ0.out.1, (HB0T.out.cell (p := ⟨w.heap.size, 1, none⟩) hb0).trans HQ0.out.2.1, (HB0T.out.cell (p := ⟨w.heap.size, 2, none⟩) hb0).trans HQ0.out.2.2⟩
  have HXT : Hid (Rows2 WT (.slice ax ux.length cx) ux rows) := HX1.out.kept HBX.out
  have HBT : Hid (Below w.heap.size w WT) := HB0.out.trans (HB0T.out.mono (by omega))
  have HRT : Hid (Rows2 WT (.slice a vs.length cap) vs rows) := HH.out.kept HBT.out
  have HTT : Hid (Tab WT) := HTB.out.below HBT.out HTB.out.pos
  have hbx : w1.heap.size < WT.heap.size := by have := HZT.out; omega
  have hbr : w.heap.size < WT.heap.size := by omega
  go_wp2_with fail
  rw [← HWT.out]
  clear HWT HX1 HBX HQ0 HR0 HB0T HB01
  refine (pencode_any name ar _ ux rows WT HXT.out HTT.out hn hrl HRR.out).mono ?_
  rintro e w2 ⟨rfl, hb2⟩
  obtain ⟨et, ee, ei, HEN⟩ : ∃ et ee ei, Hid (encode name.data.toList ar rows = (et, ee, ei)) := ⟨_, _, _, rfl⟩
  have HEV : Hid (encd (encode name.data.toList ar rows) = .tuple #[.string (str et), .int .i64 (ee : Nat), .int .i64 (ei : Nat)]) := by show _ = _; rw [HEN.out]; rfl
  rw [HEV.out]
  obtain ⟨se, HSE⟩ : ∃ se, Hid (se = str et) := ⟨_, (rfl : str et = _)⟩
  rw [← HSE.out] at HEV ⊢
  have HB2 : Hid (Below WT.heap.size WT w2) := hb2
  have q0 := (hb2.cell (p := ⟨w.heap.size, 0, none⟩) hbr).trans HQR.out.1
  have q1 := (hb2.cell (p := ⟨w.heap.size, 1, none⟩) hbr).trans HQR.out.2.1
  have q2 := (hb2.cell (p := ⟨w.heap.size, 2, none⟩) hbr).trans HQR.out.2.2
  clear hb2
  go_wp2_with fail
  refine (rencode_any name ar _ vs rows _ (HRT.out.kept HB2.out) hn hrl HRR.out).mono ?_
  rintro e w3 ⟨rfl, hb3⟩
  rw [HEV.out]
  have HB3 : Hid (Below WT.heap.size WT w3) := HB2.out.trans (hb3.mono HB2.out.size)
  clear hb3 q0 q1 q2 HB2
  have q0 := (HB3.out.cell (p := ⟨w.heap.size, 0, none⟩) hbr).trans HQR.out.1
  have q1 := (HB3.out.cell (p := ⟨w.heap.size, 1, none⟩) hbr).trans HQR.out.2.1
  have q2 := (HB3.out.cell (p := ⟨w.heap.size, 2, none⟩) hbr).trans HQR.out.2.2
  have x0 := (HB3.out.cell (p := ⟨w1.heap.size, 0, none⟩) hbx).trans HQX.out.1
  have x1 := (HB3.out.cell (p := ⟨w1.heap.size, 1, none⟩) hbx).trans HQX.out.2.1
  have x2 := (HB3.out.cell (p := ⟨w1.heap.size, 2, none⟩) hbx).trans HQX.out.2.2
  have HX5 : Hid (Rows2 w3 (.slice ax ux.length cx) ux rows) := HXT.out.kept HB3.out
  have HR5 : Hid (Rows2 w3 (.slice a vs.length cap) vs rows) := HRT.out.kept HB3.out
  go_wp2_with fail
  refine (sameRel_any name ar _ _ ux vs rows _ HX5.out HR5.out hrl HRR.out).mono ?_
  rintro e w6 ⟨rfl, hb6⟩
  have HB6 : Hid (Below WT.heap.size WT w6) := HB3.out.trans (hb6.mono HB3.out.size)
  clear hb6 q0 q1 q2 x0 x1 x2
  go_wp2_with fail
  refine (numE_at _ _).mono ?_
  rintro e w7 ⟨rfl, rfl⟩
  go_wp2
  go_ret
  exact ⟨rfl, HBT.out.trans (HB6.out.mono (by omega))⟩
end Go.Proofs.YtnnldpccagajbaaDoor
