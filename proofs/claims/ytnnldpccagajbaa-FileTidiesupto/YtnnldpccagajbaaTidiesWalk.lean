/-
  FileTidies' walk.
-/
import Derived.Test.YtnnldpccagajbaaSpoilF
namespace Go.Proofs.Ytnnldpccagajbaa
open Go.ChangeShapes Go.WideShapes Go.ChangeAt Go.RowKit
set_option linter.unusedVariables false
set_option maxRecDepth 100000 in
set_option maxHeartbeats 400000 in
theorem numT_at (n : Int) (w : World) : Calls Try.prog 9 #[.int .i64 n] w fun e w' => e = .returned (.int .i64 n) ∧ w = w' := by
  go_enter Try.func9, Try.ntmps9
  go_wp2
  go_ret
  exact ⟨rfl, rfl⟩
theorem tidy_ok (name : List UInt8) (ar : Int) (rows : List (List (List UInt8))) (ti : Nat) (tl : List (List (List UInt8))) (h : tidy name ar rows = (0, ti, tl)) : tl = sortU rows ∧ ∀ r ∈ sortU rows, r ∈ rows := by
  by_cases hf : (faultOf name ar rows).1 = 0
  · obtain ⟨_, _, _, hr, ht⟩ := tidy_sound name ar rows hf
    rw [ht] at h
    split at h
    · cases h
    · cases h
      exact ⟨rfl, fun r hr' => (mem_sortU ar.toNat rows (fun r hr2 => (hr r hr2).1) r).1 hr'⟩
  · rw [tidy_fault name ar rows hf] at h
    exact absurd (congrArg Prod.fst h) hf
set_option maxRecDepth 100000 in
set_option maxHeartbeats 2000000 in
theorem tidies_walk (name : ByteArray) (ar : Int) (rv : Value) (vs : List Value) (rows : List (List (List UInt8))) (w : World) (h : Rows2 w rv vs rows) (hn : name.size ≤ 140737488355328) (hrl : rows.length ≤ 1073741824) (hrr : ∀ r ∈ rows, r.length ≤ 1099511627776) :
    Calls Try.prog 3 #[.agg #[.string name, .int .i64 ar, rv]] w fun e w' => e = .returned (.bool true) ∧ Below w.heap.size w w' := by
  have HH : Hid (Rows2 w rv vs rows) := h
  have HRR : Hid (∀ r ∈ rows, r.length ≤ 1099511627776) := hrr
  clear hrr
  obtain ⟨⟨a, cap, rfl, -⟩, -, -⟩ := h
  have HB0 : Hid (Below w.heap.size w (w.alloc (.cells #[.string name, .int .i64 ar, .slice a vs.length cap] 24))) := (Below.refl _ _).alloc (Nat.le_refl _) _
  go_enter Try.func3, Try.ntmps3
  go_wp2_with fail
  refine (relation_any name ar _ vs rows _ (HH.out.kept HB0.out) hrl HRR.out).mono ?_
  rintro e w1 ⟨⟨vx, ux, rfl, hdx⟩, hb1⟩
  obtain ⟨ax, cx, rfl⟩ := own_shape' hdx.1
  have q0 : w1.cell? ⟨w.heap.size, 0, none⟩ = some (.string name) := by rw [hb1.cell (p := ⟨w.heap.size, 0, none⟩) (by simp)]; simp
  have q1 : w1.cell? ⟨w.heap.size, 1, none⟩ = some (.int .i64 ar) := by rw [hb1.cell (p := ⟨w.heap.size, 1, none⟩) (by simp)]; simp
  have q2 : w1.cell? ⟨w.heap.size, 2, none⟩ = some (.slice a vs.length cap) := by rw [hb1.cell (p := ⟨w.heap.size, 2, none⟩) (by simp)]; simp
  have hs1 : w.heap.size < w1.heap.size := by have := hb1.size; simp at this; omega
  have HX1 : Hid (Rows2 w1 (.slice ax ux.length cx) ux rows) := hdx.rows
  have HB1 : Hid (Below w.heap.size w w1) := HB0.out.trans (hb1.mono (by simp))
  clear hb1 hdx
  obtain ⟨WT, HWT⟩ : ∃ WT, Hid (WT = w1.alloc (.cells #[.string name, .int .i64 ar, .slice ax ux.length cx] 25)) := ⟨_, rfl⟩
  have HBX : Hid (Below w1.heap.size w1 WT) := by rw [HWT.out]; exact (Below.refl _ _).alloc (Nat.le_refl _) _
  have HZT : Hid (WT.heap.size = w1.heap.size + 1) := by show _ = _; rw [HWT.out]; simp
  have HQX : Hid (WT.cell? ⟨w1.heap.size, 0, none⟩ = some (.string name) ∧ WT.cell? ⟨w1.heap.size, 1, none⟩ = some (.int .i64 ar) ∧ WT.cell? ⟨w1.heap.size, 2, none⟩ = some (.slice ax ux.length cx)) := by
    rw [HWT.out]; exact ⟨by simp, by simp, by simp⟩
  have HQR : Hid (WT.cell? ⟨w.heap.size, 0, none⟩ = some (.string name) ∧ WT.cell? ⟨w.heap.size, 1, none⟩ = some (.int .i64 ar) ∧ WT.cell? ⟨w.heap.size, 2, none⟩ = some (.slice a vs.length cap)) :=
    ⟨(HBX.out.cell (p := ⟨w.heap.size, 0, none⟩) hs1).trans q0, (HBX.out.cell (p := ⟨w.heap.size, 1, none⟩) hs1).trans q1, (HBX.out.cell (p := ⟨w.heap.size, 2, none⟩) hs1).trans q2⟩
  have HXT : Hid (Rows2 WT (.slice ax ux.length cx) ux rows) := HX1.out.kept HBX.out
  have HBT : Hid (Below w.heap.size w WT) := HB1.out.trans (HBX.out.mono (by omega))
  have HRT : Hid (Rows2 WT (.slice a vs.length cap) vs rows) := HH.out.kept HBT.out
  have hbx : w1.heap.size < WT.heap.size := by have := HZT.out; omega
  have hbr : w.heap.size < WT.heap.size := by omega
  go_wp2_with fail
  rw [← HWT.out]
  clear HWT q0 q1 q2 HX1 HB1 HBX
  refine (ptidy_any name ar _ ux rows WT HXT.out hn hrl HRR.out).mono ?_
  rintro e w2 ⟨ht, hb2⟩
  obtain ⟨te, ti, tl, HTD⟩ : ∃ te ti tl, Hid (tidy name.data.toList ar rows = (te, ti, tl)) := ⟨_, _, _, rfl⟩
  rw [HTD.out] at ht
  have HB2 : Hid (Below WT.heap.size WT w2) := hb2
  have q0 := (hb2.cell (p := ⟨w.heap.size, 0, none⟩) hbr).trans HQR.out.1
  have q1 := (hb2.cell (p := ⟨w.heap.size, 1, none⟩) hbr).trans HQR.out.2.1
  have q2 := (hb2.cell (p := ⟨w.heap.size, 2, none⟩) hbr).trans HQR.out.2.2
  have hs2 : WT.heap.size ≤ w2.heap.size := hb2.size
  have hbr2 : w.heap.size < w2.heap.size := by omega
  have hbx2 : w1.heap.size < w2.heap.size := by omega
  clear hb2
  by_cases hte : te = 0
  · subst hte
    obtain ⟨vt, ut, rfl, hdt⟩ := ht
    simp only at hdt
    obtain ⟨at_, ct, rfl⟩ := own_shape' hdt.1
    have HDT : Hid (Deep WT.heap.size w2 (.slice at_ ut.length ct) ut tl) := hdt
    clear hdt
    have HBt : Hid (Below w2.heap.size w2 (w2.alloc (.cells #[.string name, .int .i64 ar, .slice at_ ut.length ct] 25))) := (Below.refl _ _).alloc (Nat.le_refl _) _
    go_wp2_with fail
    refine (rtidy_any name ar _ vs rows _ ((HRT.out.kept HB2.out).kept HBt.out) hn hrl HRR.out).mono ?_
    rintro e w3 ⟨hu, hb3⟩
    rw [HTD.out] at hu
    obtain ⟨vu, uu, rfl, hou, hlu, hiu⟩ := hu
    simp only at hlu hiu
    obtain ⟨au, cu, rfl⟩ := own_shape' hou
    have hz3 : w2.heap.size + 1 ≤ w3.heap.size := by have := hb3.size; simp at this; omega
    have HB3' : Hid (Below (w2.heap.size + 1) (w2.alloc (.cells #[.string name, .int .i64 ar, .slice at_ ut.length ct] 25)) w3) := by simpa [Hid] using hb3
    have HB23 : Hid (Below w2.heap.size w2 w3) := HBt.out.trans (HB3'.out.mono (by omega))
    have HUR : Hid (Rows2 w3 (.slice au uu.length cu) uu tl) := ⟨own_vals hou, hlu, fun i x r hx hr => (hiu i x r hx hr).kept hb3⟩
    have HTR : Hid (Rows2 w3 (.slice at_ ut.length ct) ut tl) := (HDT.out.rows).kept HB23.out
    have t0 : w3.cell? ⟨w2.heap.size, 0, none⟩ = some (.string name) := (HB3'.out.cell (p := ⟨w2.heap.size, 0, none⟩) (Nat.lt_succ_self _)).trans (by simp)
    have t1 : w3.cell? ⟨w2.heap.size, 1, none⟩ = some (.int .i64 ar) := (HB3'.out.cell (p := ⟨w2.heap.size, 1, none⟩) (Nat.lt_succ_self _)).trans (by simp)
    have t2 : w3.cell? ⟨w2.heap.size, 2, none⟩ = some (.slice at_ ut.length ct) := (HB3'.out.cell (p := ⟨w2.heap.size, 2, none⟩) (Nat.lt_succ_self _)).trans (by simp)
    have hbt3 : w2.heap.size < w3.heap.size := by omega
    have HBu : Hid (Below w3.heap.size w3 (w3.alloc (.cells #[.string name, .int .i64 ar, .slice au uu.length cu] 24))) := (Below.refl _ _).alloc (Nat.le_refl _) _
    have HLEN : Hid (tl.length ≤ 1073741824 ∧ ∀ r ∈ tl, r.length ≤ 1099511627776) := by
      obtain ⟨rfl, hmem⟩ := tidy_ok name.data.toList ar rows ti tl HTD.out
      exact ⟨by have := sortU_len rows; omega, fun r hr => HRR.out r (hmem r hr)⟩
    clear hou hlu hiu hb3 q0 q1 q2
    go_wp2_with fail
    refine (sameRel_any name ar _ _ ut uu tl _ (HTR.out.kept HBu.out) (HUR.out.kept HBu.out) HLEN.out.1 HLEN.out.2).mono ?_
    rintro e w4 ⟨rfl, hb4⟩
    have hb4' : Below (w3.heap.size + 1) (w3.alloc (.cells #[.string name, .int .i64 ar, .slice au uu.length cu] 24)) w4 := by simpa using hb4
    have HB34 : Hid (Below w3.heap.size w3 w4) := HBu.out.trans (hb4'.mono (by omega))
    have HB24 : Hid (Below w2.heap.size w2 w4) := HB23.out.trans (HB34.out.mono (by omega))
    have t2' := (HB34.out.cell (p := ⟨w2.heap.size, 2, none⟩) hbt3).trans t2
    have HD4 : Hid (Deep WT.heap.size w4 (.slice at_ ut.length ct) ut tl) := HDT.out.kept HB24.out
    have HBT4 : Hid (Below WT.heap.size WT w4) := HB2.out.trans (HB24.out.mono hs2)
    clear hb4 hb4' t0 t1 t2
    go_wp2_with fail
    refine (spoil_any WT.heap.size _ ut tl _ HD4.out (Nat.le_trans HLEN.out.1 (by decide)) HLEN.out.2).mono ?_
    rintro e w5 ⟨rfl, hb5⟩
    have HB5 : Hid (Below WT.heap.size WT w5) := HBT4.out.trans hb5
    have q0 := (HB5.out.cell (p := ⟨w.heap.size, 0, none⟩) hbr).trans HQR.out.1
    have q1 := (HB5.out.cell (p := ⟨w.heap.size, 1, none⟩) hbr).trans HQR.out.2.1
    have q2 := (HB5.out.cell (p := ⟨w.heap.size, 2, none⟩) hbr).trans HQR.out.2.2
    have x0 := (HB5.out.cell (p := ⟨w1.heap.size, 0, none⟩) hbx).trans HQX.out.1
    have x1 := (HB5.out.cell (p := ⟨w1.heap.size, 1, none⟩) hbx).trans HQX.out.2.1
    have x2 := (HB5.out.cell (p := ⟨w1.heap.size, 2, none⟩) hbx).trans HQX.out.2.2
    have HX5 : Hid (Rows2 w5 (.slice ax ux.length cx) ux rows) := HXT.out.kept HB5.out
    have HR5 : Hid (Rows2 w5 (.slice a vs.length cap) vs rows) := HRT.out.kept HB5.out
    clear hb5 t2'
    go_wp2_with fail
    refine (sameRel_any name ar _ _ ux vs rows _ HX5.out HR5.out hrl HRR.out).mono ?_
    rintro e w6 ⟨rfl, hb6⟩
    have HB6 : Hid (Below WT.heap.size WT w6) := HB5.out.trans (hb6.mono HB5.out.size)
    clear hb6 q0 q1 q2 x0 x1 x2
    go_wp2_with fail
    refine (numT_at _ _).mono ?_
    rintro e w7 ⟨rfl, rfl⟩
    go_wp2
    go_ret
    exact ⟨rfl, HBT.out.trans (HB6.out.mono (by omega))⟩
  · have HTE : Hid (te ≠ 0) := hte
    have he : e = .returned (.tuple #[.agg #[.string { data := #[] }, .int .i64 0, .slice none 0 0], .int .i64 (te : Nat), .int .i64 (ti : Nat)]) := by
      unfold PTidied at ht; rw [if_neg hte] at ht; exact ht
    subst he
    clear ht hte
    have HNIL : Hid (∀ wx : World, Rows2 wx (.slice none 0 0) [] []) := fun wx => ⟨⟨none, 0, rfl, Or.inl ⟨rfl, fun _ => rfl⟩⟩, rfl, fun i x r hx => by simp at hx⟩
    have HBt : Hid (Below w2.heap.size w2 (w2.alloc (.cells #[.string { data := #[] }, .int .i64 0, .slice none 0 0] 25))) := (Below.refl _ _).alloc (Nat.le_refl _) _
    go_wp2_with fail
    refine (rtidy_any name ar _ vs rows _ ((HRT.out.kept HB2.out).kept HBt.out) hn hrl HRR.out).mono ?_
    rintro e w3 ⟨hu, hb3⟩
    rw [HTD.out] at hu
    have he : e = .returned (.tuple #[.agg #[.string { data := #[] }, .int .i64 0, .slice none 0 0], .int .i64 (te : Nat), .int .i64 (ti : Nat)]) := by
      unfold Tidied at hu; rw [if_neg HTE.out] at hu; exact hu
    subst he
    have hz3 : w2.heap.size + 1 ≤ w3.heap.size := by have := hb3.size; simp at this; omega
    have HB3' : Hid (Below (w2.heap.size + 1) (w2.alloc (.cells #[.string { data := #[] }, .int .i64 0, .slice none 0 0] 25)) w3) := by simpa [Hid] using hb3
    have HB23 : Hid (Below w2.heap.size w2 w3) := HBt.out.trans (HB3'.out.mono (by omega))
    have t0 : w3.cell? ⟨w2.heap.size, 0, none⟩ = some (.string { data := #[] }) := (HB3'.out.cell (p := ⟨w2.heap.size, 0, none⟩) (Nat.lt_succ_self _)).trans (by simp)
    have t1 : w3.cell? ⟨w2.heap.size, 1, none⟩ = some (.int .i64 0) := (HB3'.out.cell (p := ⟨w2.heap.size, 1, none⟩) (Nat.lt_succ_self _)).trans (by simp)
    have t2 : w3.cell? ⟨w2.heap.size, 2, none⟩ = some (.slice none 0 0) := (HB3'.out.cell (p := ⟨w2.heap.size, 2, none⟩) (Nat.lt_succ_self _)).trans (by simp)
    have hbt3 : w2.heap.size < w3.heap.size := by omega
    have HBu : Hid (Below w3.heap.size w3 (w3.alloc (.cells #[.string { data := #[] }, .int .i64 0, .slice none 0 0] 24))) := (Below.refl _ _).alloc (Nat.le_refl _) _
    clear hu hb3 q0 q1 q2
    go_wp2_with fail
    refine (sameRel_any { data := #[] } 0 _ _ [] [] [] _ (HNIL.out _) (HNIL.out _) (by decide) (by simp)).mono ?_
    rintro e w4 ⟨rfl, hb4⟩
    have hb4' : Below (w3.heap.size + 1) (w3.alloc (.cells #[.string { data := #[] }, .int .i64 0, .slice none 0 0] 24)) w4 := by simpa using hb4
    have HB34 : Hid (Below w3.heap.size w3 w4) := HBu.out.trans (hb4'.mono (by omega))
    have HB24 : Hid (Below w2.heap.size w2 w4) := HB23.out.trans (HB34.out.mono (by omega))
    have t2' := (HB34.out.cell (p := ⟨w2.heap.size, 2, none⟩) hbt3).trans t2
    have HBT4 : Hid (Below WT.heap.size WT w4) := HB2.out.trans (HB24.out.mono hs2)
    clear hb4 hb4' t0 t1 t2
    go_wp2_with fail
    refine (spoil_any WT.heap.size _ [] [] _ ⟨World.ownsRow_nil _ _ _ _, rfl, fun i x r hx => by simp at hx⟩ (by decide) (by simp)).mono ?_
    rintro e w5 ⟨rfl, hb5⟩
    have HB5 : Hid (Below WT.heap.size WT w5) := HBT4.out.trans hb5
    have q0 := (HB5.out.cell (p := ⟨w.heap.size, 0, none⟩) hbr).trans HQR.out.1
    have q1 := (HB5.out.cell (p := ⟨w.heap.size, 1, none⟩) hbr).trans HQR.out.2.1
    have q2 := (HB5.out.cell (p := ⟨w.heap.size, 2, none⟩) hbr).trans HQR.out.2.2
    have x0 := (HB5.out.cell (p := ⟨w1.heap.size, 0, none⟩) hbx).trans HQX.out.1
    have x1 := (HB5.out.cell (p := ⟨w1.heap.size, 1, none⟩) hbx).trans HQX.out.2.1
    have x2 := (HB5.out.cell (p := ⟨w1.heap.size, 2, none⟩) hbx).trans HQX.out.2.2
    have HX5 : Hid (Rows2 w5 (.slice ax ux.length cx) ux rows) := HXT.out.kept HB5.out
    have HR5 : Hid (Rows2 w5 (.slice a vs.length cap) vs rows) := HRT.out.kept HB5.out
    clear hb5 t2'
    go_wp2_with fail
    refine (sameRel_any name ar _ _ ux vs rows _ HX5.out HR5.out hrl HRR.out).mono ?_
    rintro e w6 ⟨rfl, hb6⟩
    have HB6 : Hid (Below WT.heap.size WT w6) := HB5.out.trans (hb6.mono HB5.out.size)
    clear hb6 q0 q1 q2 x0 x1 x2
    go_wp2_with fail
    refine (numT_at _ _).mono ?_
    rintro e w7 ⟨rfl, rfl⟩
    have hee : ((te : Int) == (te : Int)) = true := by simp
    have hii : ((ti : Int) == (ti : Int)) = true := by simp
    go_wp2
    go_ret
    exact ⟨by simp, HBT.out.trans (HB6.out.mono (by omega))⟩
end Go.Proofs.Ytnnldpccagajbaa
