import Derived.Test.YtnnldpccagajbaaGreatDoorM38
import Derived.Test.YtnnldpccagajbaaGreatDoorSpoil2
/-
  FileDecodes' walk.
-/
namespace Go.Proofs.YtnnldpccagajbaaGreatDoor
open Go.ChangeShapes Go.WideShapes Go.ChangeAt Go.RowKit
set_option linter.unusedVariables false
set_option maxHeartbeats 400000 in
theorem numX_at (n : Int) (w : World) : Calls Tryz.prog 10 #[.int .i64 n] w fun e w' => e = .returned (.int .i64 n) ∧ w = w' := by
  go_enter Tryz.func10, Tryz.ntmps10
  go_wp2
  go_ret
  exact ⟨rfl, rfl⟩
/-- what lies above a limit stays, and what lies below a base -/
structure Between (base lim : Nat) (w w' : World) : Prop where
  below : Below base w w'
  above : ∀ k, lim ≤ k → w'.heap[k]? = w.heap[k]?
theorem Between.set {base lim : Nat} {w w' : World} (h : Between base lim w w') (g i : Nat) (u : Value) (hb : base ≤ g) (hl : g < lim) : Between base lim w (w'.setCell ⟨g, i, none⟩ u) :=
  ⟨h.below.setCell (p := ⟨g, i, none⟩) hb u, fun k hk => (Below.heap_setCell w' ⟨g, i, none⟩ u k (fun e => by have e2 : k = g := e; omega)).trans (h.above k hk)⟩
theorem own_above {base lim b : Nat} {w w' : World} {e : TypeId} {size : Nat} {v : Value} {n : Nat} {xs : List Value} (h : w.ownsRow b e size v n xs) (hb : Between base lim w w') (hl : lim ≤ b) : w'.ownsRow b e size v n xs := by
  obtain ⟨h1, h2 | ⟨g, cap, cur, hv, hg, hh, hr⟩⟩ := h
  · exact ⟨h1, Or.inl h2⟩
  · exact ⟨h1, Or.inr ⟨g, cap, cur, hv, hg, by rw [hb.above g (by omega)]; exact hh, hr⟩⟩
theorem Deep.above {base lim b : Nat} {w w' : World} {v : Value} {us : List Value} {L : List (List (List UInt8))} (h : Deep b w v us L) (hb : Between base lim w w') (hl : lim ≤ b) : Deep b w' v us L :=
  ⟨own_above h.1 hb hl, h.2.1, fun i x r hx hr => own_above (h.2.2 i x r hx hr) hb hl⟩
theorem decode_bd (d : List UInt8) : (decode true d).2.2.2.2.length ≤ 2000 ∧ ∀ r ∈ (decode true d).2.2.2.2, r.length ≤ 8 := by
  obtain ⟨e, a, name, ar, rows, h⟩ : ∃ e a name ar rows, decode true d = (e, a, name, ar, rows) := ⟨_, _, _, _, _, rfl⟩
  rw [h]
  simp only
  by_cases he : e = 0
  · subst he
    have h1 := encode_decode true d name a ar rows h
    obtain ⟨L, -, hT, hd⟩ := decode_encode true name ar rows d h1
    rw [h] at hd
    cases hd
    refine ⟨hT.few, fun r hr => ?_⟩
    have := (hT.rows r hr).1
    have := hT.a8
    omega
  · have hrows : rows = [] := by
      unfold decode at h
      split at h
      · cases h; rfl
      · split at h
        · cases h; rfl
        · split at h
          · cases h; rfl
          · split at h
            · cases h; rfl
            · split at h
              · cases h; exact absurd rfl he
              · cases h; rfl
    subst hrows
    simp
set_option maxRecDepth 100000 in
set_option maxHeartbeats 4000000 in
theorem decodes_walk (d : ByteArray) (w : World) (hd : d.size ≤ 1073741824) (hT : Tab w) :
    Calls Tryz.prog 3 #[.string d] w fun e w' => e = .returned (.bool true) ∧ Below w.heap.size w w' := by
  obtain ⟨er, a, name, ar, rows, HD⟩ : ∃ er a name ar rows, Hid (decode true d.data.toList = (er, a, name, ar, rows)) := ⟨_, _, _, _, _, rfl⟩
  have HLN : Hid (rows.length ≤ 1073741824 ∧ ∀ r ∈ rows, r.length ≤ 1099511627776) := by
    obtain ⟨h1, h2⟩ := decode_bd d.data.toList
    rw [HD.out] at h1 h2
    simp only at h1 h2
    exact ⟨by omega, fun r hr => by have := h2 r hr; omega⟩
  have hw0 : 0 < w.heap.size := hT.pos
  go_enter Tryz.func3, Tryz.ntmps3
  go_wp2_with fail
  refine (pdecode_any d _ hd hT).mono ?_
  rintro e w1 ⟨⟨v1, us1, he1, hd1⟩, hb1⟩
  rw [HD.out] at he1 hd1
  simp only at he1 hd1
  subst he1
  obtain ⟨a1, c1, rfl⟩ := ownShape hd1.1
  have HD1 : Hid (Deep w.heap.size w1 (.slice a1 us1.length c1) us1 rows) := hd1
  have HB1 : Hid (Below w.heap.size w w1) := hb1
  have hs1 : w.heap.size ≤ w1.heap.size := hb1.size
  obtain ⟨nm, HNM⟩ : ∃ nm, Hid (nm = str name) := ⟨_, (rfl : str name = _)⟩
  rw [← HNM.out]
  obtain ⟨W1, HW1⟩ : ∃ W1, Hid (W1 = w1.alloc (.cells #[.string nm, .int .i64 (ar : Nat), .slice a1 us1.length c1] 24)) := ⟨_, rfl⟩
  have HBA1 : Hid (Below w1.heap.size w1 W1) := by rw [HW1.out]; exact (Below.refl _ _).alloc (Nat.le_refl _) _
  have HZ1 : Hid (W1.heap.size = w1.heap.size + 1) := by show _ = _; rw [HW1.out]; simp
  have HQ1 : Hid (W1.cell? ⟨w1.heap.size, 0, none⟩ = some (.string nm) ∧ W1.cell? ⟨w1.heap.size, 1, none⟩ = some (.int .i64 (ar : Nat)) ∧ W1.cell? ⟨w1.heap.size, 2, none⟩ = some (.slice a1 us1.length c1)) := by rw [HW1.out]; exact ⟨by simp, by simp, by simp⟩
  have hz1 : w1.heap.size < W1.heap.size := by have := HZ1.out; omega
  clear hd1 hb1
  go_wp2_with fail
  rw [← HW1.out]
  clear HW1
  refine (rdecode_any d _ hd).mono ?_
  rintro e w2 ⟨⟨v2, us2, he2, hd2⟩, hb2⟩
  rw [HD.out] at he2 hd2
  simp only at he2 hd2
  subst he2
  obtain ⟨a2, c2, rfl⟩ := ownShape hd2.1
  rw [← HNM.out]
  have hs2 : W1.heap.size ≤ w2.heap.size := hb2.size
  obtain ⟨W2, HW2⟩ : ∃ W2, Hid (W2 = w2.alloc (.cells #[.string nm, .int .i64 (ar : Nat), .slice a2 us2.length c2] 28)) := ⟨_, rfl⟩
  have HBA2 : Hid (Below w2.heap.size w2 W2) := by rw [HW2.out]; exact (Below.refl _ _).alloc (Nat.le_refl _) _
  have HZ2 : Hid (W2.heap.size = w2.heap.size + 1) := by show _ = _; rw [HW2.out]; simp
  have HQ2 : Hid (W2.cell? ⟨w2.heap.size, 0, none⟩ = some (.string nm) ∧ W2.cell? ⟨w2.heap.size, 1, none⟩ = some (.int .i64 (ar : Nat)) ∧ W2.cell? ⟨w2.heap.size, 2, none⟩ = some (.slice a2 us2.length c2)) := by rw [HW2.out]; exact ⟨by simp, by simp, by simp⟩
  have hz2 : w2.heap.size < W2.heap.size := by have := HZ2.out; omega
  have HB12 : Hid (Below W1.heap.size W1 W2) := hb2.trans (HBA2.out.mono hs2)
  have HB02 : Hid (Below w1.heap.size w1 W2) := HBA1.out.trans (HB12.out.mono (by omega))
  have r0 := (hb2.cell (p := ⟨w1.heap.size, 0, none⟩) hz1).trans HQ1.out.1
  have r1 := (hb2.cell (p := ⟨w1.heap.size, 1, none⟩) hz1).trans HQ1.out.2.1
  have r2 := (hb2.cell (p := ⟨w1.heap.size, 2, none⟩) hz1).trans HQ1.out.2.2
  have hlt12 : w1.heap.size < w2.heap.size := by omega
  have HR2 : Hid (W2.cell? ⟨w1.heap.size, 0, none⟩ = some (.string nm) ∧ W2.cell? ⟨w1.heap.size, 1, none⟩ = some (.int .i64 (ar : Nat)) ∧ W2.cell? ⟨w1.heap.size, 2, none⟩ = some (.slice a1 us1.length c1)) := ⟨(HBA2.out.cell (p := ⟨w1.heap.size, 0, none⟩) hlt12).trans r0, (HBA2.out.cell (p := ⟨w1.heap.size, 1, none⟩) hlt12).trans r1, (HBA2.out.cell (p := ⟨w1.heap.size, 2, none⟩) hlt12).trans r2⟩
  have HDR : Hid (Deep w.heap.size W2 (.slice a1 us1.length c1) us1 rows) := HD1.out.kept HB02.out
  have HDT : Hid (Deep W1.heap.size W2 (.slice a2 us2.length c2) us2 rows) := Deep.kept hd2 HBA2.out
  clear hd2 hb2
  go_wp2_with fail
  rw [← HW2.out]
  clear HW2 r0 r1 r2
  refine (sameRel_any nm ar _ _ us1 us2 rows _ HDR.out.rows HDT.out.rows HLN.out.1 HLN.out.2).mono ?_
  rintro e w3 ⟨rfl, hb3⟩
  have HB3 : Hid (Below W2.heap.size W2 w3) := hb3
  have hs3 : W2.heap.size ≤ w3.heap.size := hb3.size
  have HD3 : Hid (Deep w.heap.size w3 (.slice a1 us1.length c1) us1 rows) := HDR.out.kept hb3
  have HDT3 : Hid (Deep W1.heap.size w3 (.slice a2 us2.length c2) us2 rows) := HDT.out.kept hb3
  have hlt : w1.heap.size < W2.heap.size := by omega
  have r2 := (hb3.cell (p := ⟨w1.heap.size, 2, none⟩) hlt).trans HR2.out.2.2
  have e1 : ((er : Int) != (er : Int)) = false := by simp
  have e2 : ((a : Int) != (a : Int)) = false := by simp
  have HB03 : Hid (Below w.heap.size w w3) := (HB1.out.trans (HB02.out.mono hs1)).trans (hb3.mono (by omega))
  clear hb3
  go_wp2_with fail
  refine (numX_at er _).mono ?_
  rintro e w3' ⟨rfl, rfl⟩
  go_wp2_with fail
  have HVL : Hid (∀ g, (Value.slice a1 us1.length c1).ownBlock = some g → g < w1.heap.size) := fun g hg => (HD1.out.1.lt g hg).2
  have HUL : Hid (∀ (i : Nat) (x : Value), us1[i]? = some x → ∀ g, x.ownBlock = some g → g < w1.heap.size) := fun i x hx g hg => by
    have hil : i < rows.length := by rw [← HD1.out.2.1]; exact lt_of_some hx
    exact ((HD1.out.2.2 i x _ hx (row_at hil)).lt g hg).2
  refine (spoil_gen w.heap.size w1.heap.size (fun w' => Between w.heap.size w1.heap.size w3 w') _ us1 rows _ HD3.out HLN.out.1 HLN.out.2 HVL.out HUL.out ⟨Below.refl _ _, fun _ _ => rfl⟩ (fun wx g i u h hb hl => h.set g i u hb hl)).mono ?_
  rintro e w4 ⟨rfl, hbt⟩
  have HBT : Hid (Between w.heap.size w1.heap.size w3 w4) := hbt
  have HB04 : Hid (Below w.heap.size w w4) := HB03.out.trans hbt.below
  have HT4 : Hid (Tab w4) := hT.below HB04.out hw0
  have HDT4 : Hid (Deep W1.heap.size w4 (.slice a2 us2.length c2) us2 rows) := HDT3.out.above hbt (by omega)
  have HQ4 : Hid (w4.cell? ⟨w2.heap.size, 0, none⟩ = some (.string nm) ∧ w4.cell? ⟨w2.heap.size, 1, none⟩ = some (.int .i64 (ar : Nat)) ∧ w4.cell? ⟨w2.heap.size, 2, none⟩ = some (.slice a2 us2.length c2)) := by
    have hk := hbt.above w2.heap.size (by omega)
    refine ⟨?_, ?_, ?_⟩
    · rw [World.cell?_of_block (w := w3) (a := ⟨w2.heap.size, 0, none⟩) hk]; exact (HB3.out.cell (p := ⟨w2.heap.size, 0, none⟩) hz2).trans HQ2.out.1
    · rw [World.cell?_of_block (w := w3) (a := ⟨w2.heap.size, 1, none⟩) hk]; exact (HB3.out.cell (p := ⟨w2.heap.size, 1, none⟩) hz2).trans HQ2.out.2.1
    · rw [World.cell?_of_block (w := w3) (a := ⟨w2.heap.size, 2, none⟩) hk]; exact (HB3.out.cell (p := ⟨w2.heap.size, 2, none⟩) hz2).trans HQ2.out.2.2
  have hT4 : w2.heap.size < w4.heap.size := World.block_lt_of_cell? w4 ⟨w2.heap.size, 0, none⟩ HQ4.out.1
  clear hbt r2
  go_wp2_with fail
  refine (pdecode_any d _ hd HT4.out).mono ?_
  rintro e w5 ⟨⟨v5, us5, he5, hd5⟩, hb5⟩
  rw [HD.out] at he5 hd5
  simp only at he5 hd5
  subst he5
  obtain ⟨a5, c5, rfl⟩ := ownShape hd5.1
  rw [← HNM.out]
  have hs5 : w4.heap.size ≤ w5.heap.size := hb5.size
  obtain ⟨W5, HW5⟩ : ∃ W5, Hid (W5 = w5.alloc (.cells #[.string nm, .int .i64 (ar : Nat), .slice a5 us5.length c5] 24)) := ⟨_, rfl⟩
  have HBA5 : Hid (Below w5.heap.size w5 W5) := by rw [HW5.out]; exact (Below.refl _ _).alloc (Nat.le_refl _) _
  have HD5 : Hid (Deep w4.heap.size W5 (.slice a5 us5.length c5) us5 rows) := Deep.kept hd5 HBA5.out
  have HDT5 : Hid (Deep W1.heap.size W5 (.slice a2 us2.length c2) us2 rows) := (HDT4.out.kept hb5).kept HBA5.out
  have HB05 : Hid (Below w.heap.size w W5) := (HB04.out.trans (hb5.mono HB04.out.size)).trans (HBA5.out.mono (by have := HB04.out.size; omega))
  have t0 := (hb5.cell (p := ⟨w2.heap.size, 0, none⟩) hT4).trans HQ4.out.1
  have t1 := (hb5.cell (p := ⟨w2.heap.size, 1, none⟩) hT4).trans HQ4.out.2.1
  have t2 := (hb5.cell (p := ⟨w2.heap.size, 2, none⟩) hT4).trans HQ4.out.2.2
  have hT5 : w2.heap.size < w5.heap.size := by omega
  clear hd5 hb5
  go_wp2_with fail
  rw [← HW5.out]
  clear HW5
  refine (sameRel_any nm ar _ _ us5 us2 rows _ HD5.out.rows HDT5.out.rows HLN.out.1 HLN.out.2).mono ?_
  rintro e w6 ⟨rfl, hb6⟩
  have HB06 : Hid (Below w.heap.size w w6) := HB05.out.trans (hb6.mono HB05.out.size)
  clear hb6
  go_wp2
  go_ret
  exact ⟨rfl, HB06.out⟩
end Go.Proofs.YtnnldpccagajbaaGreatDoor
