import Derived.Test.YtnnldpccagajbaaGreatDoorM31
/-
  The program's unpack, walked.
-/
namespace Go.Proofs.YtnnldpccagajbaaGreatDoor
open Go.ChangeShapes Go.WideShapes Go.ChangeAt Go.RowKit
set_option linter.unusedVariables false
/-- what 'unpack' answers -/
def UnpackP (base : Nat) (r : Option (List UInt8 × Nat × List (List (List UInt8)))) (e : Ending) (w' : World) : Prop := match r with
  | none => ∃ z : Int, (z != 0) = true ∧ e = .returned (.tuple #[.agg #[.string { data := #[] }, .int .i64 0, .slice none 0 0], .int .i64 z])
  | some (name, ar, rows) => ∃ v us, e = .returned (.tuple #[.agg #[.string (str name), .int .i64 (ar : Nat), v], .int .i64 0]) ∧ Deep base w' v us rows
theorem unpack_none {base : Nat} {r : Option (List UInt8 × Nat × List (List (List UInt8)))} {w' : World} {z : Int} (h : r = none) (hz : (z != 0) = true) : UnpackP base r (.returned (.tuple #[.agg #[.string { data := #[] }, .int .i64 0, .slice none 0 0], .int .i64 z])) w' := by subst h; exact ⟨z, hz, rfl⟩
theorem unpack_some {base : Nat} {r : Option (List UInt8 × Nat × List (List (List UInt8)))} {w' : World} {name : List UInt8} {ar : Nat} {rows : List (List (List UInt8))} {v : Value} {us : List Value} (h : r = some (name, ar, rows)) (hd : Deep base w' v us rows) : UnpackP base r (.returned (.tuple #[.agg #[.string (str name), .int .i64 (ar : Nat), v], .int .i64 0])) w' := by
  subst h; exact ⟨v, us, rfl, hd⟩
theorem sep_nil (b n : Nat) : Sep b (List.replicate n (.slice none 0 0)) := by
  refine ⟨fun i j x y _ hx _ => ?_, fun i x hx => ?_⟩
  · obtain rfl := List.eq_of_mem_replicate (List.mem_of_getElem? hx)
    exact Or.inl rfl
  · obtain rfl := List.eq_of_mem_replicate (List.mem_of_getElem? hx)
    simp [Value.ownBlock]
theorem deep_nils {base n : Nat} {w : World} {v : Value} (h : w.ownsRow base 45 1 v n (List.replicate n (.slice none 0 0))) : Deep base w v (List.replicate n (.slice none 0 0)) (List.replicate n []) := by
  refine ⟨by rw [List.length_replicate]; exact h, by simp, fun i x r hx hr => ?_⟩
  obtain rfl := List.eq_of_mem_replicate (List.mem_of_getElem? hx)
  obtain rfl := List.eq_of_mem_replicate (List.mem_of_getElem? hr)
  exact nil_owned _ _
theorem boxed_size (w : World) (R : Nat) (x y z : Value) : (boxed w R x y z).heap.size = w.heap.size := by unfold boxed; simp [World.setCell]
theorem boxed_cells {w : World} {R : Nat} (x y z : Value) (h : RBox w R) : (boxed w R x y z).cell? ⟨R, 0, none⟩ = some x ∧ (boxed w R x y z).cell? ⟨R, 1, none⟩ = some y ∧ (boxed w R x y z).cell? ⟨R, 2, none⟩ = some z := by
  have h1 : (w.setCell ⟨R, 0, none⟩ x).cell? ⟨R, 1, none⟩ = some (.int .i64 0) := by rw [World.cell?_setCell_other _ _ _ _ (by simp)]; exact h.c1
  have h2 : ((w.setCell ⟨R, 0, none⟩ x).setCell ⟨R, 1, none⟩ y).cell? ⟨R, 2, none⟩ = some (.slice none 0 0) := by rw [World.cell?_setCell_other _ _ _ _ (by simp), World.cell?_setCell_other _ _ _ _ (by simp)]; exact h.c2
  unfold boxed
  refine ⟨?_, ?_, World.cell?_setCell_same _ _ _ h2⟩
  · rw [World.cell?_setCell_other _ _ _ _ (by simp), World.cell?_setCell_other _ _ _ _ (by simp)]; exact World.cell?_setCell_same _ _ _ h.c0
  · rw [World.cell?_setCell_other _ _ _ _ (by simp)]; exact World.cell?_setCell_same _ _ _ h1
theorem boxed_alloc {w : World} {R : Nat} (x y z : Value) (o : Obj) (h : RBox w R) (hR : R < w.heap.size) : ((boxed w R x y z).alloc o).cell? ⟨R, 0, none⟩ = some x ∧ ((boxed w R x y z).alloc o).cell? ⟨R, 1, none⟩ = some y ∧ ((boxed w R x y z).alloc o).cell? ⟨R, 2, none⟩ = some z := by
  obtain ⟨h0, h1, h2⟩ := boxed_cells x y z h
  have hz : R < (boxed w R x y z).heap.size := by rw [boxed_size]; exact hR
  have hb : Below (boxed w R x y z).heap.size (boxed w R x y z) ((boxed w R x y z).alloc o) := (Below.refl _ _).alloc (Nat.le_refl _) _
  exact ⟨(hb.cell (p := ⟨R, 0, none⟩) hz).trans h0, (hb.cell (p := ⟨R, 1, none⟩) hz).trans h1, (hb.cell (p := ⟨R, 2, none⟩) hz).trans h2⟩
set_option maxRecDepth 100000 in
set_option maxHeartbeats 4000000 in
theorem punpack_any (v : Value) (p0 p1 : List UInt8) (cols : List (List UInt8)) (w : World) (bs : Nat) (h : w.ownsRow bs 9 1 v (p0 :: p1 :: cols).length (ts (p0 :: p1 :: cols))) (hc : cols.length ≤ 8) (hp : ∀ p ∈ p0 :: p1 :: cols, p.length ≤ 65536) (hw0 : 0 < w.heap.size) :
    Calls Tryz.prog 19 #[v] w fun e w' => UnpackP w.heap.size (related false (p0 :: p1 :: cols)) e w' ∧ Below w.heap.size w w' := by
  obtain ⟨i0, hi, hz0, hz1, hz2⟩ := info_parts infoRow
  obtain ⟨vb, vo, vc, rfl, HV, hvc⟩ : ∃ b off cap, v = .slice (some ⟨b, off, none⟩) (cols.length + 2) cap ∧ Hid (∀ (i : Nat) (x : List UInt8), (p0 :: p1 :: cols)[i]? = some x → w.cell? ⟨b, off + i, none⟩ = some (.string (str x))) ∧ cols.length + 2 ≤ cap := by
    rcases h.2 with ⟨-, h0⟩ | ⟨g, cap, cur, hv, -, -, hcap, -⟩
    · simp at h0
    · obtain ⟨a, cap', hv', hh⟩ := own_strs h
      rw [hv] at hv'
      cases hv'
      rcases hh with ⟨h0, -⟩ | ⟨b, off, hb, hh⟩
      · cases h0
      · cases hb
        exact ⟨g, 0, cap, hv, hh, by simpa using hcap⟩
  have HP : Hid (∀ p ∈ p0 :: p1 :: cols, p.length ≤ 65536) := hp
  have v0 := HV.out 0 p0 rfl
  rw [Nat.add_zero] at v0
  have hbv : vb < w.heap.size := World.block_lt_of_cell? w ⟨vb, vo, none⟩ v0
  have z0 : (str p0).size ≤ 65536 := by rw [str_size]; exact hp p0 (by simp)
  have z1 : (str p1).size ≤ 65536 := by rw [str_size]; exact hp p1 (by simp)
  clear h hp
  go_enter Tryz.func19, Tryz.ntmps19
  go_wp2_with fail
  obtain ⟨W0, HW0⟩ : ∃ W0, Hid (W0 = w.alloc (.cells #[.string { data := #[] }, .int .i64 0, .slice none 0 0] 24)) := ⟨_, rfl⟩
  have HB0 : Hid (Below w.heap.size w W0) := by rw [HW0.out]; exact (Below.refl _ _).alloc (Nat.le_refl _) _
  have HZ0 : Hid (W0.heap.size = w.heap.size + 1) := by show _ = _; rw [HW0.out]; simp
  have HX0 : Hid (RBox W0 w.heap.size) := by rw [HW0.out]; exact RBox.new _ _
  rw [← HW0.out]
  clear HW0 v0
  have hbW : vb < W0.heap.size := by have := HZ0.out; omega
  have hwW : w.heap.size < W0.heap.size := by have := HZ0.out; omega
  have HV0 : Hid (∀ (i : Nat) (x : List UInt8), (p0 :: p1 :: cols)[i]? = some x → W0.cell? ⟨vb, vo + i, none⟩ = some (.string (str x))) := fun i x hx => (HB0.out.cell (p := ⟨vb, vo + i, none⟩) hbv).trans (HV.out i x hx)
  refine (preadHead_any (str p0) _ (by omega)).mono ?_
  rintro e w1 ⟨hh, hb1⟩
  rw [data_str] at hh
  have HB1 : Hid (Below W0.heap.size W0 w1) := hb1
  have HX1 : Hid (RBox w1 w.heap.size) := HX0.out.kept hb1 hwW
  have HBW1 : Hid (Below w.heap.size w w1) := HB0.out.trans (hb1.mono (by omega))
  have hs1 : W0.heap.size ≤ w1.heap.size := hb1.size
  have hlt1 : w.heap.size < w1.heap.size := by omega
  clear hb1
  cases hhd : headOf p0 with
  | none =>
    rw [hhd] at hh
    obtain ⟨z, hz, rfl⟩ := hh
    have HF : Hid (related false (p0 :: p1 :: cols) = none) := by show _ = _; unfold related; simp only; rw [hhd]
    obtain ⟨k0, k1, k2, f0, f1, f2⟩ := HX1.out
    clear hhd
    have HAL : Hid (((boxed w1 w.heap.size (.string { data := #[] }) (.int .i64 0) (.slice none 0 0)).alloc (.cells #[.string (str []), .int .i64 0, .int .i64 0] 74)).cell? ⟨w.heap.size, 0, none⟩ = some (.string { data := #[] }) ∧ ((boxed w1 w.heap.size (.string { data := #[] }) (.int .i64 0) (.slice none 0 0)).alloc (.cells #[.string (str []), .int .i64 0, .int .i64 0] 74)).cell? ⟨w.heap.size, 1, none⟩ = some (.int .i64 0) ∧ ((boxed w1 w.heap.size (.string { data := #[] }) (.int .i64 0) (.slice none 0 0)).alloc (.cells #[.string (str []), .int .i64 0, .int .i64 0] 74)).cell? ⟨w.heap.size, 2, none⟩ = some (.slice none 0 0)) := boxed_alloc _ _ _ _ HX1.out hlt1
    go_wp2
    obtain ⟨a0, a1, a2⟩ := HAL.out
    unfold boxed at a0 a1 a2
    refine bodyPost_ret (v := .tuple #[.agg #[.string { data := #[] }, .int .i64 0, .slice none 0 0], .int .i64 z]) (by simp [results, Tryz.results19, go_sem, a0, a1, a2]) rfl ⟨unpack_none HF.out hz, ?_⟩
    exact (boxed_below HBW1.out (Nat.le_refl _) _ _ _).alloc (show w.heap.size ≤ (boxed w1 w.heap.size (.string { data := #[] }) (.int .i64 0) (.slice none 0 0)).heap.size by rw [boxed_size]; omega) _
  | some hq =>
    obtain ⟨name, ar, n⟩ := hq
    rw [hhd] at hh
    have he : e = .returned (.tuple #[.agg #[.string (str name), .int .i64 (ar : Nat), .int .i64 (n : Nat)], .int .i64 0]) := hh
    subst he
    obtain ⟨har, hn, -⟩ := headOf_bd _ _ _ _ hhd
    have HF0 : Hid (related false (p0 :: p1 :: cols) = match open_ p1 with
      | none => none
      | some all => match fillAll false all cols (List.replicate n []) with
        | none => none
        | some rows => some (name, ar, rows)) := by show _ = _; unfold related; simp only; rw [hhd]; rfl
    clear hh hhd
    have v1 := (HB1.out.cell (p := ⟨vb, vo + 1, none⟩) hbW).trans (HV0.out 1 p1 rfl)
    have hbv1 : vb < w1.heap.size := by omega
    obtain ⟨W2, HW2⟩ : ∃ W2, Hid (W2 = w1.alloc (.cells #[.string (str name), .int .i64 (ar : Nat), .int .i64 (n : Nat)] 74)) := ⟨_, rfl⟩
    have hbA : Below w1.heap.size w1 W2 := by rw [HW2.out]; exact (Below.refl _ _).alloc (Nat.le_refl _) _
    have HZ2 : Hid (W2.heap.size = w1.heap.size + 1) := by show _ = _; rw [HW2.out]; simp
    have HX2 : Hid (RBox W2 w.heap.size) := HX1.out.kept hbA hlt1
    have HH2 : Hid (W2.cell? ⟨w1.heap.size, 0, none⟩ = some (.string (str name)) ∧ W2.cell? ⟨w1.heap.size, 1, none⟩ = some (.int .i64 (ar : Nat)) ∧ W2.cell? ⟨w1.heap.size, 2, none⟩ = some (.int .i64 (n : Nat))) := by rw [HW2.out]; exact ⟨by simp, by simp, by simp⟩
    have HBW2 : Hid (Below w.heap.size w W2) := HBW1.out.trans (hbA.mono (by omega))
    have HV2 : Hid (∀ (i : Nat) (x : List UInt8), (p0 :: p1 :: cols)[i]? = some x → W2.cell? ⟨vb, vo + i, none⟩ = some (.string (str x))) := fun i x hx => (hbA.cell (p := ⟨vb, vo + i, none⟩) hbv1).trans ((HB1.out.cell (p := ⟨vb, vo + i, none⟩) hbW).trans (HV0.out i x hx))
    clear hbA
    go_wp2_with fail
    rw [← HW2.out]
    clear HW2 v1
    refine (open_said (str p1) _ (by omega)).mono ?_
    rintro e w3 ⟨ho, hb3⟩
    rw [data_str] at ho
    have hz3 : w1.heap.size < W2.heap.size := by have := HZ2.out; omega
    have hs3 : W2.heap.size ≤ w3.heap.size := hb3.size
    have HX3 : Hid (RBox w3 w.heap.size) := HX2.out.kept hb3 (by omega)
    have HH3 : Hid (w3.cell? ⟨w1.heap.size, 0, none⟩ = some (.string (str name)) ∧ w3.cell? ⟨w1.heap.size, 1, none⟩ = some (.int .i64 (ar : Nat)) ∧ w3.cell? ⟨w1.heap.size, 2, none⟩ = some (.int .i64 (n : Nat))) := ⟨(hb3.cell (p := ⟨w1.heap.size, 0, none⟩) hz3).trans HH2.out.1, (hb3.cell (p := ⟨w1.heap.size, 1, none⟩) hz3).trans HH2.out.2.1, (hb3.cell (p := ⟨w1.heap.size, 2, none⟩) hz3).trans HH2.out.2.2⟩
    have HBW3 : Hid (Below w.heap.size w w3) := HBW2.out.trans (hb3.mono (by omega))
    have HV3 : Hid (∀ (i : Nat) (x : List UInt8), (p0 :: p1 :: cols)[i]? = some x → w3.cell? ⟨vb, vo + i, none⟩ = some (.string (str x))) := fun i x hx => (hb3.cell (p := ⟨vb, vo + i, none⟩) (show vb < W2.heap.size by omega)).trans (HV2.out i x hx)
    clear hb3
    cases hop : open_ p1 with
    | none =>
      rw [hop] at ho
      obtain ⟨vx, rfl, hvx⟩ := ho
      obtain ⟨xa, xc, rfl, -⟩ := hvx
      have HF : Hid (related false (p0 :: p1 :: cols) = none) := by show _ = _; rw [HF0.out, hop]
      obtain ⟨k0, k1, k2, f0, f1, f2⟩ := HX3.out
      clear hop
      go_wp2
      refine bodyPost_ret (v := .tuple #[.agg #[.string { data := #[] }, .int .i64 0, .slice none 0 0], .int .i64 4]) (by simp [results, Tryz.results19, go_sem, k0, k1, k2]) rfl ⟨unpack_none HF.out (by decide), boxed_below HBW3.out (Nat.le_refl _) _ _ _⟩
    | some all =>
      rw [hop] at ho
      obtain ⟨va, rfl, hoa⟩ := ho
      obtain ⟨aa, ac, rfl⟩ := ownShape hoa
      have HOA : Hid (w3.ownsRow W2.heap.size 9 1 (.slice aa all.length ac) all.length (ts all)) := hoa
      have hall : all.length ≤ 65536 := by
        have h1 := (open_good _ _ hop).2
        have h2 := z1
        rw [str_size] at h2
        omega
      have HF1 : Hid (related false (p0 :: p1 :: cols) = (fillAll false all cols (List.replicate n [])).map fun rows => (name, ar, rows)) := by
        show _ = _; rw [HF0.out, hop]; simp only
        cases fillAll false all cols (List.replicate n []) <;> rfl
      clear hop hoa HF0
      have hh2 := HH3.out.2.2
      go_wp2_with (at_make; refine wpList_make_full _ rfl _ _ 22 rfl w3.heap.size 45 i0 (.slice none 0 0) 1 Tryz.underlying22 hi hz0 hz1 .i64 .i64 _ _ n rfl rfl rfl rfl (by rw [hz2]; omega) (by unfold maxLen; omega) (Nat.le_refl _) ?_)
      intro w4 hown4 hg4
      have hb4 : Below w3.heap.size w3 w4 := (Below.refl _ _).grown hg4 (Nat.le_refl _) (fun k hk => by cases hk)
      have HO4 : Hid (w4.ownsRow w3.heap.size 45 1 (.slice (some ⟨w3.heap.size, 0, none⟩) n n) n (List.replicate n (.slice none 0 0))) := by
        have h5 := hown4
        rw [toList_madeCells_one] at h5
        exact h5
      have HD4 : Hid (Deep w3.heap.size w4 (.slice (some ⟨w3.heap.size, 0, none⟩) n n) (List.replicate n (.slice none 0 0)) (List.replicate n [])) := deep_nils HO4.out
      have HB4 : Hid (Below w3.heap.size w3 w4) := hb4
      clear hown4 hg4 hb4 hh2
      by_cases hv2 : vc = 2
      · subst hv2
        go_wp2
        go_loopw [39] (fun iv wr => ∃ (j : Nat) (us : List Value) (L : List (List (List UInt8))), j ≤ cols.length ∧ iv = .int .i64 j ∧ Hid (us.length = n) ∧ Hid (Deep w3.heap.size wr (.slice (some ⟨w3.heap.size, 0, none⟩) n n) us L) ∧ Hid (Sep 0 us) ∧ Hid (Below w3.heap.size w3 wr) ∧ w3.heap.size ≤ wr.heap.size ∧ Hid (L.length = n ∧ ∀ r ∈ L, r.length = j) ∧ Hid (fillAll false all cols (List.replicate n []) = fillAll false all (cols.drop j) L)) (fun iv _ => cols.length - (intOf iv).toNat)
        case atStart => exact ⟨0, List.replicate n (.slice none 0 0), List.replicate n [], by omega, rfl, by show _ = _; simp, HD4, sep_nil 0 n, HB4, HB4.out.size, ⟨by simp, fun r hr => by rw [List.eq_of_mem_replicate hr]; rfl⟩, (rfl : _ = _)⟩
        case round =>
          obtain ⟨j, us, L, hj, rfl, HUL, HD, HSP, HB, hsz, HL, HFA⟩ := hrel
          have HX5 : Hid (RBox wr w.heap.size) := HX3.out.kept HB.out (by omega)
          have HBW5 : Hid (Below w.heap.size w wr) := HBW3.out.trans (HB.out.mono (by omega))
          by_cases hlt2 : j < cols.length
          · exfalso; omega
          · have HF : Hid (related false (p0 :: p1 :: cols) = some (name, ar, L)) := by
              show _ = _
              rw [HF1.out, HFA.out, List.drop_eq_nil_of_le (by omega), fillAll]; rfl
            obtain ⟨k0, k1, k2, f0, f1, f2⟩ := HX5.out
            have q0 := (HB.out.cell (p := ⟨w1.heap.size, 0, none⟩) (show w1.heap.size < w3.heap.size by omega)).trans HH3.out.1
            have q1 := (HB.out.cell (p := ⟨w1.heap.size, 1, none⟩) (show w1.heap.size < w3.heap.size by omega)).trans HH3.out.2.1
            go_wp2
            refine bodyPost_ret (v := .tuple #[.agg #[.string (str name), .int .i64 (ar : Nat), .slice (some ⟨w3.heap.size, 0, none⟩) n n], .int .i64 0]) (by simp [results, Tryz.results19, go_sem, k0, k1, k2]) rfl ⟨unpack_some HF.out ((boxed_deep HD.out (by omega) _ _ _).lower (by omega)), boxed_below HBW5.out (Nat.le_refl _) _ _ _⟩
      · go_wp2
        go_loopw [39] (fun iv wr => ∃ (j : Nat) (us : List Value) (L : List (List (List UInt8))), j ≤ cols.length ∧ iv = .int .i64 j ∧ Hid (us.length = n) ∧ Hid (Deep w3.heap.size wr (.slice (some ⟨w3.heap.size, 0, none⟩) n n) us L) ∧ Hid (Sep 0 us) ∧ Hid (Below w3.heap.size w3 wr) ∧ w3.heap.size ≤ wr.heap.size ∧ Hid (L.length = n ∧ ∀ r ∈ L, r.length = j) ∧ Hid (fillAll false all cols (List.replicate n []) = fillAll false all (cols.drop j) L)) (fun iv _ => cols.length - (intOf iv).toNat)
        case atStart => exact ⟨0, List.replicate n (.slice none 0 0), List.replicate n [], by omega, rfl, by show _ = _; simp, HD4, sep_nil 0 n, HB4, HB4.out.size, ⟨by simp, fun r hr => by rw [List.eq_of_mem_replicate hr]; rfl⟩, (rfl : _ = _)⟩
        case round =>
          obtain ⟨j, us, L, hj, rfl, HUL, HD, HSP, HB, hsz, HL, HFA⟩ := hrel
          have HX5 : Hid (RBox wr w.heap.size) := HX3.out.kept HB.out (by omega)
          have HBW5 : Hid (Below w.heap.size w wr) := HBW3.out.trans (HB.out.mono (by omega))
          by_cases hlt2 : j < cols.length
          · obtain ⟨pg, HPG⟩ : ∃ pg, Hid (pg = cols[j]) := ⟨_, (rfl : cols[j] = _)⟩
            have zp : (str pg).size ≤ 65536 := by rw [str_size, HPG.out]; exact HP.out _ (by simp)
            have hvj : wr.cell? ⟨vb, vo + 2 + j, none⟩ = some (.string (str pg)) := by
              have h1 := HV3.out (j + 2) cols[j] (by simp [hlt2])
              rw [HPG.out, show vo + 2 + j = vo + (j + 2) from by omega]
              exact (HB.out.cell (p := ⟨vb, vo + (j + 2), none⟩) (show vb < w3.heap.size by omega)).trans h1
            have HDRC : Hid (cols.drop j = pg :: cols.drop (j + 1)) := by show _ = _; rw [HPG.out]; exact List.drop_eq_getElem_cons hlt2
            have HSA : Hid (Strs wr (.slice aa all.length ac) all) := own_strs (own_kept HOA.out HB.out)
            have HLOW : Hid (∀ b off c m, (Value.slice aa all.length ac) = .slice (some ⟨b, off, none⟩) m c → b < w3.heap.size) := fun b off c m e => by
              have h5 := HOA.out.lt b (by rw [e]; rfl)
              exact h5.2
            go_wp2_with fail
            refine (preadColumn_any w3.heap.size w3.heap.size n n us L _ all (str pg) 0 _ HD.out HUL.out HSP.out HSA.out HLOW.out hsz (by omega) (by have := HL.out.1; omega) (fun r hr => by have := HL.out.2 r hr; omega) (by omega) (by omega)).mono ?_
            rintro e w5 ⟨hf, hb5⟩
            rw [data_str] at hf
            have HB5' : Hid (Below w3.heap.size w3 w5) := HB.out.trans hb5
            have HBW6 : Hid (Below w.heap.size w w5) := HBW3.out.trans (HB5'.out.mono (by omega))
            obtain ⟨k0, k1, k2, f0, f1, f2⟩ := HX3.out.kept HB5'.out (show w.heap.size < w3.heap.size by omega)
            have hs5 : w3.heap.size ≤ w5.heap.size := HB5'.out.size
            clear hb5 hvj
            cases hfl : fill all 0 L pg with
            | none =>
              rw [hfl] at hf
              obtain ⟨z, hz, rfl⟩ := hf
              have HF : Hid (related false (p0 :: p1 :: cols) = none) := by show _ = _; rw [HF1.out, HFA.out, HDRC.out, fillAll, hfl]; rfl
              clear hfl
              go_wp2
              refine bodyPost_ret (v := .tuple #[.agg #[.string { data := #[] }, .int .i64 0, .slice none 0 0], .int .i64 z]) (by simp [results, Tryz.results19, go_sem, k0, k1, k2]) rfl ⟨unpack_none HF.out hz, boxed_below HBW6.out (Nat.le_refl _) _ _ _⟩
            | some q =>
              obtain ⟨o, t⟩ := q
              rw [hfl] at hf
              obtain ⟨rfl, us5, hd5, hs5'⟩ := hf
              have HD5 : Hid (Deep w3.heap.size w5 (.slice (some ⟨w3.heap.size, 0, none⟩) n n) us5 o) := hd5
              have HS5 : Hid (Sep 0 us5) := hs5'
              have HL5 : Hid (o.length = n ∧ ∀ r ∈ o, r.length = j + 1) := by
                obtain ⟨h1, h2⟩ := fill_len all j 0 L o pg t hfl HL.out.2
                exact ⟨h1.trans HL.out.1, h2⟩
              have HU5 : Hid (us5.length = n) := by show _ = _; rw [hd5.2.1]; exact HL5.out.1
              have HFA5 : Hid (fillAll false all cols (List.replicate n []) = fillAll false all (cols.drop (j + 1)) o) := by
                show _ = _
                rw [HFA.out, HDRC.out, fillAll, hfl]
                simp
              clear hfl hd5 hs5'
              go_wp2
              go_roundw
              case rel => exact ⟨j + 1, us5, o, by omega, by go_num, HU5, HD5, HS5, HB5', hs5, HL5, HFA5⟩
              case measure => simp [intOf]; omega
          · have HF : Hid (related false (p0 :: p1 :: cols) = some (name, ar, L)) := by
              show _ = _
              rw [HF1.out, HFA.out, List.drop_eq_nil_of_le (by omega), fillAll]; rfl
            obtain ⟨k0, k1, k2, f0, f1, f2⟩ := HX5.out
            have q0 := (HB.out.cell (p := ⟨w1.heap.size, 0, none⟩) (show w1.heap.size < w3.heap.size by omega)).trans HH3.out.1
            have q1 := (HB.out.cell (p := ⟨w1.heap.size, 1, none⟩) (show w1.heap.size < w3.heap.size by omega)).trans HH3.out.2.1
            go_wp2
            refine bodyPost_ret (v := .tuple #[.agg #[.string (str name), .int .i64 (ar : Nat), .slice (some ⟨w3.heap.size, 0, none⟩) n n], .int .i64 0]) (by simp [results, Tryz.results19, go_sem, k0, k1, k2]) rfl ⟨unpack_some HF.out ((boxed_deep HD.out (by omega) _ _ _).lower (by omega)), boxed_below HBW5.out (Nat.le_refl _) _ _ _⟩
end Go.Proofs.YtnnldpccagajbaaGreatDoor
