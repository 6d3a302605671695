import Derived.Test.YtnnldpccagajbaaGreatDoorM25
/-
  The program's readHead, walked.
-/
namespace Go.Proofs.YtnnldpccagajbaaGreatDoor
open Go.ChangeShapes Go.WideShapes Go.ChangeAt Go.RowKit
set_option linter.unusedVariables false
theorem cnum_bad (s : ByteArray) (c : CS) (h : c.z ≠ 0) : cnum s c = (0, c) := by unfold cnum; rw [if_pos h]
theorem cfl_bad (c : CS) (x : Nat) (h : c.z ≠ 0) : cfl c x = c := by unfold cfl; rw [if_neg h]
theorem cen_bad (s : ByteArray) (c : CS) (h : c.z ≠ 0) : cen s c = c := by unfold cen; rw [cfl_bad c 4 h]; simp
/-- the cursor behind a first page -/
def headC (s : ByteArray) : CS :=
  let p := cct s ⟨0, 0⟩
  let q := cnum s p.2
  let r := cnum s q.2
  let e := cen s r.2
  if isName p.1 = false ∨ 8 < q.1 ∨ 2000 < r.1 then cfl e 4 else e
theorem headC_bad (s : ByteArray) (h : (cnum s (cnum s (cct s ⟨0, 0⟩).2).2).2.z ≠ 0) : (headC s).z ≠ 0 := by
  unfold headC
  simp only
  rw [cen_bad _ _ h, cfl_bad _ _ h]
  simpa using h
theorem head_is (s : ByteArray) : headOf s.data.toList = if (headC s).z = 0 then some ((cct s ⟨0, 0⟩).1, (cnum s (cct s ⟨0, 0⟩).2).1, (cnum s (cnum s (cct s ⟨0, 0⟩).2).2).1) else none := by
  have H0 : s.data.toList = from_ s 0 := (from_zero s).symm
  unfold headOf
  rw [H0]
  cases hu : uv 0 0 (from_ s 0) with
  | none =>
    have e1 : cct s ⟨0, 0⟩ = ([], ⟨0, 4⟩) := by
      unfold cct cnum
      simp only [ne_eq, not_true_eq_false, if_false]
      rw [hu]; rfl
    have b1 := cnum_bad s ⟨0, 4⟩ (by simp)
    rw [if_neg (headC_bad s (by simp [e1, b1]))]
  | some q =>
    obtain ⟨n, k⟩ := q
    obtain ⟨hk0, hk, hn⟩ := uv_in s 0 n k (by omega) hu
    have e0 : cct s ⟨0, 0⟩ = ctk s ⟨k, 0⟩ n := by
      unfold cct cnum
      simp only [ne_eq, not_true_eq_false, if_false]
      rw [hu]; simp only [Nat.zero_add]
    simp only
    rw [from_len, Nat.sub_zero]
    by_cases h1 : s.size < k + n
    · rw [if_pos h1]
      have e1 : ctk s ⟨k, 0⟩ n = ([], ⟨k, 4⟩) := by
        unfold ctk
        simp only [ne_eq, not_true_eq_false, if_false]
        rw [if_pos (by omega)]
      have b1 := cnum_bad s ⟨k, 4⟩ (by simp)
      rw [if_neg (headC_bad s (by simp [e0, e1, b1]))]
    · rw [if_neg h1]
      have e1 : cct s ⟨0, 0⟩ = ((from_ s k).take n, ⟨k + n, 0⟩) := by
        rw [e0]
        unfold ctk
        simp only [ne_eq, not_true_eq_false, if_false]
        rw [if_neg (by omega)]
      rw [from_drop, Nat.zero_add, from_drop, Nat.zero_add]
      cases hv : uv 0 0 (from_ s (k + n)) with
      | none =>
        have e2 : cnum s ⟨k + n, 0⟩ = (0, ⟨k + n, 4⟩) := by
          unfold cnum
          simp only [ne_eq, not_true_eq_false, if_false]
          rw [hv]
        rw [if_neg (headC_bad s (by rw [e1]; simp only; rw [e2, cnum_bad _ _ (by simp)]; simp))]
      | some q2 =>
        obtain ⟨ar, k2⟩ := q2
        obtain ⟨hk20, hk2, har⟩ := uv_in s (k + n) ar k2 (by omega) hv
        have e2 : cnum s ⟨k + n, 0⟩ = (ar, ⟨k + n + k2, 0⟩) := by
          unfold cnum
          simp only [ne_eq, not_true_eq_false, if_false]
          rw [hv]
        simp only
        cases hz : uv 0 0 (from_ s (k + n + k2)) with
        | none =>
          have e3 : cnum s ⟨k + n + k2, 0⟩ = (0, ⟨k + n + k2, 4⟩) := by
            unfold cnum
            simp only [ne_eq, not_true_eq_false, if_false]
            rw [hz]
          rw [if_neg (headC_bad s (by rw [e1]; simp only; rw [e2]; simp only; rw [e3]; simp))]
          simp only [from_drop, Nat.zero_add]
          rw [hz]
          simp
        | some q3 =>
          obtain ⟨m, k3⟩ := q3
          have e3 : cnum s ⟨k + n + k2, 0⟩ = (m, ⟨k + n + k2 + k3, 0⟩) := by
            unfold cnum
            simp only [ne_eq, not_true_eq_false, if_false]
            rw [hz]
          have eh : headC s = if isName ((from_ s k).take n) = false ∨ 8 < ar ∨ 2000 < m then cfl (cen s ⟨k + n + k2 + k3, 0⟩) 4 else cen s ⟨k + n + k2 + k3, 0⟩ := by
            unfold headC
            rw [e1]; simp only
            rw [e2]; simp only
            rw [e3]
          simp only [from_drop, Nat.zero_add]
          rw [hz]
          simp only
          rw [e1]; simp only
          rw [e2]; simp only
          rw [e3]; simp only
          rw [eh]
          by_cases hb : isName ((from_ s k).take n) = false ∨ 8 < ar ∨ 2000 < m
          · rw [if_pos hb]
            have hne : ¬ (cfl (cen s ⟨k + n + k2 + k3, 0⟩) 4).z = 0 := by
              unfold cfl
              split
              · simp
              · assumption
            rw [if_neg hne]
            split
            · rfl
            · rw [if_neg]
              rintro ⟨g1, g2, g3⟩
              rcases hb with hb | hb | hb
              · rw [hb] at g1; cases g1
              · omega
              · omega
          · rw [if_neg hb]
            have hnm : isName ((from_ s k).take n) = true := by
              cases hx : isName ((from_ s k).take n) with
              | false => exact absurd (Or.inl hx) hb
              | true => rfl
            rw [if_neg (by omega)]
            by_cases he : k + n + k2 + k3 = s.size
            · rw [if_pos ⟨hnm, he, by omega⟩]
              unfold cen
              simp only
              rw [if_pos he, if_pos rfl]
            · rw [if_neg (by omega)]
              unfold cen
              simp only
              rw [if_neg he]
              rfl
/-- what 'readHead' answers -/
def HeadP (r : Option (List UInt8 × Nat × Nat)) (e : Ending) : Prop := match r with
  | none => ∃ z : Int, (z != 0) = true ∧ e = .returned (.tuple #[.agg #[.string (str []), .int .i64 0, .int .i64 0], .int .i64 z])
  | some (name, ar, m) => e = .returned (.tuple #[.agg #[.string (str name), .int .i64 (ar : Nat), .int .i64 (m : Nat)], .int .i64 0])
/-- the boxes of 'readHead': what it answers, and what it fills -/
structure HB (w : World) (R H : Nat) (x : ByteArray) (y z : Int) : Prop where
  r0 : w.cell? ⟨R, 0, none⟩ = some (.string { data := #[] })
  r1 : w.cell? ⟨R, 1, none⟩ = some (.int .i64 0)
  r2 : w.cell? ⟨R, 2, none⟩ = some (.int .i64 0)
  fr : ∀ i, w.frozen? ⟨R, i, none⟩ = false
  h0 : w.cell? ⟨H, 0, none⟩ = some (.string x)
  h1 : w.cell? ⟨H, 1, none⟩ = some (.int .i64 y)
  h2 : w.cell? ⟨H, 2, none⟩ = some (.int .i64 z)
  fh : ∀ i, w.frozen? ⟨H, i, none⟩ = false
theorem HB.over {w w' : World} {R H : Nat} {x : ByteArray} {y z : Int} (h : HB w R H x y z) (hr : w'.heap[R]? = w.heap[R]?) (hh : w'.heap[H]? = w.heap[H]?) : HB w' R H x y z :=
  ⟨by rw [World.cell?_of_block (w := w) (a := ⟨R, 0, none⟩) hr]; exact h.r0, by rw [World.cell?_of_block (w := w) (a := ⟨R, 1, none⟩) hr]; exact h.r1, by rw [World.cell?_of_block (w := w) (a := ⟨R, 2, none⟩) hr]; exact h.r2, fun i => by rw [World.frozen?_of_block (w := w) (a := ⟨R, i, none⟩) hr]; exact h.fr i,
   by rw [World.cell?_of_block (w := w) (a := ⟨H, 0, none⟩) hh]; exact h.h0, by rw [World.cell?_of_block (w := w) (a := ⟨H, 1, none⟩) hh]; exact h.h1, by rw [World.cell?_of_block (w := w) (a := ⟨H, 2, none⟩) hh]; exact h.h2, fun i => by rw [World.frozen?_of_block (w := w) (a := ⟨H, i, none⟩) hh]; exact h.fh i⟩
theorem HB.lt {w : World} {R H : Nat} {x : ByteArray} {y z : Int} (h : HB w R H x y z) : R < w.heap.size ∧ H < w.heap.size := ⟨World.block_lt_of_cell? w ⟨R, 0, none⟩ h.r0, World.block_lt_of_cell? w ⟨H, 0, none⟩ h.h0⟩
theorem HB.cfr {w w' : World} {R H C : Nat} {x : ByteArray} {y z : Int} (h : HB w R H x y z) (hf : CFr w w' C) (hr : R < C) (hh : H < C) : HB w' R H x y z :=
  h.over (hf.g.block R h.lt.1 (by simp; omega)) (hf.g.block H h.lt.2 (by simp; omega))
theorem HB.drewN {w : World} {R H : Nat} {x : ByteArray} {y z : Int} (h : HB w R H x y z) (n : Nat) : HB (w.drewN n) R H x y z := h.over rfl rfl
theorem HB.set0 {w : World} {R H : Nat} {x : ByteArray} {y z : Int} (h : HB w R H x y z) (hne : R ≠ H) (u : ByteArray) : HB (w.setCell ⟨H, 0, none⟩ (.string u)) R H u y z :=
  ⟨by rw [World.cell?_setCell_other _ _ _ _ (by intro e; cases e; exact hne rfl)]; exact h.r0, by rw [World.cell?_setCell_other _ _ _ _ (by intro e; cases e)]; exact h.r1, by rw [World.cell?_setCell_other _ _ _ _ (by intro e; cases e)]; exact h.r2, fun i => by rw [World.frozen?_setCell]; exact h.fr i,
   World.cell?_setCell_same _ _ _ h.h0, by rw [World.cell?_setCell_other _ _ _ _ (by simp)]; exact h.h1, by rw [World.cell?_setCell_other _ _ _ _ (by simp)]; exact h.h2, fun i => by rw [World.frozen?_setCell]; exact h.fh i⟩
theorem HB.set1 {w : World} {R H : Nat} {x : ByteArray} {y z : Int} (h : HB w R H x y z) (hne : R ≠ H) (u : Int) : HB (w.setCell ⟨H, 1, none⟩ (.int .i64 u)) R H x u z :=
  ⟨by rw [World.cell?_setCell_other _ _ _ _ (by intro e; cases e)]; exact h.r0, by rw [World.cell?_setCell_other _ _ _ _ (by intro e; cases e; exact hne rfl)]; exact h.r1, by rw [World.cell?_setCell_other _ _ _ _ (by intro e; cases e)]; exact h.r2, fun i => by rw [World.frozen?_setCell]; exact h.fr i,
   by rw [World.cell?_setCell_other _ _ _ _ (by simp)]; exact h.h0, World.cell?_setCell_same _ _ _ h.h1, by rw [World.cell?_setCell_other _ _ _ _ (by simp)]; exact h.h2, fun i => by rw [World.frozen?_setCell]; exact h.fh i⟩
theorem HB.set2 {w : World} {R H : Nat} {x : ByteArray} {y z : Int} (h : HB w R H x y z) (hne : R ≠ H) (u : Int) : HB (w.setCell ⟨H, 2, none⟩ (.int .i64 u)) R H x y u :=
  ⟨by rw [World.cell?_setCell_other _ _ _ _ (by intro e; cases e)]; exact h.r0, by rw [World.cell?_setCell_other _ _ _ _ (by intro e; cases e)]; exact h.r1, by rw [World.cell?_setCell_other _ _ _ _ (by intro e; cases e; exact hne rfl)]; exact h.r2, fun i => by rw [World.frozen?_setCell]; exact h.fr i,
   by rw [World.cell?_setCell_other _ _ _ _ (by simp)]; exact h.h0, by rw [World.cell?_setCell_other _ _ _ _ (by simp)]; exact h.h1, World.cell?_setCell_same _ _ _ h.h2, fun i => by rw [World.frozen?_setCell]; exact h.fh i⟩
theorem Cur.elsewhere {w : World} {b : Nat} {s : ByteArray} {a e : Int} (h : Cur w b s a e) {H i : Nat} (hne : H ≠ b) (u : Value) : Cur (w.setCell ⟨H, i, none⟩ u) b s a e :=
  h.kept (Below.heap_setCell w ⟨H, i, none⟩ u b (fun e => hne e.symm))
theorem below_cfr {w w1 w' : World} {C : Nat} (h : Below w.heap.size w w1) (hf : CFr w1 w' C) (hc : w.heap.size ≤ C) : Below w.heap.size w w' := h.grown hf.g h.size (fun k hk => by cases hk; exact hc)
theorem headP_none {r : Option (List UInt8 × Nat × Nat)} {z : Int} (h : r = none) (hz : (z != 0) = true) : HeadP r (.returned (.tuple #[.agg #[.string { data := #[] }, .int .i64 0, .int .i64 0], .int .i64 z])) := by subst h; exact ⟨z, hz, rfl⟩
theorem headP_some {r : Option (List UInt8 × Nat × Nat)} {x : ByteArray} {name : List UInt8} {ar m : Nat} (h : r = some (name, ar, m)) (hx : x = str name) : HeadP r (.returned (.tuple #[.agg #[.string x, .int .i64 (ar : Nat), .int .i64 (m : Nat)], .int .i64 0])) := by subst h hx; rfl
set_option maxRecDepth 100000 in
set_option maxHeartbeats 2000000 in
theorem preadHead_any (d : ByteArray) (w : World) (hd : d.size ≤ 1073741824) :
    Calls Tryz.prog 39 #[.string d] w fun e w' => HeadP (headOf d.data.toList) e ∧ Below w.heap.size w w' := by
  obtain ⟨t, c1, HC1⟩ : ∃ t c1, Hid (cct d ⟨0, 0⟩ = (t, c1)) := ⟨_, _, rfl⟩
  obtain ⟨ar, c2, HC2⟩ : ∃ ar c2, Hid (cnum d c1 = (ar, c2)) := ⟨_, _, rfl⟩
  obtain ⟨n, c3, HC3⟩ : ∃ n c3, Hid (cnum d c2 = (n, c3)) := ⟨_, _, rfl⟩
  obtain ⟨c4, HC4⟩ : ∃ c4, Hid (cen d c3 = c4) := ⟨_, (rfl : cen d c3 = _)⟩
  have hp0 : InP d ⟨0, 0⟩ := fun _ => Nat.zero_le _
  obtain ⟨hp1, hl1⟩ : InP d c1 ∧ t.length ≤ d.size := by
    have h1 := ctk_in d _ (cnum d ⟨0, 0⟩).1 (cnum_in d ⟨0, 0⟩ hp0).1
    have h2 := HC1.out
    unfold cct at h2
    rw [h2] at h1; exact h1
  obtain ⟨hp2, hn2⟩ : InP d c2 ∧ ar < 9223372036854775808 := by have h1 := cnum_in d c1 hp1; rw [HC2.out] at h1; exact h1
  obtain ⟨hp3, hn3⟩ : InP d c3 ∧ n < 9223372036854775808 := by have h1 := cnum_in d c2 hp2; rw [HC3.out] at h1; exact h1
  have HH : Hid (headOf d.data.toList = if (if isName t = false ∨ 8 < ar ∨ 2000 < n then cfl c4 4 else c4).z = 0 then some (t, ar, n) else none) := by
    show _ = _
    rw [head_is]
    unfold headC
    rw [HC1.out]; simp only
    rw [HC2.out]; simp only
    rw [HC3.out]; simp only
    rw [HC4.out]
  obtain ⟨tb, HTB⟩ : ∃ tb, Hid (tb = str t) := ⟨_, (rfl : str t = _)⟩
  have ztb : tb.size ≤ 1073741824 := by rw [HTB.out, str_size]; omega
  have HNM : Hid (∀ wx : World, Calls Tryz.prog 71 #[.string tb] wx fun e w' => e = .returned (.bool (isName t)) ∧ w' = wx) := by
    intro wx
    refine (name_any tb wx (by omega)).mono ?_
    rintro e w' ⟨rfl, rfl⟩
    exact ⟨by rw [HTB.out, data_str], rfl⟩
  go_enter Tryz.func39, Tryz.ntmps39
  go_wp2_with fail
  obtain ⟨W0, HW0⟩ : ∃ W0, Hid (W0 = (w.alloc (.cells #[.string { data := #[] }, .int .i64 0, .int .i64 0] 74)).alloc (.cells #[.string { data := #[] }, .int .i64 0, .int .i64 0] 74)) := ⟨_, rfl⟩
  have HB0 : Hid (Below w.heap.size w W0) := by rw [HW0.out]; exact ((Below.refl _ _).alloc (Nat.le_refl _) _).alloc (by simp) _
  have HZ0 : Hid (W0.heap.size = w.heap.size + 2) := by show _ = _; rw [HW0.out]; simp
  have HX0 : Hid (HB W0 w.heap.size (w.heap.size + 1) { data := #[] } 0 0) := by
    rw [HW0.out]
    exact ⟨by simp, by simp, by simp, fun i => (((Below.refl _ _).alloc (Nat.le_refl _) _).frozen (p := ⟨w.heap.size, i, none⟩) (by simp)).trans (World.frozen?_alloc_at _ _ _ _ rfl), by simp, by simp, by simp, fun i => World.frozen?_alloc_at _ _ _ _ (by simp)⟩
  rw [← HW0.out]
  clear HW0
  refine (at_in d 0 _ (by omega) (by omega)).mono ?_
  rintro e w1 ⟨rfl, hb1⟩
  have hz1 : w.heap.size + 2 ≤ w1.heap.size := by have := hb1.size; have := HZ0.out; omega
  have HX1 : Hid (HB (w1.alloc (.cells #[.string d, .int .i64 (0 : Nat), .int .i64 0] 68)) w.heap.size (w.heap.size + 1) { data := #[] } 0 0) := by
    have hz := HZ0.out
    have hbA : Below w1.heap.size w1 (w1.alloc (.cells #[.string d, .int .i64 (0 : Nat), .int .i64 0] 68)) := (Below.refl _ _).alloc (Nat.le_refl _) _
    exact (HX0.out.over (hb1.block _ (by omega)) (hb1.block _ (by omega))).over (hbA.block _ (by omega)) (hbA.block _ (by omega))
  have HB1 : Hid (Below w.heap.size w (w1.alloc (.cells #[.string d, .int .i64 (0 : Nat), .int .i64 0] 68))) := (HB0.out.trans (hb1.mono HB0.out.size)).alloc (by omega) _
  clear hb1
  go_wp2_with fail
  refine (kcounted_all w1.heap.size d ⟨0, 0⟩ c1 t _ (Cur.new _ _ d _ rfl) hp0 (by omega) HC1).mono ?_
  rintro e w2 ⟨rfl, hc2, hf2⟩
  rw [← HTB.out]
  have HX2 : Hid (HB (w2.setCell ⟨w.heap.size + 1, 0, none⟩ (.string tb)) w.heap.size (w.heap.size + 1) tb 0 0) := (HX1.out.cfr hf2.out (by omega) (by omega)).set0 (by omega) tb
  have HB2 : Hid (Below w.heap.size w (w2.setCell ⟨w.heap.size + 1, 0, none⟩ (.string tb))) := (below_cfr HB1.out hf2.out (by omega)).setCell (p := ⟨w.heap.size + 1, 0, none⟩) (by simp) _
  obtain ⟨-, -, -, -, g0, g1, g2, gf⟩ := HX1.out.cfr hf2.out (show w.heap.size < w1.heap.size by omega) (show w.heap.size + 1 < w1.heap.size by omega)
  have gf0 := gf 0
  clear hf2 gf
  go_wp2_with fail
  refine (knumber_all w1.heap.size d c1 c2 ar _ (hc2.out.elsewhere (by omega) _) hp1 (by omega) HC2).mono ?_
  rintro e w3 ⟨rfl, hc3, hf3⟩
  clear g0 g1 g2 gf0
  have HX3 : Hid (HB (w3.setCell ⟨w.heap.size + 1, 1, none⟩ (.int .i64 (ar : Nat))) w.heap.size (w.heap.size + 1) tb (ar : Nat) 0) := (HX2.out.cfr hf3.out (by omega) (by omega)).set1 (by omega) _
  have HB3 : Hid (Below w.heap.size w (w3.setCell ⟨w.heap.size + 1, 1, none⟩ (.int .i64 (ar : Nat)))) := (below_cfr HB2.out hf3.out (by omega)).setCell (p := ⟨w.heap.size + 1, 1, none⟩) (by simp) _
  obtain ⟨-, -, -, -, g0, g1, g2, gf⟩ := HX2.out.cfr hf3.out (show w.heap.size < w1.heap.size by omega) (show w.heap.size + 1 < w1.heap.size by omega)
  have gf1 := gf 1
  clear hf3 gf
  go_wp2_with fail
  refine (knumber_all w1.heap.size d c2 c3 n _ (hc3.out.elsewhere (by omega) _) hp2 (by omega) HC3).mono ?_
  rintro e w4 ⟨rfl, hc4, hf4⟩
  clear g0 g1 g2 gf1
  have HX4 : Hid (HB (w4.setCell ⟨w.heap.size + 1, 2, none⟩ (.int .i64 (n : Nat))) w.heap.size (w.heap.size + 1) tb (ar : Nat) (n : Nat)) := (HX3.out.cfr hf4.out (by omega) (by omega)).set2 (by omega) _
  have HB4 : Hid (Below w.heap.size w (w4.setCell ⟨w.heap.size + 1, 2, none⟩ (.int .i64 (n : Nat)))) := (below_cfr HB3.out hf4.out (by omega)).setCell (p := ⟨w.heap.size + 1, 2, none⟩) (by simp) _
  obtain ⟨-, -, -, -, g0, g1, g2, gf⟩ := HX3.out.cfr hf4.out (show w.heap.size < w1.heap.size by omega) (show w.heap.size + 1 < w1.heap.size by omega)
  have gf2 := gf 2
  clear hf4 gf
  go_wp2_with fail
  refine (kend_all w1.heap.size d c3 c4 _ (hc4.out.elsewhere (by omega) _) (by omega) HC4).mono ?_
  rintro e w5 ⟨rfl, hc5, hf5⟩
  clear g0 g1 g2 gf2
  have HX5 : Hid (HB w5 w.heap.size (w.heap.size + 1) tb (ar : Nat) (n : Nat)) := HX4.out.cfr hf5.out (by omega) (by omega)
  have HB5 : Hid (Below w.heap.size w w5) := below_cfr HB4.out hf5.out (by omega)
  obtain ⟨k0, k1, k2, kf, g0, g1, g2, gf⟩ := HX5.out
  clear hf5 kf gf
  by_cases hbad : isName t = false ∨ 8 < ar ∨ 2000 < n
  · obtain ⟨c5, HC5⟩ : ∃ c5, Hid (cfl c4 4 = c5) := ⟨_, (rfl : cfl c4 4 = _)⟩
    have hz5 : c5.z ≠ 0 := by
      rw [← HC5.out]
      unfold cfl
      split
      · simp
      · assumption
    have HF : Hid (headOf d.data.toList = none) := by show _ = _; rw [HH.out, if_pos hbad, HC5.out, if_neg hz5]
    have hzz : ((c5.z : Int) != 0) = true := by simp [hz5]
    have HC5' : Hid (Cur w5 w1.heap.size d (c4.a : Nat) (c4.z : Nat)) := hc5
    have hcase : isName t = false ∨ (isName t = true ∧ decide ((8 : Int) < (ar : Nat)) = true) ∨ (isName t = true ∧ decide ((8 : Int) < (ar : Nat)) = false ∧ decide ((2000 : Int) < (n : Nat)) = true) := by
      cases hn : isName t with
      | false => exact Or.inl rfl
      | true =>
        rw [hn] at hbad
        by_cases h8 : 8 < ar
        · exact Or.inr (Or.inl ⟨rfl, by simp; omega⟩)
        · refine Or.inr (Or.inr ⟨rfl, by simp; omega, ?_⟩)
          rcases hbad with hbad | hbad | hbad
          · cases hbad
          · omega
          · simp; omega
    clear hbad hz5 hc5
    rcases hcase with q1 | ⟨q1, q2⟩ | ⟨q1, q2, q3⟩
    all_goals
      rw [q1] at HNM
      go_wp2_with fail
      refine (HNM.out _).mono ?_
      rintro e w6' ⟨rfl, h6⟩
      subst h6
      go_wp2_with fail
      refine (kfail_all w1.heap.size d c4 c5 4 _ HC5'.out HC5).mono ?_
      rintro e w6 ⟨rfl, hc6, hf6⟩
      have HB6 : Hid (Below w.heap.size w w6) := below_cfr HB5.out hf6.out (by omega)
      obtain ⟨r0, r1, r2, rf, -, -, -, -⟩ := HX5.out.cfr hf6.out (show w.heap.size < w1.heap.size by omega) (show w.heap.size + 1 < w1.heap.size by omega)
      have rf0 := rf 0
      have rf1 := rf 1
      have rf2 := rf 2
      clear hf6 rf k0 k1 k2 g0 g1 g2
      go_wp2_with fail
      refine (cerr_any w1.heap.size d _ _ _ hc6.out).mono ?_
      rintro e w7 ⟨rfl, rfl⟩
      go_wp2_with fail
      refine (cerr_any w1.heap.size d _ _ _ hc6.out).mono ?_
      rintro e w7 ⟨rfl, rfl⟩
      go_wp2
      refine bodyPost_ret (v := .tuple #[.agg #[.string { data := #[] }, .int .i64 0, .int .i64 0], .int .i64 (c5.z : Nat)]) (by simp [results, Tryz.results39, go_sem, r0, r1, r2]) rfl ⟨headP_none HF.out hzz, boxed_below HB6.out (Nat.le_refl _) _ _ _⟩
  · have hnm : isName t = true := by
      cases hx : isName t with
      | false => exact absurd (Or.inl hx) hbad
      | true => rfl
    have q2 : decide ((8 : Int) < (ar : Nat)) = false := by simp; omega
    have q3 : decide ((2000 : Int) < (n : Nat)) = false := by simp; omega
    rw [hnm] at HNM
    have HC5' : Hid (Cur w5 w1.heap.size d (c4.a : Nat) (c4.z : Nat)) := hc5
    have HB6 : Hid (Below w.heap.size w w5) := HB5
    have rf0 := HX5.out.fr 0
    have rf1 := HX5.out.fr 1
    have rf2 := HX5.out.fr 2
    by_cases hz : c4.z = 0
    · have HF : Hid (headOf d.data.toList = some (t, ar, n)) := by show _ = _; rw [HH.out, if_neg hbad, if_pos hz]
      have hzz : ((c4.z : Int) != 0) = false := by simp [hz]
      clear hbad hz hc5 hnm
      go_wp2_with fail
      refine (HNM.out _).mono ?_
      rintro e w6' ⟨rfl, h6⟩
      subst h6
      go_wp2_with fail
      refine (cerr_any w1.heap.size d _ _ _ HC5'.out).mono ?_
      rintro e w7 ⟨rfl, rfl⟩
      go_wp2
      refine bodyPost_ret (v := .tuple #[.agg #[.string tb, .int .i64 (ar : Nat), .int .i64 (n : Nat)], .int .i64 0]) (by simp [results, Tryz.results39, go_sem, k0, k1, k2]) rfl ⟨headP_some HF.out HTB.out, boxed_below HB6.out (Nat.le_refl _) _ _ _⟩
    · have HF : Hid (headOf d.data.toList = none) := by show _ = _; rw [HH.out, if_neg hbad, if_neg hz]
      have hzz : ((c4.z : Int) != 0) = true := by simp [hz]
      clear hbad hz hc5 hnm
      go_wp2_with fail
      refine (HNM.out _).mono ?_
      rintro e w6' ⟨rfl, h6⟩
      subst h6
      go_wp2_with fail
      refine (cerr_any w1.heap.size d _ _ _ HC5'.out).mono ?_
      rintro e w7 ⟨rfl, rfl⟩
      go_wp2_with fail
      refine (cerr_any w1.heap.size d _ _ _ HC5'.out).mono ?_
      rintro e w7 ⟨rfl, rfl⟩
      go_wp2
      refine bodyPost_ret (v := .tuple #[.agg #[.string { data := #[] }, .int .i64 0, .int .i64 0], .int .i64 (c4.z : Nat)]) (by simp [results, Tryz.results39, go_sem, k0, k1, k2]) rfl ⟨headP_none HF.out hzz, boxed_below HB6.out (Nat.le_refl _) _ _ _⟩
end Go.Proofs.YtnnldpccagajbaaGreatDoor
