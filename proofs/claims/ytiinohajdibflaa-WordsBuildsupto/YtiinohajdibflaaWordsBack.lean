/-
  WordsBack, out of contracts for the program's calls.
-/
import Derived.Test.YtiinohajdibflaaWordsLaws
namespace Go.Proofs.Ytiinohajdibflaa
open Go.ChangeShapes Go.WideShapes Go.ChangeAt Go.RowKit
set_option linter.unusedVariables false
set_option maxRecDepth 100000 in
set_option maxHeartbeats 4000000 in
theorem back_walk (hB : BuildSaid) (hO : OpenSaid) (hF : FindSaid) (v : Value) (l : List (List UInt8)) (d : ByteArray) (w : World) (h : Strs w v l) (hl : l.length ≤ 1048576) (hd : d.size ≤ 1073741824) :
    Calls Try.prog 7 #[v, .string d] w fun e w' => e = .returned (.bool true) ∧ Below w.heap.size w w' := by
  have HS : Hid (Strs w v l) := h
  clear h
  obtain ⟨rt, re, ri, HR⟩ : ∃ rt re ri, Hid (build l = (rt, re, ri)) := ⟨_, _, _, rfl⟩
  have HBV : Hid (built (build l) = .tuple #[.string (str rt), .int .i64 (re : Nat), .int .i64 (ri : Nat)]) := by show _ = _; rw [HR.out]; rfl
  have hrl : (str rt).size ≤ 1073741824 := by
    have := build_len l (by omega)
    rw [HR.out] at this
    simp only at this
    rw [str_size]; omega
  have hll : (l == l) = true := by simp
  by_cases hre : re = 0
  · have hg : good none l = true := (build_ok l).1 (by rw [HR.out]; exact hre)
    have HOB : Hid (open_ (str rt).data.toList = some l) := by
      show _ = _
      have := open_build l hg (by omega)
      rw [HR.out] at this
      rw [data_str]; exact this
    have HG : Hid (good none l = true) := hg
    have hr0 : ((re : Int) == 0) = true := by simp [hre]
    clear hg hre
    go_enter Try.func7, Try.ntmps7
    go_wp2_with fail
    refine (copied_any v l _ HS.out (by omega)).mono ?_
    rintro e w1 ⟨⟨v1, rfl, hown⟩, hb1⟩
    have HO : Hid (w1.ownsRow w.heap.size 9 1 v1 l.length (ts l)) := hown
    clear hown
    go_wp2_with fail
    refine (hB v1 l _ (own_strs HO.out) (by omega)).mono ?_
    rintro e w2 ⟨rfl, hb2⟩
    rw [HBV.out]
    have HB2 : Hid (Below w.heap.size w w2) := hb1.trans (hb2.mono hb1.size)
    clear hb1 hb2 HO
    go_wp2_with fail
    refine (rbuild_any v l _ (HS.out.kept HB2.out) (by omega)).mono ?_
    rintro e w3 ⟨rfl, hb3⟩
    rw [HBV.out]
    have HB3 : Hid (Below w.heap.size w w3) := HB2.out.trans (hb3.mono HB2.out.size)
    clear hb3 HB2
    go_wp2_with fail
    refine (num_at _ _).mono ?_
    rintro e w4 ⟨rfl, rfl⟩
    go_wp2_with fail
    refine (hO (str rt) _ hrl).mono ?_
    rintro e w5 ⟨h5, hb5⟩
    rw [HOB.out] at h5
    obtain ⟨v5, rfl, hs5⟩ := h5
    have HB5 : Hid (Below w.heap.size w w5) := HB3.out.trans (hb5.mono HB3.out.size)
    have HM5 : Hid (Strs w5 v5 l) := own_strs hs5
    clear hb5 hs5 HB3
    go_wp2_with fail
    refine (texts_any v5 v l l _ HM5.out (HS.out.kept HB5.out) (by omega) (by omega)).mono ?_
    rintro e w6 ⟨rfl, hd6⟩
    obtain ⟨n6, rfl⟩ := hd6
    go_wp2_with fail
    refine (num_at _ _).mono ?_
    rintro e w7 ⟨rfl, rfl⟩
    have HB6 : Hid (Below w.heap.size w (w5.drewN n6)) := below_drewN HB5.out n6
    have HM6 : Hid (Strs (w5.drewN n6) v5 l) := HM5.out.drewN n6
    clear HB5 HM5
    have HVL : Hid (Strs w v l) := HS.out
    obtain ⟨a, cap, rfl, hs⟩ := HVL.out
    rcases hs with ⟨rfl, _⟩ | ⟨b, off, rfl, hc⟩
    · go_wp2
      refine wp_loop_rounds 1 ?_
      rw [rounds_succ]
      cases ho : open_ d.data.toList with
      | none =>
        have HOP : Hid (open_ d.data.toList = none) := ho
        clear ho
        go_wp2_with fail
        refine (hO d _ hd).mono ?_
        rintro e x1 ⟨h1, hx1⟩
        rw [HOP.out] at h1
        obtain ⟨y1, rfl, hy1⟩ := h1
        have HX1 : Hid (Below w.heap.size w x1) := HB6.out.trans (hx1.mono HB6.out.size)
        obtain ⟨a1, cap1, rfl, _⟩ := hy1
        clear hx1
        go_wp2_with fail
        refine (ropen_any d _ hd).mono ?_
        rintro e x2 ⟨h2, hx2⟩
        rw [HOP.out] at h2
        cases h2
        have HX2 : Hid (Below w.heap.size w x2) := HX1.out.trans (hx2.mono HX1.out.size)
        clear hx2 HX1
        go_wp2_with (go_at_call 12; refine (num_at _ _).mono ?_; rintro e w' ⟨rfl, rfl⟩)
        go_ret
        exact ⟨rfl, HX2.out⟩
      | some L =>
        have HOP : Hid (open_ d.data.toList = some L) := ho
        have hL : L.length ≤ 1073741824 := by have := (open_good _ _ ho).2; simp at this; omega
        have HBV2 : Hid (built (build L) = .tuple #[.string d, .int .i64 0, .int .i64 0]) := by
          show _ = _
          rw [open_some _ _ ho, built, str_data]; rfl
        clear ho
        go_wp2_with fail
        refine (hO d _ hd).mono ?_
        rintro e x1 ⟨h1, hx1⟩
        rw [HOP.out] at h1
        obtain ⟨y1, rfl, hy1⟩ := h1
        have HX1 : Hid (Below w.heap.size w x1) := HB6.out.trans (hx1.mono HB6.out.size)
        have HY1 : Hid (Strs x1 y1 L) := own_strs hy1
        clear hx1 hy1
        go_wp2_with fail
        refine (ropen_any d _ hd).mono ?_
        rintro e x2 ⟨h2, hx2⟩
        rw [HOP.out] at h2
        obtain ⟨y2, rfl, _⟩ := h2
        have HX2 : Hid (Below w.heap.size w x2) := HX1.out.trans (hx2.mono HX1.out.size)
        have HY2 : Hid (Strs x2 y1 L) := HY1.out.kept hx2
        clear hx2 HX1 HY1
        go_wp2_with fail
        refine (hB y1 L _ HY2.out hL).mono ?_
        rintro e x3 ⟨rfl, hx3⟩
        rw [HBV2.out]
        have HX3 : Hid (Below w.heap.size w x3) := HX2.out.trans (hx3.mono HX2.out.size)
        clear hx3 HX2
        go_wp2_with (go_at_call 12; refine (num_at _ _).mono ?_; rintro e w' ⟨rfl, rfl⟩)
        go_ret
        exact ⟨by simp, HX3.out⟩
    · have HC : Hid (∀ (i : Nat) (x : List UInt8), l[i]? = some x → w.cell? ⟨b, off + i, none⟩ = some (.string (str x))) := hc
      clear hc
      go_wp2
      go_loopw [14] (fun iv wr => ∃ j : Nat, j ≤ l.length ∧ iv = .int .i64 j ∧ Hid (Strs wr v5 l) ∧ Hid (Below w.heap.size w wr)) (fun iv _ => l.length - (intOf iv).toNat)
      case atStart => exact ⟨0, by omega, rfl, HM6, HB6⟩
      case round =>
        obtain ⟨j, hj, rfl, HM, HB⟩ := hrel
        clear HM6 HB6
        by_cases hlt : j < l.length
        · have cw := HC.out j l[j] (get_at hlt)
          have c1 : wr.cell? ⟨b, off + j, none⟩ = some (.string (str l[j])) := by
            rw [HB.out.cell (p := ⟨b, off + j, none⟩) (World.block_lt_of_cell? w ⟨b, off + j, none⟩ cw)]; exact cw
          have HFD : Hid (find l (str l[j]).data.toList = j) := by
            show _ = _
            rw [data_str]
            exact find_at l _ j (good_other l HG.out j _ (get_at hlt)) (get_at hlt)
          generalize str l[j] = sj at *
          clear cw
          go_wp2_with fail
          refine (hF v5 l sj _ HM.out (by omega)).mono ?_
          rintro e x0 ⟨rfl, hx0⟩
          rw [HFD.out]
          have HX0 : Hid (Below w.heap.size w x0) := HB.out.trans (hx0.mono HB.out.size)
          have HM0 : Hid (Strs x0 v5 l) := HM.out.kept hx0
          clear hx0
          go_wp2
          go_roundw
          case rel => exact ⟨j + 1, by omega, by go_num, HM0, HX0⟩
          case measure => simp [intOf]; omega
        · skip
          cases ho : open_ d.data.toList with
          | none =>
            have HOP : Hid (open_ d.data.toList = none) := ho
            clear ho
            go_wp2_with fail
            refine (hO d _ hd).mono ?_
            rintro e x1 ⟨h1, hx1⟩
            rw [HOP.out] at h1
            obtain ⟨y1, rfl, hy1⟩ := h1
            have HX1 : Hid (Below w.heap.size w x1) := HB.out.trans (hx1.mono HB.out.size)
            obtain ⟨a1, cap1, rfl, _⟩ := hy1
            clear hx1
            go_wp2_with fail
            refine (ropen_any d _ hd).mono ?_
            rintro e x2 ⟨h2, hx2⟩
            rw [HOP.out] at h2
            cases h2
            have HX2 : Hid (Below w.heap.size w x2) := HX1.out.trans (hx2.mono HX1.out.size)
            clear hx2 HX1
            go_wp2_with (go_at_call 12; refine (num_at _ _).mono ?_; rintro e w' ⟨rfl, rfl⟩)
            go_ret
            exact ⟨rfl, HX2.out⟩
          | some L =>
            have HOP : Hid (open_ d.data.toList = some L) := ho
            have hL : L.length ≤ 1073741824 := by have := (open_good _ _ ho).2; simp at this; omega
            have HBV2 : Hid (built (build L) = .tuple #[.string d, .int .i64 0, .int .i64 0]) := by
              show _ = _
              rw [open_some _ _ ho, built, str_data]; rfl
            clear ho
            go_wp2_with fail
            refine (hO d _ hd).mono ?_
            rintro e x1 ⟨h1, hx1⟩
            rw [HOP.out] at h1
            obtain ⟨y1, rfl, hy1⟩ := h1
            have HX1 : Hid (Below w.heap.size w x1) := HB.out.trans (hx1.mono HB.out.size)
            have HY1 : Hid (Strs x1 y1 L) := own_strs hy1
            clear hx1 hy1
            go_wp2_with fail
            refine (ropen_any d _ hd).mono ?_
            rintro e x2 ⟨h2, hx2⟩
            rw [HOP.out] at h2
            obtain ⟨y2, rfl, _⟩ := h2
            have HX2 : Hid (Below w.heap.size w x2) := HX1.out.trans (hx2.mono HX1.out.size)
            have HY2 : Hid (Strs x2 y1 L) := HY1.out.kept hx2
            clear hx2 HX1 HY1
            go_wp2_with fail
            refine (hB y1 L _ HY2.out hL).mono ?_
            rintro e x3 ⟨rfl, hx3⟩
            rw [HBV2.out]
            have HX3 : Hid (Below w.heap.size w x3) := HX2.out.trans (hx3.mono HX2.out.size)
            clear hx3 HX2
            go_wp2_with (go_at_call 12; refine (num_at _ _).mono ?_; rintro e w' ⟨rfl, rfl⟩)
            go_ret
            exact ⟨by simp, HX3.out⟩
  · have hr0 : ((re : Int) == 0) = false := by simp [hre]
    clear hre
    go_enter Try.func7, Try.ntmps7
    go_wp2_with fail
    refine (copied_any v l _ HS.out (by omega)).mono ?_
    rintro e w1 ⟨⟨v1, rfl, hown⟩, hb1⟩
    have HO : Hid (w1.ownsRow w.heap.size 9 1 v1 l.length (ts l)) := hown
    clear hown
    go_wp2_with fail
    refine (hB v1 l _ (own_strs HO.out) (by omega)).mono ?_
    rintro e w2 ⟨rfl, hb2⟩
    rw [HBV.out]
    have HB2 : Hid (Below w.heap.size w w2) := hb1.trans (hb2.mono hb1.size)
    clear hb1 hb2 HO
    go_wp2_with fail
    refine (rbuild_any v l _ (HS.out.kept HB2.out) (by omega)).mono ?_
    rintro e w3 ⟨rfl, hb3⟩
    rw [HBV.out]
    have HB3 : Hid (Below w.heap.size w w3) := HB2.out.trans (hb3.mono HB2.out.size)
    clear hb3 HB2
    go_wp2_with fail
    refine (num_at _ _).mono ?_
    rintro e w4 ⟨rfl, rfl⟩
    cases ho : open_ d.data.toList with
    | none =>
      have HOP : Hid (open_ d.data.toList = none) := ho
      clear ho
      go_wp2_with fail
      refine (hO d _ hd).mono ?_
      rintro e x1 ⟨h1, hx1⟩
      rw [HOP.out] at h1
      obtain ⟨y1, rfl, hy1⟩ := h1
      have HX1 : Hid (Below w.heap.size w x1) := HB3.out.trans (hx1.mono HB3.out.size)
      obtain ⟨a1, cap1, rfl, _⟩ := hy1
      clear hx1
      go_wp2_with fail
      refine (ropen_any d _ hd).mono ?_
      rintro e x2 ⟨h2, hx2⟩
      rw [HOP.out] at h2
      cases h2
      have HX2 : Hid (Below w.heap.size w x2) := HX1.out.trans (hx2.mono HX1.out.size)
      clear hx2 HX1
      go_wp2_with (go_at_call 12; refine (num_at _ _).mono ?_; rintro e w' ⟨rfl, rfl⟩)
      go_ret
      exact ⟨rfl, HX2.out⟩
    | some L =>
      have HOP : Hid (open_ d.data.toList = some L) := ho
      have hL : L.length ≤ 1073741824 := by have := (open_good _ _ ho).2; simp at this; omega
      have HBV2 : Hid (built (build L) = .tuple #[.string d, .int .i64 0, .int .i64 0]) := by
        show _ = _
        rw [open_some _ _ ho, built, str_data]; rfl
      clear ho
      go_wp2_with fail
      refine (hO d _ hd).mono ?_
      rintro e x1 ⟨h1, hx1⟩
      rw [HOP.out] at h1
      obtain ⟨y1, rfl, hy1⟩ := h1
      have HX1 : Hid (Below w.heap.size w x1) := HB3.out.trans (hx1.mono HB3.out.size)
      have HY1 : Hid (Strs x1 y1 L) := own_strs hy1
      clear hx1 hy1
      go_wp2_with fail
      refine (ropen_any d _ hd).mono ?_
      rintro e x2 ⟨h2, hx2⟩
      rw [HOP.out] at h2
      obtain ⟨y2, rfl, _⟩ := h2
      have HX2 : Hid (Below w.heap.size w x2) := HX1.out.trans (hx2.mono HX1.out.size)
      have HY2 : Hid (Strs x2 y1 L) := HY1.out.kept hx2
      clear hx2 HX1 HY1
      go_wp2_with fail
      refine (hB y1 L _ HY2.out hL).mono ?_
      rintro e x3 ⟨rfl, hx3⟩
      rw [HBV2.out]
      have HX3 : Hid (Below w.heap.size w x3) := HX2.out.trans (hx3.mono HX2.out.size)
      clear hx3 HX2
      go_wp2_with (go_at_call 12; refine (num_at _ _).mono ?_; rintro e w' ⟨rfl, rfl⟩)
      go_ret
      exact ⟨by simp, HX3.out⟩
end Go.Proofs.Ytiinohajdibflaa
