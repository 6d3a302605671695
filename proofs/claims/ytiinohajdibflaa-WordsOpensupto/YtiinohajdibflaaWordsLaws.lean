/-
  Chapter 2's laws, out of contracts for the program's calls.
-/
import Derived.Test.YtiinohajdibflaaRefOpen
namespace Go.Proofs.Ytiinohajdibflaa
open Go.ChangeShapes Go.WideShapes Go.ChangeAt Go.RowKit
set_option linter.unusedVariables false
/-- what the program's Open leaves -/
def OpenedP (base : Nat) (r : Option (List (List UInt8))) (e : Ending) (w' : World) : Prop :=
  match r with
  | none => ∃ v, e = .returned (.tuple #[v, .int .i64 4]) ∧ Strs w' v []
  | some l => ∃ v, e = .returned (.tuple #[v, .int .i64 0]) ∧ w'.ownsRow base 9 1 v l.length (ts l)
/-- the program's calls answer the document's -/
def BuildSaid : Prop := ∀ (v : Value) (l : List (List UInt8)) (w : World), Strs w v l → l.length ≤ 1073741824 → Calls Try.prog 21 #[v] w fun e w' => e = .returned (built (build l)) ∧ Below w.heap.size w w'
def OpenSaid : Prop := ∀ (d : ByteArray) (w : World), d.size ≤ 1073741824 → Calls Try.prog 24 #[.string d] w fun e w' => OpenedP w.heap.size (open_ d.data.toList) e w' ∧ Below w.heap.size w w'
def FindSaid : Prop := ∀ (v : Value) (l : List (List UInt8)) (s : ByteArray) (w : World), Strs w v l → l.length ≤ 140737488355328 → Calls Try.prog 26 #[v, .string s] w fun e w' => e = .returned (.int .i64 (find l s.data.toList)) ∧ Below w.heap.size w w'
theorem drawn_below {w w' : World} (h : ∃ n, w' = w.drewN n) (B : Nat) : Below B w w' := by obtain ⟨n, rfl⟩ := h; exact below_drewN (Below.refl _ _) n
set_option maxRecDepth 100000 in
set_option maxHeartbeats 400000 in
theorem num_at (n : Int) (w : World) : Calls Try.prog 12 #[.int .i64 n] w fun e w' => e = .returned (.int .i64 n) ∧ w = w' := by
  go_enter Try.func12, Try.ntmps12
  go_wp2
  go_ret
  exact ⟨rfl, rfl⟩
set_option maxRecDepth 100000 in
set_option maxHeartbeats 1000000 in
theorem finds_walk (hF : FindSaid) (v : Value) (l : List (List UInt8)) (s : ByteArray) (w : World) (h : Strs w v l) (hl : l.length * 16 ≤ 140737488355328) :
    Calls Try.prog 8 #[v, .string s] w fun e w' => e = .returned (.bool true) ∧ Below w.heap.size w w' := by
  have HS : Hid (Strs w v l) := h
  clear h
  go_enter Try.func8, Try.ntmps8
  go_wp2_with fail
  refine (copied_any v l _ HS.out hl).mono ?_
  rintro e w1 ⟨⟨v1, rfl, hown⟩, hb1⟩
  have HO : Hid (w1.ownsRow w.heap.size 9 1 v1 l.length (ts l)) := hown
  clear hown
  go_wp2_with fail
  refine (hF v1 l s _ (own_strs HO.out) (by omega)).mono ?_
  rintro e w2 ⟨rfl, hb2⟩
  have HB2 : Hid (Below w.heap.size w w2) := hb1.trans (hb2.mono hb1.size)
  have HO2 : Hid (w2.ownsRow w.heap.size 9 1 v1 l.length (ts l)) := own_kept HO.out hb2
  clear hb1 hb2 HO
  go_wp2_with fail
  refine (texts_any v1 v l l _ (own_strs HO2.out) (HS.out.kept HB2.out) (by omega) (by omega)).mono ?_
  rintro e w3 ⟨rfl, hd3⟩
  obtain ⟨n3, rfl⟩ := hd3
  have hll : (l == l) = true := by simp
  go_wp2_with fail
  refine (rfind_any v l s _ ((HS.out.kept HB2.out).drewN _) (by omega)).mono ?_
  rintro e w4 ⟨rfl, rfl⟩
  go_wp2
  go_ret
  exact ⟨by simp, below_drewN HB2.out _⟩
set_option maxRecDepth 100000 in
set_option maxHeartbeats 1000000 in
theorem builds_walk (hB : BuildSaid) (v : Value) (l : List (List UInt8)) (w : World) (h : Strs w v l) (hl : l.length ≤ 1073741824) :
    Calls Try.prog 5 #[v] w fun e w' => e = .returned (.bool true) ∧ Below w.heap.size w w' := by
  have HS : Hid (Strs w v l) := h
  clear h
  obtain ⟨rt, re, ri, HR⟩ : ∃ rt re ri, Hid (build l = (rt, re, ri)) := ⟨_, _, _, rfl⟩
  have hbv : built (build l) = .tuple #[.string (str rt), .int .i64 (re : Nat), .int .i64 (ri : Nat)] := by rw [HR.out]; rfl
  have HBV : Hid (built (build l) = .tuple #[.string (str rt), .int .i64 (re : Nat), .int .i64 (ri : Nat)]) := hbv
  clear hbv
  have hll : (l == l) = true := by simp
  go_enter Try.func5, Try.ntmps5
  go_wp2_with fail
  refine (copied_any v l _ HS.out (by omega)).mono ?_
  rintro e w1 ⟨⟨v1, rfl, hown⟩, hb1⟩
  have HO : Hid (w1.ownsRow w.heap.size 9 1 v1 l.length (ts l)) := hown
  clear hown
  go_wp2_with fail
  refine (hB v1 l _ (own_strs HO.out) hl).mono ?_
  rintro e w2 ⟨rfl, hb2⟩
  rw [HBV.out]
  have HB2 : Hid (Below w.heap.size w w2) := hb1.trans (hb2.mono hb1.size)
  have HO2 : Hid (w2.ownsRow w.heap.size 9 1 v1 l.length (ts l)) := own_kept HO.out hb2
  clear hb1 hb2 HO
  go_wp2_with fail
  refine (rbuild_any v l _ (HS.out.kept HB2.out) hl).mono ?_
  rintro e w3 ⟨rfl, hb3⟩
  rw [HBV.out]
  have HB3 : Hid (Below w.heap.size w w3) := HB2.out.trans (hb3.mono HB2.out.size)
  have HO3 : Hid (w3.ownsRow w.heap.size 9 1 v1 l.length (ts l)) := own_kept HO2.out hb3
  clear hb3 HB2 HO2
  go_wp2_with fail
  refine (texts_any v1 v l l _ (own_strs HO3.out) (HS.out.kept HB3.out) (by omega) (by omega)).mono ?_
  rintro e w4 ⟨rfl, hd4⟩
  obtain ⟨n4, rfl⟩ := hd4
  go_wp2_with (go_at_call 12; refine (num_at _ _).mono ?_; rintro e w' ⟨rfl, rfl⟩)
  go_ret
  exact ⟨by simp, below_drewN HB3.out _⟩
theorem own_lie {w : World} {base : Nat} {v : Value} {l : List (List UInt8)} (h : w.ownsRow base 9 1 v l.length (ts l)) :
    (v = .slice none 0 0 ∧ l = []) ∨ ∃ g cap, v = .slice (some ⟨g, 0, none⟩) l.length cap ∧ base ≤ g ∧ g < w.heap.size ∧ (∀ i, i < l.length → ∃ x, w.cell? ⟨g, i, none⟩ = some (.string x)) ∧ ∀ i, w.frozen? ⟨g, i, none⟩ = false := by
  rcases h.2 with ⟨rfl, h0⟩ | ⟨g, cap, cur, rfl, hb, hg, hn, hc, hs, ht⟩
  · exact Or.inl ⟨rfl, List.eq_nil_of_length_eq_zero h0⟩
  · refine Or.inr ⟨g, cap, rfl, hb, ?_, fun i hi => ⟨str l[i], ?_⟩, fun i => ?_⟩
    · exact (h.lt g rfl).2
    · have := h.cells (g := g) rfl i _ (ts_at (get_at hi))
      rw [show (⟨g, 0, none⟩ : Addr).add i = ⟨g, i, none⟩ from by unfold Addr.add; split <;> simp_all] at this
      exact this
    · unfold World.frozen?
      simp only [hg]
      simp
set_option maxRecDepth 100000 in
set_option maxHeartbeats 2000000 in
theorem opens_walk (hO : OpenSaid) (hF : FindSaid) (d s : ByteArray) (w : World) (hd : d.size ≤ 1073741824) :
    Calls Try.prog 6 #[.string d, .string s] w fun e w' => e = .returned (.bool true) ∧ Below w.heap.size w w' := by
  cases ho : open_ d.data.toList with
  | none =>
    have HOP : Hid (open_ d.data.toList = none) := ho
    clear ho
    go_enter Try.func6, Try.ntmps6
    go_wp2_with fail
    refine (hO d _ hd).mono ?_
    rintro e w1 ⟨h1, hb1⟩
    rw [HOP.out] at h1
    obtain ⟨v1, rfl, hs1⟩ := h1
    have HS1 : Hid (Strs w1 v1 []) := hs1
    clear hs1
    go_wp2_with fail
    refine (ropen_any d _ hd).mono ?_
    rintro e w2 ⟨h2, hb2⟩
    rw [HOP.out] at h2
    cases h2
    have HB2 : Hid (Below w.heap.size w w2) := hb1.trans (hb2.mono hb1.size)
    have HS2 : Hid (Strs w2 v1 []) := HS1.out.kept hb2
    clear hb1 hb2 HS1
    go_wp2_with fail
    refine (hF v1 [] s _ HS2.out (by decide)).mono ?_
    rintro e w3 ⟨rfl, hb3⟩
    have HB3 : Hid (Below w.heap.size w w3) := HB2.out.trans (hb3.mono HB2.out.size)
    have HS3 : Hid (Strs w3 v1 []) := HS2.out.kept hb3
    have HM : ∀ wx : World, Strs wx (.slice none 0 0) [] := fun wx => ⟨none, 0, rfl, Or.inl ⟨rfl, fun _ => rfl⟩⟩
    have HMH : Hid (∀ wx : World, Strs wx (.slice none 0 0) []) := HM
    clear hb3 HB2 HS2 HM
    go_wp2_with fail
    refine (texts_any v1 (.slice none 0 0) [] [] _ HS3.out (HMH.out _) (by decide) (by decide)).mono ?_
    rintro e w4 ⟨rfl, hd4⟩
    obtain ⟨n4, rfl⟩ := hd4
    go_wp2_with fail
    refine (num_at _ _).mono ?_
    rintro e w5 ⟨rfl, rfl⟩
    go_wp2_with fail
    refine (rfind_any (.slice none 0 0) [] s _ (HMH.out _) (by decide)).mono ?_
    rintro e w6 ⟨rfl, rfl⟩
    obtain ⟨a1, cap1, rfl, hx1⟩ := HS3.out
    go_wp2
    refine wp_loop_rounds 1 ?_
    rw [rounds_succ]
    go_wp2_with fail
    refine (hO d _ hd).mono ?_
    rintro e w7 ⟨h7, hb7⟩
    rw [HOP.out] at h7
    obtain ⟨v7, rfl, hs7⟩ := h7
    have HS7 : Hid (Strs w7 v7 []) := hs7
    have HB7 : Hid (Below w.heap.size w w7) := (below_drewN HB3.out n4).trans (hb7.mono HB3.out.size)
    clear hs7 hb7
    go_wp2_with fail
    refine (texts_any v7 (.slice none 0 0) [] [] _ HS7.out (HMH.out _) (by decide) (by decide)).mono ?_
    rintro e w8 ⟨rfl, hd8⟩
    obtain ⟨n8, rfl⟩ := hd8
    go_wp2
    go_ret
    exact ⟨rfl, below_drewN HB7.out _⟩
  | some L =>
    have HOP : Hid (open_ d.data.toList = some L) := ho
    have hL : L.length ≤ 1073741824 := by have := (open_good _ _ ho).2; simp at this; omega
    have hLL : (L == L) = true := by simp
    clear ho
    go_enter Try.func6, Try.ntmps6
    go_wp2_with fail
    refine (hO d _ hd).mono ?_
    rintro e w1 ⟨h1, hb1⟩
    rw [HOP.out] at h1
    obtain ⟨v1, rfl, hs1⟩ := h1
    have HS1 : Hid (w1.ownsRow w.heap.size 9 1 v1 L.length (ts L)) := hs1
    clear hs1
    go_wp2_with fail
    refine (ropen_any d _ hd).mono ?_
    rintro e w2 ⟨h2, hb2⟩
    rw [HOP.out] at h2
    obtain ⟨v2, rfl, hs2⟩ := h2
    have HM2 : Hid (w2.ownsRow w1.heap.size 9 1 v2 L.length (ts L)) := hs2
    have HB2 : Hid (Below w.heap.size w w2) := hb1.trans (hb2.mono hb1.size)
    have HS2 : Hid (w2.ownsRow w.heap.size 9 1 v1 L.length (ts L)) := own_kept HS1.out hb2
    have HLT : Hid (∀ g, v1.ownBlock = some g → g < w1.heap.size) := fun g hg => (HS1.out.lt g hg).2
    have HSZ : Hid (w.heap.size ≤ w1.heap.size) := hb1.size
    clear hb1 hb2 HS1 hs2
    go_wp2_with fail
    refine (hF v1 L s _ (own_strs HS2.out) (by omega)).mono ?_
    rintro e w3 ⟨rfl, hb3⟩
    have HB3 : Hid (Below w.heap.size w w3) := HB2.out.trans (hb3.mono HB2.out.size)
    have HS3 : Hid (w3.ownsRow w.heap.size 9 1 v1 L.length (ts L)) := own_kept HS2.out hb3
    have HM3 : Hid (w3.ownsRow w1.heap.size 9 1 v2 L.length (ts L)) := own_kept HM2.out hb3
    clear hb3 HB2 HS2 HM2
    go_wp2_with fail
    refine (texts_any v1 v2 L L _ (own_strs HS3.out) (own_strs HM3.out) (by omega) (by omega)).mono ?_
    rintro e w4 ⟨rfl, hd4⟩
    obtain ⟨n4, rfl⟩ := hd4
    go_wp2_with fail
    refine (num_at _ _).mono ?_
    rintro e w5 ⟨rfl, rfl⟩
    go_wp2_with fail
    refine (rfind_any v2 L s _ ((own_strs HM3.out).drewN _) (by omega)).mono ?_
    rintro e w6 ⟨rfl, rfl⟩
    have hfe : (find L s.data.toList != find L s.data.toList) = false := by simp
    rcases own_lie HS3.out with ⟨rfl, hl0⟩ | ⟨g, cap, rfl, hbg, hgs, hcl, hfz⟩
    · subst hl0
      go_wp2
      refine wp_loop_rounds 1 ?_
      rw [rounds_succ]
      go_wp2_with fail
      refine (hO d _ hd).mono ?_
      rintro e w7 ⟨h7, hb7⟩
      rw [HOP.out] at h7
      obtain ⟨v7, rfl, hs7⟩ := h7
      have HS7 : Hid (w7.ownsRow (w3.drewN n4).heap.size 9 1 v7 ([] : List (List UInt8)).length (ts [])) := hs7
      have HB7 : Hid (Below w.heap.size w w7) := (below_drewN HB3.out n4).trans (hb7.mono HB3.out.size)
      have HM7 : Hid (w7.ownsRow w1.heap.size 9 1 v2 ([] : List (List UInt8)).length (ts [])) := own_kept (own_draws HM3.out n4) hb7
      clear hs7 hb7
      go_wp2_with fail
      refine (texts_any v7 v2 [] [] _ (own_strs HS7.out) (own_strs HM7.out) (by decide) (by decide)).mono ?_
      rintro e w8 ⟨rfl, hd8⟩
      obtain ⟨n8, rfl⟩ := hd8
      go_wp2
      go_ret
      exact ⟨rfl, below_drewN HB7.out _⟩
    · have hg1 : g < w1.heap.size := HLT.out g rfl
      have HCL : Hid (∀ i, i < L.length → ∃ x, w3.cell? ⟨g, i, none⟩ = some (.string x)) := hcl
      have HFZ : Hid (∀ i, w3.frozen? ⟨g, i, none⟩ = false) := hfz
      clear hcl hfz
      go_wp2
      go_loopw [12] (fun iv wr => ∃ j : Nat, j ≤ L.length ∧ iv = .int .i64 j ∧ Hid (∀ i, i < L.length → ∃ x, wr.cell? ⟨g, i, none⟩ = some (.string x)) ∧ Hid (∀ i, wr.frozen? ⟨g, i, none⟩ = false) ∧ Hid (wr.ownsRow w1.heap.size 9 1 v2 L.length (ts L)) ∧ Hid (Below w.heap.size w wr)) (fun iv _ => L.length - (intOf iv).toNat)
      case atStart => exact ⟨0, by omega, rfl, HCL, HFZ, own_draws HM3.out _, below_drewN HB3.out _⟩
      case round =>
        obtain ⟨j, hj, rfl, HC, HZ, HM, HB⟩ := hrel
        by_cases hlt : j < L.length
        · obtain ⟨x, hx⟩ := HC.out j hlt
          have hz := HZ.out j
          go_wp2
          go_roundw
          case rel =>
            refine ⟨j + 1, by omega, by go_num, ?_, ?_, ?_, ?_⟩
            · intro i hi
              by_cases hij : i = j
              · subst hij; exact ⟨_, World.cell?_setCell_same _ _ _ hx⟩
              · obtain ⟨y, hy⟩ := HC.out i hi
                exact ⟨y, by rw [World.cell?_setCell_other _ _ _ _ (by simp only [ne_eq, Addr.mk.injEq, true_and, and_true]; exact fun e => hij e.symm)]; exact hy⟩
            · intro i; rw [World.frozen?_setCell]; exact HZ.out i
            · exact ownsRow_setCell_below HM.out (by exact hg1) _
            · exact HB.out.setCell (p := ⟨g, j, none⟩) hbg _
          case measure => simp [intOf]; omega
        · go_wp2_with fail
          refine (hO d _ hd).mono ?_
          rintro e w7 ⟨h7, hb7⟩
          rw [HOP.out] at h7
          obtain ⟨v7, rfl, hs7⟩ := h7
          have HS7 : Hid (w7.ownsRow wr.heap.size 9 1 v7 L.length (ts L)) := hs7
          have HB7 : Hid (Below w.heap.size w w7) := HB.out.trans (hb7.mono HB.out.size)
          have HM7 : Hid (w7.ownsRow w1.heap.size 9 1 v2 L.length (ts L)) := own_kept HM.out hb7
          clear hs7 hb7
          go_wp2_with fail
          refine (texts_any v7 v2 L L _ (own_strs HS7.out) (own_strs HM7.out) (by omega) (by omega)).mono ?_
          rintro e w8 ⟨rfl, hd8⟩
          obtain ⟨n8, rfl⟩ := hd8
          go_wp2
          go_ret
          exact ⟨rfl, below_drewN HB7.out _⟩
end Go.Proofs.Ytiinohajdibflaa
