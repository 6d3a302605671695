import Derived.Test.YtoelacloghkooaaGreatDoorM40
/-
  SyntaxConstants' walk.
-/
namespace Go.Proofs.YtoelacloghkooaaGreatDoor
open Go.ChangeShapes Go.WideShapes Go.ChangeAt Go.RowKit
set_option linter.unusedVariables false
theorem query_long (l : List UInt8) (h : 20000 < l.length) : queryF l = .error (1, 0) := by unfold queryF; rw [if_pos h]
set_option maxRecDepth 100000 in
set_option maxHeartbeats 8000000 in
theorem consts_walk (s : ByteArray) (L T M : Addr) (w : World) (hE : Errs w L T M) (hB : ErrB w L T M) (hgt : gTop ≤ w.heap.size) (hs : s.size ≤ 1073741824) :
    Calls Tryz.prog 5 #[.string s] w fun e w' => e = .returned (.bool true) ∧ Below w.heap.size w w' := by
  have HE := hide hE
  have HB := hide hB
  have hl0 : s.data.toList.length = s.size := by simp
  have HCL := hide (constF_len s.data.toList)
  rw [hl0] at HCL
  obtain ⟨C, HC⟩ : ∃ C, Hid (str (constF s.data.toList) = C) := ⟨_, hide rfl⟩
  have hC : C.size ≤ 2147483650 := by rw [← HC.out, str_size]; have := HCL.out; omega
  have HC1 : Hid (∀ w, Calls Tryz.prog 14 #[.string s] w fun e w' => e = .returned (.string C) ∧ w.grownBy w' none) := by
    intro w
    have := pConstant_any s w hs
    rw [HC.out] at this
    exact this
  have HC2 : Hid (∀ w, Calls Tryz.prog 16 #[.string s] w fun e w' => e = .returned (.string C) ∧ w.grownBy w' none) := by
    intro w
    have := rconst_any s w hs
    rw [HC.out] at this
    exact this
  obtain ⟨Z, HZ⟩ : ∃ Z, Hid (({ data := #[112, 40] } : ByteArray) ++ C ++ ({ data := #[41, 46] } : ByteArray) = Z) := ⟨_, hide rfl⟩
  have HZD : Hid (Z.data.toList = [112, 40] ++ constF s.data.toList ++ [41, 46]) := by
    show _ = _
    rw [← HZ.out, ← HC.out]
    show (str [112, 40] ++ str (constF s.data.toList) ++ str [41, 46]).data.toList = _
    rw [str_app, str_app, data_str]
  have HCS : Hid (C.size = (constF s.data.toList).length) := by show _ = _; rw [← HC.out, str_size]
  have HQ : Hid (∀ w, w.grownBy w none → Errs w L T M → ErrB w L T M → gTop ≤ w.heap.size → Calls Tryz.prog 15 #[.string (({ data := #[112, 40] } : ByteArray) ++ C ++ ({ data := #[41, 46] } : ByteArray))] w fun en w' => PartsQ w.heap.size (queryF ([112, 40] ++ constF s.data.toList ++ [41, 46])) en w' ∧ w.grownBy w' none) := by
    intro w _ h1 h2 h3
    have := pQuery_any Z L T M w h1 h2 h3
    rw [HZD.out, ← HZ.out] at this
    exact this
  have HLL : Hid (([112, 40] ++ constF s.data.toList ++ [41, 46]).length = C.size + 4) := by show _ = _; rw [HCS.out]; simp
  clear hE hB hl0
  by_cases hbig : 200 < s.size
  · have HRES : Hid (∃ x : Nat, queryF ([112, 40] ++ constF s.data.toList ++ [41, 46]) = .error (1, x) ∧ (x = 2 ∨ (x = 0 ∧ 20000 < C.size + 4))) := by
      by_cases hlong : 20000 < C.size + 4
      · exact ⟨0, query_long _ (by rw [HLL.out]; exact hlong), Or.inr ⟨rfl, hlong⟩⟩
      · refine ⟨2, ?_, Or.inl rfl⟩
        rw [query_const _ (by rw [HLL.out]; omega), if_pos (by simpa using hbig)]
    obtain ⟨x, hres, hx⟩ := HRES.out
    rw [hres] at HQ
    have HQ2 : Hid (∀ w, w.grownBy w none → Errs w L T M → ErrB w L T M → gTop ≤ w.heap.size → Calls Tryz.prog 15 #[.string (({ data := #[112, 40] } : ByteArray) ++ C ++ ({ data := #[41, 46] } : ByteArray))] w fun en w' => en = .returned (.tuple #[.slice none 0 0, .int .i64 1, .int .i64 (x : Nat)]) ∧ w.grownBy w' none) := HQ.out
    clear HQ HRES hres
    go_enter Tryz.func5, Tryz.ntmps5
    go_wp2_with fail
    refine (HC1.out _).mono ?_
    rintro e w1 ⟨rfl, hg⟩
    have HG1 := hide hg
    have hz1 : gTop ≤ w1.heap.size := Nat.le_trans hgt hg.size
    clear hg
    go_wp2_with fail
    refine (HQ2.out w1 (fr_refl _ _) (HE.out.fresh HG1.out) (HB.out.fresh HG1.out) hz1).mono ?_
    rintro e w2 ⟨rfl, hg⟩
    have HG2 := hide (fr_both HG1.out hg)
    clear hg HQ2
    go_wp2_with fail
    refine (HC2.out _).mono ?_
    rintro e w3 ⟨rfl, hg⟩
    have HG3 := hide (fr_both HG2.out hg)
    clear hg
    go_wp2_with fail
    refine (num_at 1 _).mono ?_
    rintro e w4 ⟨rfl, rfl⟩
    rcases hx with hx | ⟨hx, hlong⟩
    · subst hx
      go_wp2
      go_ret
      exact ⟨rfl, below_fresh HG3.out⟩
    · subst hx
      go_wp2
      go_ret
      exact ⟨ret_bool (by simp; omega), below_fresh HG3.out⟩
  · have hsm : s.size ≤ 200 := by omega
    have hcs : C.size ≤ 402 := by rw [HCS.out]; have := HCL.out; omega
    have HRES : Hid (queryF ([112, 40] ++ constF s.data.toList ++ [41, 46]) = .ok [⟨0, ⟨[112], [⟨false, s.data.toList, 2⟩], 0⟩, noTerm, noTerm⟩]) := by
      show _ = _
      rw [query_const _ (by rw [HLL.out]; omega), if_neg (by simpa using hbig)]
    rw [HRES.out] at HQ
    have HQ2 : Hid (∀ w, w.grownBy w none → Errs w L T M → ErrB w L T M → gTop ≤ w.heap.size → Calls Tryz.prog 15 #[.string (({ data := #[112, 40] } : ByteArray) ++ C ++ ({ data := #[41, 46] } : ByteArray))] w fun en w' => (∃ v vs, en = .returned (.tuple #[v, .int .i64 0, .int .i64 0]) ∧ PartsAt 44 46 w.heap.size w' v [⟨0, ⟨[112], [⟨false, s.data.toList, 2⟩], 0⟩, noTerm, noTerm⟩] vs) ∧ w.grownBy w' none) := HQ.out
    clear HQ HRES hbig
    go_enter Tryz.func5, Tryz.ntmps5
    go_wp2_with fail
    refine (HC1.out _).mono ?_
    rintro e w1 ⟨rfl, hg⟩
    have HG1 := hide hg
    have hz1 : gTop ≤ w1.heap.size := Nat.le_trans hgt hg.size
    clear hg
    go_wp2_with fail
    refine (HQ2.out w1 (fr_refl _ _) (HE.out.fresh HG1.out) (HB.out.fresh HG1.out) hz1).mono ?_
    rintro e w2 ⟨⟨v, vs, rfl, hpa⟩, hg⟩
    have HG2 := hide (fr_both HG1.out hg)
    have HPA := hide hpa
    obtain ⟨va, vc, hv⟩ := own_form hpa.own
    subst hv
    clear hg HQ2 hpa
    go_wp2_with fail
    refine (HC2.out _).mono ?_
    rintro e w3 ⟨rfl, hg⟩
    have HG3 := hide (fr_both HG2.out hg)
    have hp3 := HPA.out.kept hg (fun g e => by cases e)
    clear hg HPA
    obtain ⟨u, hu⟩ : ∃ u, vs = [u] := by
      have := hp3.len
      match vs, this with
      | [u], _ => exact ⟨u, rfl⟩
    subst hu
    rcases own_parts hp3 with ⟨_, h0⟩ | ⟨g, cap, hv, -, -, hc, -⟩
    · cases h0
    cases hv
    have harg := hp3.args 0 _ u rfl rfl
    obtain ⟨ua, uc, huv⟩ := own_form harg
    subst huv
    have a2 := hc 0 _ _ rfl rfl 2 _ rfl
    rcases own_terms harg with ⟨_, h0⟩ | ⟨g2, cap2, hv2, -, -, hc2⟩
    · cases h0
    cases hv2
    obtain ⟨b0, b1, -⟩ := hc2 0 (by simp)
    have a2 : w3.cell? ⟨g, 2, none⟩ = some (.slice (some ⟨g2, 0, none⟩) 1 uc) := a2
    have b0 : w3.cell? ⟨g2, 0, none⟩ = some (.bool false) := b0
    have b1 : w3.cell? ⟨g2, 1, none⟩ = some (.string s) := by
      have e1 : str s.data.toList = s := str_data s
      have h : w3.cell? ⟨g2, 0 * 3 + 1, none⟩ = some (.string (str s.data.toList)) := b1
      rw [e1] at h
      exact h
    clear hc hc2 harg hp3
    simp only
    go_wp2_with fail
    refine (num_at 0 _).mono ?_
    rintro e w4 ⟨rfl, rfl⟩
    go_wp2
    go_ret
    exact ⟨rfl, below_fresh HG3.out⟩
end Go.Proofs.YtoelacloghkooaaGreatDoor
