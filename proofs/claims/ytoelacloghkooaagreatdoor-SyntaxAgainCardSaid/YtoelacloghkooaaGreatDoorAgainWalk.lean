import Derived.Test.YtoelacloghkooaaGreatDoorM40
/-
  SyntaxAgain's walk.
-/
namespace Go.Proofs.YtoelacloghkooaaGreatDoor
open Go.ChangeShapes Go.WideShapes Go.ChangeAt Go.RowKit
set_option linter.unusedVariables false
theorem sameT_of {t u : PTerm} (h : nT t = nT u) : SameT false t u := by
  unfold nT at h
  injection h with h1 h2
  exact ⟨h1, h2, fun h => by cases h⟩
theorem map_at {α β : Type} {f : α → β} {xs ys : List α} (h : xs.map f = ys.map f) (i : Nat) (x y : α) (hx : xs[i]? = some x) (hy : ys[i]? = some y) : f x = f y := by
  have h1 : (xs.map f)[i]? = some (f x) := by rw [List.getElem?_map, hx]; rfl
  rw [h, List.getElem?_map, hy] at h1
  simpa using h1.symm
theorem sameA_of {a b : PAtom} (h : nA a = nA b) : SameA false a b := by
  unfold nA at h
  injection h with h1 h2
  exact ⟨h1, fun h => (by cases h), by simpa using congrArg List.length h2, fun i t u ht hu => sameT_of (map_at h2 i t u ht hu)⟩
theorem sameP_of {p q : PPart} (h : nP p = nP q) : SameP false p q := by
  unfold nP at h
  injection h with h1 h2 h3 h4
  exact ⟨h1, sameA_of h2, sameT_of h3, sameT_of h4⟩
theorem sameR_of {r q : PRule} (h : nR r = nR q) : SameR false r q := by
  unfold nR at h
  injection h with h1 h2
  exact ⟨sameA_of h1, ⟨by simpa using congrArg List.length h2, fun i p q hp hq => sameP_of (map_at h2 i p q hp hq)⟩⟩
theorem sameRs_of {rs qs : List PRule} (h : rs.map nR = qs.map nR) : SameRs false rs qs :=
  ⟨by simpa using congrArg List.length h, fun i r q hr hq => sameR_of (map_at h i r q hr hq)⟩
set_option maxRecDepth 100000 in
set_option maxHeartbeats 8000000 in
theorem again_walk (s : ByteArray) (L T M : Addr) (w : World) (hE : Errs w L T M) (hB : ErrB w L T M) (hgt : gTop ≤ w.heap.size) :
    Calls Tryz.prog 4 #[.string s] w fun e w' => e = .returned (.bool true) ∧ Below w.heap.size w w' := by
  have HE := hide hE
  have HB := hide hB
  have HQ1 := hide (print_at s L T M w hE hB hgt)
  have HRQ := hide (readRules_at s)
  obtain ⟨Q, HQ⟩ : ∃ Q, Hid (parseF s.data.toList = Q) := ⟨_, hide rfl⟩
  have HPF : Hid (printF s.data.toList = printR Q) := by show _ = _; rw [printF_is, HQ.out]
  rw [HPF.out] at HQ1
  rw [HQ.out] at HRQ
  clear hE hB
  cases Q with
  | error er =>
    obtain ⟨ec, x⟩ := er
    have hne : (((ec : Nat) : Int) != 0) = true := by
      rw [bne_iff_ne]
      rcases parse_code _ _ _ HQ.out with h | h | h <;> omega
    have HQ2 : Hid (Calls Tryz.prog 8 #[.string s] w fun en w' => en = .returned (.tuple #[.string { data := #[] }, .int .i64 (ec : Nat), .int .i64 (x : Nat)]) ∧ w.grownBy w' none) := HQ1.out
    have HRQ2 : Hid (∀ w1, Calls Tryz.prog 11 #[.string s] w1 fun en w' => en = .returned (.tuple #[.slice none 0 0, .int .i64 (ec : Nat), .int .i64 (x : Nat)]) ∧ w1.grownBy w' none) := HRQ.out
    clear HQ1 HRQ
    go_enter Tryz.func4, Tryz.ntmps4
    go_wp2_with fail
    refine HQ2.out.mono ?_
    rintro e w1 ⟨rfl, hg⟩
    have HG1 := hide hg
    clear hg
    go_wp2_with fail
    refine (HRQ2.out w1).mono ?_
    rintro e w2 ⟨rfl, hg⟩
    have HG2 := hide (fr_both HG1.out hg)
    clear hg
    go_wp2_with fail
    refine (num_at _ _).mono ?_
    rintro e w3 ⟨rfl, rfl⟩
    go_wp2
    go_ret
    exact ⟨rfl, below_fresh HG2.out⟩
  | ok rs =>
    have hwf := parseF_wf _ _ HQ.out
    have h200 := hwf.1
    have HWF := hide hwf.2
    have HTL : Hid ((rulesTextF rs).length ≤ 8502000) := by have := rulesTake_len rs HWF.out h200 rs.length; rw [List.take_length] at this; exact this
    clear hwf
    obtain ⟨X, HX⟩ : ∃ X, Hid (str (rulesTextF rs) = X) := ⟨_, hide rfl⟩
    have hX : X.size ≤ 8502000 := by rw [← HX.out, str_size]; exact HTL.out
    have HXD : Hid (X.data.toList = rulesTextF rs) := by show _ = _; rw [← HX.out, data_str]
    have HQ2 : Hid (Calls Tryz.prog 8 #[.string s] w fun en w' => en = .returned (.tuple #[.string X, .int .i64 0, .int .i64 0]) ∧ w.grownBy w' none) := by
      have h := HQ1.out
      have e1 : sOf (printR (.ok rs)) = X := HX.out
      rw [e1] at h
      exact h
    have HRQ2 : Hid (∀ w1, Calls Tryz.prog 11 #[.string s] w1 fun en w' => (∃ v hs bs, en = .returned (.tuple #[v, .int .i64 0, .int .i64 0]) ∧ RulesAt 101 103 64 w1.heap.size w' v rs hs bs) ∧ w1.grownBy w' none) := HRQ.out
    clear HQ1 HRQ
    go_enter Tryz.func4, Tryz.ntmps4
    go_wp2_with fail
    refine HQ2.out.mono ?_
    rintro e w1 ⟨rfl, hg⟩
    have HG1 := hide hg
    clear hg HQ2
    go_wp2_with fail
    refine (HRQ2.out w1).mono ?_
    rintro e w2 ⟨⟨v, hs, bs2, rfl, hra⟩, hg⟩
    have HRA := hide hra
    obtain ⟨va, vc, hv⟩ := own_form hra.own
    subst hv
    have HG2 := hide (fr_both HG1.out hg)
    have hz2 : gTop ≤ w2.heap.size := Nat.le_trans hgt HG2.out.size
    have HE2 := hide (HE.out.fresh HG2.out)
    have HB2 := hide (HB.out.fresh HG2.out)
    clear hg hra HRQ2
    have HP2 := hide (print_at X L T M w2 HE2.out HB2.out hz2)
    rw [HXD.out] at HP2
    go_wp2_with fail
    refine (num_at _ _).mono ?_
    rintro e w3 ⟨rfl, rfl⟩
    by_cases hlong : 20000 < X.size
    · have HPL : Hid (parseF (rulesTextF rs) = .error (1, 0)) := by show _ = _; rw [parseF_end, if_pos (by rw [← HXD.out]; simpa using hlong)]
      have HP3 : Hid (Calls Tryz.prog 8 #[.string X] w2 fun en w' => en = .returned (.tuple #[.string { data := #[] }, .int .i64 1, .int .i64 0]) ∧ w2.grownBy w' none) := by
        have h := HP2.out
        rw [printF_is, HPL.out] at h
        exact h
      clear HP2
      go_wp2_with fail
      refine HP3.out.mono ?_
      rintro e w4 ⟨rfl, hg⟩
      have HG4 := hide (fr_both HG2.out hg)
      have hz4 : gTop ≤ w4.heap.size := Nat.le_trans hgt HG4.out.size
      have HQ5 := hide (pParse_any X L T M w4 (HE.out.fresh HG4.out) (HB.out.fresh HG4.out) hz4)
      rw [HXD.out, HPL.out] at HQ5
      have HQ6 : Hid (Calls Tryz.prog 12 #[.string X] w4 fun en w' => en = .returned (.tuple #[.slice none 0 0, .int .i64 1, .int .i64 0]) ∧ w4.grownBy w' none) := HQ5.out
      clear hg HP3 HQ5
      go_wp2_with fail
      refine HQ6.out.mono ?_
      rintro e w5 ⟨rfl, hg⟩
      have HG5 := hide (fr_both HG4.out hg)
      clear hg HQ6
      go_wp2_with fail
      refine (num_at 1 _).mono ?_
      rintro e w6 ⟨rfl, rfl⟩
      go_wp2_with fail
      refine (num_at 1 _).mono ?_
      rintro e w7 ⟨rfl, rfl⟩
      go_wp2
      go_ret
      exact ⟨rfl, below_fresh HG5.out⟩
    · obtain ⟨rs', hsame, hpa⟩ := parse_again rs h200 HWF.out (by rw [← HXD.out]; simpa using hlong)
      have HPL := hide hpa
      have HSM := hide hsame
      have HTS : Hid (rulesTextF rs' = rulesTextF rs) := rulesText_same hsame
      have hwf' := parseF_wf _ _ hpa
      have HLS := hide (parseF_len _ _ hpa)
      have hshort : X.size ≤ 20000 := by omega
      clear hsame hpa hwf' hlong
      have HP3 : Hid (Calls Tryz.prog 8 #[.string X] w2 fun en w' => en = .returned (.tuple #[.string X, .int .i64 0, .int .i64 0]) ∧ w2.grownBy w' none) := by
        have h := HP2.out
        rw [printF_is, HPL.out] at h
        have e1 : sOf (printR (.ok rs')) = X := by show str (rulesTextF rs') = X; rw [HTS.out, HX.out]
        rw [e1] at h
        exact h
      clear HP2
      go_wp2_with fail
      refine HP3.out.mono ?_
      rintro e w4 ⟨rfl, hg⟩
      have HG4 := hide (fr_both HG2.out hg)
      have hg24 := hg
      have hz4 : gTop ≤ w4.heap.size := Nat.le_trans hgt HG4.out.size
      have HQ5 := hide (pParse_any X L T M w4 (HE.out.fresh HG4.out) (HB.out.fresh HG4.out) hz4)
      rw [HXD.out, HPL.out] at HQ5
      have HQ6 : Hid (Calls Tryz.prog 12 #[.string X] w4 fun en w' => (∃ v hs bs, en = .returned (.tuple #[v, .int .i64 0, .int .i64 0]) ∧ RulesAt 44 46 55 w4.heap.size w' v rs' hs bs) ∧ w4.grownBy w' none) := HQ5.out
      have HG24 := hide hg24
      clear hg HP3 HQ5 hg24
      go_wp2_with fail
      refine HQ6.out.mono ?_
      rintro e w5 ⟨⟨v5, hs5, bs5, rfl, hra5⟩, hg⟩
      have HG5 := hide (fr_both HG4.out hg)
      have HRA5 := hide hra5
      obtain ⟨vb, vd, hv⟩ := own_form hra5.own
      subst hv
      have HRB5 := hide (HRA.out.kept (fr_both HG24.out hg) (fun g e => by cases e))
      clear hg HQ6 hra5
      have hn200 := HLS.out.1
      go_wp2_with fail
      refine (sameRules_any false rs' rs _ _ hs5 bs5 hs bs2 w4.heap.size w1.heap.size _ (sameRs_of HSM.out) HRA5.out HRB5.out (by omega) HLS.out.2).mono ?_
      rintro e w6 ⟨rfl, hg6⟩
      have HG6 := hide (fr_both HG5.out hg6)
      clear hg6
      go_wp2_with fail
      refine (num_at 0 _).mono ?_
      rintro e w7 ⟨rfl, rfl⟩
      go_wp2_with fail
      refine (num_at 0 _).mono ?_
      rintro e w8 ⟨rfl, rfl⟩
      go_wp2
      go_ret
      exact ⟨rfl, below_fresh HG6.out⟩
end Go.Proofs.YtoelacloghkooaaGreatDoor
