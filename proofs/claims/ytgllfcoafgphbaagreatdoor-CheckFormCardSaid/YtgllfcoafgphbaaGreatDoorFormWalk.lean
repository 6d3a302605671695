import Derived.Test.YtgllfcoafgphbaaGreatDoorChecksWalk
import Derived.Test.YtgllfcoafgphbaaGreatDoorRfPrint
/-
  The law CheckForm, walked.
-/
namespace Go.Proofs.YtgllfcoafgphbaaGreatDoor
open Go.ChangeShapes Go.WideShapes Go.ChangeAt Go.RowKit Go.Hands
set_option linter.unusedVariables false
set_option maxRecDepth 100000 in
set_option maxHeartbeats 4000000 in
theorem form_walk (s : ByteArray) (L T M : Addr) (w : World) (hE : Errs w L T M) (hB : ErrB w L T M) (hgt : gTop ≤ w.heap.size) :
    Calls Tryz.prog 7 #[.string s] w fun en w' => en = .returned (.bool true) ∧ Below w.heap.size w w' := by
  have HC := hide (check_any s L T M w hE hB hgt)
  have HEE := hide hE
  have HEB := hide hB
  clear hE hB
  obtain ⟨R, HT⟩ : ∃ R, Hid (checkF s.data.toList = R) := ⟨_, (rfl : _ = _)⟩
  rw [HT.out] at HC
  have HD := hide (fun w1 => rchecked_any s w1)
  rw [HT.out] at HD
  have HP := hide (fun w1 => rprint_any s w1)
  obtain ⟨e0, HE0⟩ : ∃ e0, Hid (errOf R = e0) := ⟨_, (rfl : _ = _)⟩
  rw [HE0.out] at HC
  go_enter Tryz.func7, Tryz.ntmps7
  go_wp2_with fail
  refine HC.out.mono ?_
  rintro e w1 ⟨rfl, hb1⟩
  have HB1 := hide hb1
  clear hb1 HC
  generalize placeE R = x0 at *
  go_wp2_with fail
  refine (HD.out w1).mono ?_
  rintro e w2 ⟨hq, hg⟩
  obtain ⟨ra, rn, rc, rfl⟩ := rulesR_is hq
  rw [HE0.out]
  have HB2 : Hid (Below w.heap.size w w2) := HB1.out.trans ((below_ofNone hg).mono HB1.out.size)
  clear hq hg HD
  generalize placeE R = x1 at *
  go_wp2_with fail
  refine (HP.out w2).mono ?_
  rintro e w3 ⟨hq, hg⟩
  have HB3 : Hid (Below w.heap.size w w3) := HB2.out.trans ((below_ofNone hg).mono HB2.out.size)
  clear hg HP
  rw [printF_is] at hq
  cases hpq : parseF s.data.toList with
  | error er =>
    obtain ⟨ec, x⟩ := er
    rw [hpq] at hq
    have hq' : e = .returned (.tuple #[.string { data := #[] }, .int .i64 (ec : Nat), .int .i64 (x : Nat)]) := hq
    subst hq'
    have hne : (((ec : Nat) : Int) != 0) = true := by
      rw [bne_iff_ne]
      have := parse_err0 s ec x hpq
      omega
    clear hq
    go_wp2_with fail
    refine (numC_any _ _).mono ?_
    rintro e w4 ⟨rfl, rfl⟩
    go_wp2_with fail
    refine (numC_any _ _).mono ?_
    rintro e w4 ⟨rfl, rfl⟩
    go_wp2
    go_ret
    exact ⟨by simp, HB3.out⟩
  | ok rs =>
    rw [hpq] at hq
    have hq' : e = .returned (.tuple #[.string (str (rulesTextF rs)), .int .i64 0, .int .i64 0]) := hq
    subst hq'
    clear hq
    obtain ⟨h200, hwf⟩ := parseF_wf _ _ hpq
    have hlen : (str (rulesTextF rs)).size ≤ 9000000 := by
      have h := rulesTake_len rs hwf h200 rs.length
      rw [List.take_length] at h
      rw [str_size]; omega
    by_cases hbig : 20000 < (str (rulesTextF rs)).size
    · obtain ⟨X, HX⟩ : ∃ X, Hid (str (rulesTextF rs) = X) := ⟨_, (rfl : _ = _)⟩
      rw [HX.out] at hbig hlen ⊢
      go_wp2_with fail
      refine (numC_any _ _).mono ?_
      rintro e w4 ⟨rfl, rfl⟩
      go_wp2_with fail
      refine (numC_any _ _).mono ?_
      rintro e w4 ⟨rfl, rfl⟩
      go_wp2
      go_ret
      exact ⟨by simp, HB3.out⟩
    · have HFF : Hid (errOf (checkF (str (rulesTextF rs)).data.toList) = e0) := by
        show _ = _
        rw [data_str, form_follow hpq (by rw [str_size] at hbig; omega), HT.out, HE0.out]
      have hE3 := HEE.out.below HB3.out hgt
      have hB3 := HEB.out.below HB3.out (Nat.le_refl _)
      have hg3 : gTop ≤ w3.heap.size := Nat.le_trans hgt HB3.out.size
      have HC2 := hide (check_any (str (rulesTextF rs)) L T M w3 hE3 hB3 hg3)
      rw [HFF.out] at HC2
      obtain ⟨X, HX⟩ : ∃ X, Hid (str (rulesTextF rs) = X) := ⟨_, (rfl : _ = _)⟩
      rw [HX.out] at hbig hlen HC2 ⊢
      clear hE3 hB3 hg3 HFF
      go_wp2_with fail
      refine (numC_any _ _).mono ?_
      rintro e w4 ⟨rfl, rfl⟩
      go_wp2_with fail
      refine HC2.out.mono ?_
      rintro e w5 ⟨rfl, hb5⟩
      have HB5 : Hid (Below w.heap.size w w5) := HB3.out.trans (hb5.mono HB3.out.size)
      clear hb5 HC2
      go_wp2_with fail
      refine (numC_any _ _).mono ?_
      rintro e w6 ⟨rfl, rfl⟩
      go_wp2
      go_ret
      exact ⟨by simp, HB5.out⟩
end Go.Proofs.YtgllfcoafgphbaaGreatDoor
