import Derived.Test.YtgllfcoafgphbaaGreatDoorM33
/-
  The law CheckChecks, walked.
-/
namespace Go.Proofs.YtgllfcoafgphbaaGreatDoor
open Go.ChangeShapes Go.WideShapes Go.ChangeAt Go.RowKit Go.Hands
set_option linter.unusedVariables false
theorem numC_any (n : Int) (w : World) : Calls Tryz.prog 10 #[.int .i64 n] w fun e w' => e = .returned (.int .i64 n) ∧ w' = w := by
  go_enter Tryz.func10, Tryz.ntmps10
  go_wp2
  go_ret
  exact ⟨rfl, rfl⟩
theorem rulesR_is {tT tP tR : TypeId} {base : Nat} {r : Except PErr (List PRule)} {en : Ending} {w : World} (h : RulesR tT tP tR base r en w) : ∃ a n c, en = .returned (.tuple #[.slice a n c, .int .i64 (errOf r : Nat), .int .i64 (placeE r : Nat)]) := by
  cases r with
  | error er => obtain ⟨e, x⟩ := er; exact ⟨none, 0, 0, h⟩
  | ok rs => obtain ⟨v, hs, bs, h1, h2⟩ := h; obtain ⟨a, c, e⟩ := own_form h2.own; exact ⟨a, rs.length, c, by rw [← e]; exact h1⟩
set_option maxRecDepth 100000 in
set_option maxHeartbeats 4000000 in
theorem checks_walk (s : ByteArray) (L T M : Addr) (w : World) (hE : Errs w L T M) (hB : ErrB w L T M) (hgt : gTop ≤ w.heap.size) :
    Calls Tryz.prog 3 #[.string s] w fun en w' => en = .returned (.bool true) ∧ Below w.heap.size w w' := by
  have HC := hide (check_any s L T M w hE hB hgt)
  clear hE hB
  obtain ⟨R, HT⟩ : ∃ R, Hid (checkF s.data.toList = R) := ⟨_, (rfl : _ = _)⟩
  rw [HT.out] at HC
  have HD := hide (fun w1 => rchecked_any s w1)
  rw [HT.out] at HD
  clear HT
  go_enter Tryz.func3, Tryz.ntmps3
  go_wp2_with fail
  refine HC.out.mono ?_
  rintro e w1 ⟨rfl, hb1⟩
  have HB1 := hide hb1
  clear hb1 HC
  go_wp2_with fail
  refine (HD.out w1).mono ?_
  rintro e w2 ⟨hq, hg⟩
  obtain ⟨ra, rn, rc, rfl⟩ := rulesR_is hq
  have HB2 : Hid (Below w.heap.size w w2) := HB1.out.trans ((below_ofNone hg).mono HB1.out.size)
  clear hq hg HD
  generalize errOf R = e0 at *
  generalize placeE R = x0 at *
  go_wp2_with fail
  refine (numC_any _ _).mono ?_
  rintro e w3 ⟨rfl, rfl⟩
  go_wp2
  go_ret
  exact ⟨by simp, HB2.out⟩
end Go.Proofs.YtgllfcoafgphbaaGreatDoor
