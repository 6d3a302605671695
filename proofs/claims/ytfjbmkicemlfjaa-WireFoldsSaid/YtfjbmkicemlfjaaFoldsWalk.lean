import Derived.Test.YtfjbmkicemlfjaaRows
import Derived.Test.YtfjbmkicemlfjaaBits
import Derived.WalkKit
import Derived.ProofKit
import Derived.OpenShut
namespace Go.Proofs.Ytfjbmkicemlfjaa.wireFolds
open Go.ChangeShapes Go.WideShapes Go.ChangeAt Go.RowKit
theorem ret_int {k : IntKind} {a b : Int} (h : a = b) : Ending.returned (.int k a) = .returned (.int k b) := by rw [h]
theorem f1 (n : Int) (h1 : -9223372036854775808 ≤ n) (h2 : n ≤ 9223372036854775807) (h : (wrap64 (n * 2) / 2 != n) = true) : 0 = fold n := by
  unfold wrap64 at h; simp at h; unfold fold; rw [if_neg (by omega), if_neg (by omega)]
theorem f2 (n : Int) (h1 : -9223372036854775808 ≤ n) (h2 : n ≤ 9223372036854775807) (h : (wrap64 (n * 2) / 2 != n) = false) (h3 : n < 0) : bits .xor .i64 (-1) (wrap64 (n * 2)) = fold n := by
  unfold wrap64 at *; simp at h; rw [not64 _ (by omega) (by omega)]; unfold fold; rw [if_neg (by omega), if_pos (by omega)]; omega
theorem f3 (n : Int) (h1 : -9223372036854775808 ≤ n) (h2 : n ≤ 9223372036854775807) (h : (wrap64 (n * 2) / 2 != n) = false) (h3 : 0 ≤ n) : wrap64 (n * 2) = fold n := by
  unfold wrap64 at *; simp at h; unfold fold; rw [if_pos (by omega)]; omega
set_option maxHeartbeats 400000 in
theorem fold_any (n : Int) (w : World) (h1 : -9223372036854775808 ≤ n) (h2 : n ≤ 9223372036854775807) :
    Calls Try.prog 10 #[.int .i64 n] w fun e w' => e = .returned (.int .i64 (fold n)) ∧ w' = w := by
  go_enter Try.func10, Try.ntmps10
  go_wp2
  · go_ret; exact ⟨ret_int (f1 n h1 h2 ‹_›), rfl⟩
  · go_ret; exact ⟨ret_int (f2 n h1 h2 ‹_› ‹_›), rfl⟩
  · go_ret; exact ⟨ret_int (f3 n h1 h2 ‹_› ‹_›), rfl⟩
theorem u1 (n : Int) (h : n < 0) : 0 = unfold n := by unfold Go.Proofs.Ytfjbmkicemlfjaa.unfold; rw [if_pos h]
theorem u2 (n : Int) (h2 : n ≤ 9223372036854775807) (h3 : 0 ≤ n) (h : (bits .and .i64 n 1 == 1) = true) : bits .xor .i64 (-1) (n / 2) = unfold n := by
  rw [and1] at h; simp at h; rw [not64 _ (by omega) (by omega)]; unfold Go.Proofs.Ytfjbmkicemlfjaa.unfold; rw [if_neg (by omega), if_neg (by omega)]
theorem u3 (n : Int) (h3 : 0 ≤ n) (h : (bits .and .i64 n 1 == 1) = false) : n / 2 = unfold n := by
  rw [and1] at h; simp at h; unfold Go.Proofs.Ytfjbmkicemlfjaa.unfold; rw [if_neg (by omega), if_pos (by omega)]
set_option maxHeartbeats 400000 in
theorem unfold_any (n : Int) (w : World) (_h1 : -9223372036854775808 ≤ n) (h2 : n ≤ 9223372036854775807) :
    Calls Try.prog 11 #[.int .i64 n] w fun e w' => e = .returned (.int .i64 (unfold n)) ∧ w' = w := by
  go_enter Try.func11, Try.ntmps11
  go_wp2
  · go_ret; exact ⟨ret_int (u1 n ‹_›), rfl⟩
  · go_ret; exact ⟨ret_int (u2 n h2 ‹_› ‹_›), rfl⟩
  · go_ret; exact ⟨ret_int (u3 n ‹_› ‹_›), rfl⟩
theorem rf (n : Int) (h1 : -9223372036854775808 ≤ n) (h2 : n ≤ 9223372036854775807) (a : n < 0) (b : -4611686018427387904 ≤ n) : wrap64 (wrap64 (-2 * n) - 1) = fold n := by
  unfold wrap64 fold; rw [if_neg (by omega), if_pos (by omega)]; omega
set_option maxHeartbeats 400000 in
theorem rfold_any (n : Int) (w : World) (h1 : -9223372036854775808 ≤ n) (h2 : n ≤ 9223372036854775807) :
    Calls Try.prog 12 #[.int .i64 n] w fun e w' => e = .returned (.int .i64 (fold n)) ∧ w' = w := by
  go_enter Try.func12, Try.ntmps12
  go_wp2
  · go_ret; exact ⟨ret_int (by unfold fold; rw [if_pos (by omega)]), rfl⟩
  · go_ret; exact ⟨ret_int (by unfold fold; rw [if_neg (by omega), if_neg (by omega)]), rfl⟩
  · go_ret; exact ⟨ret_int (rf n h1 h2 ‹_› ‹_›), rfl⟩
  · go_ret; exact ⟨ret_int (by unfold fold; rw [if_neg (by omega), if_neg (by omega)]), rfl⟩
set_option maxHeartbeats 400000 in
theorem runfold_any (n : Int) (w : World) (h1 : -9223372036854775808 ≤ n) (h2 : n ≤ 9223372036854775807) :
    Calls Try.prog 13 #[.int .i64 n] w fun e w' => e = .returned (.int .i64 (unfold n)) ∧ w' = w := by
  go_enter Try.func13, Try.ntmps13
  go_wp2
  · go_ret; exact ⟨ret_int (u1 n ‹_›), rfl⟩
  all_goals
    have _p : 0 ≤ n := by assumption
    go_ret; refine ⟨ret_int ?_, rfl⟩
    unfold Go.Proofs.Ytfjbmkicemlfjaa.unfold; rw [if_neg (by omega)]
    simp_all
    try omega
set_option maxHeartbeats 400000 in
theorem walk (a0 : Int) (w0 : (Lit.int .i64 a0).wf = true) (w : World) :
    Calls Try.prog 4 #[.int .i64 a0] w fun e w' => e = .returned (.bool true) ∧ Grown w w' := by
  have hb := bounds_i64 w0
  obtain ⟨h1, h2⟩ := hb
  obtain ⟨f1, f2⟩ := fold_bd a0
  obtain ⟨u1, u2⟩ := unfold_bd a0 (by omega)
  have e1 : (fold a0 != fold a0) = false := by simp
  have e2 : (unfold a0 != unfold a0) = false := by simp
  have e3 : decide (fold a0 < 0) = false := by simpa using f1
  clear w0
  have hb1 : -4611686018427387904 ≤ a0 → a0 < 4611686018427387904 → (unfold (fold a0) == a0) = true := fun a b => by simp [back a0 a b]
  have hb2 : 0 ≤ a0 → (fold (unfold a0) == a0) = true := fun a => by simp [again a0 a h2]
  have hc : a0 < -4611686018427387904 ∨ (-4611686018427387904 ≤ a0 ∧ a0 < 4611686018427387904 ∧ a0 < 0 ∧ (unfold (fold a0) == a0) = true) ∨
      (-4611686018427387904 ≤ a0 ∧ a0 < 4611686018427387904 ∧ 0 ≤ a0 ∧ (unfold (fold a0) == a0) = true ∧ (fold (unfold a0) == a0) = true) ∨ (4611686018427387904 ≤ a0 ∧ (fold (unfold a0) == a0) = true) := by
    by_cases k1 : a0 < -4611686018427387904
    · exact Or.inl k1
    · by_cases k2 : a0 < 0
      · exact Or.inr (Or.inl ⟨by omega, by omega, k2, hb1 (by omega) (by omega)⟩)
      · by_cases k3 : a0 < 4611686018427387904
        · exact Or.inr (Or.inr (Or.inl ⟨by omega, k3, by omega, hb1 (by omega) (by omega), hb2 (by omega)⟩))
        · exact Or.inr (Or.inr (Or.inr ⟨by omega, hb2 (by omega)⟩))
  clear hb1 hb2
  rcases hc with hc | ⟨c1, c2, c3, c4⟩ | ⟨c1, c2, c3, c4, c5⟩ | ⟨c1, c2⟩
  all_goals
    go_enter Try.func4, Try.ntmps4
    go_wp2_with (first | (go_at_call 10; refine (fold_any _ _ (by omega) (by omega)).mono ?_; rintro e w' ⟨rfl, rfl⟩) | (go_at_call 11; refine (unfold_any _ _ (by omega) (by omega)).mono ?_; rintro e w' ⟨rfl, rfl⟩) | (go_at_call 12; refine (rfold_any _ _ (by omega) (by omega)).mono ?_; rintro e w' ⟨rfl, rfl⟩) | (go_at_call 13; refine (runfold_any _ _ (by omega) (by omega)).mono ?_; rintro e w' ⟨rfl, rfl⟩))
    go_ret
    exact ⟨rfl, Grown.refl _⟩
end Go.Proofs.Ytfjbmkicemlfjaa.wireFolds
