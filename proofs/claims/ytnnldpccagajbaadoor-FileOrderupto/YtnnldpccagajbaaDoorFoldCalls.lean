/-
  Fold of the program and of the document, walked.
-/
import Derived.Test.YtnnldpccagajbaaDoorBase
import Derived.Test.YtnnldpccagajbaaDoorBits
namespace Go.Proofs.YtnnldpccagajbaaDoor
open Go.ChangeShapes Go.WideShapes Go.ChangeAt Go.RowKit
set_option linter.unusedVariables false
namespace FoldCalls
theorem f1 (n : Int) (h1 : -9223372036854775808 ≤ n) (h2 : n ≤ 9223372036854775807) (h : (wrap64 (n * 2) / 2 != n) = true) : 0 = fold n := by
  unfold wrap64 at *; simp at h; unfold fold; rw [if_neg (by omega), if_neg (by omega)]
theorem f2 (n : Int) (h1 : -9223372036854775808 ≤ n) (h2 : n ≤ 9223372036854775807) (h : (wrap64 (n * 2) / 2 != n) = false) (h3 : n < 0) : bits .xor .i64 (-1) (wrap64 (n * 2)) = fold n := by
  rw [not64 _ (by unfold wrap64; omega) (by unfold wrap64; omega)]; unfold wrap64 at *; simp at h; unfold fold; rw [if_neg (by omega), if_pos (by omega)]; omega
theorem f3 (n : Int) (h1 : -9223372036854775808 ≤ n) (h2 : n ≤ 9223372036854775807) (h : (wrap64 (n * 2) / 2 != n) = false) (h3 : 0 ≤ n) : wrap64 (n * 2) = fold n := by
  unfold wrap64 at *; simp at h; unfold fold; rw [if_pos (by omega)]; omega
theorem rf (n : Int) (h1 : -9223372036854775808 ≤ n) (h2 : n ≤ 9223372036854775807) (a : n < 0) (b : -4611686018427387904 ≤ n) : wrap64 (wrap64 (-2 * n) - 1) = fold n := by
  unfold wrap64 fold; rw [if_neg (by omega), if_pos (by omega)]; omega
end FoldCalls
open FoldCalls in
set_option maxHeartbeats 400000 in
theorem pfold_any (n : Int) (w : World) (h1 : -9223372036854775808 ≤ n) (h2 : n ≤ 9223372036854775807) :
    Calls Tryd.prog 51 #[.int .i64 n] w fun e w' => e = .returned (.int .i64 (fold n)) ∧ w = w' := by
  go_enter Tryd.func51, Tryd.ntmps51
  go_wp2
  · go_ret; exact ⟨ret_int (f1 n h1 h2 ‹_›), rfl⟩
  · go_ret; exact ⟨ret_int (f2 n h1 h2 ‹_› ‹_›), rfl⟩
  · go_ret; exact ⟨ret_int (f3 n h1 h2 ‹_› ‹_›), rfl⟩
open FoldCalls in
set_option maxHeartbeats 400000 in
theorem rfold_at (n : Int) (w : World) (h1 : -9223372036854775808 ≤ n) (h2 : n ≤ 9223372036854775807) :
    Calls Tryd.prog 37 #[.int .i64 n] w fun e w' => e = .returned (.int .i64 (fold n)) ∧ w = w' := by
  go_enter Tryd.func37, Tryd.ntmps37
  go_wp2
  · go_ret; exact ⟨ret_int (by unfold fold; rw [if_pos (by omega)]), rfl⟩
  · go_ret; exact ⟨ret_int (by unfold fold; rw [if_neg (by omega), if_neg (by omega)]), rfl⟩
  · go_ret; exact ⟨ret_int (rf n h1 h2 ‹_› ‹_›), rfl⟩
  · go_ret; exact ⟨ret_int (by unfold fold; rw [if_neg (by omega), if_neg (by omega)]), rfl⟩
end Go.Proofs.YtnnldpccagajbaaDoor
