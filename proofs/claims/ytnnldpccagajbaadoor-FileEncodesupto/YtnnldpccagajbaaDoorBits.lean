/-
  Plain facts on bits and numbers, for the walks of this seat. Nothing of the program.
-/
import Derived.Laws.BitsAllLaws
import Derived.Laws.Bits128
namespace Go.Proofs.YtnnldpccagajbaaDoor

theorem not64 (x : Int) (h1 : -9223372036854775808 ≤ x) (h2 : x ≤ 9223372036854775807) : bits .xor .i64 (-1) x = -1 - x := by
  show IntKind.i64.wrap ((BitVec.ofInt 64 (-1) ^^^ BitVec.ofInt 64 x).toNat : Int) = _
  have e1 : BitVec.ofInt 64 (-1) = BitVec.allOnes 64 := by decide
  rw [e1, BitVec.allOnes_xor, BitVec.toNat_not, BitVec.toNat_ofInt, IntKind.wrap_i64]
  omega

theorem and1 (n : Int) : bits .and .i64 n 1 = n % 2 := by
  have h1 : (BitVec.ofInt 64 1).toNat = 2 ^ 1 - 1 := by decide
  have key : (BitVec.ofInt 64 n &&& BitVec.ofInt 64 1).toNat = (n % ((2 ^ 64 : Nat) : Int)).toNat % 2 ^ 1 := by
    rw [BitVec.toNat_and, BitVec.toNat_ofInt, h1, Nat.and_two_pow_sub_one_eq_mod]
  show IntKind.i64.wrap ((BitVec.ofInt 64 n &&& BitVec.ofInt 64 1).toNat : Nat) = n % 2
  rw [key, IntKind.wrap_i64]
  omega

/-- A2: what Fold answers -/
def fold (n : Int) : Int := if 0 ≤ n ∧ n < 4611686018427387904 then 2 * n else if n < 0 ∧ -4611686018427387904 ≤ n then -2 * n - 1 else 0
/-- A2: what Unfold answers -/
def unfold (n : Int) : Int := if n < 0 then 0 else if n % 2 = 0 then n / 2 else -1 - n / 2

theorem fold_bd (n : Int) : 0 ≤ fold n ∧ fold n ≤ 9223372036854775807 := by
  unfold fold; split
  · omega
  · split <;> omega
theorem unfold_bd (n : Int) (h : n ≤ 9223372036854775807) : -4611686018427387904 ≤ unfold n ∧ unfold n ≤ 4611686018427387903 := by
  unfold Go.Proofs.YtnnldpccagajbaaDoor.unfold; split
  · omega
  · split <;> omega
theorem back (n : Int) (h1 : -4611686018427387904 ≤ n) (h2 : n < 4611686018427387904) : unfold (fold n) = n := by
  unfold fold; split
  · unfold Go.Proofs.YtnnldpccagajbaaDoor.unfold; rw [if_neg (by omega), if_pos (by omega)]; omega
  · rw [if_pos (by omega)]; unfold Go.Proofs.YtnnldpccagajbaaDoor.unfold; rw [if_neg (by omega), if_neg (by omega)]; omega
theorem again (n : Int) (h1 : 0 ≤ n) (h2 : n ≤ 9223372036854775807) : fold (unfold n) = n := by
  unfold Go.Proofs.YtnnldpccagajbaaDoor.unfold; rw [if_neg (by omega)]; split
  · unfold fold; rw [if_pos (by omega)]; omega
  · unfold fold; rw [if_neg (by omega), if_pos (by omega)]; omega

end Go.Proofs.YtnnldpccagajbaaDoor
