/-
  The program's Unvarint, walked.
-/
import Derived.Test.YtiinohajdibflaaVarint
namespace Go.Proofs.Ytiinohajdibflaa.wireVarints
open Go.ChangeShapes Go.WideShapes Go.ChangeAt Go.RowKit
set_option linter.unusedVariables false
theorem group (k acc : Nat) (c : UInt8) (hk : k ≤ 8) (h : acc < pw k) :
    bits .or .i64 (acc : Int) (wrap64 (wrap64 (bits .and .u8 (c.toNat : Int) 127) * 2 ^ (7 * k))) = ((acc + pw k * (c.toNat % 128) : Nat) : Int) := by
  have hc := c.toNat_lt
  have hp := pw_le k hk
  have b : pw k * (c.toNat % 128) ≤ pw k * 127 := Nat.mul_le_mul_left _ (by omega)
  have e1 : bits .and .u8 (c.toNat : Int) 127 = ((c.toNat % 128 : Nat) : Int) := by
    rw [u8_and _ _ (by omega) (by omega) (by decide) (by decide)]
    show ((c.toNat &&& 127 : Nat) : Int) = _
    rw [nat_mask7]
  have e2 : wrap64 ((c.toNat % 128 : Nat) : Int) = ((c.toNat % 128 : Nat) : Int) := by unfold wrap64; omega
  have e3 : ((c.toNat % 128 : Nat) : Int) * 2 ^ (7 * k) = ((pw k * (c.toNat % 128) : Nat) : Int) := by
    rw [pw_two]; push_cast; rw [Int.mul_comm]
  have e4 : wrap64 (((c.toNat % 128 : Nat) : Int) * 2 ^ (7 * k)) = ((c.toNat % 128 : Nat) : Int) * 2 ^ (7 * k) := by
    rw [e3]; unfold wrap64; omega
  rw [e1, e2, e4, or_group k acc c hk h]
theorem group0 (k acc : Nat) (hk : k ≤ 8) (h : acc < pw k) :
    bits .or .i64 (acc : Int) (wrap64 (wrap64 (bits .and .u8 0 127) * 2 ^ (7 * k))) = (acc : Int) := by
  have := group k acc 0 hk h
  simpa using this
theorem acc_next (acc k : Nat) (c : UInt8) (h : acc < pw k) : acc + pw k * (c.toNat % 128) < pw (k + 1) := by
  rw [pw_succ]; exact acc_lt acc _ _ h
/-- what Unvarint answers, at a place within the bytes -/
def three (a : Nat) : Option (Nat × Nat) → Value
  | none => .tuple #[.int .i64 0, .int .i64 0, .int .i64 4]
  | some (n, k) => .tuple #[.int .i64 n, .int .i64 ((a + k : Nat) : Int), .int .i64 0]
theorem ret3_none {a : Nat} {r : Option (Nat × Nat)} (h : r = none) : Ending.returned (.tuple #[.int .i64 0, .int .i64 0, .int .i64 4]) = .returned (three a r) := by rw [h]; rfl
theorem ret3_some {a : Nat} {r : Option (Nat × Nat)} {v1 v2 : Int} (n k : Nat) (h : r = some (n, k)) (h1 : v1 = n) (h2 : v2 = ((a + k : Nat) : Int)) :
    Ending.returned (.tuple #[.int .i64 v1, .int .i64 v2, .int .i64 0]) = .returned (three a r) := by rw [h, h1, h2]; rfl
set_option maxRecDepth 100000 in
set_option maxHeartbeats 1000000 in
theorem unvarint_same (s : ByteArray) (a : Nat) (w : World) (ha : a ≤ s.size) (hs : s.size ≤ 140737488355328) :
    Calls Try.prog 13 #[.string s, .int .i64 a] w fun e w' => e = .returned (three a (uv 0 0 (from_ s a))) ∧ w' = w := by
  have d0 : decide ((a : Int) < 0) = false := by simp
  have d1 : decide (s.size < a) = false := by simp; omega
  have d2 : decide ((s.size : Int) < (a : Int)) = false := by simp; omega
  go_enter Try.func13, Try.ntmps13
  go_wp2
  go_loopw [7, 8, 9] (fun n sh i wr => ∃ k acc : Nat, wr = w ∧ k ≤ 9 ∧ a + k ≤ s.size ∧ i = .int .i64 ((a + k : Nat) : Int) ∧ sh = .int .i64 (7 * (k : Int)) ∧ n = .int .i64 acc ∧ Hid (acc < pw k) ∧ Hid (uv 0 0 (from_ s a) = uv k acc (from_ s (a + k)))) (fun _ _ i _ => s.size - (intOf i).toNat)
  case atStart => exact ⟨0, 0, rfl, by omega, ha, rfl, rfl, rfl, (by show 0 < pw 0; decide), rfl⟩
  case round =>
    obtain ⟨k, acc, rfl, hk, hak, rfl, rfl, rfl, HA, HU⟩ := hrel
    by_cases hlt : a + k < s.size
    · by_cases hk9 : k < 9
      · have hc : (s[a + k].toNat : Int) ≤ 255 := by have := s[a + k].toNat_lt; omega
        go_wp2
        · have c0 : s[a + k].toNat = 0 := by assumption
          have k0 : 0 < k := by omega
          go_ret3
          exact ⟨ret3_none (by rw [HU.out, from_cons s _ hlt, uv_needless _ acc _ _ (by omega) c0 (by omega)]), rfl⟩
        · have c0 : s[a + k].toNat = 0 := by assumption
          go_ret3
          exact ⟨ret3_some _ _ (by rw [HU.out, from_cons s _ hlt, uv_last _ acc _ _ (by omega) (by omega) (by omega)]) (by rw [group0 k acc (by omega) HA.out, c0]; simp) (by omega), rfl⟩
        · have c0 : ¬ s[a + k].toNat = 0 := by assumption
          have c1 : (s[a + k].toNat : Int) < 128 := by assumption
          go_ret3
          exact ⟨ret3_some _ _ (by rw [HU.out, from_cons s _ hlt, uv_last _ acc _ _ (by omega) (by omega) (by omega)]) (by rw [group k acc _ (by omega) HA.out]) (by omega), rfl⟩
        · have c1 : 128 ≤ (s[a + k].toNat : Int) := by assumption
          have eu : uv 0 0 (from_ s a) = uv (k + 1) (acc + pw k * (s[a + k].toNat % 128)) (from_ s (a + (k + 1))) := by
            rw [HU.out, from_cons s _ hlt, uv_more _ acc _ _ (by omega) (by omega)]; rfl
          go_roundw
          case rel => exact ⟨k + 1, acc + pw k * (s[a + k].toNat % 128), trivial, by omega, by omega, by go_num, by go_num, by rw [group k acc _ (by omega) HA.out], acc_next acc k _ HA.out, eu⟩
          case measure => simp [intOf]; omega
      · obtain rfl : k = 9 := by omega
        have HUN : Hid (uv 0 0 (from_ s a) = none) := by show _ = _; rw [HU.out, uv_nine]
        go_wp2
        go_ret3
        exact ⟨ret3_none HUN.out, rfl⟩
    · have HUN : Hid (uv 0 0 (from_ s a) = none) := by show _ = _; rw [HU.out, from_end s _ (by omega), uv_nil]
      go_wp2
      go_ret3
      exact ⟨ret3_none HUN.out, rfl⟩
theorem unvarint_in (s : ByteArray) (a : Nat) (w : World) (ha : a ≤ s.size) (hs : s.size ≤ 140737488355328) :
    Calls Try.prog 13 #[.string s, .int .i64 a] w fun e w' => e = .returned (three a (uv 0 0 (from_ s a))) ∧ Below w.heap.size w w' :=
  (unvarint_same s a w ha hs).mono fun e w' h => ⟨h.1, by rw [h.2]; exact Below.refl _ _⟩
set_option maxRecDepth 100000 in
set_option maxHeartbeats 400000 in
theorem unvarint_out (s : ByteArray) (a : Int) (w : World) (ha : a < 0 ∨ s.size < a) (hs : s.size ≤ 140737488355328) :
    Calls Try.prog 13 #[.string s, .int .i64 a] w fun e w' => e = .returned (.tuple #[.int .i64 0, .int .i64 0, .int .i64 3]) ∧ Below w.heap.size w w' := by
  rcases ha with ha | ha
  all_goals
    go_enter Try.func13, Try.ntmps13
    go_wp2
    go_ret3
    exact ⟨rfl, Below.refl _ _⟩
end Go.Proofs.Ytiinohajdibflaa.wireVarints
