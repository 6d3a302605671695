/-
  A1, in plain words of lists and numbers: what Varint answers, what Unvarint reads. Nothing of the program.
-/
import Derived.Laws.BitsAllLaws
import Derived.Laws.Bits128
namespace Go.Proofs.YtnnldpccagajbaaDoor

/-- 128 to the k-th -/
def pw (k : Nat) : Nat := 128 ^ k
theorem pw_zero : pw 0 = 1 := rfl
theorem pw_succ (k : Nat) : pw (k + 1) = pw k * 128 := Nat.pow_succ 128 k
theorem pw_pos (k : Nat) : 1 ≤ pw k := Nat.pow_pos (by decide)
theorem pw_le (k : Nat) (h : k ≤ 8) : pw k ≤ 72057594037927936 := by
  have : pw k ≤ pw 8 := Nat.pow_le_pow_right (by decide) h
  exact Nat.le_trans this (by decide)

/-- Varint's bytes -/
def vb (n : Nat) : List UInt8 := if n < 128 then [UInt8.ofNat n] else UInt8.ofNat (n % 128 + 128) :: vb (n / 128)
  termination_by n
  decreasing_by omega

theorem vb_small (n : Nat) (h : n < 128) : vb n = [UInt8.ofNat n] := by rw [vb, if_pos h]
theorem vb_great (n : Nat) (h : 128 ≤ n) : vb n = UInt8.ofNat (n % 128 + 128) :: vb (n / 128) := by rw [vb, if_neg (by omega)]

theorem vb_length (k n : Nat) (h : n < pw (k + 1)) : (vb n).length ≤ k + 1 := by
  induction k generalizing n with
  | zero => rw [vb_small n (by rw [pw_succ, pw_zero] at h; omega)]; simp
  | succ k ih =>
    by_cases hn : n < 128
    · rw [vb_small n hn]; simp
    · rw [vb_great n (by omega)]
      have := ih (n / 128) (by rw [pw_succ] at h; omega)
      simp only [List.length_cons]; omega
theorem vb_length9 (n : Nat) (h : n < 9223372036854775808) : (vb n).length ≤ 9 :=
  vb_length 8 n (by show n < 128 ^ 9; omega)

/-- Unvarint's reading: k bytes are behind it, which have made acc -/
def uv (k acc : Nat) : List UInt8 → Option (Nat × Nat)
  | [] => none
  | c :: t => if 9 ≤ k then none else if c.toNat < 128 then (if c.toNat = 0 ∧ 0 < k then none else some (acc + pw k * (c.toNat % 128), k + 1)) else uv (k + 1) (acc + pw k * (c.toNat % 128)) t

theorem uv_nil (k acc : Nat) : uv k acc [] = none := rfl
theorem uv_nine (acc : Nat) (l : List UInt8) : uv 9 acc l = none := by cases l <;> simp [uv]
theorem uv_more (k acc : Nat) (c : UInt8) (t : List UInt8) (hk : k < 9) (h : 128 ≤ c.toNat) : uv k acc (c :: t) = uv (k + 1) (acc + pw k * (c.toNat % 128)) t := by
  rw [uv, if_neg (by omega), if_neg (by omega)]
theorem uv_last (k acc : Nat) (c : UInt8) (t : List UInt8) (hk : k < 9) (h : c.toNat < 128) (hz : ¬ (c.toNat = 0 ∧ 0 < k)) : uv k acc (c :: t) = some (acc + pw k * (c.toNat % 128), k + 1) := by
  rw [uv, if_neg (by omega), if_pos h, if_neg hz]
theorem uv_needless (k acc : Nat) (c : UInt8) (t : List UInt8) (hk : k < 9) (h : c.toNat = 0) (hz : 0 < k) : uv k acc (c :: t) = none := by
  rw [uv, if_neg (by omega), if_pos (by omega), if_pos ⟨h, hz⟩]

theorem uv_vb (j k n acc : Nat) (rest : List UInt8) (hj : j + k = 8) (h : n < pw (j + 1)) (hn : k = 0 ∨ 0 < n) :
    uv k acc (vb n ++ rest) = some (acc + pw k * n, k + (vb n).length) := by
  induction j generalizing k n acc with
  | zero =>
    rw [pw_succ, pw_zero] at h
    have hb : (UInt8.ofNat n).toNat = n := by simp; omega
    rw [vb_small n (by omega)]
    show uv k acc (UInt8.ofNat n :: rest) = _
    rw [uv_last k acc _ rest (by omega) (by omega) (by omega), hb, Nat.mod_eq_of_lt (by omega)]
    simp
  | succ j ih =>
    by_cases hs : n < 128
    · have hb : (UInt8.ofNat n).toNat = n := by simp; omega
      rw [vb_small n hs]
      show uv k acc (UInt8.ofNat n :: rest) = _
      rw [uv_last k acc _ rest (by omega) (by omega) (by omega), hb, Nat.mod_eq_of_lt (by omega)]
      simp
    · have hb : (UInt8.ofNat (n % 128 + 128)).toNat = n % 128 + 128 := by simp; omega
      rw [vb_great n (by omega), List.cons_append, uv_more k acc _ _ (by omega) (by omega), hb]
      rw [ih (k + 1) (n / 128) _ (by omega) (by rw [pw_succ] at h; omega) (by omega)]
      rw [List.length_cons, pw_succ]
      have e : (n % 128 + 128) % 128 = n % 128 := by omega
      have e2 : acc + pw k * ((n % 128 + 128) % 128) + pw k * 128 * (n / 128) = acc + pw k * n := by
        rw [e, Nat.mul_assoc, Nat.add_assoc, ← Nat.mul_add]; congr 2; omega
      rw [e2]
      congr 2; omega

theorem uv_back (n : Nat) (h : n < 9223372036854775808) (rest : List UInt8) : uv 0 0 (vb n ++ rest) = some (n, (vb n).length) := by
  rw [uv_vb 8 0 n 0 rest rfl (by show n < 128 ^ 9; omega) (Or.inl rfl)]
  simp [pw_zero]

theorem pw_two (k : Nat) : pw k = 2 ^ (7 * k) := by unfold pw; rw [show (128 : Nat) = 2 ^ 7 from rfl, Nat.pow_mul]
theorem wraps63 (n : Int) (h0 : 0 ≤ n) (h1 : n < 2 ^ 63) : IntKind.i64.wrap n = n := by rw [IntKind.wrap_i64]; omega
/-- seven bits more -/
theorem or_group (k acc : Nat) (c : UInt8) (hk : k ≤ 8) (h : acc < pw k) :
    bits .or .i64 (acc : Int) (((c.toNat % 128 : Nat) : Int) * 2 ^ (7 * k)) = ((acc + pw k * (c.toNat % 128) : Nat) : Int) := by
  have hp := pw_le k hk
  have b : pw k * (c.toNat % 128) ≤ pw k * 127 := Nat.mul_le_mul_left _ (by omega)
  have e : ((c.toNat % 128 : Nat) : Int) * 2 ^ (7 * k) = ((pw k * (c.toNat % 128) : Nat) : Int) := by
    rw [pw_two]; push_cast; rw [Int.mul_comm]
  rw [e, (bits_nat .i64 63 (by decide) wraps63 acc (pw k * (c.toNat % 128)) (by omega) (by omega)).2]
  rw [Nat.or_comm, nat_join (7 * k) _ acc (by rw [← pw_two]; exact Nat.mul_mod_right _ _) (by rw [← pw_two]; exact h), Nat.add_comm]

/-- the bytes of a string from a place on -/
def from_ (s : ByteArray) (k : Nat) : List UInt8 := s.data.toList.drop k
theorem from_end (s : ByteArray) (k : Nat) (h : s.size ≤ k) : from_ s k = [] := by
  unfold from_; exact List.drop_of_length_le (by simpa using h)
theorem from_cons (s : ByteArray) (k : Nat) (h : k < s.size) : from_ s k = s[k] :: from_ s (k + 1) := by
  unfold from_; rw [List.drop_eq_getElem_cons (by simpa using h)]; rfl
theorem from_app (a b : ByteArray) : from_ (a ++ b) a.size = b.data.toList := by
  unfold from_; rw [ByteArray.data_append, Array.toList_append, List.drop_left' (by simp)]

end Go.Proofs.YtnnldpccagajbaaDoor
