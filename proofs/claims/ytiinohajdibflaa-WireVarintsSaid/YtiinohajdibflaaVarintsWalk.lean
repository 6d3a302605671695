import Derived.Test.YtiinohajdibflaaUnvar
namespace Go.Proofs.Ytiinohajdibflaa.wireVarints
open Go.ChangeShapes Go.WideShapes Go.ChangeAt Go.RowKit
set_option linter.unusedVariables false
set_option maxRecDepth 100000 in
set_option maxHeartbeats 400000 in
theorem num_any (n : Int) (w : World) : Calls Try.prog 12 #[.int .i64 n] w fun e w' => e = .returned (.int .i64 n) ∧ w' = w := by
  go_enter Try.func12, Try.ntmps12
  go_wp2
  go_ret
  exact ⟨rfl, rfl⟩
theorem from_one (l : List UInt8) (d : ByteArray) : from_ (str [120] ++ str l ++ d) 1 = l ++ d.data.toList := by
  have : str [120] ++ str l ++ d = str (120 :: (l ++ d.data.toList)) := by
    conv => lhs; rw [← str_data d]
    rw [str_app, str_app]; simp
  rw [this]; simp [from_, str]
theorem size_one (l : List UInt8) (d : ByteArray) : (str [120] ++ str l ++ d).size = 1 + l.length + d.size := by
  rw [ByteArray.size_append, ByteArray.size_append, str_size, str_size]; simp
/-- the text between a byte and others, read from its place -/
theorem unvarint_back (n : Nat) (d : ByteArray) (w : World) (hn : n < 9223372036854775808) (hd : d.size ≤ 140737488351232) :
    Calls Try.prog 13 #[.string (str [120] ++ str (vb n) ++ d), .int .i64 1] w fun e w' => e = .returned (.tuple #[.int .i64 n, .int .i64 ((1 + (vb n).length : Nat) : Int), .int .i64 0]) ∧ Below w.heap.size w w' := by
  have h9 := vb_length9 n hn
  refine (unvarint_in (str [120] ++ str (vb n) ++ d) 1 w (by rw [size_one]; omega) (by rw [size_one]; omega)).mono ?_
  rintro e w' ⟨rfl, hb⟩
  refine ⟨?_, hb⟩
  rw [from_one, uv_back n hn]
  rfl
theorem unvarint_text (n : Nat) (d : ByteArray) (w : World) (hn : n < 9223372036854775808) (hd : d.size ≤ 140737488351232) :
    Calls Try.prog 13 #[.string ({ data := #[120] } ++ str (vb n) ++ d), .int .i64 1] w fun e w' => e = .returned (.tuple #[.int .i64 n, .int .i64 (1 + ((str (vb n)).size : Int)), .int .i64 0]) ∧ Below w.heap.size w w' := by
  refine (unvarint_back n d w hn hd).mono ?_
  rintro e w' ⟨rfl, hb⟩
  exact ⟨by rw [str_size]; push_cast; rfl, hb⟩
theorem unvarint_none (d : ByteArray) (a : Nat) (w : World) (ha : a ≤ d.size) (hd : d.size ≤ 140737488351232) (hu : Hid (uv 0 0 (from_ d a) = none)) :
    Calls Try.prog 13 #[.string d, .int .i64 a] w fun e w' => e = .returned (.tuple #[.int .i64 0, .int .i64 0, .int .i64 4]) ∧ Below w.heap.size w w' := by
  refine (unvarint_in d a w ha (by omega)).mono ?_
  rintro e w' ⟨rfl, hb⟩
  exact ⟨by rw [hu.out]; rfl, hb⟩
theorem unvarint_some (d : ByteArray) (a m k : Nat) (w : World) (ha : a ≤ d.size) (hd : d.size ≤ 140737488351232) (hu : Hid (uv 0 0 (from_ d a) = some (m, k))) :
    Calls Try.prog 13 #[.string d, .int .i64 a] w fun e w' => e = .returned (.tuple #[.int .i64 m, .int .i64 ((a + k : Nat) : Int), .int .i64 0]) ∧ Below w.heap.size w w' := by
  refine (unvarint_in d a w ha (by omega)).mono ?_
  rintro e w' ⟨rfl, hb⟩
  exact ⟨by rw [hu.out]; rfl, hb⟩
theorem runvarint_none (d : ByteArray) (a : Nat) (w : World) (ha : a ≤ d.size) (hd : d.size ≤ 140737488351232) (hu : Hid (uv 0 0 (from_ d a) = none)) :
    Calls Try.prog 15 #[.string d, .int .i64 a] w fun e w' => e = .returned (.tuple #[.int .i64 0, .int .i64 (-1)]) ∧ w = w' := by
  refine (runvarint_any d a w (by omega) ha).mono ?_
  rintro e w' ⟨rfl, hb⟩
  exact ⟨by rw [hu.out]; rfl, hb.symm⟩
theorem runvarint_some (d : ByteArray) (a m k : Nat) (w : World) (ha : a ≤ d.size) (hd : d.size ≤ 140737488351232) (hu : Hid (uv 0 0 (from_ d a) = some (m, k))) :
    Calls Try.prog 15 #[.string d, .int .i64 a] w fun e w' => e = .returned (.tuple #[.int .i64 m, .int .i64 ((a + k : Nat) : Int)]) ∧ w = w' := by
  refine (runvarint_any d a w (by omega) ha).mono ?_
  rintro e w' ⟨rfl, hb⟩
  exact ⟨by rw [hu.out]; rfl, hb.symm⟩
theorem num_at (n : Int) (w : World) : Calls Try.prog 12 #[.int .i64 n] w fun e w' => e = .returned (.int .i64 n) ∧ w = w' := by
  refine (num_any n w).mono ?_
  rintro e w' ⟨rfl, hb⟩
  exact ⟨rfl, hb.symm⟩
theorem nostr : (str []).toList.isEmpty = true := by kernel_rfl
set_option maxRecDepth 100000 in
set_option maxHeartbeats 400000 in
theorem walk_neg_lo (n : Int) (d : ByteArray) (a : Int) (w : World) (hn : n < 0) (hd : d.size ≤ 140737488351232) (ha : a < 0) :
    Calls Try.prog 3 #[.int .i64 n, .string d, .int .i64 a] w fun e w' => e = .returned (.bool true) ∧ Below w.heap.size w w' := by
  have hne := nostr
  go_enter Try.func3, Try.ntmps3
  go_wp2_with fail
  refine (varint_neg n _ hn).mono ?_
  rintro e w1 ⟨rfl, rfl⟩
  go_wp2_with (go_at_call 12; refine (num_at _ _).mono ?_; rintro e w' ⟨rfl, rfl⟩)
  refine (unvarint_out d a _ (Or.inl ha) (by omega)).mono ?_
  rintro e w2 ⟨rfl, hb2⟩
  go_wp2_with (go_at_call 12; refine (num_at _ _).mono ?_; rintro e w' ⟨rfl, rfl⟩)
  go_ret
  exact ⟨rfl, hb2⟩
set_option maxRecDepth 100000 in
set_option maxHeartbeats 400000 in
theorem walk_neg_hi (n : Int) (d : ByteArray) (a : Int) (w : World) (hn : n < 0) (hd : d.size ≤ 140737488351232) (ha : d.size < a) :
    Calls Try.prog 3 #[.int .i64 n, .string d, .int .i64 a] w fun e w' => e = .returned (.bool true) ∧ Below w.heap.size w w' := by
  have hne := nostr
  go_enter Try.func3, Try.ntmps3
  go_wp2_with fail
  refine (varint_neg n _ hn).mono ?_
  rintro e w1 ⟨rfl, rfl⟩
  go_wp2_with (go_at_call 12; refine (num_at _ _).mono ?_; rintro e w' ⟨rfl, rfl⟩)
  refine (unvarint_out d a _ (Or.inr ha) (by omega)).mono ?_
  rintro e w2 ⟨rfl, hb2⟩
  go_wp2_with (go_at_call 12; refine (num_at _ _).mono ?_; rintro e w' ⟨rfl, rfl⟩)
  go_ret
  exact ⟨rfl, hb2⟩
set_option maxRecDepth 100000 in
set_option maxHeartbeats 400000 in
theorem walk_neg_no (n : Int) (d : ByteArray) (a : Nat) (w : World) (hn : n < 0) (hd : d.size ≤ 140737488351232) (ha : a ≤ d.size) (HU : Hid (uv 0 0 (from_ d a) = none)) :
    Calls Try.prog 3 #[.int .i64 n, .string d, .int .i64 a] w fun e w' => e = .returned (.bool true) ∧ Below w.heap.size w w' := by
  have hne := nostr
  go_enter Try.func3, Try.ntmps3
  go_wp2_with fail
  refine (varint_neg n _ hn).mono ?_
  rintro e w1 ⟨rfl, rfl⟩
  go_wp2_with (go_at_call 12; refine (num_at _ _).mono ?_; rintro e w' ⟨rfl, rfl⟩)
  refine (unvarint_none d a _ ha hd HU).mono ?_
  rintro e w2 ⟨rfl, hb2⟩
  go_wp2_with fail
  refine (runvarint_none d a _ ha hd HU).mono ?_
  rintro e w3 ⟨rfl, rfl⟩
  go_wp2_with (go_at_call 12; refine (num_at _ _).mono ?_; rintro e w' ⟨rfl, rfl⟩)
  go_ret
  exact ⟨rfl, hb2⟩
set_option maxRecDepth 100000 in
set_option maxHeartbeats 400000 in
theorem walk_neg_yes (n : Int) (d : ByteArray) (a m k : Nat) (w : World) (hn : n < 0) (hd : d.size ≤ 140737488351232) (ha : a ≤ d.size) (HU : Hid (uv 0 0 (from_ d a) = some (m, k))) :
    Calls Try.prog 3 #[.int .i64 n, .string d, .int .i64 a] w fun e w' => e = .returned (.bool true) ∧ Below w.heap.size w w' := by
  have hne := nostr
  go_enter Try.func3, Try.ntmps3
  go_wp2_with fail
  refine (varint_neg n _ hn).mono ?_
  rintro e w1 ⟨rfl, rfl⟩
  go_wp2_with (go_at_call 12; refine (num_at _ _).mono ?_; rintro e w' ⟨rfl, rfl⟩)
  refine (unvarint_some d a m k _ ha hd HU).mono ?_
  rintro e w2 ⟨rfl, hb2⟩
  go_wp2_with fail
  refine (runvarint_some d a m k _ ha hd HU).mono ?_
  rintro e w3 ⟨rfl, rfl⟩
  go_wp2_with (go_at_call 12; refine (num_at _ _).mono ?_; rintro e w' ⟨rfl, rfl⟩)
  go_ret
  exact ⟨rfl, hb2⟩
set_option maxRecDepth 100000 in
set_option maxHeartbeats 400000 in
theorem walk_pos_lo (n : Nat) (d : ByteArray) (a : Int) (w : World) (hn : n < 9223372036854775808) (hd : d.size ≤ 140737488351232) (ha : a < 0) :
    Calls Try.prog 3 #[.int .i64 n, .string d, .int .i64 a] w fun e w' => e = .returned (.bool true) ∧ Below w.heap.size w w' := by
  have hz1 : (str [120]).size = 1 := rfl
  have hz2 : (str (vb n)).size ≤ 9 := by rw [str_size]; exact vb_length9 n hn
  go_enter Try.func3, Try.ntmps3
  go_wp2_with fail
  refine (varint_any n _ hn).mono ?_
  rintro e w1 ⟨rfl, hb1⟩
  go_wp2_with fail
  refine (unvarint_text n d _ hn hd).mono ?_
  rintro e w2 ⟨rfl, hb2⟩
  go_wp2_with fail
  refine (rvarint_any n _ hn).mono ?_
  rintro e w3 ⟨rfl, hb3⟩
  have HB : Hid (Below w.heap.size w w3) := (hb1.trans (hb2.mono hb1.size)).trans (hb3.mono (Nat.le_trans hb1.size hb2.size))
  have hsz : w.heap.size ≤ w3.heap.size := HB.out.size
  clear hb1 hb2 hb3
  go_wp2_with (go_at_call 12; refine (num_at _ _).mono ?_; rintro e w' ⟨rfl, rfl⟩)
  refine (unvarint_out d a _ (Or.inl ha) (by omega)).mono ?_
  rintro e w4 ⟨rfl, hb4⟩
  go_wp2_with (go_at_call 12; refine (num_at _ _).mono ?_; rintro e w' ⟨rfl, rfl⟩)
  go_ret
  exact ⟨rfl, HB.out.trans (hb4.mono hsz)⟩
set_option maxRecDepth 100000 in
set_option maxHeartbeats 400000 in
theorem walk_pos_hi (n : Nat) (d : ByteArray) (a : Int) (w : World) (hn : n < 9223372036854775808) (hd : d.size ≤ 140737488351232) (ha : d.size < a) :
    Calls Try.prog 3 #[.int .i64 n, .string d, .int .i64 a] w fun e w' => e = .returned (.bool true) ∧ Below w.heap.size w w' := by
  have hz1 : (str [120]).size = 1 := rfl
  have hz2 : (str (vb n)).size ≤ 9 := by rw [str_size]; exact vb_length9 n hn
  go_enter Try.func3, Try.ntmps3
  go_wp2_with fail
  refine (varint_any n _ hn).mono ?_
  rintro e w1 ⟨rfl, hb1⟩
  go_wp2_with fail
  refine (unvarint_text n d _ hn hd).mono ?_
  rintro e w2 ⟨rfl, hb2⟩
  go_wp2_with fail
  refine (rvarint_any n _ hn).mono ?_
  rintro e w3 ⟨rfl, hb3⟩
  have HB : Hid (Below w.heap.size w w3) := (hb1.trans (hb2.mono hb1.size)).trans (hb3.mono (Nat.le_trans hb1.size hb2.size))
  have hsz : w.heap.size ≤ w3.heap.size := HB.out.size
  clear hb1 hb2 hb3
  go_wp2_with (go_at_call 12; refine (num_at _ _).mono ?_; rintro e w' ⟨rfl, rfl⟩)
  refine (unvarint_out d a _ (Or.inr ha) (by omega)).mono ?_
  rintro e w4 ⟨rfl, hb4⟩
  go_wp2_with (go_at_call 12; refine (num_at _ _).mono ?_; rintro e w' ⟨rfl, rfl⟩)
  go_ret
  exact ⟨rfl, HB.out.trans (hb4.mono hsz)⟩
set_option maxRecDepth 100000 in
set_option maxHeartbeats 400000 in
theorem walk_pos_no (n : Nat) (d : ByteArray) (a : Nat) (w : World) (hn : n < 9223372036854775808) (hd : d.size ≤ 140737488351232) (ha : a ≤ d.size) (HU : Hid (uv 0 0 (from_ d a) = none)) :
    Calls Try.prog 3 #[.int .i64 n, .string d, .int .i64 a] w fun e w' => e = .returned (.bool true) ∧ Below w.heap.size w w' := by
  have hz1 : (str [120]).size = 1 := rfl
  have hz2 : (str (vb n)).size ≤ 9 := by rw [str_size]; exact vb_length9 n hn
  go_enter Try.func3, Try.ntmps3
  go_wp2_with fail
  refine (varint_any n _ hn).mono ?_
  rintro e w1 ⟨rfl, hb1⟩
  go_wp2_with fail
  refine (unvarint_text n d _ hn hd).mono ?_
  rintro e w2 ⟨rfl, hb2⟩
  go_wp2_with fail
  refine (rvarint_any n _ hn).mono ?_
  rintro e w3 ⟨rfl, hb3⟩
  have HB : Hid (Below w.heap.size w w3) := (hb1.trans (hb2.mono hb1.size)).trans (hb3.mono (Nat.le_trans hb1.size hb2.size))
  have hsz : w.heap.size ≤ w3.heap.size := HB.out.size
  clear hb1 hb2 hb3
  go_wp2_with (go_at_call 12; refine (num_at _ _).mono ?_; rintro e w' ⟨rfl, rfl⟩)
  refine (unvarint_none d a _ ha hd HU).mono ?_
  rintro e w4 ⟨rfl, hb4⟩
  go_wp2_with fail
  refine (runvarint_none d a _ ha hd HU).mono ?_
  rintro e w5 ⟨rfl, rfl⟩
  go_wp2_with (go_at_call 12; refine (num_at _ _).mono ?_; rintro e w' ⟨rfl, rfl⟩)
  go_ret
  exact ⟨rfl, HB.out.trans (hb4.mono hsz)⟩
set_option maxRecDepth 100000 in
set_option maxHeartbeats 400000 in
theorem walk_pos_yes (n : Nat) (d : ByteArray) (a m k : Nat) (w : World) (hn : n < 9223372036854775808) (hd : d.size ≤ 140737488351232) (ha : a ≤ d.size) (HU : Hid (uv 0 0 (from_ d a) = some (m, k))) :
    Calls Try.prog 3 #[.int .i64 n, .string d, .int .i64 a] w fun e w' => e = .returned (.bool true) ∧ Below w.heap.size w w' := by
  have hz1 : (str [120]).size = 1 := rfl
  have hz2 : (str (vb n)).size ≤ 9 := by rw [str_size]; exact vb_length9 n hn
  go_enter Try.func3, Try.ntmps3
  go_wp2_with fail
  refine (varint_any n _ hn).mono ?_
  rintro e w1 ⟨rfl, hb1⟩
  go_wp2_with fail
  refine (unvarint_text n d _ hn hd).mono ?_
  rintro e w2 ⟨rfl, hb2⟩
  go_wp2_with fail
  refine (rvarint_any n _ hn).mono ?_
  rintro e w3 ⟨rfl, hb3⟩
  have HB : Hid (Below w.heap.size w w3) := (hb1.trans (hb2.mono hb1.size)).trans (hb3.mono (Nat.le_trans hb1.size hb2.size))
  have hsz : w.heap.size ≤ w3.heap.size := HB.out.size
  clear hb1 hb2 hb3
  go_wp2_with (go_at_call 12; refine (num_at _ _).mono ?_; rintro e w' ⟨rfl, rfl⟩)
  refine (unvarint_some d a m k _ ha hd HU).mono ?_
  rintro e w4 ⟨rfl, hb4⟩
  go_wp2_with fail
  refine (runvarint_some d a m k _ ha hd HU).mono ?_
  rintro e w5 ⟨rfl, rfl⟩
  go_wp2_with (go_at_call 12; refine (num_at _ _).mono ?_; rintro e w' ⟨rfl, rfl⟩)
  go_ret
  exact ⟨rfl, HB.out.trans (hb4.mono hsz)⟩
theorem walk (n : Int) (d : ByteArray) (a : Int) (w : World) (hn1 : -9223372036854775808 ≤ n) (hn2 : n ≤ 9223372036854775807) (hd : d.size ≤ 140737488351232) :
    Calls Try.prog 3 #[.int .i64 n, .string d, .int .i64 a] w fun e w' => e = .returned (.bool true) ∧ Below w.heap.size w w' := by
  by_cases hn : n < 0
  · by_cases a1 : a < 0
    · exact walk_neg_lo n d a w hn hd a1
    · by_cases a2 : d.size < a
      · exact walk_neg_hi n d a w hn hd a2
      · obtain ⟨k, rfl⟩ := Int.eq_ofNat_of_zero_le (by omega : 0 ≤ a)
        cases hu : uv 0 0 (from_ d k) with
        | none => exact walk_neg_no n d k w hn hd (by omega) hu
        | some q => exact walk_neg_yes n d k q.1 q.2 w hn hd (by omega) hu
  · obtain ⟨m, rfl⟩ := Int.eq_ofNat_of_zero_le (by omega : 0 ≤ n)
    have hm : m < 9223372036854775808 := by omega
    by_cases a1 : a < 0
    · exact walk_pos_lo m d a w hm hd a1
    · by_cases a2 : d.size < a
      · exact walk_pos_hi m d a w hm hd a2
      · obtain ⟨k, rfl⟩ := Int.eq_ofNat_of_zero_le (by omega : 0 ≤ a)
        cases hu : uv 0 0 (from_ d k) with
        | none => exact walk_pos_no m d k w hm hd (by omega) hu
        | some q => exact walk_pos_yes m d k q.1 q.2 w hm hd (by omega) hu
end Go.Proofs.Ytiinohajdibflaa.wireVarints
