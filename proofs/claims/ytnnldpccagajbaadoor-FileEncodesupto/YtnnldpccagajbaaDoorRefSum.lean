/-
  The document's sum, walked.
-/
import Derived.Test.YtnnldpccagajbaaDoorBase
import Derived.Test.YtnnldpccagajbaaDoorCrc
namespace Go.Proofs.YtnnldpccagajbaaDoor
open Go.ChangeShapes Go.WideShapes Go.ChangeAt Go.RowKit
set_option linter.unusedVariables false
theorem xor_turn (y : Nat) (hy : y < 4294967296) : bits .xor .i64 ((y : Int) / 2) 3988292384 = ((y / 2 ^^^ 3988292384 : Nat) : Int) := by
  rw [show (y : Int) / 2 = ((y / 2 : Nat) : Int) from by omega, show (3988292384 : Int) = ((3988292384 : Nat) : Int) from rfl, Crc.xor64 _ _ (by omega) (by omega)]
theorem xor_all (y : Nat) (hy : y < 4294967296) : bits .xor .i64 (y : Int) 4294967295 = ((y ^^^ 4294967295 : Nat) : Int) := by
  rw [show (4294967295 : Int) = ((4294967295 : Nat) : Int) from rfl, Crc.xor64 _ _ (by omega) (by omega)]
theorem take_snoc (s : ByteArray) (k : Nat) (h : k < s.size) : s.data.toList.take (k + 1) = s.data.toList.take k ++ [s[k]] := by
  rw [List.take_succ_eq_append_getElem (by simpa using h)]; rfl
theorem ofNat_mod (n : Nat) : UInt8.ofNat (n % 256) = UInt8.ofNat n := by apply UInt8.toNat_inj.1; simp
theorem four_mod (n : Nat) : [UInt8.ofNat (n % 256), UInt8.ofNat (n / 256 % 256), UInt8.ofNat (n / 65536 % 256), UInt8.ofNat (n / 16777216)] = Crc.four n := by
  unfold Crc.four; rw [ofNat_mod, ofNat_mod, ofNat_mod]
theorem four_lit (W : World) (a b c d : Int) : Sem.run Tryd.prog (convert 54 9 (.slice (some ⟨W.heap.size, 0, none⟩) 4 4)) (W.alloc (.cells #[.int .u8 a, .int .u8 b, .int .u8 c, .int .u8 d] 5)) = .ok (.string (str [UInt8.ofNat a.toNat, UInt8.ofNat b.toNat, UInt8.ofNat c.toNat, UInt8.ofNat d.toNat])) (W.alloc (.cells #[.int .u8 a, .int .u8 b, .int .u8 c, .int .u8 d] 5)) :=
  lit_string W [a, b, c, d]
set_option maxRecDepth 100000 in
set_option maxHeartbeats 1000000 in
theorem rsum_any (s : ByteArray) (w : World) (hs : s.size ≤ 140737488355328) :
    Calls Tryd.prog 20 #[.string s] w fun e w' => e = .returned (.string (str (Crc.sum s.data.toList))) ∧ Below w.heap.size w w' := by
  go_enter Tryd.func20, Tryd.ntmps20
  go_wp2
  go_loop [3, 4] (fun x i => ∃ j y : Nat, j ≤ s.size ∧ i = .int .i64 j ∧ x = .int .i64 y ∧ y < 4294967296 ∧ Hid (y = Crc.crc Crc.start ((s.data.toList.take j).map UInt8.toNat))) (fun _ i => s.size - (intOf i).toNat)
  case atStart => exact ⟨0, 4294967295, by omega, rfl, rfl, by omega, rfl⟩
  case round =>
    obtain ⟨j, y, hj, rfl, rfl, hy, HY⟩ := hrel
    by_cases hlt : j < s.size
    · have hc := byte_le s[j]
      have hx : y ^^^ s[j].toNat < 4294967296 := Nat.xor_lt_two_pow (n := 32) hy (by have := s[j].toNat_lt; omega)
      have HN : Hid (Crc.halves 8 (y ^^^ s[j].toNat) = Crc.crc Crc.start ((s.data.toList.take (j + 1)).map UInt8.toNat)) := by
        show _ = _
        rw [take_snoc s j hlt, List.map_append, List.map_cons, List.map_nil, Crc.crc_snoc, ← HY.out]
      go_wp2
      go_loop [3, 5] (fun x k => ∃ m z : Nat, m ≤ 8 ∧ k = .int .i64 m ∧ x = .int .i64 z ∧ z < 4294967296 ∧ Hid (z = Crc.halves m (y ^^^ s[j].toNat))) (fun _ k => 8 - (intOf k).toNat)
      case atStart => exact ⟨0, y ^^^ s[j].toNat, by omega, rfl, by rw [Crc.xor64 _ _ (by omega) (by have := s[j].toNat_lt; omega)], hx, rfl⟩
      case round =>
        obtain ⟨m, z, hm, rfl, rfl, hz, HZ⟩ := hrel
        by_cases hm8 : m < 8
        · go_wp2
          · have hodd : ((z : Int) % 2 == 1) = true := by assumption
            have hz1 : z % 2 = 1 := by simp at hodd; omega
            have hh : Crc.halve z = z / 2 ^^^ 3988292384 := by unfold Crc.halve; rw [if_pos hz1]
            go_round
            case rel => exact ⟨m + 1, Crc.halve z, by omega, by go_num, by rw [xor_turn z hz, hh], Crc.halve_lt z hz, by show _ = _; rw [Crc.halves_succ, ← HZ.out]⟩
            case measure => simp [intOf]; omega
          · have hev : ((z : Int) % 2 == 1) = false := by assumption
            have hz1 : ¬ z % 2 = 1 := by simp at hev; omega
            have hh : Crc.halve z = z / 2 := by unfold Crc.halve; rw [if_neg hz1, Nat.xor_zero]
            go_round
            case rel => exact ⟨m + 1, Crc.halve z, by omega, by go_num, by rw [hh]; go_num, Crc.halve_lt z hz, by show _ = _; rw [Crc.halves_succ, ← HZ.out]⟩
            case measure => simp [intOf]; omega
        · obtain rfl : m = 8 := by omega
          go_wp2
          go_round
          case rel => exact ⟨j + 1, z, by omega, by go_num, rfl, hz, by show _ = _; rw [HZ.out, HN.out]⟩
          case measure => simp [intOf]; omega
    · have hje : j = s.size := by omega
      have hsum : Crc.num s.data.toList = y ^^^ 4294967295 := by
        unfold Crc.num
        rw [HY.out, hje, List.take_of_length_le (by simp)]; rfl
      have HS : Hid (Crc.num s.data.toList = y ^^^ 4294967295) := hsum
      clear hsum
      have hn := xor_all y hy
      have hl : y ^^^ 4294967295 < 4294967296 := Nat.xor_lt_two_pow (n := 32) hy (by omega)
      have kb := four_lit
      go_wp2
      go_ret
      refine ⟨ret_str ?_, (Below.refl _ _).alloc (Nat.le_refl _) _⟩
      rw [Crc.sum, HS.out, four_mod]
end Go.Proofs.YtnnldpccagajbaaDoor
