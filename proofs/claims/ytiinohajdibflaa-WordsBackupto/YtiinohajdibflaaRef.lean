import Derived.Test.YtiinohajdibflaaBase
import Derived.Test.YtiinohajdibflaaVar
namespace Go.Proofs.Ytiinohajdibflaa
open Go.ChangeShapes Go.WideShapes Go.ChangeAt Go.RowKit
set_option linter.unusedVariables false
/-- what the reader answers, as the document's function gives it -/
def two (at_ : Nat) : Option (Nat × Nat) → Value
  | none => .tuple #[.int .i64 0, .int .i64 (-1)]
  | some (n, k) => .tuple #[.int .i64 n, .int .i64 (at_ + k : Nat)]
theorem mul_in (P c : Nat) (hp : P ≤ 72057594037927936) : 0 ≤ (P : Int) * ((c : Int) % 128) ∧ (P : Int) * ((c : Int) % 128) ≤ 9151314442816847872 := by
  have e : (P : Int) * ((c : Int) % 128) = ((P * (c % 128) : Nat) : Int) := by push_cast; rfl
  have b : P * (c % 128) ≤ P * 127 := Nat.mul_le_mul_left _ (by omega)
  rw [e]; omega
theorem acc_cast (acc P c : Nat) : (acc : Int) + (P : Int) * ((c : Int) % 128) = ((acc + P * (c % 128) : Nat) : Int) := by push_cast; rfl
theorem acc_lt (acc P c : Nat) (h : acc < P) : acc + P * (c % 128) < P * 128 := by
  have b : P * (c % 128) ≤ P * 127 := Nat.mul_le_mul_left _ (by omega)
  omega
theorem p128 (P k : Nat) (h : P = pw k) (hk : k + 1 ≤ 8) : Value.int .i64 (wrap64 ((P : Int) * 128)) = .int .i64 ((P * 128 : Nat) : Int) := by
  have b : P * 128 ≤ 72057594037927936 := by rw [h, ← pw_succ]; exact pw_le _ hk
  rw [show wrap64 ((P : Int) * 128) = ((P * 128 : Nat) : Int) from by unfold wrap64; omega]
theorem ret_two {a : Nat} {r : Option (Nat × Nat)} {v1 v2 : Int} (n k : Nat) (h : r = some (n, k)) (h1 : v1 = n) (h2 : v2 = (a + k : Nat)) :
    Ending.returned (.tuple #[.int .i64 v1, .int .i64 v2]) = .returned (two a r) := by
  rw [h, h1, h2]; rfl
theorem ret_none {a : Nat} {r : Option (Nat × Nat)} (h : r = none) : Ending.returned (.tuple #[.int .i64 0, .int .i64 (-1)]) = .returned (two a r) := by
  rw [h]; rfl
set_option maxRecDepth 100000 in
set_option maxHeartbeats 400000 in
theorem runvarint_any (s : ByteArray) (a : Nat) (w : World) (hs : s.size ≤ 140737488355328) (ha : a ≤ s.size) :
    Calls Try.prog 15 #[.string s, .int .i64 a] w fun e w' => e = .returned (two a (uv 0 0 (from_ s a))) ∧ w' = w := by
  go_enter Try.func15, Try.ntmps15
  go_wp2
  go_loop [6, 7, 8] (fun n b i => ∃ j acc P : Nat, a ≤ j ∧ j ≤ a + 9 ∧ j ≤ s.size ∧ i = .int .i64 j ∧ n = .int .i64 acc ∧ b = .int .i64 P ∧ Hid (P = pw (min (j - a) 8)) ∧ Hid (acc < pw (j - a)) ∧ Hid (uv 0 0 (from_ s a) = uv (j - a) acc (from_ s j))) (fun _ _ i => s.size - (intOf i).toNat)
  case atStart => exact ⟨a, 0, 1, by omega, by omega, ha, rfl, rfl, rfl, by rw [Nat.sub_self]; rfl, by rw [Nat.sub_self]; show 0 < pw 0; decide, by rw [Nat.sub_self]; rfl⟩
  case round =>
    obtain ⟨j, acc, P, hj1, hj2, hj3, rfl, rfl, rfl, HP, HA, HU⟩ := hrel
    by_cases hlt : j < s.size
    · by_cases hk9 : j < a + 9
      · have hp : P ≤ 72057594037927936 := by rw [HP.out]; exact pw_le _ (by omega)
        have hacc : acc < P := by rw [HP.out, show min (j - a) 8 = j - a from by omega]; exact HA.out
        have hc : (s[j].toNat : Int) ≤ 255 := by have := s[j].toNat_lt; omega
        obtain ⟨hm1, hm2⟩ := mul_in P s[j].toNat hp
        have hd : min (j - a) 8 = j - a := by omega
        have HP2 : Hid (P = pw (j - a)) := by rw [hd] at HP; exact HP
        clear hd
        go_wp2
        · have c0 : s[j].toNat = 0 := by assumption
          have c1 : a < j := by assumption
          go_ret2
          exact ⟨ret_none (by rw [HU.out, from_cons s _ hlt, uv_needless _ acc _ _ (by omega) c0 (by omega)]), rfl⟩
        · have c0 : s[j].toNat = 0 := by assumption
          have c1 : ¬ a < j := by assumption
          go_ret2
          exact ⟨ret_two _ _ (by rw [HU.out, from_cons s _ hlt, uv_last _ acc _ _ (by omega) (by omega) (by omega)]) (by rw [c0]; simp) (by omega), rfl⟩
        · have c0 : ¬ s[j].toNat = 0 := by assumption
          have c1 : (s[j].toNat : Int) < 128 := by assumption
          go_ret2
          exact ⟨ret_two _ _ (by rw [HU.out, from_cons s _ hlt, uv_last _ acc _ _ (by omega) (by omega) (by omega)]) (by rw [acc_cast, ← HP2.out]) (by omega), rfl⟩
        all_goals
          have c1 : 128 ≤ (s[j].toNat : Int) := by assumption
          have ea : acc + P * (s[j].toNat % 128) < pw (j + 1 - a) := by rw [show j + 1 - a = j - a + 1 from by omega, pw_succ, ← HP2.out]; exact acc_lt acc P _ hacc
          have eu : uv 0 0 (from_ s a) = uv (j + 1 - a) (acc + P * (s[j].toNat % 128)) (from_ s (j + 1)) := by
            rw [HU.out, from_cons s _ hlt, uv_more _ acc _ _ (by omega) (by omega), show j + 1 - a = j - a + 1 from by omega, ← HP2.out]
          go_round
        case rel =>
          exact ⟨j + 1, acc + P * (s[j].toNat % 128), P * 128, by omega, by omega, by omega, by go_num, by rw [acc_cast], p128 P (j - a) HP2.out (by omega), by show _ = _; rw [show min (j + 1 - a) 8 = j - a + 1 from by omega, pw_succ, ← HP2.out], ea, eu⟩
        case measure => simp [intOf]; omega
        case rel =>
          exact ⟨j + 1, acc + P * (s[j].toNat % 128), P, by omega, by omega, by omega, by go_num, by rw [acc_cast], by go_num, by show _ = _; rw [show min (j + 1 - a) 8 = j - a from by omega, ← HP2.out], ea, eu⟩
        case measure => simp [intOf]; omega
      · have e9 : j - a = 9 := by omega
        rw [e9] at HU
        go_wp2
        go_ret2
        exact ⟨ret_none (by rw [HU.out, uv_nine]), rfl⟩
    · go_wp2
      go_ret2
      exact ⟨ret_none (by rw [HU.out, from_end s _ (by omega), uv_nil]), rfl⟩
theorem one_byte (W : World) (x : Int) : Sem.run Try.prog (convert 62 9 (.slice (some ⟨W.heap.size, 0, none⟩) 1 1)) (W.alloc (.cells #[.int .u8 x] 5)) = .ok (.string (str [UInt8.ofNat x.toNat])) (W.alloc (.cells #[.int .u8 x] 5)) := by
  have h := run_convert_bytes_arg (P := Try.prog) (W.alloc (.cells #[.int .u8 x] 5)) 62 5 Try.underlying62 Try.underlying5 W.heap.size 0 1 1 [x] rfl (fun i hi => by
    obtain rfl : i = 0 := by omega
    simp) 9 Try.underlying9
  exact h
set_option maxRecDepth 100000 in
set_option maxHeartbeats 400000 in
theorem rvarint_any (n : Nat) (w : World) (hn : n < 9223372036854775808) :
    Calls Try.prog 14 #[.int .i64 n] w fun e w' => e = .returned (.string (str (vb n))) ∧ Below w.heap.size w w' := by
  go_enter Try.func14, Try.ntmps14
  go_wp2
  go_loopw [0, 3] (fun v o wr => ∃ (m : Nat) (l : List UInt8), m < 9223372036854775808 ∧ v = .int .i64 m ∧ o = .string (str l) ∧ Hid (l ++ vb m = vb n) ∧ Below w.heap.size w wr) (fun v _ _ => (intOf v).toNat)
  case atStart => exact ⟨n, [], hn, rfl, rfl, rfl, Below.refl _ _⟩
  case round =>
    obtain ⟨m, l, hm, rfl, rfl, HL, hb⟩ := hrel
    have kb := one_byte
    have hz : ∀ x : UInt8, (str [x]).size = 1 := fun _ => rfl
    have hzl : (str l).size ≤ 9 := by
      have h9 := vb_length9 n hn
      rw [← HL.out] at h9
      simp at h9
      rw [str_size]; omega
    by_cases hlt : m < 128
    · go_wp2
      go_ret
      exact ⟨ret_str (by rw [← HL.out, vb_small m hlt, str_app]), hb.alloc hb.size _⟩
    · have hl : l ++ [UInt8.ofNat (m % 128 + 128)] ++ vb (m / 128) = vb n := by rw [← HL.out, vb_great m (by omega)]; simp
      have HL2 : Hid (l ++ [UInt8.ofNat (m % 128 + 128)] ++ vb (m / 128) = vb n) := hl
      clear hl
      have ht : ((m : Int) % 128 + 128).toNat = m % 128 + 128 := by omega
      go_wp2
      go_roundw
      case rel => exact ⟨m / 128, l ++ [UInt8.ofNat (m % 128 + 128)], by omega, by go_num, by rw [str_app, UInt8.ofNat_add]; rfl, HL2, hb.alloc hb.size _⟩
      case measure => simp [intOf]; omega
end Go.Proofs.Ytiinohajdibflaa
