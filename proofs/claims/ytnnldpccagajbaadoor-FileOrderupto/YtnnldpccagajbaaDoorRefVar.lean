/-
  The document's Varint, walked.
-/
import Derived.Test.YtnnldpccagajbaaDoorBase
import Derived.Test.YtnnldpccagajbaaDoorVar
namespace Go.Proofs.YtnnldpccagajbaaDoor
open Go.ChangeShapes Go.WideShapes Go.ChangeAt Go.RowKit
set_option linter.unusedVariables false
theorem one_byte (W : World) (x : Int) : Sem.run Tryd.prog (convert 54 9 (.slice (some ⟨W.heap.size, 0, none⟩) 1 1)) (W.alloc (.cells #[.int .u8 x] 5)) = .ok (.string (str [UInt8.ofNat x.toNat])) (W.alloc (.cells #[.int .u8 x] 5)) := by
  have h := run_convert_bytes_arg (P := Tryd.prog) (W.alloc (.cells #[.int .u8 x] 5)) 54 5 Tryd.underlying54 Tryd.underlying5 W.heap.size 0 1 1 [x] rfl (fun i hi => by
    obtain rfl : i = 0 := by omega
    simp) 9 Tryd.underlying9
  exact h
set_option maxRecDepth 100000 in
set_option maxHeartbeats 400000 in
theorem rvarint_any (n : Nat) (w : World) (hn : n < 9223372036854775808) :
    Calls Tryd.prog 15 #[.int .i64 n] w fun e w' => e = .returned (.string (str (vb n))) ∧ Below w.heap.size w w' := by
  go_enter Tryd.func15, Tryd.ntmps15
  go_wp2
  go_loopw [0, 3] (fun v o wr => ∃ (m : Nat) (l : List UInt8), m < 9223372036854775808 ∧ v = .int .i64 m ∧ o = .string (str l) ∧ Hid (l ++ vb m = vb n) ∧ Below w.heap.size w wr) (fun v _ _ => (intOf v).toNat)
  case atStart => exact ⟨n, [], hn, rfl, rfl, rfl, Below.refl _ _⟩
  case round =>
    obtain ⟨m, l, hm, rfl, rfl, HL, hb⟩ := hrel
    have kb := one_byte
    have hz : ∀ x : UInt8, (str [x]).size = 1 := fun _ => rfl
    have hzl : (str l).size ≤ 9 := by
      have h9 := vb_length9 n hn
      rw [← HL.out] at h9
      simp at h9
      rw [str_size]; omega
    by_cases hlt : m < 128
    · go_wp2
      go_ret
      exact ⟨ret_str (by rw [← HL.out, vb_small m hlt, str_app]), hb.alloc hb.size _⟩
    · have hl : l ++ [UInt8.ofNat (m % 128 + 128)] ++ vb (m / 128) = vb n := by rw [← HL.out, vb_great m (by omega)]; simp
      have HL2 : Hid (l ++ [UInt8.ofNat (m % 128 + 128)] ++ vb (m / 128) = vb n) := hl
      clear hl
      have ht : ((m : Int) % 128 + 128).toNat = m % 128 + 128 := by omega
      go_wp2
      go_roundw
      case rel => exact ⟨m / 128, l ++ [UInt8.ofNat (m % 128 + 128)], by omega, by go_num, by rw [str_app, UInt8.ofNat_add]; rfl, HL2, hb.alloc hb.size _⟩
      case measure => simp [intOf]; omega
end Go.Proofs.YtnnldpccagajbaaDoor
