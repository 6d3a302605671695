/-
  The program's Sum over a table of sixteen words, walked (practice).
-/
import Derived.Test.YtnnldpccagajbaaDoorSumsWalk
namespace Go.Proofs.YtnnldpccagajbaaDoor
open Go.ChangeShapes Go.WideShapes Go.ChangeAt Go.RowKit
set_option linter.unusedVariables false
/-- what the table holds -/
def Tab (w : World) : Prop := ∀ i : Nat, i < 16 → w.cell? ⟨0, i, none⟩ = some (.int .u32 ((Crc.halves 4 i : Nat) : Int))
theorem Tab.kept (w w' : World) (h : Tab w) (hb : Below w.heap.size w w') : Tab w' := fun i hi => by
  rw [hb.cell (p := ⟨0, i, none⟩) (World.block_lt_of_cell? w ⟨0, i, none⟩ (h i hi))]; exact h i hi
theorem half_step (y : Nat) (hy : y < 4294967296) : bits .xor .u32 ((y : Int) / 16) ((Crc.halves 4 (y % 16) : Nat) : Int) = ((Crc.halves 4 y : Nat) : Int) := by
  have hl := Crc.halves_lt 4 (y % 16) (by omega)
  rw [show (y : Int) / 16 = ((y / 16 : Nat) : Int) from by omega, Crc.xor32 _ _ (by omega) hl, ← Crc.halves_four]
set_option maxRecDepth 100000 in
set_option maxHeartbeats 1000000 in
theorem sum_any (s : ByteArray) (w : World) (hs : s.size ≤ 140737488355328) (hT : Tab w) :
    Calls Tryd.prog 31 #[.string s] w fun e w' => e = .returned (.string (str (Crc.sum s.data.toList))) ∧ Below w.heap.size w w' := by
  have HT : Hid (Tab w) := hT
  clear hT
  go_enter Tryd.func31, Tryd.ntmps31
  go_wp2
  go_loop [3, 7] (fun x i => ∃ j y : Nat, j ≤ s.size ∧ i = .int .i64 j ∧ x = .int .u32 y ∧ y < 4294967296 ∧ Hid (y = Crc.crc Crc.start ((s.data.toList.take j).map UInt8.toNat))) (fun _ i => s.size - (intOf i).toNat)
  case atStart => exact ⟨0, 4294967295, by omega, rfl, rfl, by omega, rfl⟩
  case round =>
    obtain ⟨j, y, hj, rfl, rfl, hy, HY⟩ := hrel
    by_cases hlt : j < s.size
    · have hc := byte_le s[j]
      have hx : y ^^^ s[j].toNat < 4294967296 := Nat.xor_lt_two_pow (n := 32) hy (by have := s[j].toNat_lt; omega)
      have HN : Hid (Crc.halves 8 (y ^^^ s[j].toNat) = Crc.crc Crc.start ((s.data.toList.take (j + 1)).map UInt8.toNat)) := by
        show _ = _
        rw [take_snoc s j hlt, List.map_append, List.map_cons, List.map_nil, Crc.crc_snoc, ← HY.out]
      rw [Crc.halves_eight] at HN
      have e0 := Crc.xor32 y s[j].toNat hy (by have := s[j].toNat_lt; omega)
      generalize y ^^^ s[j].toNat = y0 at hx HN e0
      have b0 := Crc.halves_lt 4 y0 hx
      have b1 := Crc.halves_lt 4 (Crc.halves 4 y0) b0
      have a0 := Crc.and15 y0 hx
      have c0 := HT.out (y0 % 16) (Nat.mod_lt _ (by decide))
      have x0 := half_step y0 hx
      have a1 := Crc.and15 _ b0
      have c1 := HT.out (Crc.halves 4 y0 % 16) (Nat.mod_lt _ (by decide))
      have x1 := half_step _ b0
      have i0 : y0 % 16 < 16 := Nat.mod_lt _ (by decide)
      have i1 : Crc.halves 4 y0 % 16 < 16 := Nat.mod_lt _ (by decide)
      go_wp2
      go_round
      case rel => exact ⟨j + 1, _, by omega, by go_num, rfl, b1, HN.out⟩
      case measure => simp [intOf]; omega
    · have hje : j = s.size := by omega
      have HS : Hid (Crc.num s.data.toList = y ^^^ 4294967295) := by
        show _ = _
        unfold Crc.num
        rw [HY.out, hje, List.take_of_length_le (by simp)]; rfl
      have hn : bits .xor .u32 (y : Int) 4294967295 = ((y ^^^ 4294967295 : Nat) : Int) := Crc.xor32 y 4294967295 hy (by decide)
      have hl : y ^^^ 4294967295 < 4294967296 := Nat.xor_lt_two_pow (n := 32) hy (by omega)
      have kb := four_lit
      go_wp2
      go_ret
      refine ⟨ret_str ?_, (Below.refl _ _).alloc (Nat.le_refl _) _⟩
      rw [Crc.sum, HS.out, four_mod]
theorem sum_said : SumSaid Tab := ⟨Tab.kept, sum_any⟩
end Go.Proofs.YtnnldpccagajbaaDoor
