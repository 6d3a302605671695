/-
  A3's two laws, out of a contract for the program's Sum. T: what of the world the contract leans on (a table at package level, if there is one).
-/
import Derived.Test.YtiinohajdibflaaDoorRefSum
import Derived.Test.YtiinohajdibflaaDoorTurned
namespace Go.Proofs.YtiinohajdibflaaDoor
open Go.ChangeShapes Go.WideShapes Go.ChangeAt Go.RowKit
set_option linter.unusedVariables false
/-- the program's Sum answers the document's; what it leans on stays where old memory stays -/
structure SumSaid (T : World → Prop) : Prop where
  kept : ∀ w w' : World, T w → Below w.heap.size w w' → T w'
  call : ∀ (s : ByteArray) (w : World), s.size ≤ 140737488355328 → T w → Calls Tryd.prog 6 #[.string s] w fun e w' => e = .returned (.string (str (Crc.sum s.data.toList))) ∧ Below w.heap.size w w'
set_option maxRecDepth 100000 in
set_option maxHeartbeats 1000000 in
theorem sums_walk {T : World → Prop} (hS : SumSaid T) (s : ByteArray) (w : World) (hs : s.size ≤ 140737488351232) (hT : T w) :
    Calls Tryd.prog 3 #[.string s] w fun e w' => e = .returned (.bool true) ∧ Below w.heap.size w w' := by
  go_enter Tryd.func3, Tryd.ntmps3
  go_wp2_with fail
  refine (hS.call s _ (by omega) hT).mono ?_
  rintro e w1 ⟨rfl, hb1⟩
  go_wp2_with fail
  refine (rsum_any s _ (by omega)).mono ?_
  rintro e w2 ⟨rfl, hb2⟩
  go_wp2
  go_ret
  exact ⟨rfl, hb1.trans (hb2.mono hb1.size)⟩
set_option maxRecDepth 100000 in
set_option maxHeartbeats 1000000 in
theorem turned_walk_far {T : World → Prop} (hS : SumSaid T) (s : ByteArray) (f mask : Int) (w : World) (hs : s.size ≤ 140737488351232) (hf1 : -9223372036854775808 ≤ f) (hf2 : f ≤ 9223372036854775807) (hf : f < 0 ∨ 8 * (s.size : Int) < f) (hT : T w) :
    Calls Tryd.prog 4 #[.string s, .int .i64 f, .int .i64 mask] w fun e w' => e = .returned (.bool true) ∧ Below w.heap.size w w' := by
  have hz : ∀ l, (str (Crc.sum l)).size = 4 := fun _ => rfl
  go_enter Tryd.func4, Tryd.ntmps4
  go_wp2_with fail
  refine (turned_far s f mask _ hs hf1 hf2 hf).mono ?_
  rintro e w1 ⟨rfl, hb1⟩
  have hT1 := hS.kept _ _ hT hb1
  go_wp2_with fail
  refine (hS.call s _ (by omega) hT1).mono ?_
  rintro e w2 ⟨rfl, hb2⟩
  have hT2 := hS.kept _ _ hT1 hb2
  go_wp2_with fail
  refine (hS.call s _ (by omega) hT2).mono ?_
  rintro e w3 ⟨rfl, hb3⟩
  have HB : Hid (Below w.heap.size w w3) := (hb1.trans (hb2.mono hb1.size)).trans (hb3.mono (Nat.le_trans hb1.size hb2.size))
  clear hb1 hb2 hb3 hT1 hT2
  go_wp2
  go_ret
  exact ⟨rfl, HB.out⟩
theorem turned_bool (s : ByteArray) (l : List UInt8) (f : Nat) (h : Near s.data.toList l f 32) (hf : f ≤ 8 * s.size) :
    (((str (Crc.sum s.data.toList)).toList == (str (Crc.sum (str l).data.toList)).toList) == ((str l).toList == s.toList)) = true := by
  rw [toList_str, toList_str, toList_str, toList_of, data_str]
  obtain ⟨h1, M, h2, h3⟩ := h
  by_cases e : l = s.data.toList
  · subst e; simp
  · have hne : ¬ Crc.sum s.data.toList = Crc.sum l := fun h => e (Crc.sum_turned _ _ M f h1.symm h2 (by simpa using hf) h3 h).symm
    have a1 : (Crc.sum s.data.toList == Crc.sum l) = false := by simp [hne]
    have a2 : (l == s.data.toList) = false := by simp [e]
    rw [a1, a2]; rfl
set_option maxRecDepth 100000 in
set_option maxHeartbeats 1000000 in
theorem turned_walk_near {T : World → Prop} (hS : SumSaid T) (s : ByteArray) (f : Nat) (mask : Int) (w : World) (hs : s.size ≤ 140737488351232) (hf : f ≤ 8 * s.size) (hm1 : -9223372036854775808 ≤ mask) (hm2 : mask ≤ 9223372036854775807) (hT : T w) :
    Calls Tryd.prog 4 #[.string s, .int .i64 f, .int .i64 mask] w fun e w' => e = .returned (.bool true) ∧ Below w.heap.size w w' := by
  have hz : ∀ l, (str (Crc.sum l)).size = 4 := fun _ => rfl
  go_enter Tryd.func4, Tryd.ntmps4
  go_wp2_with fail
  refine (turned_near s f mask _ hs hf hm1 hm2).mono ?_
  rintro e w1 ⟨⟨l, rfl, hN⟩, hb1⟩
  have HN : Hid (Near s.data.toList l f 32) := hN
  have hls : (str l).size ≤ 140737488355328 := by rw [str_size, hN.1]; simp; omega
  clear hN
  have hT1 := hS.kept _ _ hT hb1
  go_wp2_with fail
  refine (hS.call s _ (by omega) hT1).mono ?_
  rintro e w2 ⟨rfl, hb2⟩
  have hT2 := hS.kept _ _ hT1 hb2
  go_wp2_with fail
  refine (hS.call (str l) _ hls hT2).mono ?_
  rintro e w3 ⟨rfl, hb3⟩
  have HB : Hid (Below w.heap.size w w3) := (hb1.trans (hb2.mono hb1.size)).trans (hb3.mono (Nat.le_trans hb1.size hb2.size))
  clear hb1 hb2 hb3 hT1 hT2
  go_wp2
  go_ret
  exact ⟨ret_bool (turned_bool s l f HN.out hf), HB.out⟩
theorem turned_walk {T : World → Prop} (hS : SumSaid T) (s : ByteArray) (f mask : Int) (w : World) (hs : s.size ≤ 140737488351232) (hf1 : -9223372036854775808 ≤ f) (hf2 : f ≤ 9223372036854775807) (hm1 : -9223372036854775808 ≤ mask) (hm2 : mask ≤ 9223372036854775807) (hT : T w) :
    Calls Tryd.prog 4 #[.string s, .int .i64 f, .int .i64 mask] w fun e w' => e = .returned (.bool true) ∧ Below w.heap.size w w' := by
  by_cases hf : f < 0 ∨ 8 * (s.size : Int) < f
  · exact turned_walk_far hS s f mask w hs hf1 hf2 hf hT
  · obtain ⟨k, rfl⟩ := Int.eq_ofNat_of_zero_le (by omega : 0 ≤ f)
    exact turned_walk_near hS s k mask w hs (by omega) hm1 hm2 hT
end Go.Proofs.YtiinohajdibflaaDoor
