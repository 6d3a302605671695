/-
  The program's pages: (*book).page and head.text, walked.
-/
import Derived.Test.YtnnldpccagajbaaDoorWriter
import Derived.Test.YtnnldpccagajbaaDoorPacks
import Derived.Test.YtnnldpccagajbaaDoorNibSum
import Derived.Deep.RegionHeld3
namespace Go.Proofs.YtnnldpccagajbaaDoor
open Go.ChangeShapes Go.WideShapes Go.ChangeAt Go.RowKit
set_option linter.unusedVariables false
theorem Wr.newAt (w : World) (b : Nat) (t : TypeId) (hb : b = w.heap.size) : Wr (w.alloc (.cells #[.slice none 0 0] t)) b [] := by
  subst hb
  exact ⟨by simp, World.frozen?_alloc_at _ _ _ _ rfl, _, by simp, World.ownsRow_nil _ _ _ _⟩
theorem Tab.pos {w : World} (h : Tab w) : 0 < w.heap.size := World.block_lt_of_cell? w ⟨0, 0, none⟩ (h 0 (by decide))
theorem Tab.below {w w' : World} {b : Nat} (h : Tab w) (hb : Below b w w') (h0 : 0 < b) : Tab w' := fun i hi => by
  rw [hb.cell (p := ⟨0, i, none⟩) h0]; exact h i hi
set_option maxRecDepth 100000 in
set_option maxHeartbeats 1000000 in
theorem bookpage_any (b : Nat) (l : List UInt8) (s : ByteArray) (w : World) (h : Wr w b l) (hT : Tab w) (h0 : 0 < b) (hz : l.length + 13 + s.size ≤ 70368744177664) :
    Calls Tryd.prog 28 #[.pointer (some ⟨b, 0, none⟩), .string s] w fun e w' => e = .returned (.tuple #[]) ∧ Wr w' b (l ++ page s.data.toList) ∧ Below b w w' := by
  have h9 := vb_length9 s.size (by omega)
  have HT : Hid (Tab w) := hT
  clear hT
  go_enter Tryd.func28, Tryd.ntmps28
  go_wp2_with fail
  refine (wcounted_any b l s _ h (by omega)).mono ?_
  rintro e w1 ⟨rfl, h1, hb1⟩
  have HB1 : Hid (Below b w w1) := hb1
  have HT1 : Hid (Tab w1) := HT.out.below hb1 h0
  have HW1 : Hid (Wr w1 b (l ++ (vb s.size ++ s.data.toList))) := h1
  clear hb1 h h1
  obtain ⟨ss, HSS⟩ : ∃ ss, Hid (ss = str (Crc.sum s.data.toList)) := ⟨_, (rfl : str (Crc.sum s.data.toList) = _)⟩
  have zss : ss.size = 4 := by rw [HSS.out]; rfl
  have HSUM : Hid (∀ wx : World, (∃ n, wx = w1.drewN n) → Calls Tryd.prog 31 #[.string s] wx fun e w' => e = .returned (.string ss) ∧ Hid (Wr w' b (l ++ (vb s.size ++ s.data.toList))) ∧ Hid (Below b w w')) := by
    rintro wx ⟨n, rfl⟩
    have hd : Below w1.heap.size w1 (w1.drewN n) := below_drewN (Below.refl _ _) n
    refine (sum_any s _ (by omega) (HT1.out.below hd HT1.out.pos)).mono ?_
    rintro e w2 ⟨rfl, hb2⟩
    rw [← HSS.out]
    exact ⟨rfl, (HW1.out.kept hd).kept hb2, (HB1.out.trans (hd.mono (Nat.le_of_lt HW1.out.lt))).trans (hb2.mono (Nat.le_of_lt (HW1.out.kept hd).lt))⟩
  have HTXT : Hid (∀ (w2 : World), Hid (Wr w2 b (l ++ (vb s.size ++ s.data.toList))) → Calls Tryd.prog 27 #[.pointer (some ⟨b, 0, none⟩), .string ss] w2 fun e w' => e = .returned (.tuple #[]) ∧ Hid (Wr w' b (l ++ page s.data.toList)) ∧ Hid (Below b w2 w')) := by
    intro w2 hw2
    refine (wtext_any b _ ss _ hw2.out (by rw [List.length_append, List.length_append]; simp; omega)).mono ?_
    rintro e w3 ⟨rfl, h3, hb3⟩
    have e : l ++ (vb s.size ++ s.data.toList) ++ ss.data.toList = l ++ page s.data.toList := by
      rw [HSS.out, data_str]
      unfold page
      simp [List.append_assoc]
    rw [e] at h3; exact ⟨rfl, h3, hb3⟩
  clear HW1 HB1 HT1
  go_wp2_with fail
  go_region_held3 (fun w' => True) (trivial)
    (first | (go_at_call 31; refine (HSUM.out _ ⟨_, rfl⟩).mono ?_; rintro e w2 ⟨rfl, HW2, HB2⟩) | (go_at_call 27; refine (HTXT.out _ HW2).mono ?_; rintro e w3 ⟨rfl, HW3, HB3⟩))
  all_goals go_wp2
  all_goals go_end0
  all_goals exact ⟨rfl, HW3.out, HB2.out.trans HB3.out⟩
set_option maxRecDepth 100000 in
set_option maxHeartbeats 1000000 in
theorem headtext_any (name : ByteArray) (ar n : Nat) (w : World) (hn : name.size ≤ 1099511627776) (ha : ar ≤ 1099511627776) (hr : n ≤ 1099511627776) :
    Calls Tryd.prog 29 #[.agg #[.string name, .int .i64 ar, .int .i64 n]] w fun e w' => e = .returned (.string (str (headT name.data.toList ar n))) ∧ Below w.heap.size w w' := by
  have l1 := vb_length9 name.size (by omega)
  have l2 := vb_length9 ar (by omega)
  have l3 := vb_length9 n (by omega)
  go_enter Tryd.func29, Tryd.ntmps29
  have HB0 : Hid (Below w.heap.size w ((w.alloc (.cells #[.string name, .int .i64 ar, .int .i64 n] 61)).alloc (.cells #[.slice none 0 0] 56))) := ((Below.refl _ _).alloc (Nat.le_refl _) _).alloc (by simp) _
  go_wp2_with fail
  refine (wcounted_any (w.heap.size + 1) [] name _ (Wr.newAt _ _ _ (by simp)) (by simp; omega)).mono ?_
  rintro e w1 ⟨rfl, h1, hb1⟩
  have q1 : w1.cell? ⟨w.heap.size, 1, none⟩ = some (.int .i64 ar) := by rw [hb1.cell (p := ⟨w.heap.size, 1, none⟩) (Nat.lt_succ_self _)]; simp
  have q2 : w1.cell? ⟨w.heap.size, 2, none⟩ = some (.int .i64 n) := by rw [hb1.cell (p := ⟨w.heap.size, 2, none⟩) (Nat.lt_succ_self _)]; simp
  have HB1 : Hid (Below w.heap.size w w1) := HB0.out.trans (hb1.mono (Nat.le_succ _))
  have HW1 : Hid (Wr w1 (w.heap.size + 1) (vb name.size ++ name.data.toList)) := by rw [List.nil_append] at h1; exact h1
  clear hb1 h1
  go_wp2_with fail
  refine (wnumber_any (w.heap.size + 1) _ ar _ HW1.out (by omega) (by rw [List.length_append]; simp; omega)).mono ?_
  rintro e w2 ⟨rfl, h2, hb2⟩
  have q2' : w2.cell? ⟨w.heap.size, 2, none⟩ = some (.int .i64 n) := by rw [hb2.cell (p := ⟨w.heap.size, 2, none⟩) (Nat.lt_succ_self _)]; exact q2
  have HB2 : Hid (Below w.heap.size w w2) := HB1.out.trans (hb2.mono (Nat.le_succ _))
  have HW2 : Hid (Wr w2 (w.heap.size + 1) (vb name.size ++ name.data.toList ++ vb ar)) := h2
  clear hb2 h2 q1 q2 HW1 HB1
  go_wp2_with fail
  refine (wnumber_any (w.heap.size + 1) _ n _ HW2.out (by omega) (by rw [List.length_append, List.length_append]; simp; omega)).mono ?_
  rintro e w3 ⟨rfl, h3, hb3⟩
  have HB3 : Hid (Below w.heap.size w w3) := HB2.out.trans (hb3.mono (Nat.le_succ _))
  have HW3 : Hid (Wr w3 (w.heap.size + 1) (vb name.size ++ name.data.toList ++ vb ar ++ vb n)) := h3
  clear hb3 h3 q2' HW2 HB2
  go_wp2_with fail
  refine (written_any (w.heap.size + 1) _ _ HW3.out).mono ?_
  rintro e w4 ⟨rfl, rfl⟩
  have HHT : Hid (str (vb name.size ++ name.data.toList ++ vb ar ++ vb n) = str (headT name.data.toList ar n)) := by
    show _ = _
    unfold headT; simp [List.append_assoc]
  rw [HHT.out]
  go_wp2
  go_ret
  exact ⟨rfl, HB3.out⟩
end Go.Proofs.YtnnldpccagajbaaDoor
