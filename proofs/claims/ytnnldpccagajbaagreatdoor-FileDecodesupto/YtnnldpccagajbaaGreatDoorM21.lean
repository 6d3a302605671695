import Derived.Test.YtnnldpccagajbaaGreatDoorM06
import Derived.Test.YtnnldpccagajbaaGreatDoorM08
import Derived.Test.YtnnldpccagajbaaGreatDoorM20
/-
  The program's stream.Cursor, in one form for whatever state it is in; and the cursor over pages.
-/
namespace Go.Proofs.YtnnldpccagajbaaGreatDoor
open Go.ChangeShapes Go.WideShapes Go.ChangeAt Go.RowKit
open wireVarints (unvarint_same three)
set_option linter.unusedVariables false
/-- a cursor's place and error -/
structure CS where
  a : Nat
  z : Nat
def cnum (s : ByteArray) (c : CS) : Nat × CS := if c.z ≠ 0 then (0, c) else match uv 0 0 (from_ s c.a) with
  | none => (0, ⟨c.a, 4⟩)
  | some (n, k) => (n, ⟨c.a + k, 0⟩)
def ctk (s : ByteArray) (c : CS) (m : Nat) : List UInt8 × CS := if c.z ≠ 0 then ([], c) else if s.size - c.a < m then ([], ⟨c.a, 4⟩) else ((from_ s c.a).take m, ⟨c.a + m, 0⟩)
def cct (s : ByteArray) (c : CS) : List UInt8 × CS := ctk s (cnum s c).2 (cnum s c).1
def cfl (c : CS) (x : Nat) : CS := if c.z = 0 then ⟨c.a, x⟩ else c
def cen (s : ByteArray) (c : CS) : CS := if c.a = s.size then c else cfl c 4
/-- it stands within its bytes, if nothing has stopped it -/
def InP (s : ByteArray) (c : CS) : Prop := c.z = 0 → c.a ≤ s.size
theorem cnum_in (s : ByteArray) (c : CS) (h : InP s c) : InP s (cnum s c).2 ∧ (cnum s c).1 < 9223372036854775808 := by
  unfold cnum
  by_cases hz : c.z ≠ 0
  · rw [if_pos hz]; exact ⟨h, (by simp only; omega)⟩
  · rw [if_neg hz]
    have hz0 : c.z = 0 := by omega
    cases hu : uv 0 0 (from_ s c.a) with
    | none => exact ⟨fun h0 => (by cases h0), (by simp only; omega)⟩
    | some q =>
      obtain ⟨n, k⟩ := q
      obtain ⟨-, h2, h3⟩ := uv_in s c.a n k (h hz0) hu
      exact ⟨fun _ => h2, h3⟩
theorem ctk_in (s : ByteArray) (c : CS) (m : Nat) (h : InP s c) : InP s (ctk s c m).2 ∧ (ctk s c m).1.length ≤ s.size := by
  unfold ctk
  by_cases hz : c.z ≠ 0
  · rw [if_pos hz]; exact ⟨h, by simp⟩
  · rw [if_neg hz]
    have hz0 : c.z = 0 := by omega
    have := h hz0
    split
    · exact ⟨fun h0 => (by cases h0), (by simp)⟩
    · exact ⟨fun _ => (by simp only; omega), by rw [List.length_take, from_len]; omega⟩
/-- what a cursor's call leaves: its first three cells may be others, all else that there was stays -/
structure CFr (w w' : World) (b : Nat) : Prop where
  g : w.grownBy w' (some b)
  k : ∀ i, 3 ≤ i → w'.cell? ⟨b, i, none⟩ = w.cell? ⟨b, i, none⟩ ∧ w'.frozen? ⟨b, i, none⟩ = w.frozen? ⟨b, i, none⟩
theorem CFr.refl (w : World) (b : Nat) : CFr w w b := ⟨cgrown_refl _ _, fun _ _ => ⟨rfl, rfl⟩⟩
theorem CFr.trans {w w' w'' : World} {b : Nat} (h : CFr w w' b) (h' : CFr w' w'' b) : CFr w w'' b := ⟨h.g.trans h'.g, fun i hi => ⟨((h'.k i hi).1).trans (h.k i hi).1, ((h'.k i hi).2).trans (h.k i hi).2⟩⟩
theorem CFr.draws (w : World) (b n : Nat) : CFr w (w.drewN n) b := ⟨cgrown_draws _ _ _, fun _ _ => ⟨rfl, rfl⟩⟩
theorem CFr.set (w : World) (b j : Nat) (u : Value) (hj : j < 3) : CFr w (w.setCell ⟨b, j, none⟩ u) b :=
  ⟨cgrown_set w ⟨b, j, none⟩ u, fun i hi => ⟨World.cell?_setCell_other _ _ _ _ (by intro e; cases e; omega), by rw [World.frozen?_setCell]⟩⟩
theorem CFr.below {w w' : World} {b : Nat} (h : Below w.heap.size w w') (hb : b < w.heap.size) : CFr w w' b :=
  ⟨⟨h.os, h.tape, h.output, h.size, fun k hk _ => h.block k hk⟩, fun i _ => ⟨h.cell (p := ⟨b, i, none⟩) hb, h.frozen (p := ⟨b, i, none⟩) hb⟩⟩
set_option maxRecDepth 100000 in
set_option maxHeartbeats 400000 in
theorem kfail_all (b : Nat) (s : ByteArray) (c c' : CS) (x : Nat) (w : World) (h : Cur w b s (c.a : Nat) (c.z : Nat)) (HX : Hid (cfl c x = c')) :
    Calls Tryz.prog 65 #[.pointer (some ⟨b, 0, none⟩), .int .i64 (x : Nat)] w fun e w' => e = .returned (.tuple #[]) ∧ Hid (Cur w' b s (c'.a : Nat) (c'.z : Nat)) ∧ Hid (CFr w w' b) := by
  have HC : Hid (Cur w b s (c.a : Nat) (c.z : Nat)) := h
  have HC2 : Hid (Cur (w.setCell ⟨b, 2, none⟩ (.int .i64 (x : Nat))) b s (c.a : Nat) (x : Nat)) := h.setErr _
  obtain ⟨c0, c1, c2, f1, f2⟩ := h
  by_cases hz : c.z = 0
  · have HE : Hid (c' = ⟨c.a, x⟩) := by show _ = _; rw [← HX.out]; unfold cfl; rw [if_pos hz]
    have hz' : ((c.z : Int) == 0) = true := by simp [hz]
    clear hz
    go_enter Tryz.func65, Tryz.ntmps65
    go_wp2
    go_end0
    exact ⟨rfl, by rw [HE.out]; exact HC2, CFr.set w b 2 _ (by decide)⟩
  · have HE : Hid (c' = c) := by show _ = _; rw [← HX.out]; unfold cfl; rw [if_neg hz]
    have hz' : ((c.z : Int) == 0) = false := by simp [hz]
    clear hz
    go_enter Tryz.func65, Tryz.ntmps65
    go_wp2
    go_end0
    exact ⟨rfl, by rw [HE.out]; exact HC, CFr.refl _ _⟩
set_option maxRecDepth 100000 in
set_option maxHeartbeats 400000 in
theorem kplace_all (b : Nat) (s : ByteArray) (a y : Int) (w : World) (h : Cur w b s a y) :
    Calls Tryz.prog 66 #[.pointer (some ⟨b, 0, none⟩)] w fun e w' => e = .returned (.int .i64 a) ∧ w = w' := by
  obtain ⟨c0, c1, c2, f1, f2⟩ := h
  go_enter Tryz.func66, Tryz.ntmps66
  go_wp2
  go_ret
  exact ⟨rfl, rfl⟩
set_option maxRecDepth 100000 in
set_option maxHeartbeats 400000 in
theorem knumber_all (b : Nat) (s : ByteArray) (c c' : CS) (n : Nat) (w : World) (h : Cur w b s (c.a : Nat) (c.z : Nat)) (hp : InP s c) (hs : s.size ≤ 140737488355328) (HX : Hid (cnum s c = (n, c'))) :
    Calls Tryz.prog 69 #[.pointer (some ⟨b, 0, none⟩)] w fun e w' => e = .returned (.int .i64 (n : Nat)) ∧ Hid (Cur w' b s (c'.a : Nat) (c'.z : Nat)) ∧ Hid (CFr w w' b) := by
  have HC : Hid (Cur w b s (c.a : Nat) (c.z : Nat)) := h
  obtain ⟨c0, c1, c2, f1, f2⟩ := h
  by_cases hz : c.z = 0
  · have ha : c.a ≤ s.size := hp hz
    have hz' : ((c.z : Int) != 0) = false := by simp [hz]
    obtain ⟨ca, cz⟩ := c
    simp only at hz ha hz' c0 c1 c2 HC
    subst hz
    cases hu : uv 0 0 (from_ s ca) with
    | none =>
      have HE : Hid (n = 0 ∧ c' = ⟨ca, 4⟩) := by
        have h1 := HX.out
        unfold cnum at h1
        simp only [ne_eq, not_true_eq_false, if_false] at h1
        rw [hu] at h1
        cases h1; exact ⟨rfl, rfl⟩
      have HT : Hid (∀ wx : World, Calls Tryz.prog 88 #[.string s, .int .i64 ca] wx fun e w' => e = .returned (.tuple #[.int .i64 0, .int .i64 0, .int .i64 4]) ∧ w' = wx) := by
        intro wx
        have := unvarint_same s ca wx ha hs
        rw [hu] at this; exact this
      clear hu
      go_enter Tryz.func69, Tryz.ntmps69
      go_wp2_with fail
      go_quiet ((go_at_call 88; refine Calls.quiet_of_same (HT.out _)))
      go_wp2_with fail
      refine (kfail_all b s ⟨ca, 0⟩ ⟨ca, 4⟩ 4 _ (HC.out.drewN _) (rfl : _ = _)).mono ?_
      rintro e w2 ⟨rfl, hc2, hg2⟩
      go_wp2
      go_ret
      exact ⟨by rw [HE.out.1]; rfl, by rw [HE.out.2]; exact hc2, (CFr.draws w b _).trans hg2.out⟩
    | some q =>
      obtain ⟨m, k⟩ := q
      have HE : Hid (n = m ∧ c' = ⟨ca + k, 0⟩) := by
        have h1 := HX.out
        unfold cnum at h1
        simp only [ne_eq, not_true_eq_false, if_false] at h1
        rw [hu] at h1
        cases h1; exact ⟨rfl, rfl⟩
      have HT : Hid (∀ wx : World, Calls Tryz.prog 88 #[.string s, .int .i64 ca] wx fun e w' => e = .returned (.tuple #[.int .i64 m, .int .i64 ((ca + k : Nat) : Int), .int .i64 0]) ∧ w' = wx) := by
        intro wx
        have := unvarint_same s ca wx ha hs
        rw [hu] at this; exact this
      clear hu
      have HC3 : Hid (∀ j : Nat, Cur ((w.drewN j).setCell ⟨b, 1, none⟩ (.int .i64 ((ca + k : Nat) : Int))) b s ((ca + k : Nat) : Int) 0) := fun j => (HC.out.drewN j).setAt _
      go_enter Tryz.func69, Tryz.ntmps69
      go_wp2_with fail
      go_quiet ((go_at_call 88; refine Calls.quiet_of_same (HT.out _)))
      go_wp2
      go_ret
      exact ⟨by rw [HE.out.1]; rfl, by rw [HE.out.2]; exact HC3.out _, (CFr.draws w b _).trans (CFr.set _ b 1 _ (by decide))⟩
  · have HE : Hid (n = 0 ∧ c' = c) := by
      have h1 := HX.out
      unfold cnum at h1
      rw [if_pos hz] at h1
      cases h1; exact ⟨rfl, rfl⟩
    have hz' : ((c.z : Int) != 0) = true := by simp [hz]
    clear hz
    go_enter Tryz.func69, Tryz.ntmps69
    go_wp2
    go_ret
    exact ⟨by rw [HE.out.1]; rfl, by rw [HE.out.2]; exact HC, CFr.refl _ _⟩
set_option maxRecDepth 100000 in
set_option maxHeartbeats 400000 in
theorem ktake_all (b : Nat) (s : ByteArray) (c c' : CS) (m : Nat) (t : List UInt8) (w : World) (h : Cur w b s (c.a : Nat) (c.z : Nat)) (hp : InP s c) (hs : s.size ≤ 140737488355328) (hm : m < 9223372036854775808) (HX : Hid (ctk s c m = (t, c'))) :
    Calls Tryz.prog 68 #[.pointer (some ⟨b, 0, none⟩), .int .i64 (m : Nat)] w fun e w' => e = .returned (.string (str t)) ∧ Hid (Cur w' b s (c'.a : Nat) (c'.z : Nat)) ∧ Hid (CFr w w' b) := by
  have HC : Hid (Cur w b s (c.a : Nat) (c.z : Nat)) := h
  obtain ⟨c0, c1, c2, f1, f2⟩ := h
  by_cases hz : c.z = 0
  · have ha : c.a ≤ s.size := hp hz
    obtain ⟨ca, cz⟩ := c
    simp only at hz ha c0 c1 c2 HC
    subst hz
    by_cases hlt : s.size - ca < m
    · have HE : Hid (t = [] ∧ c' = ⟨ca, 4⟩) := by
        have h1 := HX.out
        unfold ctk at h1
        simp only [ne_eq, not_true_eq_false, if_false] at h1
        rw [if_pos hlt] at h1
        cases h1; exact ⟨rfl, rfl⟩
      have h0 : decide ((m : Int) < 0) = false := by simp
      have h1 : decide ((s.size : Int) - (ca : Int) < (m : Int)) = true := by simp; omega
      go_enter Tryz.func68, Tryz.ntmps68
      go_wp2
      go_quiet (fail)
      go_wp2_with fail
      refine (kfail_all b s ⟨ca, 0⟩ ⟨ca, 4⟩ 4 _ (HC.out.drewN _) (rfl : _ = _)).mono ?_
      rintro e w2 ⟨rfl, hc2, hg2⟩
      go_wp2
      go_ret
      exact ⟨by rw [HE.out.1]; rfl, by rw [HE.out.2]; exact hc2, (CFr.draws w b _).trans hg2.out⟩
    · have HE : Hid (t = (from_ s ca).take m ∧ c' = ⟨ca + m, 0⟩) := by
        have h1 := HX.out
        unfold ctk at h1
        simp only [ne_eq, not_true_eq_false, if_false] at h1
        rw [if_neg hlt] at h1
        cases h1; exact ⟨rfl, rfl⟩
      have HC3 : Hid (∀ i j : Nat, Cur (((w.drewN i).setCell ⟨b, 1, none⟩ (.int .i64 ((ca + m : Nat) : Int))).drewN j) b s ((ca + m : Nat) : Int) 0) := fun i j => ((HC.out.drewN i).setAt _).drewN j
      have h0 : decide ((m : Int) < 0) = false := by simp
      have h1 : decide ((s.size : Int) - (ca : Int) < (m : Int)) = false := by simp; omega
      go_enter Tryz.func68, Tryz.ntmps68
      go_wp2
      go_quiet (fail)
      go_wp2
      go_quiet (fail)
      go_wp2
      go_ret
      refine ⟨ret_str ?_, ?_, ?_⟩
      · rw [HE.out.1, ← extract_take]
      · rw [HE.out.2]; exact HC3.out _ _
      · exact ((CFr.draws w b _).trans (CFr.set _ b 1 _ (by decide))).trans (CFr.draws _ b _)
  · have HE : Hid (t = [] ∧ c' = c) := by
      have h1 := HX.out
      unfold ctk at h1
      rw [if_pos hz] at h1
      cases h1; exact ⟨rfl, rfl⟩
    have hz' : ((c.z : Int) != 0) = true := by simp [hz]
    clear hz
    go_enter Tryz.func68, Tryz.ntmps68
    go_wp2
    go_ret
    exact ⟨by rw [HE.out.1]; rfl, by rw [HE.out.2]; exact HC, CFr.refl _ _⟩
set_option maxRecDepth 100000 in
set_option maxHeartbeats 400000 in
theorem kcounted_all (b : Nat) (s : ByteArray) (c c' : CS) (t : List UInt8) (w : World) (h : Cur w b s (c.a : Nat) (c.z : Nat)) (hp : InP s c) (hs : s.size ≤ 140737488355328) (HX : Hid (cct s c = (t, c'))) :
    Calls Tryz.prog 67 #[.pointer (some ⟨b, 0, none⟩)] w fun e w' => e = .returned (.string (str t)) ∧ Hid (Cur w' b s (c'.a : Nat) (c'.z : Nat)) ∧ Hid (CFr w w' b) := by
  obtain ⟨hp1, hn1⟩ := cnum_in s c hp
  obtain ⟨n, c1, HN⟩ : ∃ n c1, Hid (cnum s c = (n, c1)) := ⟨_, _, rfl⟩
  have HX2 : Hid (ctk s c1 n = (t, c')) := by have h1 := HX.out; unfold cct at h1; rw [HN.out] at h1; exact h1
  rw [HN.out] at hp1 hn1
  simp only at hp1 hn1
  go_enter Tryz.func67, Tryz.ntmps67
  go_wp2_with fail
  refine (knumber_all b s c c1 n _ h hp hs HN).mono ?_
  rintro e w1 ⟨rfl, hc1, hg1⟩
  go_wp2_with fail
  refine (ktake_all b s c1 c' n t _ hc1.out hp1 hs hn1 HX2).mono ?_
  rintro e w2 ⟨rfl, hc2, hg2⟩
  go_wp2
  go_ret
  exact ⟨rfl, hc2, hg1.out.trans hg2.out⟩
set_option maxRecDepth 100000 in
set_option maxHeartbeats 400000 in
theorem kend_all (b : Nat) (s : ByteArray) (c c' : CS) (w : World) (h : Cur w b s (c.a : Nat) (c.z : Nat)) (hs : s.size ≤ 140737488355328) (HX : Hid (cen s c = c')) :
    Calls Tryz.prog 70 #[.pointer (some ⟨b, 0, none⟩)] w fun e w' => e = .returned (.tuple #[]) ∧ Hid (Cur w' b s (c'.a : Nat) (c'.z : Nat)) ∧ Hid (CFr w w' b) := by
  have HC : Hid (Cur w b s (c.a : Nat) (c.z : Nat)) := h
  obtain ⟨c0, c1, c2, f1, f2⟩ := h
  by_cases he : c.a = s.size
  · have HE : Hid (c' = c) := by show _ = _; rw [← HX.out]; unfold cen; rw [if_pos he]
    have hq : ((c.a : Int) == (s.size : Int)) = true := by rw [beq_iff_eq]; omega
    clear he
    go_enter Tryz.func70, Tryz.ntmps70
    go_wp2_with fail
    go_quiet (fail)
    go_wp2
    go_end0
    exact ⟨rfl, by rw [HE.out]; exact HC.out.drewN _, CFr.draws _ _ _⟩
  · have HE : Hid (cfl c 4 = c') := by show _ = _; rw [← HX.out]; unfold cen; rw [if_neg he]
    have hq : ((c.a : Int) == (s.size : Int)) = false := by rw [beq_eq_false_iff_ne]; omega
    clear he
    go_enter Tryz.func70, Tryz.ntmps70
    go_wp2_with fail
    go_quiet (fail)
    go_wp2_with fail
    refine (kfail_all b s c c' 4 _ (HC.out.drewN _) HE).mono ?_
    rintro e w2 ⟨rfl, hc2, hg2⟩
    go_wp2
    go_end0
    exact ⟨rfl, hc2, (CFr.draws _ _ _).trans hg2.out⟩
end Go.Proofs.YtnnldpccagajbaaGreatDoor
