import Derived.Test.YtfjbmkicemlfjaaVarint
import Derived.Deep.QuietTactic
import Derived.BigQuiet
namespace Go.Proofs.Ytfjbmkicemlfjaa.wireVarints
open Go.ChangeShapes Go.WideShapes Go.ChangeAt Go.RowKit
set_option linter.unusedVariables false
/-- a cursor at block b: its bytes, its place, its error -/
structure Cur (w : World) (b : Nat) (s : ByteArray) (a e : Int) : Prop where
  c0 : w.cell? ⟨b, 0, none⟩ = some (.string s)
  c1 : w.cell? ⟨b, 1, none⟩ = some (.int .i64 a)
  c2 : w.cell? ⟨b, 2, none⟩ = some (.int .i64 e)
  f1 : w.frozen? ⟨b, 1, none⟩ = false
  f2 : w.frozen? ⟨b, 2, none⟩ = false
theorem Cur.setErr {w : World} {b : Nat} {s : ByteArray} {a e : Int} (h : Cur w b s a e) (x : Int) : Cur (w.setCell ⟨b, 2, none⟩ (.int .i64 x)) b s a x :=
  ⟨by rw [World.cell?_setCell_other _ _ _ _ (by simp)]; exact h.c0, by rw [World.cell?_setCell_other _ _ _ _ (by simp)]; exact h.c1, World.cell?_setCell_same _ _ _ h.c2, by rw [World.frozen?_setCell]; exact h.f1, by rw [World.frozen?_setCell]; exact h.f2⟩
theorem Cur.setAt {w : World} {b : Nat} {s : ByteArray} {a e : Int} (h : Cur w b s a e) (x : Int) : Cur (w.setCell ⟨b, 1, none⟩ (.int .i64 x)) b s x e :=
  ⟨by rw [World.cell?_setCell_other _ _ _ _ (by simp)]; exact h.c0, World.cell?_setCell_same _ _ _ h.c1, by rw [World.cell?_setCell_other _ _ _ _ (by simp)]; exact h.c2, by rw [World.frozen?_setCell]; exact h.f1, by rw [World.frozen?_setCell]; exact h.f2⟩
theorem Cur.drewN {w : World} {b : Nat} {s : ByteArray} {a e : Int} (h : Cur w b s a e) (n : Nat) : Cur (w.drewN n) b s a e := ⟨h.c0, h.c1, h.c2, h.f1, h.f2⟩
set_option maxRecDepth 100000 in
set_option maxHeartbeats 400000 in
theorem fail_first (b : Nat) (s : ByteArray) (a x : Int) (w : World) (h : Cur w b s a 0) :
    Calls Try.prog 16 #[.pointer (some ⟨b, 0, none⟩), .int .i64 x] w fun e w' => e = .returned (.tuple #[]) ∧ Cur w' b s a x ∧ Below b w w' := by
  have h1 := h.setErr x
  have HC : Hid (Cur (w.setCell ⟨b, 2, none⟩ (.int .i64 x)) b s a x) := h1
  clear h1
  obtain ⟨c0, c1, c2, f1, f2⟩ := h
  go_enter Try.func16, Try.ntmps16
  go_wp2
  go_end0
  exact ⟨rfl, HC.out, (Below.refl b w).setCell (p := ⟨b, 2, none⟩) (Nat.le_refl b) _⟩
set_option maxRecDepth 100000 in
set_option maxHeartbeats 400000 in
theorem fail_later (b : Nat) (s : ByteArray) (a x y : Int) (w : World) (h : Cur w b s a y) (hy : (y == 0) = false) :
    Calls Try.prog 16 #[.pointer (some ⟨b, 0, none⟩), .int .i64 x] w fun e w' => e = .returned (.tuple #[]) ∧ Cur w' b s a y ∧ Below b w w' := by
  have HC : Hid (Cur w b s a y) := h
  obtain ⟨c0, c1, c2, f1, f2⟩ := h
  go_enter Try.func16, Try.ntmps16
  go_wp2
  go_end0
  exact ⟨rfl, HC.out, Below.refl _ _⟩
set_option maxRecDepth 100000 in
set_option maxHeartbeats 400000 in
theorem next_some (b k : Nat) (s : ByteArray) (w : World) (h : Cur w b s k 0) (hk : k < s.size) (hs : s.size ≤ 140737488355328) :
    Calls Try.prog 17 #[.pointer (some ⟨b, 0, none⟩)] w fun e w' => e = .returned (.int .u8 (s[k].toNat : Int)) ∧ Cur w' b s ((k + 1 : Nat) : Int) 0 ∧ Below b w w' := by
  have HC : Hid (Cur w b s k 0) := h
  obtain ⟨c0, c1, c2, f1, f2⟩ := h
  have e1 : (((k : Nat) : Int) == ((s.size : Nat) : Int)) = false := by simp; omega
  go_enter Try.func17, Try.ntmps17
  go_wp2
  go_quiet (fail)
  go_wp2
  go_quiet (fail)
  go_wp2
  go_ret
  exact ⟨rfl, (HC.out.drewN _).setAt _, (below_drewN (Below.refl b w) _).setCell (p := ⟨b, 1, none⟩) (Nat.le_refl b) _⟩
set_option maxRecDepth 100000 in
set_option maxHeartbeats 400000 in
theorem next_end (b : Nat) (s : ByteArray) (w : World) (h : Cur w b s s.size 0) (hs : s.size ≤ 140737488355328) :
    Calls Try.prog 17 #[.pointer (some ⟨b, 0, none⟩)] w fun e w' => e = .returned (.int .u8 0) ∧ Cur w' b s s.size 4 ∧ Below b w w' := by
  have HC : Hid (Cur w b s s.size 0) := h
  obtain ⟨c0, c1, c2, f1, f2⟩ := h
  have e1 : (((s.size : Nat) : Int) == ((s.size : Nat) : Int)) = true := by simp
  go_enter Try.func17, Try.ntmps17
  go_wp2
  go_quiet (fail)
  go_wp2_with fail
  refine (fail_first b s s.size 4 _ (HC.out.drewN _)).mono ?_
  rintro e w1 ⟨rfl, hc1, hb1⟩
  go_wp2
  go_ret
  exact ⟨rfl, hc1, (below_drewN (Below.refl b w) _).trans hb1⟩
set_option maxRecDepth 100000 in
set_option maxHeartbeats 400000 in
theorem next_err (b : Nat) (s : ByteArray) (a y : Int) (w : World) (h : Cur w b s a y) (hy : (y == 0) = false) (hs : s.size ≤ 140737488355328) :
    Calls Try.prog 17 #[.pointer (some ⟨b, 0, none⟩)] w fun e w' => e = .returned (.int .u8 0) ∧ Cur w' b s a y ∧ Below b w w' := by
  have HC : Hid (Cur w b s a y) := h
  obtain ⟨c0, c1, c2, f1, f2⟩ := h
  have hy2 : (y != 0) = true := by simp at hy; simp [hy]
  go_enter Try.func17, Try.ntmps17
  go_wp2
  go_quiet (fail)
  go_wp2_with fail
  refine (fail_later b s a 4 y _ (HC.out.drewN _) hy).mono ?_
  rintro e w1 ⟨rfl, hc1, hb1⟩
  go_wp2
  go_ret
  exact ⟨rfl, hc1, (below_drewN (Below.refl b w) _).trans hb1⟩
end Go.Proofs.Ytfjbmkicemlfjaa.wireVarints
