/-
  The document's Reader: next, walked.
-/
import Derived.Test.YtoelacloghkooaaDoorRdWord
namespace Go.Proofs.YtoelacloghkooaaDoor
open Go.ChangeShapes Go.WideShapes Go.ChangeAt Go.RowKit
set_option linter.unusedVariables false
/-- all that a reader holds -/
structure RS (w : World) (b : Nat) (s : ByteArray) (i : Int) (kd : Int) (tx : ByteArray) (a : Int) (e x : Int) : Prop where
  c0 : w.cell? ⟨b, 0, none⟩ = some (.string s)
  c1 : w.cell? ⟨b, 1, none⟩ = some (.int .i64 i)
  c2 : w.cell? ⟨b, 2, none⟩ = some (.int .i64 kd)
  c3 : w.cell? ⟨b, 3, none⟩ = some (.string tx)
  c4 : w.cell? ⟨b, 4, none⟩ = some (.int .i64 a)
  c5 : w.cell? ⟨b, 5, none⟩ = some (.int .i64 e)
  c6 : w.cell? ⟨b, 6, none⟩ = some (.int .i64 x)
  f1 : w.frozen? ⟨b, 1, none⟩ = false
  f2 : w.frozen? ⟨b, 2, none⟩ = false
  f3 : w.frozen? ⟨b, 3, none⟩ = false
  f4 : w.frozen? ⟨b, 4, none⟩ = false
  f5 : w.frozen? ⟨b, 5, none⟩ = false
  f6 : w.frozen? ⟨b, 6, none⟩ = false
/-- what turns of a world is the reader alone -/
structure RFx (w w' : World) (b : Nat) : Prop where
  os : w'.os = w.os
  tape : w'.tape = w.tape
  output : w'.output = w.output
  size : w'.heap.size = w.heap.size
  block : ∀ k, k ≠ b → w'.heap[k]? = w.heap[k]?
theorem RFx.refl (w : World) (b : Nat) : RFx w w b := ⟨rfl, rfl, rfl, rfl, fun _ _ => rfl⟩
theorem RFx.trans {w w' w'' : World} {b : Nat} (h : RFx w w' b) (k : RFx w' w'' b) : RFx w w'' b :=
  ⟨k.os.trans h.os, k.tape.trans h.tape, k.output.trans h.output, k.size.trans h.size, fun j hj => (k.block j hj).trans (h.block j hj)⟩
theorem RFx.draws (w : World) (b n : Nat) : RFx w (w.drewN n) b := ⟨rfl, rfl, rfl, rfl, fun _ _ => rfl⟩
theorem RFx.set (w : World) (b j : Nat) (u : Value) : RFx w (w.setCell ⟨b, j, none⟩ u) b :=
  ⟨rfl, rfl, rfl, by simp [World.setCell], fun k hk => Below.heap_setCell w ⟨b, j, none⟩ u k hk⟩
theorem RFr.x {w w' : World} {b : Nat} (h : RFr w w' b) : RFx w w' b := ⟨h.os, h.tape, h.output, h.size, h.block⟩
theorem RS.rd {w : World} {b : Nat} {s : ByteArray} {i kd : Int} {tx : ByteArray} {a e x : Int} (h : RS w b s i kd tx a e x) : Rd w b s i := ⟨h.c0, h.c1, h.f1⟩
theorem RS.skipped {w w' : World} {b : Nat} {s : ByteArray} {i kd : Int} {tx : ByteArray} {a e x : Int} (h : RS w b s i kd tx a e x) (f : RFr w w' b) {j : Int} (r : Rd w' b s j) : RS w' b s j kd tx a e x :=
  ⟨r.c0, r.c1, (f.cell 2 (by omega)).trans h.c2, (f.cell 3 (by omega)).trans h.c3, (f.cell 4 (by omega)).trans h.c4, (f.cell 5 (by omega)).trans h.c5, (f.cell 6 (by omega)).trans h.c6,
    r.f1, (f.frozen 2).trans h.f2, (f.frozen 3).trans h.f3, (f.frozen 4).trans h.f4, (f.frozen 5).trans h.f5, (f.frozen 6).trans h.f6⟩
theorem RS.drewN {w : World} {b : Nat} {s : ByteArray} {i kd : Int} {tx : ByteArray} {a e x : Int} (h : RS w b s i kd tx a e x) (n : Nat) : RS (w.drewN n) b s i kd tx a e x :=
  ⟨h.c0, h.c1, h.c2, h.c3, h.c4, h.c5, h.c6, h.f1, h.f2, h.f3, h.f4, h.f5, h.f6⟩
theorem RS.set1 {w : World} {b : Nat} {s : ByteArray} {i kd : Int} {tx : ByteArray} {a e x : Int} (h : RS w b s i kd tx a e x) (j : Int) : RS (w.setCell ⟨b, 1, none⟩ (.int .i64 j)) b s j kd tx a e x := by
  constructor <;> first
    | (rw [World.cell?_setCell_same _ _ _ h.c1]; done)
    | (rw [World.cell?_setCell_other _ _ _ _ (by simp)]; first | exact h.c0 | exact h.c2 | exact h.c3 | exact h.c4 | exact h.c5 | exact h.c6)
    | (rw [World.frozen?_setCell]; first | exact h.f1 | exact h.f2 | exact h.f3 | exact h.f4 | exact h.f5 | exact h.f6)
theorem RS.set2 {w : World} {b : Nat} {s : ByteArray} {i kd : Int} {tx : ByteArray} {a e x : Int} (h : RS w b s i kd tx a e x) (j : Int) : RS (w.setCell ⟨b, 2, none⟩ (.int .i64 j)) b s i j tx a e x := by
  constructor <;> first
    | (rw [World.cell?_setCell_same _ _ _ h.c2]; done)
    | (rw [World.cell?_setCell_other _ _ _ _ (by simp)]; first | exact h.c0 | exact h.c1 | exact h.c3 | exact h.c4 | exact h.c5 | exact h.c6)
    | (rw [World.frozen?_setCell]; first | exact h.f1 | exact h.f2 | exact h.f3 | exact h.f4 | exact h.f5 | exact h.f6)
theorem RS.set3 {w : World} {b : Nat} {s : ByteArray} {i kd : Int} {tx : ByteArray} {a e x : Int} (h : RS w b s i kd tx a e x) (j : ByteArray) : RS (w.setCell ⟨b, 3, none⟩ (.string j)) b s i kd j a e x := by
  constructor <;> first
    | (rw [World.cell?_setCell_same _ _ _ h.c3]; done)
    | (rw [World.cell?_setCell_other _ _ _ _ (by simp)]; first | exact h.c0 | exact h.c1 | exact h.c2 | exact h.c4 | exact h.c5 | exact h.c6)
    | (rw [World.frozen?_setCell]; first | exact h.f1 | exact h.f2 | exact h.f3 | exact h.f4 | exact h.f5 | exact h.f6)
theorem RS.set4 {w : World} {b : Nat} {s : ByteArray} {i kd : Int} {tx : ByteArray} {a e x : Int} (h : RS w b s i kd tx a e x) (j : Int) : RS (w.setCell ⟨b, 4, none⟩ (.int .i64 j)) b s i kd tx j e x := by
  constructor <;> first
    | (rw [World.cell?_setCell_same _ _ _ h.c4]; done)
    | (rw [World.cell?_setCell_other _ _ _ _ (by simp)]; first | exact h.c0 | exact h.c1 | exact h.c2 | exact h.c3 | exact h.c5 | exact h.c6)
    | (rw [World.frozen?_setCell]; first | exact h.f1 | exact h.f2 | exact h.f3 | exact h.f4 | exact h.f5 | exact h.f6)
set_option maxRecDepth 100000 in
set_option maxHeartbeats 1000000 in
/-- next, where an error stands or nothing is left -/
theorem rnext_end (b : Nat) (s : ByteArray) (i : Nat) (kd : Int) (tx : ByteArray) (a e x : Int) (w : World) (h : RS w b s i kd tx a e x) (hi : i ≤ s.size) (hs : s.size ≤ 1073741824)
    (hend : ¬ e = 0 ∨ s.size ≤ skipTo s.data.toList i) (p : Nat) (hp : p = skipTo s.data.toList i) :
    Calls Tryd.prog 15 #[.pointer (some ⟨b, 0, none⟩)] w fun en w' => en = .returned (.tuple #[]) ∧ RS w' b s p 0 ByteArray.empty p e x ∧ RFx w w' b := by
  have HS : Hid (RS w b s i kd tx a e x) := h
  have HE : Hid (¬ e = 0 ∨ s.size ≤ p) := by show _ ∨ _; rw [hp]; exact hend
  have HP : Hid (p = skipTo s.data.toList i) := hp
  clear h hend hp
  go_enter Tryd.func15, Tryd.ntmps15
  go_wp2_with fail
  refine (rskip_any b s i _ HS.out.rd hi hs).mono ?_
  rintro en w1 ⟨rfl, HR, HF⟩
  have HS1 : Hid (RS w1 b s p kd tx a e x) := by
    have := HS.out.skipped HF HR
    rw [HP.out]; exact this
  have HX : Hid (RFx w w1 b) := HF.x
  clear HR HF HS
  obtain ⟨c0, c1, c2, c3, c4, c5, c6, f1, f2, f3, f4, f5, f6⟩ := HS1.out
  go_wp2
  generalize hw2 : World.setCell _ _ _ = w2
  have HS2 : Hid (RS w2 b s p 0 ByteArray.empty p e x) := by rw [← hw2]; exact ((HS1.out.set2 0).set3 _).set4 _
  have HX2 : Hid (RFx w w2 b) := by rw [← hw2]; exact ((HX.out.trans (RFx.set _ _ _ _)).trans (RFx.set _ _ _ _)).trans (RFx.set _ _ _ _)
  clear hw2 c0 c1 c2 c3 c4 c5 c6 f1 f2 f3 f4 f5 f6 HX HS1
  obtain ⟨c0, c1, c2, c3, c4, c5, c6, f1, f2, f3, f4, f5, f6⟩ := HS2.out
  by_cases he : e = 0
  · subst he
    have hsz : s.size ≤ p := by rcases HE.out with h | h; exact absurd rfl h; exact h
    go_wp2_with fail
    go_quiet (fail)
    go_wp2
    refine bodyPost_ret (results_none rfl _ _ _) rfl ?_
    exact ⟨rfl, HS2.out.drewN _, HX2.out.trans (RFx.draws _ _ _)⟩
  · have hh : (e != 0) = true := by rw [bne_iff_ne]; exact he
    clear he
    go_wp2_with fail
    go_quiet (fail)
    go_wp2
    refine bodyPost_ret (results_none rfl _ _ _) rfl ?_
    exact ⟨rfl, HS2.out.drewN _, HX2.out.trans (RFx.draws _ _ _)⟩
end Go.Proofs.YtoelacloghkooaaDoor
