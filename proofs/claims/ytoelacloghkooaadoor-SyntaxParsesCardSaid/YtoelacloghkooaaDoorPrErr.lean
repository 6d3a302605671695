/-
  The program's errors: the package's variables, a placed error; fail, want.
-/
import Derived.Test.YtoelacloghkooaaDoorPrMove
namespace Go.Proofs.YtoelacloghkooaaDoor
open Go.ChangeShapes Go.WideShapes Go.ChangeAt Go.RowKit
set_option linter.unusedVariables false
/-- beyond the package's variables -/
def gTop : Nat := max (max (max (max 0 1) 2) 4) 3 + 1
/-- what the package's variables hold -/
structure Errs (w : World) (L T M : Addr) : Prop where
  gl : w.cell? ⟨0, 0, none⟩ = some (.iface 160 (.pointer (some L)))
  gt : w.cell? ⟨1, 0, none⟩ = some (.iface 160 (.pointer (some T)))
  gm : w.cell? ⟨2, 0, none⟩ = some (.iface 160 (.pointer (some M)))
  gh : w.cell? ⟨3, 0, none⟩ = some (.iface 134 (.agg #[typeHandle Tryd.prog 49]))
  s2 : w.cell? ⟨4, 2, none⟩ = some (.string { data := #[61] })
  s3 : w.cell? ⟨4, 3, none⟩ = some (.string { data := #[33, 61] })
  s4 : w.cell? ⟨4, 4, none⟩ = some (.string { data := #[60] })
  lt : L ≠ T
  lm : L ≠ M
  tm : T ≠ M
theorem glob_lt {w : World} {a : Addr} {v : Value} (h : w.cell? a = some v) : a.block < w.heap.size := World.block_lt_of_cell? w a h
theorem Errs.grown {w w' : World} {L T M : Addr} {b : Nat} (h : Errs w L T M) (hg : w.grownBy w' (some b)) (hb : gTop ≤ b) : Errs w' L T M := by
  have k : ∀ (g : Nat), g < gTop → g < w.heap.size → w'.heap[g]? = w.heap[g]? := fun g h1 h2 => hg.block g h2 (fun e => by cases e; omega)
  have a0 := glob_lt h.gl
  have a1 := glob_lt h.gt
  have a2 := glob_lt h.gm
  have a3 := glob_lt h.gh
  have a4 := glob_lt h.s2
  have a5 := glob_lt h.s3
  have a6 := glob_lt h.s4
  exact ⟨(World.cell?_of_block (k _ (by decide) a0)).trans h.gl, (World.cell?_of_block (k _ (by decide) a1)).trans h.gt, (World.cell?_of_block (k _ (by decide) a2)).trans h.gm, (World.cell?_of_block (k _ (by decide) a3)).trans h.gh,
    (World.cell?_of_block (k _ (by decide) a4)).trans h.s2, (World.cell?_of_block (k _ (by decide) a5)).trans h.s3, (World.cell?_of_block (k _ (by decide) a6)).trans h.s4, h.lt, h.lm, h.tm⟩
theorem Errs.below {w w' : World} {L T M : Addr} {B : Nat} (h : Errs w L T M) (hg : Below B w w') (hb : gTop ≤ B) : Errs w' L T M := by
  have k : ∀ (g : Nat), g < gTop → w'.heap[g]? = w.heap[g]? := fun g h1 => hg.block g (by omega)
  exact ⟨(World.cell?_of_block (k _ (by decide))).trans h.gl, (World.cell?_of_block (k _ (by decide))).trans h.gt, (World.cell?_of_block (k _ (by decide))).trans h.gm, (World.cell?_of_block (k _ (by decide))).trans h.gh,
    (World.cell?_of_block (k _ (by decide))).trans h.s2, (World.cell?_of_block (k _ (by decide))).trans h.s3, (World.cell?_of_block (k _ (by decide))).trans h.s4, h.lt, h.lm, h.tm⟩
/-- the variables lie below -/
theorem Errs.top {w : World} {L T M : Addr} (h : Errs w L T M) : gTop ≤ w.heap.size := by
  have a0 : 0 < w.heap.size := glob_lt h.gl
  have a1 : 1 < w.heap.size := glob_lt h.gt
  have a2 : 2 < w.heap.size := glob_lt h.gm
  have a3 : 3 < w.heap.size := glob_lt h.gh
  have a4 : 4 < w.heap.size := glob_lt h.s2
  unfold gTop
  omega
theorem RFr.g {w w' : World} {b : Nat} (h : RFr w w' b) : w.grownBy w' (some b) := h.x.g
theorem Errs.drewN {w : World} {L T M : Addr} (h : Errs w L T M) (n : Nat) : Errs (w.drewN n) L T M := ⟨h.gl, h.gt, h.gm, h.gh, h.s2, h.s3, h.s4, h.lt, h.lm, h.tm⟩
/-- the variable of an error's number -/
def errA (L T M : Addr) (e : Nat) : Addr := if e = 1 then L else if e = 7 then M else T
/-- an error with its place -/
def errV (L T M : Addr) (e x : Nat) : Value := .iface 91 (.agg #[.iface 160 (.pointer (some (errA L T M e))), .int .i64 (x : Nat)])
set_option maxRecDepth 100000 in
theorem pfail_any (b : Nat) (s : ByteArray) (p : Nat) (A : Addr) (w : World) (h : Rd w b s p) :
    Calls Tryd.prog 42 #[.pointer (some ⟨b, 0, none⟩), .iface 160 (.pointer (some A))] w fun e w' => e = .returned (.iface 91 (.agg #[.iface 160 (.pointer (some A)), .int .i64 (p : Nat)])) ∧ w = w' := by
  obtain ⟨c0, c1, f1⟩ := h
  go_enter Tryd.func42, Tryd.ntmps42
  go_wp2
  go_ret
  exact ⟨rfl, rfl⟩
set_option maxRecDepth 100000 in
set_option maxHeartbeats 1000000 in
theorem pwant_any (b : Nat) (s sg : ByteArray) (p : Nat) (L T M : Addr) (w : World) (h : Rd w b s p) (hE : Errs w L T M) (hb : gTop ≤ b) (hp : p ≤ s.size) (hs : s.size ≤ 1073741824) :
    Calls Tryd.prog 41 #[.pointer (some ⟨b, 0, none⟩), .string sg] w fun e w' =>
      (match signF s.data.toList sg.data.toList p with
        | none => e = .returned (errV L T M 2 p)
        | some q => e = .returned .nilIface ∧ Rd w' b s (q : Nat)) ∧ RFr w w' b := by
  have HR : Hid (Rd w b s p) := h
  have HE := hide hE
  have HT := hide (ptake_any b s sg p w h hp hs)
  obtain ⟨S, HSS⟩ : ∃ S, Hid (signF s.data.toList sg.data.toList p = S) := ⟨_, (rfl : _ = _)⟩
  rw [HSS.out] at HT ⊢
  clear hE
  go_enter Tryd.func41, Tryd.ntmps41
  go_wp2_with fail
  refine HT.out.mono ?_
  rintro e w1 ⟨rfl, g, f⟩
  have HG := hide g
  have HF := hide f
  have HE1 : Hid (Errs w1 L T M) := HE.out.grown f.g hb
  clear g f HT
  cases S with
  | none =>
    have g1 := HE1.out.gt
    go_wp2_with fail
    refine (pfail_any b s p T _ HG.out).mono ?_
    rintro e w2 ⟨rfl, rfl⟩
    go_wp2
    go_ret
    exact ⟨rfl, HF.out⟩
  | some q =>
    go_wp2
    go_ret
    exact ⟨⟨rfl, HG.out⟩, HF.out⟩
end Go.Proofs.YtoelacloghkooaaDoor
