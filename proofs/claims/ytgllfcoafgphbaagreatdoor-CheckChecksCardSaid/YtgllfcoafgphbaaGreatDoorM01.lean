import Derived.Shelf.SlIter.Nil
import Derived.Shelf.SortM.Plain
import Derived.Shelf.SortM.SortNone
import Derived.Ground.GgzProg
import Derived.Ground.SlgmProg
import Derived.Test.YtgllfcoafgphbaaGreatDoorProg
import Derived.RangeFuncNested
import Derived.RangeFuncLeaves
import Derived.RangeFuncCalls
import Derived.WalkKit
import Derived.OwnWalkIn
import Derived.TacticsInMore
import Derived.LoopNIn
import Derived.LoopIn
import Derived.Test.YtgllfcoafgphbaaGreatDoorRows
import Derived.Laws.BitsAllLaws
import Derived.Laws.Bits128
import Derived.ProofKit
import Derived.OpenShut
import Derived.WalkLawsBesides
import Derived.WalkSpells
import Derived.Deep.QuietTactic
import Derived.BigQuiet
/-
  The library's maps.Keys, slices.Sorted, slices.Sort at this seat's program: laid, in plain words.
-/
namespace Go.Proofs
open Go.Shelf
def Tryz.keys_ren : Go.Shelf.Ren := ⟨fun | 7 => 24 | 10 => 51 | n => n, fun | 23 => 56 | 26 => 9 | 3 => 3 | 28 => 61 | 0 => 0 | 27 => 60 | 33 => 29 | 4 => 4 | n => n, fun | n => n⟩
theorem Tryz.keys : Go.Proofs.SlLaysZ.n7 Tryz.prog Tryz.keys_ren := {
  mixed := by kernel_rfl
  f7 := ⟨Tryz.f24.name, by decide, Tryz.func24.trans (congrArg some (by kernel_rfl))⟩
  f10 := ⟨Tryz.f51.name, by decide, Tryz.func51.trans (congrArg some (by kernel_rfl))⟩
  t0 := Tryz.underlying0
  a0 := Tryz.isAgg0
  z0 := Tryz.sizeOf0
  v0 := Tryz.zeroValue0
  t4 := Tryz.underlying4
  a4 := Tryz.isAgg4
  z4 := Tryz.sizeOf4
  v4 := Tryz.zeroValue4
  t23 := Tryz.underlying56
  a23 := Tryz.isAgg56
  z23 := Tryz.sizeOf56
  v23 := Tryz.zeroValue56
  t26 := Tryz.underlying9
  a26 := Tryz.isAgg9
  z26 := Tryz.sizeOf9
  v26 := Tryz.zeroValue9
  t27 := Tryz.underlying60
  a27 := Tryz.isAgg60
  z27 := Tryz.sizeOf60
  v27 := Tryz.zeroValue60
  t28 := Tryz.underlying61
  a28 := Tryz.isAgg61
  z28 := Tryz.sizeOf61
  v28 := Tryz.zeroValue61
  t33 := Tryz.underlying29
  a33 := Tryz.isAgg29
  z33 := Tryz.sizeOf29
  v33 := Tryz.zeroValue29 }
def Tryz.sorted_ren : Go.Shelf.Ren := ⟨fun | 6 => 23 | 8 => 49 | 9 => 50 | 11 => 81 | 13 => 83 | 12 => 82 | 23 => 110 | 24 => 111 | 14 => 101 | 15 => 102 | 16 => 103 | 17 => 104 | 18 => 105 | 19 => 106 | 20 => 107 | 21 => 108 | 22 => 109 | 25 => 129 | 26 => 130 | 27 => 131 | 28 => 132 | 29 => 133 | 30 => 134 | 31 => 150 | n => n, fun | 26 => 9 | 28 => 61 | 24 => 58 | 0 => 0 | 3 => 3 | 37 => 144 | 48 => 178 | 50 => 180 | 4 => 4 | 40 => 172 | 39 => 171 | 45 => 118 | 5 => 5 | 9 => 9 | 51 => 206 | 55 => 210 | 57 => 238 | 58 => 239 | 33 => 29 | n => n, fun | n => n⟩
theorem Tryz.sorted : Go.Proofs.SlLaysZ.n6 Tryz.prog Tryz.sorted_ren := {
  mixed := by kernel_rfl
  f6 := ⟨Tryz.f23.name, by decide, Tryz.func23.trans (congrArg some (by kernel_rfl))⟩
  f8 := ⟨Tryz.f49.name, by decide, Tryz.func49.trans (congrArg some (by kernel_rfl))⟩
  f11 := ⟨Tryz.f81.name, by decide, Tryz.func81.trans (congrArg some (by kernel_rfl))⟩
  t0 := Tryz.underlying0
  a0 := Tryz.isAgg0
  z0 := Tryz.sizeOf0
  v0 := Tryz.zeroValue0
  t24 := Tryz.underlying58
  a24 := Tryz.isAgg58
  z24 := Tryz.sizeOf58
  v24 := Tryz.zeroValue58
  t26 := Tryz.underlying9
  a26 := Tryz.isAgg9
  z26 := Tryz.sizeOf9
  v26 := Tryz.zeroValue9
  t28 := Tryz.underlying61
  a28 := Tryz.isAgg61
  z28 := Tryz.sizeOf61
  v28 := Tryz.zeroValue61
  i26 := by kernel_rfl }
def Tryz.sort_ren : Go.Shelf.Ren := ⟨fun | 6 => 50 | 8 => 83 | 9 => 82 | 19 => 110 | 20 => 111 | 21 => 101 | 22 => 102 | 23 => 103 | 24 => 104 | 25 => 105 | 26 => 106 | 27 => 107 | 28 => 108 | 29 => 109 | 36 => 129 | 31 => 130 | 32 => 131 | 37 => 132 | 38 => 133 | 39 => 134 | 41 => 150 | n => n, fun | 27 => 58 | 29 => 9 | 3 => 3 | 32 => 144 | 26 => 58 | 0 => 0 | 44 => 178 | 46 => 180 | 4 => 4 | 36 => 172 | 35 => 171 | 41 => 118 | 5 => 5 | 9 => 9 | 53 => 206 | 57 => 210 | 63 => 238 | 64 => 239 | n => n, fun | n => n⟩
theorem Tryz.sort : Go.Proofs.SlLaysM.n6 Tryz.prog Tryz.sort_ren := {
  mixed := by kernel_rfl
  f6 := ⟨Tryz.f50.name, by decide, Tryz.func50.trans (congrArg some (by kernel_rfl))⟩
  f8 := Tryz.func83.trans (congrArg some (by kernel_rfl))
  f9 := ⟨Tryz.f82.name, by decide, Tryz.func82.trans (congrArg some (by kernel_rfl))⟩
  f19 := Tryz.func110.trans (congrArg some (by kernel_rfl))
  f20 := Tryz.func111.trans (congrArg some (by kernel_rfl))
  f21 := ⟨Tryz.f101.name, by decide, Tryz.func101.trans (congrArg some (by kernel_rfl))⟩
  f22 := ⟨Tryz.f102.name, by decide, Tryz.func102.trans (congrArg some (by kernel_rfl))⟩
  f23 := ⟨Tryz.f103.name, by decide, Tryz.func103.trans (congrArg some (by kernel_rfl))⟩
  f24 := ⟨Tryz.f104.name, by decide, Tryz.func104.trans (congrArg some (by kernel_rfl))⟩
  f25 := ⟨Tryz.f105.name, by decide, Tryz.func105.trans (congrArg some (by kernel_rfl))⟩
  f26 := ⟨Tryz.f106.name, by decide, Tryz.func106.trans (congrArg some (by kernel_rfl))⟩
  f27 := ⟨Tryz.f107.name, by decide, Tryz.func107.trans (congrArg some (by kernel_rfl))⟩
  f28 := ⟨Tryz.f108.name, by decide, Tryz.func108.trans (congrArg some (by kernel_rfl))⟩
  f29 := ⟨Tryz.f109.name, by decide, Tryz.func109.trans (congrArg some (by kernel_rfl))⟩
  f31 := Tryz.func130.trans (congrArg some (by kernel_rfl))
  f32 := Tryz.func131.trans (congrArg some (by kernel_rfl))
  f36 := ⟨Tryz.f129.name, by decide, Tryz.func129.trans (congrArg some (by kernel_rfl))⟩
  f37 := ⟨Tryz.f132.name, by decide, Tryz.func132.trans (congrArg some (by kernel_rfl))⟩
  f38 := ⟨Tryz.f133.name, by decide, Tryz.func133.trans (congrArg some (by kernel_rfl))⟩
  f39 := ⟨Tryz.f134.name, by decide, Tryz.func134.trans (congrArg some (by kernel_rfl))⟩
  f41 := ⟨Tryz.f150.name, by decide, Tryz.func150.trans (congrArg some (by kernel_rfl))⟩
  t0 := Tryz.underlying0
  a0 := Tryz.isAgg0
  z0 := Tryz.sizeOf0
  v0 := Tryz.zeroValue0
  t3 := Tryz.underlying3
  a3 := Tryz.isAgg3
  z3 := Tryz.sizeOf3
  v3 := Tryz.zeroValue3
  t4 := Tryz.underlying4
  a4 := Tryz.isAgg4
  z4 := Tryz.sizeOf4
  v4 := Tryz.zeroValue4
  t5 := Tryz.underlying5
  a5 := Tryz.isAgg5
  z5 := Tryz.sizeOf5
  v5 := Tryz.zeroValue5
  t9 := Tryz.underlying9
  a9 := Tryz.isAgg9
  z9 := Tryz.sizeOf9
  v9 := Tryz.zeroValue9
  t26 := Tryz.underlying58
  a26 := Tryz.isAgg58
  z26 := Tryz.sizeOf58
  v26 := Tryz.zeroValue58
  t27 := Tryz.underlying58
  a27 := Tryz.isAgg58
  z27 := Tryz.sizeOf58
  v27 := Tryz.zeroValue58
  t29 := Tryz.underlying9
  a29 := Tryz.isAgg9
  z29 := Tryz.sizeOf9
  v29 := Tryz.zeroValue9
  t32 := Tryz.underlying144
  a32 := Tryz.isAgg144
  z32 := Tryz.sizeOf144
  v32 := Tryz.zeroValue144
  t35 := Tryz.underlying171
  a35 := Tryz.isAgg171
  z35 := Tryz.sizeOf171
  v35 := Tryz.zeroValue171
  t36 := Tryz.underlying172
  a36 := Tryz.isAgg172
  z36 := Tryz.sizeOf172
  v36 := Tryz.zeroValue172
  t41 := Tryz.underlying118
  a41 := Tryz.isAgg118
  z41 := Tryz.sizeOf118
  v41 := Tryz.zeroValue118
  t44 := Tryz.underlying178
  a44 := Tryz.isAgg178
  z44 := Tryz.sizeOf178
  v44 := Tryz.zeroValue178
  t46 := Tryz.underlying180
  a46 := Tryz.isAgg180
  z46 := Tryz.sizeOf180
  v46 := Tryz.zeroValue180
  t53 := Tryz.underlying206
  a53 := Tryz.isAgg206
  z53 := Tryz.sizeOf206
  v53 := Tryz.zeroValue206
  t57 := Tryz.underlying210
  a57 := Tryz.isAgg210
  z57 := Tryz.sizeOf210
  v57 := Tryz.zeroValue210
  t63 := Tryz.underlying238
  a63 := Tryz.isAgg238
  z63 := Tryz.sizeOf238
  v63 := Tryz.zeroValue238
  t64 := Tryz.underlying239
  a64 := Tryz.isAgg239
  z64 := Tryz.sizeOf239
  v64 := Tryz.zeroValue239 }
end Go.Proofs

/-
  Ranges over functions that range over functions: what such a function promises, and one law for the statement. Nothing of the program.
-/
namespace Go.Hands
open Go.RowKit
set_option linter.unusedVariables false
/-- nothing that lay has turned but the blocks of M -/
structure Rnd (M : Nat → Prop) (W W' : World) : Prop where
  os : W'.os = W.os
  tape : W'.tape = W.tape
  output : W'.output = W.output
  size : W.heap.size ≤ W'.heap.size
  block : ∀ k, k < W.heap.size → ¬ M k → W'.heap[k]? = W.heap[k]?
theorem Rnd.refl (M : Nat → Prop) (W : World) : Rnd M W W := ⟨rfl, rfl, rfl, Nat.le_refl _, fun _ _ _ => rfl⟩
theorem Rnd.trans {M : Nat → Prop} {A B C : World} (h : Rnd M A B) (k : Rnd M B C) : Rnd M A C :=
  ⟨k.os.trans h.os, k.tape.trans h.tape, k.output.trans h.output, Nat.le_trans h.size k.size, fun j hj hm => (k.block j (Nat.lt_of_lt_of_le hj h.size) hm).trans (h.block j hj hm)⟩
theorem Rnd.alloc {M : Nat → Prop} {A B : World} (h : Rnd M A B) (o : Obj) : Rnd M A (B.alloc o) :=
  ⟨h.os, h.tape, h.output, Nat.le_trans h.size (by simp), fun j hj hm => (Below.heap_alloc _ _ _ (Nat.lt_of_lt_of_le hj h.size)).trans (h.block j hj hm)⟩
theorem Rnd.drew {M : Nat → Prop} {A B : World} (h : Rnd M A B) : Rnd M A B.drew := ⟨h.os, h.tape, h.output, h.size, h.block⟩
theorem Rnd.grown {M : Nat → Prop} {A B : World} {row : Option Nat} (h : A.grownBy B row) (hr : ∀ k, row = some k → M k) : Rnd M A B := ⟨h.os, h.tape, h.output, h.size, fun k hk hm => h.block k hk (fun e => hm (hr k e.symm))⟩
theorem Rnd.setCell {M : Nat → Prop} {A B : World} (h : Rnd M A B) {p : Addr} (hp : A.heap.size ≤ p.block ∨ M p.block) (u : Value) : Rnd M A (B.setCell p u) :=
  ⟨h.os, h.tape, h.output, Nat.le_trans h.size (by simp [World.setCell]), fun k hk hm => (Below.heap_setCell _ _ _ _ (fun e => by subst e; rcases hp with h1 | h1; omega; exact hm h1)).trans (h.block k hk hm)⟩
theorem Rnd.below {M : Nat → Prop} {A B : World} {n : Nat} (h : Rnd M A B) (hn : n ≤ A.heap.size) (hM : ∀ k, M k → n ≤ k) : Below n A B :=
  ⟨h.os, h.tape, h.output, h.size, fun k hk => h.block k (by omega) (fun hm => by have := hM k hm; omega)⟩
theorem Rnd.of_below {M : Nat → Prop} {A B : World} (h : Below A.heap.size A B) : Rnd M A B := ⟨h.os, h.tape, h.output, h.size, fun k hk _ => h.block k hk⟩
theorem Rnd.mono {M M' : Nat → Prop} {A B : World} (h : Rnd M A B) (hm : ∀ k, M k → M' k) : Rnd M' A B := ⟨h.os, h.tape, h.output, h.size, fun k hk hn => h.block k hk (fun hk2 => hn (hm k hk2))⟩
theorem Rnd.cell {M : Nat → Prop} {A B : World} (h : Rnd M A B) {b j : Nat} {v : Value} (hc : A.cell? ⟨b, j, none⟩ = some v) (hm : ¬ M b) : B.cell? ⟨b, j, none⟩ = some v := by
  have hlt := World.block_lt_of_cell? A ⟨b, j, none⟩ hc
  have hb := h.block b hlt hm
  unfold World.cell? at hc ⊢
  simp only at hc ⊢
  rw [hb]; exact hc
/-- a record is turned: as good as nothing where it is turned back -/
theorem Rnd.put {M : Nat → Prop} {A B : World} {l : Nat} {o : Obj} (h : Rnd M A B) (hl : A.heap.size ≤ l ∨ M l) : Rnd M A (B.putObj l o) :=
  ⟨h.os, h.tape, h.output, Nat.le_trans h.size (by simp), fun j hj hm => (World.putObj_heap_other (fun e => by subst e; rcases hl with h1 | h1; omega; exact hm h1)).trans (h.block j hj hm)⟩
/-- what speaks of blocks below B alone -/
def Low {β : Type} (B : Nat) (J : β → World → Prop) : Prop := ∀ s A C, J s A → Below B A C → J s C
theorem Low.mono {β : Type} {B B' : Nat} {J : β → World → Prop} (h : Low B J) (hb : B ≤ B') : Low B' J := fun s A C hj hbl => h s A C hj (hbl.mono hb)
theorem Low.and {β : Type} {B : Nat} {J K : β → World → Prop} (h : Low B J) (k : Low B K) : Low B (fun s W => J s W ∧ K s W) := fun s A C hj hb => ⟨h s A C hj.1 hb, k s A C hj.2 hb⟩
theorem low_pure {β : Type} (B : Nat) (p : β → Prop) : Low B (fun s (_ : World) => p s) := fun s A C h _ => h
theorem low_rnd {β : Type} {B : Nat} {M : Nat → Prop} {w : World} (hB : w.heap.size ≤ B) : Low B (fun (_ : β) W => Rnd M w W) := fun s A C h hb =>
  ⟨hb.os.trans h.os, hb.tape.trans h.tape, hb.output.trans h.output, Nat.le_trans h.size hb.size, fun k hk hm => (hb.block k (by omega)).trans (h.block k hk hm)⟩
theorem low_cell {β : Type} {B b j : Nat} {f : β → Value} (hb : b < B) : Low B (fun (s : β) W => W.cell? ⟨b, j, none⟩ = some (f s)) := fun s A C h hbl => (hbl.cell (p := ⟨b, j, none⟩) hb).trans h
theorem cell_put_loop {W : World} {l b j : Nat} {r : Loop} {o : Obj} {v : Value} (hl : W.heap[l]? = some (.loop r)) (hc : W.cell? ⟨b, j, none⟩ = some v) : (W.putObj l o).cell? ⟨b, j, none⟩ = some v := by
  have hne : b ≠ l := fun e => by
    subst e
    unfold World.cell? at hc
    simp [hl] at hc
  unfold World.cell? at hc ⊢
  simp only at hc ⊢
  rw [World.putObj_heap_other hne]; exact hc
theorem cell_put_other {W : World} {l b j : Nat} {o : Obj} {v : Value} (hne : b ≠ l) (hc : W.cell? ⟨b, j, none⟩ = some v) : (W.putObj l o).cell? ⟨b, j, none⟩ = some v := by
  unfold World.cell? at hc ⊢
  simp only at hc ⊢
  rw [World.putObj_heap_other hne]; exact hc
theorem below_put {B : Nat} {A : World} {l : Nat} {o : Obj} (hl : B ≤ l) : Below B A (A.putObj l o) :=
  ⟨rfl, rfl, rfl, by simp, fun k hk => World.putObj_heap_other (by omega)⟩
section
variable {α : Type} {F : Fence} {n : Nat} {P : Program}
/-- **A function value that hands out things, and stops where it is told to**: whatever a round that goes on leaves, it leaves all but the blocks of M as they lay; what J says hangs on blocks that lay when it was called. -/
def Hands (F : Fence) (n : Nat) (P : Program) (g : Nat) (lb : Array Value) (encs : α → Array Value) (M : Nat → Prop) (S Sp : List α → Prop) (w : World) : Prop :=
  ∀ (l : Nat) (Mx : Nat → Prop) (J Jx : List α → World → Prop) (W : World), Rnd M w W → (∀ k, Mx k → k < W.heap.size) → Low W.heap.size J → Low W.heap.size Jx →
    (∀ pre x W1, J pre W1 → Rnd M W W1 → Sp (pre ++ [x]) → YieldAt F (n - 1) P l (encs x) W1 fun e W' =>
      (e = .returned (.bool true) ∧ J (pre ++ [x]) W' ∧ Rnd M W1 W') ∨ (e = .returned (.bool false) ∧ Jx (pre ++ [x]) W' ∧ Rnd Mx W1 W')) →
    J [] W →
    CallsIn F n P g (#[.func (.yield l) #[] #[]] ++ lb) W fun e W' => (∃ v, e = .returned v) ∧ ((∃ xs, S xs ∧ J xs W' ∧ Rnd M W W') ∨ (∃ pre, Sp pre ∧ Jx pre W'))
/-- how the body of a round may be left -/
def leaves (M Mx : Nat → Prop) (I : List α → World → Prop) (Ix : Code → List α → World → Prop) (xs : List α) (W : World) : Exit → Act → World → Prop
  | .normal, _, W' => Rnd M W W' ∧ I xs W'
  | .ret, _, W' => Rnd Mx W W' ∧ Ix .ret xs W'
  | .exit id, _, W' => Rnd Mx W W' ∧ Ix (.exit id) xs W'
  | .goto t, _, W' => Rnd Mx W W' ∧ Ix (.goto t) xs W'
  | _, _, _ => False
set_option maxHeartbeats 1000000 in
/-- **the statement**, at a loop that stands in no other one's round -/
theorem range_hands {g : Operand} {ps : Array Tmp} {assign body : Code} {Q : Exit → Act → World → Prop} {a : Act} {w w0 : World}
    (hro : F.round = none) (h1 : 1 ≤ n) {gf : Nat} {lb : Array Value} (hg : a.eval g = .func (.func gf) #[] lb) (hFg : F.fn gf) (eg : ∀ args w, (callFunc gf args).run P w = .ok (.enter gf args) w)
    {encs : α → Array Value} {M : Nat → Prop} {S Sp : List α → Prop} (hseq : Hands F (n - 1) P gf lb encs M S Sp w0) (hw : Rnd M w0 w) (hM : ∀ k, M k → k < w.heap.size) (Mx : Nat → Prop) (hMx : ∀ k, Mx k → k < w.heap.size) (hps : ∀ x, (encs x).size = ps.size)
    (I : List α → World → Prop) (Ix : Code → List α → World → Prop) (hI : Low w.heap.size I) (hIx : ∀ c, Low w.heap.size (Ix c)) (h0 : I [] w)
    (Ax : α → Act → World → Prop) (hAx : ∀ x a' W l r o, W.heap[l]? = some (.loop r) → Ax x a' W → Ax x a' (W.putObj l o))
    (hassign : ∀ (l : Nat) (pre : List α) (x : α) (W : World) (K : Act → World → Prop), w.heap.size ≤ W.heap.size → I pre W → (∀ a' W', Rnd (fun _ => False) W W' → Ax x a' W' → K a' W') →
      assign.wpIn (F.inRound l) (n - 1 - 1) P (Exit.then K (fun _ _ _ => False)) { tmps := (ps.zip (encs x)).foldl (fun t (p, v) => t.setIfInBounds p v) a.tmps, defers := [] } W)
    (hbody : ∀ (l : Nat) (pre : List α) (x : α) (a' : Act) (W : World), w.heap.size ≤ W.heap.size → I pre W → Ax x a' W → Sp (pre ++ [x]) → body.wpIn (F.inRound l) (n - 1 - 1) P (leaves M Mx I Ix (pre ++ [x]) W) a' W)
    (hdone : ∀ (D : Nat) (xs : List α) (W : World), w.heap.size ≤ D → S xs → I xs W → W.heap[D]? = some (.deferred (some [])) → Q .normal { a with defers := { target := .collected D, args := #[] } :: a.defers } W)
    (hstop : ∀ (D : Nat) (c : Code) (pre : List α) (W : World), w.heap.size ≤ D → Sp pre → Ix c pre W → W.heap[D]? = some (.deferred (some [])) → c.wpIn F n P Q { a with defers := { target := .collected D, args := #[] } :: a.defers } W) :
    (Code.rangeFunc g ps assign body).wpIn F n P Q a w := by
  refine wpIn_rangeFunc fun fn hfn => ?_
  rw [hro]
  -- the record, in each of its states
  let rec' : LoopState → Option Code → Loop := fun st pe => { state := st, pending := pe, fn := fn, tmps := a.tmps, params := ps, assign := assign, body := body, defers := w.heap.size }
  obtain ⟨V, hV⟩ : ∃ V, (w.alloc (.deferred (some []))).alloc (.loop (rec' .ready none)) = V := ⟨_, rfl⟩
  have hsz : V.heap.size = w.heap.size + 2 := by rw [← hV]; simp
  have hL : V.heap[w.heap.size + 1]? = some (.loop (rec' .ready none)) := by
    rw [← hV]
    have := World.alloc_heap_new (w.alloc (.deferred (some []))) (.loop (rec' .ready none))
    rwa [World.size_alloc] at this
  have hD : V.heap[w.heap.size]? = some (.deferred (some [])) := by
    rw [← hV]; exact (Below.heap_alloc _ _ _ (by simp)).trans (World.alloc_heap_new w _)
  have hR : Rnd M w V := by rw [← hV]; exact ((Rnd.refl M w).alloc _).alloc _
  have hBl : Below w.heap.size w V := by rw [← hV]; exact ((Below.refl _ w).alloc (Nat.le_refl _) _).alloc (by simp) _
  refine ⟨w.heap.size + 1, [{ target := .collected w.heap.size, args := #[] }], V, { target := .fn (.func gf) lb, args := #[.func (.yield (w.heap.size + 1)) #[] #[]] }, V, gf, #[.func (.yield (w.heap.size + 1)) #[] #[]] ++ lb, V,
    ?_, ?_, ?_, ?_, fun _ => h1, ?_⟩
  · rw [← hV]; exact run_enterLoop_outer _ _ _ _ _
  · simp only [resolve, hg]; simp [go_sem]
  · intro f' hf'; simp [Target.leads] at hf'; subst hf'; exact hFg
  · simp [invoke, go_sem, eg]
  · clear hV
    -- what is held between two rounds: the caller's word, the record ready, the block for deferred calls
    have lowK : ∀ (st : LoopState) (pe : Option Code), Low V.heap.size (fun (_ : List α) W => W.heap[w.heap.size + 1]? = some (.loop (rec' st pe)) ∧ W.heap[w.heap.size]? = some (.deferred (some []))) := fun st pe s A C h hb =>
      ⟨(hb.block _ (by omega)).trans h.1, (hb.block _ (by omega)).trans h.2⟩
    refine (hseq (w.heap.size + 1) (fun k => Mx k ∨ k = w.heap.size + 1) (fun pre W => (I pre W ∧ w.heap.size + 2 ≤ W.heap.size) ∧ (W.heap[w.heap.size + 1]? = some (.loop (rec' .ready none)) ∧ W.heap[w.heap.size]? = some (.deferred (some []))))
      (fun pre W => ∃ c, Ix c pre W ∧ (W.heap[w.heap.size + 1]? = some (.loop (rec' .done (some c))) ∧ W.heap[w.heap.size]? = some (.deferred (some []))))
      V (hw.trans hR) (fun k hk => by rcases hk with h | h; have := hMx k h; omega; omega) ((Low.and (hI.mono (by omega)) (fun s A C h hb => Nat.le_trans h hb.size)).and (lowK _ _)) (fun s A C h hb => ?_) ?_ ⟨⟨hI _ _ _ h0 hBl, by omega⟩, hL, hD⟩).mono ?_
    · obtain ⟨c, hc, hl⟩ := h
      exact ⟨c, (hIx c).mono (by omega) s A C hc hb, lowK _ _ s A C hl hb⟩
    · rintro pre x W ⟨⟨hi, hsw⟩, hl, hd⟩ _ hlen
      have hy := run_yield (P := P) (args := encs x) hl (by exact hps x)
      refine ⟨fn, _, assign, body, hy, roundIn_of_wpIn hfn (hassign _ pre x W _ (by omega) hi ?_)⟩
      intro a' Wa hra hax
      have hla : Wa.heap[w.heap.size + 1]? = some (.loop (rec' .ready none)) := (hra.block _ (by omega) (fun h => h)).trans hl
      have hda : Wa.heap[w.heap.size]? = some (.deferred (some [])) := (hra.block _ (by omega) (fun h => h)).trans hd
      have hsa : W.heap.size ≤ Wa.heap.size := hra.size
      refine ⟨_, run_beginRound hla rfl, ?_⟩
      have hia : I pre (Wa.putObj (w.heap.size + 1) (.loop { rec' .ready none with state := .busy })) :=
        hI _ _ _ hi (Below.trans (hra.below (by omega) (fun _ h => h.elim)) (below_put (by omega)))
      have hlb : (Wa.putObj (w.heap.size + 1) (.loop { rec' .ready none with state := .busy })).heap[w.heap.size + 1]? = some (.loop { rec' .ready none with state := .busy }) := World.putObj_heap_same (by omega)
      have hdb : (Wa.putObj (w.heap.size + 1) (.loop { rec' .ready none with state := .busy })).heap[w.heap.size]? = some (.deferred (some [])) := (World.putObj_heap_other (by omega)).trans hda
      refine wpIn_mono (hbody (w.heap.size + 1) pre x a' _ (by simp; omega) hia (hAx _ _ _ _ _ _ hla hax) hlen) ?_
      have fin : ∀ (N : Nat → Prop) (hN : ∀ k, N k → k < w.heap.size) (jump : Option Code) (W3 : World), Rnd N (Wa.putObj (w.heap.size + 1) (.loop { rec' .ready none with state := .busy })) W3 →
          W3.heap[w.heap.size + 1]? = some (.loop { rec' .ready none with state := .busy }) ∧ W3.heap[w.heap.size]? = some (.deferred (some [])) ∧ w.heap.size + 2 ≤ W3.heap.size := fun N hN jump W3 hr3 => by
        have hs := hr3.size
        simp only [World.putObj_size] at hs
        exact ⟨(hr3.block _ (by simp; omega) (fun hm => by have := hN _ hm; omega)).trans hlb, (hr3.block _ (by simp; omega) (fun hm => by have := hN _ hm; omega)).trans hdb, by omega⟩
      have back : ∀ (N : Nat → Prop) (hN : ∀ k, N k → k < w.heap.size) (jump : Option Code) (W3 : World), Rnd N (Wa.putObj (w.heap.size + 1) (.loop { rec' .ready none with state := .busy })) W3 →
          Below w.heap.size W3 (W3.putObj (w.heap.size + 1) (.loop (rec' (if jump.isNone then .ready else .done) jump))) ∧
          (W3.putObj (w.heap.size + 1) (.loop (rec' (if jump.isNone then .ready else .done) jump))).heap[w.heap.size + 1]? = some (.loop (rec' (if jump.isNone then .ready else .done) jump)) ∧
          (W3.putObj (w.heap.size + 1) (.loop (rec' (if jump.isNone then .ready else .done) jump))).heap[w.heap.size]? = some (.deferred (some [])) := fun N hN jump W3 hr3 => by
        obtain ⟨f1, f2, f3⟩ := fin N hN jump W3 hr3
        exact ⟨below_put (by omega), World.putObj_heap_same (by omega), (World.putObj_heap_other (by omega)).trans f2⟩
      have rend : ∀ (N : Nat → Prop) (hN : ∀ k, N k → k < w.heap.size) (jump : Option Code) (W3 : World), Rnd N (Wa.putObj (w.heap.size + 1) (.loop { rec' .ready none with state := .busy })) W3 →
          (Instr.endRound (w.heap.size + 1) jump).run P W3 = .ok (.bool jump.isNone) (W3.putObj (w.heap.size + 1) (.loop (rec' (if jump.isNone then .ready else .done) jump))) := fun N hN jump W3 hr3 => run_endRound (P := P) jump (fin N hN jump W3 hr3).1
      have last : ∀ (jump : Option Code) (W3 : World), Rnd Mx (Wa.putObj (w.heap.size + 1) (.loop { rec' .ready none with state := .busy })) W3 → Rnd (fun k => Mx k ∨ k = w.heap.size + 1) W (W3.putObj (w.heap.size + 1) (.loop (rec' (if jump.isNone then .ready else .done) jump))) := fun jump W3 hr3 => by
        refine ⟨hr3.os.trans hra.os, hr3.tape.trans hra.tape, hr3.output.trans hra.output, Nat.le_trans hsa (by have := hr3.size; simp at this ⊢; omega), fun k hk hm => ?_⟩
        have e : k ≠ w.heap.size + 1 := fun e => hm (.inr e)
        exact (World.putObj_heap_other e).trans ((hr3.block k (by simp; omega) (fun h => hm (.inl h))).trans ((World.putObj_heap_other e).trans (hra.block k hk (fun h => h))))
      rintro e a3 W3 hp
      cases e with
      | normal =>
        obtain ⟨hr3, hi3⟩ := hp
        obtain ⟨b1, b2, b3⟩ := back M hM none W3 hr3
        obtain ⟨f1, f2, f3⟩ := fin M hM none W3 hr3
        refine ⟨_, _, rend M hM none W3 hr3, .inl ⟨rfl, ⟨⟨hI _ _ _ hi3 b1, by simp; omega⟩, b2, b3⟩, ?_⟩⟩
        refine ⟨hr3.os.trans hra.os, hr3.tape.trans hra.tape, hr3.output.trans hra.output, Nat.le_trans hsa (by have := hr3.size; simp at this ⊢; omega), fun k hk hm => ?_⟩
        by_cases e : k = w.heap.size + 1
        · subst e
          exact b2.trans hl.symm
        · refine (World.putObj_heap_other e).trans ((hr3.block k (by simp; omega) hm).trans ((World.putObj_heap_other e).trans (hra.block k hk (fun h => h))))
      | ret =>
        obtain ⟨hr3, hi3⟩ := hp
        obtain ⟨b1, b2, b3⟩ := back Mx hMx (some .ret) W3 hr3
        exact ⟨_, _, rend Mx hMx (some .ret) W3 hr3, .inr ⟨rfl, ⟨.ret, hIx _ _ _ _ hi3 b1, b2, b3⟩, last (some .ret) W3 hr3⟩⟩
      | exit id =>
        obtain ⟨hr3, hi3⟩ := hp
        obtain ⟨b1, b2, b3⟩ := back Mx hMx (some (.exit id)) W3 hr3
        exact ⟨_, _, rend Mx hMx (some (.exit id)) W3 hr3, .inr ⟨rfl, ⟨.exit id, hIx _ _ _ _ hi3 b1, b2, b3⟩, last (some (.exit id)) W3 hr3⟩⟩
      | goto t =>
        obtain ⟨hr3, hi3⟩ := hp
        obtain ⟨b1, b2, b3⟩ := back Mx hMx (some (.goto t)) W3 hr3
        exact ⟨_, _, rend Mx hMx (some (.goto t)) W3 hr3, .inr ⟨rfl, ⟨.goto t, hIx _ _ _ _ hi3 b1, b2, b3⟩, last (some (.goto t)) W3 hr3⟩⟩
      | panic ch => exact hp.elim
      | outgrown => exact hp.elim
    · rintro e W2 ⟨⟨v, rfl⟩, (⟨xs, hS, ⟨⟨hi, hs2⟩, hl, hd⟩, _⟩ | ⟨pre, hSp, c, hi, hl, hd⟩)⟩
      · exact ⟨none, _, run_endLoop (P := P) hl (by simp [rec']), hdone _ xs _ (Nat.le_refl _) hS (hI _ _ _ hi (below_put (by omega))) ((World.putObj_heap_other (by omega)).trans hd)⟩
      · exact ⟨some c, _, run_endLoop (P := P) hl (by simp [rec']), hstop _ c pre _ (Nat.le_refl _) hSp (hIx _ _ _ _ hi (below_put (by omega))) ((World.putObj_heap_other (by omega)).trans hd)⟩
/-- the marks of a body's ranges are taken, one after another -/
def mark (D : Nat) : Deferred := { target := .collected D, args := #[] }
theorem leaves_marks {fn : Func} {tmps : Array Value} {R : Ending → World → Prop} {B : Nat} : ∀ (Ds : List Nat) (W : World), Ds.Nodup → (∀ D ∈ Ds, B ≤ D ∧ W.heap[D]? = some (.deferred (some []))) →
    (∀ W', Below B W W' → LeavesInM F n P fn tmps R [] .returning W') → LeavesInM F n P fn tmps R (Ds.map mark) .returning W := by
  intro Ds
  induction Ds with
  | nil => intro W _ _ h; exact h W (Below.refl _ _)
  | cons D Ds ih =>
    intro W hnd hall h
    obtain ⟨hD, hd⟩ := hall D (List.mem_cons_self ..)
    refine ⟨by simp, .inl ⟨D, _, rfl, run_takeDeferred hd, ?_⟩⟩
    refine ih _ (List.nodup_cons.1 hnd).2 (fun E hE => ⟨(hall E (List.mem_cons_of_mem _ hE)).1, ?_⟩) (fun W' hb => h W' ((below_put hD).trans hb))
    have hne : E ≠ D := fun e => (List.nodup_cons.1 hnd).1 (e ▸ hE)
    exact (World.putObj_heap_other hne).trans (hall E (List.mem_cons_of_mem _ hE)).2
/-- at the wide fence the depth is all one -/
theorem Hands.any {g : Nat} {lb : Array Value} {encs : α → Array Value} {M : Nat → Prop} {S Sp : List α → Prop} {w : World} (h : Hands Fence.wide n P g lb encs M S Sp w) (m : Nat) : Hands Fence.wide m P g lb encs M S Sp w := by
  intro l Mx J Jx W h1 h2 h3 h4 hY h0
  refine callsIn_wide.2 (callsIn_wide.1 (h l Mx J Jx W h1 h2 h3 h4 (fun pre x W1 a b c => ?_) h0))
  obtain ⟨fn, tmps, assign, body, hy, hR⟩ := hY pre x W1 a b c
  exact ⟨fn, tmps, assign, body, hy, hR.1, fun c cs _ => hR.2 c cs (fun d h => by cases h)⟩
end
end Go.Hands

/-
  What the walks of this seat share: texts as lists of bytes, bytes as cells, endings.
-/
namespace Go.Proofs.YtgllfcoafgphbaaGreatDoor
open Go.ChangeShapes Go.WideShapes Go.ChangeAt Go.RowKit
set_option linter.unusedVariables false

theorem ret_int {k : IntKind} {a b : Int} (h : a = b) : Ending.returned (.int k a) = .returned (.int k b) := by rw [h]
theorem ret_str {a b : ByteArray} (h : a = b) : Ending.returned (.string a) = .returned (.string b) := by rw [h]
theorem ret_bool {a b : Bool} (h : a = b) : Ending.returned (.bool a) = .returned (.bool b) := by rw [h]

/-- a list of bytes as a text -/
def str (l : List UInt8) : ByteArray := ⟨l.toArray⟩
theorem str_size (l : List UInt8) : (str l).size = l.length := by simp [str, ByteArray.size]
theorem str_app (a b : List UInt8) : str a ++ str b = str (a ++ b) := by
  apply ByteArray.ext; rw [ByteArray.data_append]; simp [str]
theorem str_data (d : ByteArray) : str d.data.toList = d := by apply ByteArray.ext; simp [str]
theorem data_str (l : List UInt8) : (str l).data.toList = l := by simp [str]
theorem str_inj {a b : List UInt8} : str a = str b ↔ a = b := by
  constructor
  · intro h; rw [← data_str a, ← data_str b, h]
  · intro h; rw [h]
theorem str_eq_iff {a b : ByteArray} : a = b ↔ a.data.toList = b.data.toList := by
  constructor
  · intro h; rw [h]
  · intro h; rw [← str_data a, ← str_data b, h]
theorem toList_of (s : ByteArray) : s.toList = s.data.toList := ByteArray.toList_eq s
theorem toList_str (l : List UInt8) : (str l).toList = l := by rw [toList_of, data_str]
theorem byte_le (c : UInt8) : (c.toNat : Int) ≤ 255 := by have := c.toNat_lt; omega
theorem ofNat_toNat (n : Nat) (h : n < 256) : ((UInt8.ofNat n).toNat : Int) = (n : Int) := by
  have : (UInt8.ofNat n).toNat = n := by simp; omega
  rw [this]

/-- bytes as cells -/
def bs (l : List UInt8) : List Value := l.map fun c => Value.int .u8 (c.toNat : Int)
theorem bs_length (l : List UInt8) : (bs l).length = l.length := by simp [bs]
theorem bs_snoc (l : List UInt8) (c : UInt8) : bs l ++ [Value.int .u8 (c.toNat : Int)] = bs (l ++ [c]) := by simp [bs]
theorem bs_app (a b : List UInt8) : bs a ++ bs b = bs (a ++ b) := by simp [bs]

theorem info5 : (Tryz.prog.info? 5).map (fun i => (i.zero, i.size, i.bytes)) = some (some (.int .u8 0), 1, 1) := by kernel_rfl

/-- 'string(b)' of a row of one's own -/
theorem own_string {W : World} {base : Nat} {v : Value} {l : List UInt8} {n : Nat} (h : W.ownsRow base 5 1 v n (bs l)) : Sem.run Tryz.prog (convert 212 9 v) W = .ok (.string (str l)) W := by
  obtain ⟨h1, h2⟩ := h
  rw [bs_length, Nat.mul_one] at h1
  subst h1
  rcases h2 with ⟨rfl, h0⟩ | ⟨g, cap, cur, rfl, hb, hg, hn, hc, hs, ht⟩
  · have hl : l = [] := List.eq_nil_of_length_eq_zero h0
    subst hl
    exact run_convert_bytes_nil W 212 5 Tryz.underlying212 Tryz.underlying5 0 0 9 Tryz.underlying9
  · refine run_convert_bytes_back W 212 9 5 ⟨g, 0, none⟩ cap l Tryz.underlying212 Tryz.underlying5 Tryz.underlying9 (fun j hj => ?_)
    have hown : W.ownsRow base 5 1 (.slice (some ⟨g, 0, none⟩) l.length cap) l.length (bs l) := ⟨by rw [bs_length, Nat.mul_one], Or.inr ⟨g, cap, cur, rfl, hb, hg, hn, hc, hs, ht⟩⟩
    exact hown.cells rfl j _ (by simp [bs, List.getElem?_eq_getElem hj])

/-- 'string([]byte{..})' right behind the literal -/
theorem lit_string (W : World) (xs : List Int) : Sem.run Tryz.prog (convert 212 9 (.slice (some ⟨W.heap.size, 0, none⟩) xs.length xs.length)) (W.alloc (.cells (xs.map (Value.int .u8)).toArray 5)) = .ok (.string (str (xs.map fun n => UInt8.ofNat n.toNat))) (W.alloc (.cells (xs.map (Value.int .u8)).toArray 5)) := by
  have h := run_convert_bytes_arg (P := Tryz.prog) (W.alloc (.cells (xs.map (Value.int .u8)).toArray 5)) 212 5 Tryz.underlying212 Tryz.underlying5 W.heap.size 0 xs.length xs.length xs rfl (fun i hi => by
    rw [World.cell?_alloc_at _ _ _ _ rfl]
    simp [List.getD, List.getElem?_eq_getElem hi]) 9 Tryz.underlying9
  exact h

/-- behind an append to a row of one's own -/
theorem grown_own {w wr w1 : World} {o : Obj} {e : TypeId} {v : Value} {n : Nat} {xs : List Value} {size : Nat} (hb : Below w.heap.size w wr) (hown : wr.ownsRow w.heap.size e size v n xs) (hg : (wr.alloc o).grownBy w1 v.ownBlock) : Below w.heap.size w w1 :=
  (hb.alloc hb.size o).grown hg (by have := hb.size; simp; omega) (fun k hk => (hown.lt k hk).1)

/-- a row of bytes at the head of a block, which may be written -/
def Row8 (w : World) (g : Nat) (l : List UInt8) : Prop := ∀ (i : Nat) (c : UInt8), l[i]? = some c → w.cell? ⟨g, i, none⟩ = some (.int .u8 (c.toNat : Int)) ∧ w.frozen? ⟨g, i, none⟩ = false
/-- '[]byte(s)' -/
theorem bytes_of (w : World) (s : ByteArray) : ∃ (cap : Nat) (w1 : World), Sem.run Tryz.prog (convert 9 212 (.string s)) w = .ok (.slice (some ⟨w.heap.size, 0, none⟩) s.size cap) w1 ∧ Row8 w1 w.heap.size s.data.toList ∧ Below w.heap.size w w1 ∧ s.size ≤ cap := by
  refine ⟨_, _, run_bytes_of_string w 9 212 5 s Tryz.underlying9 Tryz.underlying212 Tryz.underlying5, ?_, ?_, grownCap_ge _ _ _ _⟩
  · intro i c hc
    have hi : i < s.data.toList.length := by
      rcases Nat.lt_or_ge i s.data.toList.length with h | h
      · exact h
      · rw [List.getElem?_eq_none h] at hc; cases hc
    have hi' : i < s.data.size := by simpa using hi
    have hz : ∀ cap, i < (bytesRow s cap).size := fun cap => by unfold bytesRow; rw [Array.size_append, Array.size_map]; omega
    constructor
    · rw [show w.heap.size = w.drew.heap.size from rfl, World.cell?_alloc_mark]
      unfold bytesRow
      rw [Array.getElem?_append_left (by simpa using hi')]
      have : s.data[i]? = some c := by rw [← Array.getElem?_toList]; exact hc
      simp [this]
    · have hb : (w.drew.alloc (.cells (bytesRow s (grownCap w s.size 0 5)) 5 ((bytesRow s (grownCap w s.size 0 5)).size, (bytesRow s (grownCap w s.size 0 5)).size + 1))).heap[w.heap.size]? = some (.cells (bytesRow s (grownCap w s.size 0 5)) 5 ((bytesRow s (grownCap w s.size 0 5)).size, (bytesRow s (grownCap w s.size 0 5)).size + 1)) := by
        show (w.heap.push _)[w.heap.size]? = _
        simp
      unfold World.frozen?
      simp only [hb]
      have := hz (grownCap w s.size 0 5)
      simp; omega
  · exact (Below.refl _ _).drew.alloc (Nat.le_refl _) _
/-- 'string(b)' of such a row -/
theorem row_string {w : World} {g : Nat} {l : List UInt8} (h : Row8 w g l) (cap : Nat) : Sem.run Tryz.prog (convert 212 9 (.slice (some ⟨g, 0, none⟩) l.length cap)) w = .ok (.string (str l)) w := by
  refine run_convert_bytes_back w 212 9 5 ⟨g, 0, none⟩ cap l Tryz.underlying212 Tryz.underlying5 Tryz.underlying9 (fun j hj => ?_)
  have := (h j l[j] (by simp [hj])).1
  rw [show (⟨g, 0, none⟩ : Addr).add j = ⟨g, j, none⟩ from by unfold Addr.add; split <;> simp_all]
  exact this
end Go.Proofs.YtgllfcoafgphbaaGreatDoor

/-
  Which texts are names: in plain lists, and the document's IsName, walked.
-/
namespace Go.Proofs.YtgllfcoafgphbaaGreatDoor
open Go.ChangeShapes Go.WideShapes Go.ChangeAt Go.RowKit
set_option linter.unusedVariables false
def smallB (c : UInt8) : Bool := decide (97 ≤ c.toNat) && decide (c.toNat ≤ 122)
def wordB (c : UInt8) : Bool := smallB c || (decide (65 ≤ c.toNat) && decide (c.toNat ≤ 90)) || (decide (48 ≤ c.toNat) && decide (c.toNat ≤ 57)) || decide (c.toNat = 95)
def isName (s : List UInt8) : Bool := match s with
  | [] => false
  | c :: t => decide (s.length ≤ 30) && smallB c && !(s == [110, 111, 116]) && t.all wordB
theorem bool_eq {a b : Bool} (h : a = true ↔ b = true) : a = b := by cases a <;> cases b <;> simp_all
set_option maxRecDepth 100000 in
set_option maxHeartbeats 1000000 in
theorem small_any (c : UInt8) (w : World) :
    Calls Tryz.prog 98 #[.int .u8 (c.toNat : Int)] w fun e w' => e = .returned (.bool (smallB c)) ∧ w = w' := by
  have hc := byte_le c
  by_cases h1 : 97 ≤ c.toNat
  · by_cases h2 : c.toNat ≤ 122
    · have HE : Hid (smallB c = true) := by show _ = _; simp [smallB, h1, h2]
      go_enter Tryz.func98, Tryz.ntmps98
      go_wp2
      go_ret
      exact ⟨ret_bool (by rw [HE.out]; simp; omega), rfl⟩
    · have HE : Hid (smallB c = false) := by show _ = _; simp [smallB, h2]
      go_enter Tryz.func98, Tryz.ntmps98
      go_wp2
      go_ret
      exact ⟨ret_bool (by rw [HE.out]; simp; omega), rfl⟩
  · have HE : Hid (smallB c = false) := by show _ = _; simp [smallB, h1]
    go_enter Tryz.func98, Tryz.ntmps98
    go_wp2
    go_ret
    exact ⟨ret_bool (by rw [HE.out]), rfl⟩
set_option maxRecDepth 100000 in
set_option maxHeartbeats 1000000 in
theorem word_any (c : UInt8) (w : World) :
    Calls Tryz.prog 70 #[.int .u8 (c.toNat : Int)] w fun e w' => e = .returned (.bool (wordB c)) ∧ w = w' := by
  have hc := byte_le c
  cases hs : smallB c with
  | true =>
    have HE : Hid (wordB c = true) := by show _ = _; simp [wordB, hs]
    go_enter Tryz.func70, Tryz.ntmps70
    go_wp2_with fail
    refine (small_any c _).mono ?_
    rintro e w1 ⟨rfl, rfl⟩
    rw [hs]
    go_wp2
    go_ret
    exact ⟨ret_bool (by rw [HE.out]), rfl⟩
  | false =>
    have hw : wordB c = ((decide (65 ≤ c.toNat) && decide (c.toNat ≤ 90)) || (decide (48 ≤ c.toNat) && decide (c.toNat ≤ 57)) || decide (c.toNat = 95)) := by simp [wordB, hs]
    have HW : Hid (wordB c = ((decide (65 ≤ c.toNat) && decide (c.toNat ≤ 90)) || (decide (48 ≤ c.toNat) && decide (c.toNat ≤ 57)) || decide (c.toNat = 95))) := hw
    clear hw
    have HS : Hid (smallB c = false) := hs
    clear hs
    by_cases h1 : 65 ≤ c.toNat
    all_goals by_cases h2 : c.toNat ≤ 90
    all_goals by_cases h3 : 48 ≤ c.toNat
    all_goals by_cases h4 : c.toNat ≤ 57
    all_goals try (exfalso; omega)
    all_goals
      go_enter Tryz.func70, Tryz.ntmps70
      go_wp2_with fail
      refine (small_any c _).mono ?_
      rintro e w1 ⟨rfl, rfl⟩
      rw [HS.out]
      go_wp2
      all_goals go_ret
      all_goals refine ⟨ret_bool ?_, rfl⟩
      all_goals rw [HW.out]
      all_goals apply bool_eq
      all_goals simp
      all_goals omega
theorem name_step (l : List UInt8) (k : Nat) (c : UInt8) (hk : 1 ≤ k) (hc : l[k]? = some c) : (l.drop 1).take k = (l.drop 1).take (k - 1) ++ [c] := by
  obtain ⟨m, rfl⟩ : ∃ m, k = m + 1 := ⟨k - 1, by omega⟩
  have hl : m < (l.drop 1).length := by
    have : m + 1 < l.length := by
      rcases Nat.lt_or_ge (m + 1) l.length with h | h
      · exact h
      · rw [List.getElem?_eq_none h] at hc; cases hc
    simp; omega
  have he : (l.drop 1)[m]? = some c := by rw [List.getElem?_drop, Nat.add_comm]; exact hc
  rw [Nat.add_sub_cancel, List.take_succ_eq_append_getElem hl]
  rw [List.getElem?_eq_getElem hl] at he
  cases he; rfl
theorem name_of (s : ByteArray) (h0 : 0 < s.size) : isName s.data.toList = (decide (s.size ≤ 30) && smallB s[0] && !(s.data.toList == [110, 111, 116]) && (s.data.toList.drop 1).all wordB) := by
  have hl : 0 < s.data.toList.length := by simpa using h0
  have e : s.data.toList = s[0] :: s.data.toList.drop 1 := by
    conv => lhs; rw [← List.drop_zero (l := s.data.toList), List.drop_eq_getElem_cons hl]
    rfl
  have e2 : isName s.data.toList = isName (s[0] :: s.data.toList.drop 1) := by rw [← e]
  rw [e2, isName, ← e]
  simp
theorem name_get (s : ByteArray) (k : Nat) (h : k < s.size) : s.data.toList[k]? = some s[k] := by
  rw [List.getElem?_eq_getElem (by simpa using h)]; rfl
set_option maxRecDepth 100000 in
set_option maxHeartbeats 1000000 in
theorem risname_any (s : ByteArray) (w : World) (hs : s.size ≤ 140737488355328) :
    Calls Tryz.prog 99 #[.string s] w fun e w' => e = .returned (.bool (isName s.data.toList)) ∧ w = w' := by
  by_cases h0 : s.size = 0
  · have HE : Hid (isName s.data.toList = false) := by
      have : s.data.toList = [] := List.eq_nil_of_length_eq_zero (by simpa using h0)
      show _ = _; rw [this]; rfl
    have h0' : s.size < 1 := by omega
    clear h0
    go_enter Tryz.func99, Tryz.ntmps99
    go_wp2
    go_ret
    exact ⟨ret_bool HE.out.symm, rfl⟩
  · have hp : 0 < s.size := by omega
    have HN := name_of s hp
    have HNH : Hid (isName s.data.toList = (decide (s.size ≤ 30) && smallB s[0] && !(s.data.toList == [110, 111, 116]) && (s.data.toList.drop 1).all wordB)) := HN
    clear HN h0
    by_cases h30 : s.size ≤ 30
    · cases hsm : smallB s[0] with
      | false =>
        have HE : Hid (isName s.data.toList = false) := by show _ = _; rw [HNH.out, hsm]; simp
        have HSM : Hid (smallB s[0] = false) := hsm
        clear hsm
        go_enter Tryz.func99, Tryz.ntmps99
        go_wp2_with fail
        refine (small_any s[0] _).mono ?_
        rintro e w1 ⟨rfl, rfl⟩
        rw [HSM.out]
        go_wp2
        go_ret
        exact ⟨ret_bool HE.out.symm, rfl⟩
      | true =>
        have HSM : Hid (smallB s[0] = true) := hsm
        by_cases hnot : s.data.toList = [110, 111, 116]
        · have HE : Hid (isName s.data.toList = false) := by show _ = _; rw [HNH.out, hnot]; simp
          have hn2 : (s.toList == [110, 111, 116]) = true := by rw [toList_of, hnot]; rfl
          clear hsm hnot
          go_enter Tryz.func99, Tryz.ntmps99
          go_wp2_with fail
          refine (small_any s[0] _).mono ?_
          rintro e w1 ⟨rfl, rfl⟩
          rw [HSM.out]
          go_wp2
          go_ret
          exact ⟨ret_bool HE.out.symm, rfl⟩
        · have hn2 : (s.toList == [110, 111, 116]) = false := by rw [toList_of]; simp [hnot]
          have HNA : Hid (isName s.data.toList = (s.data.toList.drop 1).all wordB) := by show _ = _; rw [HNH.out, hsm]; simp [h30, hnot]
          clear hsm hnot
          go_enter Tryz.func99, Tryz.ntmps99
          go_wp2_with fail
          refine (small_any s[0] _).mono ?_
          rintro e w1 ⟨rfl, rfl⟩
          rw [HSM.out]
          go_wp2
          go_loop [3] (fun i => ∃ k : Nat, 1 ≤ k ∧ k ≤ s.size ∧ i = .int .i64 k ∧ Hid (((s.data.toList.drop 1).take (k - 1)).all wordB = true)) (fun i => s.size - (intOf i).toNat)
          case atStart => exact ⟨1, by omega, by omega, rfl, by simp [Hid]⟩
          case round =>
            obtain ⟨k, hk1, hk2, rfl, HA⟩ := hrel
            by_cases hlt : k < s.size
            · have hst := name_step s.data.toList k s[k] hk1 (name_get s k hlt)
              cases hw : wordB s[k] with
              | true =>
                have HA2 : Hid (((s.data.toList.drop 1).take (k + 1 - 1)).all wordB = true) := by
                  show _ = _
                  rw [Nat.add_sub_cancel, hst, List.all_append, HA.out]; simp [hw]
                have HW : Hid (wordB s[k] = true) := hw
                clear hw hst
                go_wp2_with fail
                refine (word_any s[k] _).mono ?_
                rintro e w2 ⟨rfl, rfl⟩
                rw [HW.out]
                go_wp2
                go_round
                case rel => exact ⟨k + 1, by omega, by omega, by go_num, HA2⟩
                case measure => simp [intOf]; omega
              | false =>
                have HE : Hid (isName s.data.toList = false) := by
                  show _ = _
                  rw [HNA.out, ← List.take_append_drop k (s.data.toList.drop 1), hst]
                  simp [hw]
                have HW : Hid (wordB s[k] = false) := hw
                clear hw hst
                go_wp2_with fail
                refine (word_any s[k] _).mono ?_
                rintro e w2 ⟨rfl, rfl⟩
                rw [HW.out]
                go_wp2
                go_ret
                exact ⟨ret_bool HE.out.symm, rfl⟩
            · have HE : Hid (isName s.data.toList = true) := by
                show _ = _
                have := HA.out
                rw [List.take_of_length_le (by simp; omega)] at this
                rw [HNA.out, this]
              go_wp2
              go_ret
              exact ⟨ret_bool HE.out.symm, rfl⟩
    · have HE : Hid (isName s.data.toList = false) := by show _ = _; rw [HNH.out]; simp [h30]
      have h30' : 30 < s.size := by omega
      clear h30
      go_enter Tryz.func99, Tryz.ntmps99
      go_wp2
      go_ret
      exact ⟨ret_bool HE.out.symm, rfl⟩
end Go.Proofs.YtgllfcoafgphbaaGreatDoor
