import Derived.RangeFuncNested
import Derived.RangeFuncLeaves
import Derived.RangeFuncCalls
import Derived.WalkKit
import Derived.OwnWalkIn
import Derived.TacticsInMore
import Derived.LoopNIn
import Derived.LoopIn
import Derived.Test.YtdfbjnachakkhaaGreatDoorRows
import Derived.Laws.BitsAllLaws
import Derived.Laws.Bits128
import Derived.ProofKit
import Derived.OpenShut
import Derived.WalkLawsBesides
import Derived.WalkSpells
import Derived.Deep.QuietTactic
import Derived.BigQuiet
namespace Go.Hands
open Go.RowKit
set_option linter.unusedVariables false
/-- nothing that lay has turned but the blocks of M -/
structure Rnd (M : Nat → Prop) (W W' : World) : Prop where
  os : W'.os = W.os
  tape : W'.tape = W.tape
  output : W'.output = W.output
  size : W.heap.size ≤ W'.heap.size
  block : ∀ k, k < W.heap.size → ¬ M k → W'.heap[k]? = W.heap[k]?
theorem Rnd.refl (M : Nat → Prop) (W : World) : Rnd M W W := ⟨rfl, rfl, rfl, Nat.le_refl _, fun _ _ _ => rfl⟩
theorem Rnd.trans {M : Nat → Prop} {A B C : World} (h : Rnd M A B) (k : Rnd M B C) : Rnd M A C :=
  ⟨k.os.trans h.os, k.tape.trans h.tape, k.output.trans h.output, Nat.le_trans h.size k.size, fun j hj hm => (k.block j (Nat.lt_of_lt_of_le hj h.size) hm).trans (h.block j hj hm)⟩
theorem Rnd.alloc {M : Nat → Prop} {A B : World} (h : Rnd M A B) (o : Obj) : Rnd M A (B.alloc o) :=
  ⟨h.os, h.tape, h.output, Nat.le_trans h.size (by simp), fun j hj hm => (Below.heap_alloc _ _ _ (Nat.lt_of_lt_of_le hj h.size)).trans (h.block j hj hm)⟩
theorem Rnd.grown {M : Nat → Prop} {A B : World} {row : Option Nat} (h : A.grownBy B row) (hr : ∀ k, row = some k → M k) : Rnd M A B := ⟨h.os, h.tape, h.output, h.size, fun k hk hm => h.block k hk (fun e => hm (hr k e.symm))⟩
theorem Rnd.below {M : Nat → Prop} {A B : World} {n : Nat} (h : Rnd M A B) (hn : n ≤ A.heap.size) (hM : ∀ k, M k → n ≤ k) : Below n A B :=
  ⟨h.os, h.tape, h.output, h.size, fun k hk => h.block k (by omega) (fun hm => by have := hM k hm; omega)⟩
theorem Rnd.of_below {M : Nat → Prop} {A B : World} (h : Below A.heap.size A B) : Rnd M A B := ⟨h.os, h.tape, h.output, h.size, fun k hk _ => h.block k hk⟩
theorem Rnd.mono {M M' : Nat → Prop} {A B : World} (h : Rnd M A B) (hm : ∀ k, M k → M' k) : Rnd M' A B := ⟨h.os, h.tape, h.output, h.size, fun k hk hn => h.block k hk (fun hk2 => hn (hm k hk2))⟩
theorem Rnd.cell {M : Nat → Prop} {A B : World} (h : Rnd M A B) {b j : Nat} {v : Value} (hc : A.cell? ⟨b, j, none⟩ = some v) (hm : ¬ M b) : B.cell? ⟨b, j, none⟩ = some v := by
  have hlt := World.block_lt_of_cell? A ⟨b, j, none⟩ hc
  have hb := h.block b hlt hm
  unfold World.cell? at hc ⊢
  simp only at hc ⊢
  rw [hb]; exact hc
/-- what speaks of blocks below B alone -/
def Low {β : Type} (B : Nat) (J : β → World → Prop) : Prop := ∀ s A C, J s A → Below B A C → J s C
theorem Low.mono {β : Type} {B B' : Nat} {J : β → World → Prop} (h : Low B J) (hb : B ≤ B') : Low B' J := fun s A C hj hbl => h s A C hj (hbl.mono hb)
theorem Low.and {β : Type} {B : Nat} {J K : β → World → Prop} (h : Low B J) (k : Low B K) : Low B (fun s W => J s W ∧ K s W) := fun s A C hj hb => ⟨h s A C hj.1 hb, k s A C hj.2 hb⟩
theorem cell_put_loop {W : World} {l b j : Nat} {r : Loop} {o : Obj} {v : Value} (hl : W.heap[l]? = some (.loop r)) (hc : W.cell? ⟨b, j, none⟩ = some v) : (W.putObj l o).cell? ⟨b, j, none⟩ = some v := by
  have hne : b ≠ l := fun e => by
    subst e
    unfold World.cell? at hc
    simp [hl] at hc
  unfold World.cell? at hc ⊢
  simp only at hc ⊢
  rw [World.putObj_heap_other hne]; exact hc
theorem below_put {B : Nat} {A : World} {l : Nat} {o : Obj} (hl : B ≤ l) : Below B A (A.putObj l o) :=
  ⟨rfl, rfl, rfl, by simp, fun k hk => World.putObj_heap_other (by omega)⟩
section
variable {α : Type} {F : Fence} {n : Nat} {P : Program}
/-- **A function value that hands out things, and stops where it is told to**: whatever a round that goes on leaves, it leaves all but the blocks of M as they lay; what J says hangs on blocks that lay when it was called. -/
def Hands (F : Fence) (n : Nat) (P : Program) (g : Nat) (lb : Array Value) (encs : α → Array Value) (M : Nat → Prop) (S Sp : List α → Prop) (w : World) : Prop :=
  ∀ (l : Nat) (Mx : Nat → Prop) (J Jx : List α → World → Prop) (W : World), Rnd M w W → (∀ k, Mx k → k < W.heap.size) → Low W.heap.size J → Low W.heap.size Jx →
    (∀ pre x W1, J pre W1 → Rnd M W W1 → Sp (pre ++ [x]) → YieldAt F (n - 1) P l (encs x) W1 fun e W' =>
      (e = .returned (.bool true) ∧ J (pre ++ [x]) W' ∧ Rnd M W1 W') ∨ (e = .returned (.bool false) ∧ Jx (pre ++ [x]) W' ∧ Rnd Mx W1 W')) →
    J [] W →
    CallsIn F n P g (#[.func (.yield l) #[] #[]] ++ lb) W fun e W' => (∃ v, e = .returned v) ∧ ((∃ xs, S xs ∧ J xs W' ∧ Rnd M W W') ∨ (∃ pre, Sp pre ∧ Jx pre W'))
/-- how the body of a round may be left -/
def leaves (M Mx : Nat → Prop) (I : List α → World → Prop) (Ix : Code → List α → World → Prop) (xs : List α) (W : World) : Exit → Act → World → Prop
  | .normal, _, W' => Rnd M W W' ∧ I xs W'
  | .ret, _, W' => Rnd Mx W W' ∧ Ix .ret xs W'
  | .exit id, _, W' => Rnd Mx W W' ∧ Ix (.exit id) xs W'
  | .goto t, _, W' => Rnd Mx W W' ∧ Ix (.goto t) xs W'
  | _, _, _ => False
set_option maxHeartbeats 1000000 in
/-- **the statement**, at a loop that stands in no other one's round -/
theorem range_hands {g : Operand} {ps : Array Tmp} {assign body : Code} {Q : Exit → Act → World → Prop} {a : Act} {w w0 : World}
    (hro : F.round = none) (h1 : 1 ≤ n) {gf : Nat} {lb : Array Value} (hg : a.eval g = .func (.func gf) #[] lb) (hFg : F.fn gf) (eg : ∀ args w, (callFunc gf args).run P w = .ok (.enter gf args) w)
    {encs : α → Array Value} {M : Nat → Prop} {S Sp : List α → Prop} (hseq : Hands F (n - 1) P gf lb encs M S Sp w0) (hw : Rnd M w0 w) (hM : ∀ k, M k → k < w.heap.size) (Mx : Nat → Prop) (hMx : ∀ k, Mx k → k < w.heap.size) (hps : ∀ x, (encs x).size = ps.size)
    (I : List α → World → Prop) (Ix : Code → List α → World → Prop) (hI : Low w.heap.size I) (hIx : ∀ c, Low w.heap.size (Ix c)) (h0 : I [] w)
    (Ax : α → Act → World → Prop) (hAx : ∀ x a' W l r o, W.heap[l]? = some (.loop r) → Ax x a' W → Ax x a' (W.putObj l o))
    (hassign : ∀ (l : Nat) (pre : List α) (x : α) (W : World) (K : Act → World → Prop), w.heap.size ≤ W.heap.size → I pre W → (∀ a' W', Rnd (fun _ => False) W W' → Ax x a' W' → K a' W') →
      assign.wpIn (F.inRound l) (n - 1 - 1) P (Exit.then K (fun _ _ _ => False)) { tmps := (ps.zip (encs x)).foldl (fun t (p, v) => t.setIfInBounds p v) a.tmps, defers := [] } W)
    (hbody : ∀ (l : Nat) (pre : List α) (x : α) (a' : Act) (W : World), w.heap.size ≤ W.heap.size → I pre W → Ax x a' W → Sp (pre ++ [x]) → body.wpIn (F.inRound l) (n - 1 - 1) P (leaves M Mx I Ix (pre ++ [x]) W) a' W)
    (hdone : ∀ (D : Nat) (xs : List α) (W : World), w.heap.size ≤ D → S xs → I xs W → W.heap[D]? = some (.deferred (some [])) → Q .normal { a with defers := { target := .collected D, args := #[] } :: a.defers } W)
    (hstop : ∀ (D : Nat) (c : Code) (pre : List α) (W : World), w.heap.size ≤ D → Sp pre → Ix c pre W → W.heap[D]? = some (.deferred (some [])) → c.wpIn F n P Q { a with defers := { target := .collected D, args := #[] } :: a.defers } W) :
    (Code.rangeFunc g ps assign body).wpIn F n P Q a w := by
  refine wpIn_rangeFunc fun fn hfn => ?_
  rw [hro]
  -- the record, in each of its states
  let rec' : LoopState → Option Code → Loop := fun st pe => { state := st, pending := pe, fn := fn, tmps := a.tmps, params := ps, assign := assign, body := body, defers := w.heap.size }
  obtain ⟨V, hV⟩ : ∃ V, (w.alloc (.deferred (some []))).alloc (.loop (rec' .ready none)) = V := ⟨_, rfl⟩
  have hsz : V.heap.size = w.heap.size + 2 := by rw [← hV]; simp
  have hL : V.heap[w.heap.size + 1]? = some (.loop (rec' .ready none)) := by
    rw [← hV]
    have := World.alloc_heap_new (w.alloc (.deferred (some []))) (.loop (rec' .ready none))
    rwa [World.size_alloc] at this
  have hD : V.heap[w.heap.size]? = some (.deferred (some [])) := by
    rw [← hV]; exact (Below.heap_alloc _ _ _ (by simp)).trans (World.alloc_heap_new w _)
  have hR : Rnd M w V := by rw [← hV]; exact ((Rnd.refl M w).alloc _).alloc _
  have hBl : Below w.heap.size w V := by rw [← hV]; exact ((Below.refl _ w).alloc (Nat.le_refl _) _).alloc (by simp) _
  refine ⟨w.heap.size + 1, [{ target := .collected w.heap.size, args := #[] }], V, { target := .fn (.func gf) lb, args := #[.func (.yield (w.heap.size + 1)) #[] #[]] }, V, gf, #[.func (.yield (w.heap.size + 1)) #[] #[]] ++ lb, V,
    ?_, ?_, ?_, ?_, fun _ => h1, ?_⟩
  · rw [← hV]; exact run_enterLoop_outer _ _ _ _ _
  · simp only [resolve, hg]; simp [go_sem]
  · intro f' hf'; simp [Target.leads] at hf'; subst hf'; exact hFg
  · simp [invoke, go_sem, eg]
  · clear hV
    -- what is held between two rounds: the caller's word, the record ready, the block for deferred calls
    have lowK : ∀ (st : LoopState) (pe : Option Code), Low V.heap.size (fun (_ : List α) W => W.heap[w.heap.size + 1]? = some (.loop (rec' st pe)) ∧ W.heap[w.heap.size]? = some (.deferred (some []))) := fun st pe s A C h hb =>
      ⟨(hb.block _ (by omega)).trans h.1, (hb.block _ (by omega)).trans h.2⟩
    refine (hseq (w.heap.size + 1) (fun k => Mx k ∨ k = w.heap.size + 1) (fun pre W => (I pre W ∧ w.heap.size + 2 ≤ W.heap.size) ∧ (W.heap[w.heap.size + 1]? = some (.loop (rec' .ready none)) ∧ W.heap[w.heap.size]? = some (.deferred (some []))))
      (fun pre W => ∃ c, Ix c pre W ∧ (W.heap[w.heap.size + 1]? = some (.loop (rec' .done (some c))) ∧ W.heap[w.heap.size]? = some (.deferred (some []))))
      V (hw.trans hR) (fun k hk => by rcases hk with h | h; have := hMx k h; omega; omega) ((Low.and (hI.mono (by omega)) (fun s A C h hb => Nat.le_trans h hb.size)).and (lowK _ _)) (fun s A C h hb => ?_) ?_ ⟨⟨hI _ _ _ h0 hBl, by omega⟩, hL, hD⟩).mono ?_
    · obtain ⟨c, hc, hl⟩ := h
      exact ⟨c, (hIx c).mono (by omega) s A C hc hb, lowK _ _ s A C hl hb⟩
    · rintro pre x W ⟨⟨hi, hsw⟩, hl, hd⟩ _ hlen
      have hy := run_yield (P := P) (args := encs x) hl (by exact hps x)
      refine ⟨fn, _, assign, body, hy, roundIn_of_wpIn hfn (hassign _ pre x W _ (by omega) hi ?_)⟩
      intro a' Wa hra hax
      have hla : Wa.heap[w.heap.size + 1]? = some (.loop (rec' .ready none)) := (hra.block _ (by omega) (fun h => h)).trans hl
      have hda : Wa.heap[w.heap.size]? = some (.deferred (some [])) := (hra.block _ (by omega) (fun h => h)).trans hd
      have hsa : W.heap.size ≤ Wa.heap.size := hra.size
      refine ⟨_, run_beginRound hla rfl, ?_⟩
      have hia : I pre (Wa.putObj (w.heap.size + 1) (.loop { rec' .ready none with state := .busy })) :=
        hI _ _ _ hi (Below.trans (hra.below (by omega) (fun _ h => h.elim)) (below_put (by omega)))
      have hlb : (Wa.putObj (w.heap.size + 1) (.loop { rec' .ready none with state := .busy })).heap[w.heap.size + 1]? = some (.loop { rec' .ready none with state := .busy }) := World.putObj_heap_same (by omega)
      have hdb : (Wa.putObj (w.heap.size + 1) (.loop { rec' .ready none with state := .busy })).heap[w.heap.size]? = some (.deferred (some [])) := (World.putObj_heap_other (by omega)).trans hda
      refine wpIn_mono (hbody (w.heap.size + 1) pre x a' _ (by simp; omega) hia (hAx _ _ _ _ _ _ hla hax) hlen) ?_
      have fin : ∀ (N : Nat → Prop) (hN : ∀ k, N k → k < w.heap.size) (jump : Option Code) (W3 : World), Rnd N (Wa.putObj (w.heap.size + 1) (.loop { rec' .ready none with state := .busy })) W3 →
          W3.heap[w.heap.size + 1]? = some (.loop { rec' .ready none with state := .busy }) ∧ W3.heap[w.heap.size]? = some (.deferred (some [])) ∧ w.heap.size + 2 ≤ W3.heap.size := fun N hN jump W3 hr3 => by
        have hs := hr3.size
        simp only [World.putObj_size] at hs
        exact ⟨(hr3.block _ (by simp; omega) (fun hm => by have := hN _ hm; omega)).trans hlb, (hr3.block _ (by simp; omega) (fun hm => by have := hN _ hm; omega)).trans hdb, by omega⟩
      have back : ∀ (N : Nat → Prop) (hN : ∀ k, N k → k < w.heap.size) (jump : Option Code) (W3 : World), Rnd N (Wa.putObj (w.heap.size + 1) (.loop { rec' .ready none with state := .busy })) W3 →
          Below w.heap.size W3 (W3.putObj (w.heap.size + 1) (.loop (rec' (if jump.isNone then .ready else .done) jump))) ∧
          (W3.putObj (w.heap.size + 1) (.loop (rec' (if jump.isNone then .ready else .done) jump))).heap[w.heap.size + 1]? = some (.loop (rec' (if jump.isNone then .ready else .done) jump)) ∧
          (W3.putObj (w.heap.size + 1) (.loop (rec' (if jump.isNone then .ready else .done) jump))).heap[w.heap.size]? = some (.deferred (some [])) := fun N hN jump W3 hr3 => by
        obtain ⟨f1, f2, f3⟩ := fin N hN jump W3 hr3
        exact ⟨below_put (by omega), World.putObj_heap_same (by omega), (World.putObj_heap_other (by omega)).trans f2⟩
      have rend : ∀ (N : Nat → Prop) (hN : ∀ k, N k → k < w.heap.size) (jump : Option Code) (W3 : World), Rnd N (Wa.putObj (w.heap.size + 1) (.loop { rec' .ready none with state := .busy })) W3 →
          (Instr.endRound (w.heap.size + 1) jump).run P W3 = .ok (.bool jump.isNone) (W3.putObj (w.heap.size + 1) (.loop (rec' (if jump.isNone then .ready else .done) jump))) := fun N hN jump W3 hr3 => run_endRound (P := P) jump (fin N hN jump W3 hr3).1
      have last : ∀ (jump : Option Code) (W3 : World), Rnd Mx (Wa.putObj (w.heap.size + 1) (.loop { rec' .ready none with state := .busy })) W3 → Rnd (fun k => Mx k ∨ k = w.heap.size + 1) W (W3.putObj (w.heap.size + 1) (.loop (rec' (if jump.isNone then .ready else .done) jump))) := fun jump W3 hr3 => by
        refine ⟨hr3.os.trans hra.os, hr3.tape.trans hra.tape, hr3.output.trans hra.output, Nat.le_trans hsa (by have := hr3.size; simp at this ⊢; omega), fun k hk hm => ?_⟩
        have e : k ≠ w.heap.size + 1 := fun e => hm (.inr e)
        exact (World.putObj_heap_other e).trans ((hr3.block k (by simp; omega) (fun h => hm (.inl h))).trans ((World.putObj_heap_other e).trans (hra.block k hk (fun h => h))))
      rintro e a3 W3 hp
      cases e with
      | normal =>
        obtain ⟨hr3, hi3⟩ := hp
        obtain ⟨b1, b2, b3⟩ := back M hM none W3 hr3
        obtain ⟨f1, f2, f3⟩ := fin M hM none W3 hr3
        refine ⟨_, _, rend M hM none W3 hr3, .inl ⟨rfl, ⟨⟨hI _ _ _ hi3 b1, by simp; omega⟩, b2, b3⟩, ?_⟩⟩
        refine ⟨hr3.os.trans hra.os, hr3.tape.trans hra.tape, hr3.output.trans hra.output, Nat.le_trans hsa (by have := hr3.size; simp at this ⊢; omega), fun k hk hm => ?_⟩
        by_cases e : k = w.heap.size + 1
        · subst e
          exact b2.trans hl.symm
        · refine (World.putObj_heap_other e).trans ((hr3.block k (by simp; omega) hm).trans ((World.putObj_heap_other e).trans (hra.block k hk (fun h => h))))
      | ret =>
        obtain ⟨hr3, hi3⟩ := hp
        obtain ⟨b1, b2, b3⟩ := back Mx hMx (some .ret) W3 hr3
        exact ⟨_, _, rend Mx hMx (some .ret) W3 hr3, .inr ⟨rfl, ⟨.ret, hIx _ _ _ _ hi3 b1, b2, b3⟩, last (some .ret) W3 hr3⟩⟩
      | exit id =>
        obtain ⟨hr3, hi3⟩ := hp
        obtain ⟨b1, b2, b3⟩ := back Mx hMx (some (.exit id)) W3 hr3
        exact ⟨_, _, rend Mx hMx (some (.exit id)) W3 hr3, .inr ⟨rfl, ⟨.exit id, hIx _ _ _ _ hi3 b1, b2, b3⟩, last (some (.exit id)) W3 hr3⟩⟩
      | goto t =>
        obtain ⟨hr3, hi3⟩ := hp
        obtain ⟨b1, b2, b3⟩ := back Mx hMx (some (.goto t)) W3 hr3
        exact ⟨_, _, rend Mx hMx (some (.goto t)) W3 hr3, .inr ⟨rfl, ⟨.goto t, hIx _ _ _ _ hi3 b1, b2, b3⟩, last (some (.goto t)) W3 hr3⟩⟩
      | panic ch => exact hp.elim
      | outgrown => exact hp.elim
    · rintro e W2 ⟨⟨v, rfl⟩, (⟨xs, hS, ⟨⟨hi, hs2⟩, hl, hd⟩, _⟩ | ⟨pre, hSp, c, hi, hl, hd⟩)⟩
      · exact ⟨none, _, run_endLoop (P := P) hl (by simp [rec']), hdone _ xs _ (Nat.le_refl _) hS (hI _ _ _ hi (below_put (by omega))) ((World.putObj_heap_other (by omega)).trans hd)⟩
      · exact ⟨some c, _, run_endLoop (P := P) hl (by simp [rec']), hstop _ c pre _ (Nat.le_refl _) hSp (hIx _ _ _ _ hi (below_put (by omega))) ((World.putObj_heap_other (by omega)).trans hd)⟩
end
end Go.Hands

namespace Go.Proofs.YtdfbjnachakkhaaGreatDoor
open Go.ChangeShapes Go.WideShapes Go.ChangeAt Go.RowKit
set_option linter.unusedVariables false

theorem ret_int {k : IntKind} {a b : Int} (h : a = b) : Ending.returned (.int k a) = .returned (.int k b) := by rw [h]
theorem ret_bool {a b : Bool} (h : a = b) : Ending.returned (.bool a) = .returned (.bool b) := by rw [h]

/-- a list of bytes as a text -/
def str (l : List UInt8) : ByteArray := ⟨l.toArray⟩
theorem str_size (l : List UInt8) : (str l).size = l.length := by simp [str, ByteArray.size]
theorem str_app (a b : List UInt8) : str a ++ str b = str (a ++ b) := by
  apply ByteArray.ext; rw [ByteArray.data_append]; simp [str]
theorem str_data (d : ByteArray) : str d.data.toList = d := by apply ByteArray.ext; simp [str]
theorem data_str (l : List UInt8) : (str l).data.toList = l := by simp [str]
theorem toList_of (s : ByteArray) : s.toList = s.data.toList := ByteArray.toList_eq s
theorem toList_str (l : List UInt8) : (str l).toList = l := by rw [toList_of, data_str]
theorem byte_le (c : UInt8) : (c.toNat : Int) ≤ 255 := by have := c.toNat_lt; omega
/-- bytes as cells -/
def bs (l : List UInt8) : List Value := l.map fun c => Value.int .u8 (c.toNat : Int)
theorem bs_length (l : List UInt8) : (bs l).length = l.length := by simp [bs]
theorem bs_snoc (l : List UInt8) (c : UInt8) : bs l ++ [Value.int .u8 (c.toNat : Int)] = bs (l ++ [c]) := by simp [bs]
theorem info5 : (Tryz.prog.info? 5).map (fun i => (i.zero, i.size, i.bytes)) = some (some (.int .u8 0), 1, 1) := by kernel_rfl

/-- 'string(b)' of a row of one's own -/
theorem own_string {W : World} {base : Nat} {v : Value} {l : List UInt8} {n : Nat} (h : W.ownsRow base 5 1 v n (bs l)) : Sem.run Tryz.prog (convert 40 9 v) W = .ok (.string (str l)) W := by
  obtain ⟨h1, h2⟩ := h
  rw [bs_length, Nat.mul_one] at h1
  subst h1
  rcases h2 with ⟨rfl, h0⟩ | ⟨g, cap, cur, rfl, hb, hg, hn, hc, hs, ht⟩
  · have hl : l = [] := List.eq_nil_of_length_eq_zero h0
    subst hl
    exact run_convert_bytes_nil W 40 5 Tryz.underlying40 Tryz.underlying5 0 0 9 Tryz.underlying9
  · refine run_convert_bytes_back W 40 9 5 ⟨g, 0, none⟩ cap l Tryz.underlying40 Tryz.underlying5 Tryz.underlying9 (fun j hj => ?_)
    have hown : W.ownsRow base 5 1 (.slice (some ⟨g, 0, none⟩) l.length cap) l.length (bs l) := ⟨by rw [bs_length, Nat.mul_one], Or.inr ⟨g, cap, cur, rfl, hb, hg, hn, hc, hs, ht⟩⟩
    exact hown.cells rfl j _ (by simp [bs, List.getElem?_eq_getElem hj])

/-- 'string([]byte{..})' right behind the literal -/
theorem lit_string (W : World) (xs : List Int) : Sem.run Tryz.prog (convert 40 9 (.slice (some ⟨W.heap.size, 0, none⟩) xs.length xs.length)) (W.alloc (.cells (xs.map (Value.int .u8)).toArray 5)) = .ok (.string (str (xs.map fun n => UInt8.ofNat n.toNat))) (W.alloc (.cells (xs.map (Value.int .u8)).toArray 5)) := by
  have h := run_convert_bytes_arg (P := Tryz.prog) (W.alloc (.cells (xs.map (Value.int .u8)).toArray 5)) 40 5 Tryz.underlying40 Tryz.underlying5 W.heap.size 0 xs.length xs.length xs rfl (fun i hi => by
    rw [World.cell?_alloc_at _ _ _ _ rfl]
    simp [List.getD, List.getElem?_eq_getElem hi]) 9 Tryz.underlying9
  exact h

end Go.Proofs.YtdfbjnachakkhaaGreatDoor

namespace Go.Proofs.YtdfbjnachakkhaaGreatDoor
open Go.ChangeShapes Go.WideShapes Go.ChangeAt Go.RowKit
set_option linter.unusedVariables false
def smallB (c : UInt8) : Bool := decide (97 ≤ c.toNat) && decide (c.toNat ≤ 122)
def wordB (c : UInt8) : Bool := smallB c || (decide (65 ≤ c.toNat) && decide (c.toNat ≤ 90)) || (decide (48 ≤ c.toNat) && decide (c.toNat ≤ 57)) || decide (c.toNat = 95)
def isName (s : List UInt8) : Bool := match s with
  | [] => false
  | c :: t => decide (s.length ≤ 30) && smallB c && !(s == [110, 111, 116]) && t.all wordB
theorem bool_eq {a b : Bool} (h : a = true ↔ b = true) : a = b := by cases a <;> cases b <;> simp_all
set_option maxRecDepth 100000 in
set_option maxHeartbeats 1000000 in
theorem small_any (c : UInt8) (w : World) :
    Calls Tryz.prog 19 #[.int .u8 (c.toNat : Int)] w fun e w' => e = .returned (.bool (smallB c)) ∧ w = w' := by
  have hc := byte_le c
  by_cases h1 : 97 ≤ c.toNat
  · by_cases h2 : c.toNat ≤ 122
    · have HE : Hid (smallB c = true) := by show _ = _; simp [smallB, h1, h2]
      go_enter Tryz.func19, Tryz.ntmps19
      go_wp2
      go_ret
      exact ⟨ret_bool (by rw [HE.out]; simp; omega), rfl⟩
    · have HE : Hid (smallB c = false) := by show _ = _; simp [smallB, h2]
      go_enter Tryz.func19, Tryz.ntmps19
      go_wp2
      go_ret
      exact ⟨ret_bool (by rw [HE.out]; simp; omega), rfl⟩
  · have HE : Hid (smallB c = false) := by show _ = _; simp [smallB, h1]
    go_enter Tryz.func19, Tryz.ntmps19
    go_wp2
    go_ret
    exact ⟨ret_bool (by rw [HE.out]), rfl⟩
set_option maxRecDepth 100000 in
set_option maxHeartbeats 1000000 in
theorem word_any (c : UInt8) (w : World) :
    Calls Tryz.prog 20 #[.int .u8 (c.toNat : Int)] w fun e w' => e = .returned (.bool (wordB c)) ∧ w = w' := by
  have hc := byte_le c
  cases hs : smallB c with
  | true =>
    have HE : Hid (wordB c = true) := by show _ = _; simp [wordB, hs]
    go_enter Tryz.func20, Tryz.ntmps20
    go_wp2_with fail
    refine (small_any c _).mono ?_
    rintro e w1 ⟨rfl, rfl⟩
    rw [hs]
    go_wp2
    go_ret
    exact ⟨ret_bool (by rw [HE.out]), rfl⟩
  | false =>
    have hw : wordB c = ((decide (65 ≤ c.toNat) && decide (c.toNat ≤ 90)) || (decide (48 ≤ c.toNat) && decide (c.toNat ≤ 57)) || decide (c.toNat = 95)) := by simp [wordB, hs]
    have HW : Hid (wordB c = ((decide (65 ≤ c.toNat) && decide (c.toNat ≤ 90)) || (decide (48 ≤ c.toNat) && decide (c.toNat ≤ 57)) || decide (c.toNat = 95))) := hw
    clear hw
    have HS : Hid (smallB c = false) := hs
    clear hs
    by_cases h1 : 65 ≤ c.toNat
    all_goals by_cases h2 : c.toNat ≤ 90
    all_goals by_cases h3 : 48 ≤ c.toNat
    all_goals by_cases h4 : c.toNat ≤ 57
    all_goals try (exfalso; omega)
    all_goals
      go_enter Tryz.func20, Tryz.ntmps20
      go_wp2_with fail
      refine (small_any c _).mono ?_
      rintro e w1 ⟨rfl, rfl⟩
      rw [HS.out]
      go_wp2
      all_goals go_ret
      all_goals refine ⟨ret_bool ?_, rfl⟩
      all_goals rw [HW.out]
      all_goals apply bool_eq
      all_goals simp
      all_goals omega
theorem name_step (l : List UInt8) (k : Nat) (c : UInt8) (hk : 1 ≤ k) (hc : l[k]? = some c) : (l.drop 1).take k = (l.drop 1).take (k - 1) ++ [c] := by
  obtain ⟨m, rfl⟩ : ∃ m, k = m + 1 := ⟨k - 1, by omega⟩
  have hl : m < (l.drop 1).length := by
    have : m + 1 < l.length := by
      rcases Nat.lt_or_ge (m + 1) l.length with h | h
      · exact h
      · rw [List.getElem?_eq_none h] at hc; cases hc
    simp; omega
  have he : (l.drop 1)[m]? = some c := by rw [List.getElem?_drop, Nat.add_comm]; exact hc
  rw [Nat.add_sub_cancel, List.take_succ_eq_append_getElem hl]
  rw [List.getElem?_eq_getElem hl] at he
  cases he; rfl
theorem name_of (s : ByteArray) (h0 : 0 < s.size) : isName s.data.toList = (decide (s.size ≤ 30) && smallB s[0] && !(s.data.toList == [110, 111, 116]) && (s.data.toList.drop 1).all wordB) := by
  have hl : 0 < s.data.toList.length := by simpa using h0
  have e : s.data.toList = s[0] :: s.data.toList.drop 1 := by
    conv => lhs; rw [← List.drop_zero (l := s.data.toList), List.drop_eq_getElem_cons hl]
    rfl
  have e2 : isName s.data.toList = isName (s[0] :: s.data.toList.drop 1) := by rw [← e]
  rw [e2, isName, ← e]
  simp
theorem name_get (s : ByteArray) (k : Nat) (h : k < s.size) : s.data.toList[k]? = some s[k] := by
  rw [List.getElem?_eq_getElem (by simpa using h)]; rfl
set_option maxRecDepth 100000 in
set_option maxHeartbeats 1000000 in
theorem risname_any (s : ByteArray) (w : World) (hs : s.size ≤ 140737488355328) :
    Calls Tryz.prog 10 #[.string s] w fun e w' => e = .returned (.bool (isName s.data.toList)) ∧ w = w' := by
  by_cases h0 : s.size = 0
  · have HE : Hid (isName s.data.toList = false) := by
      have : s.data.toList = [] := List.eq_nil_of_length_eq_zero (by simpa using h0)
      show _ = _; rw [this]; rfl
    have h0' : s.size < 1 := by omega
    clear h0
    go_enter Tryz.func10, Tryz.ntmps10
    go_wp2
    go_ret
    exact ⟨ret_bool HE.out.symm, rfl⟩
  · have hp : 0 < s.size := by omega
    have HN := name_of s hp
    have HNH : Hid (isName s.data.toList = (decide (s.size ≤ 30) && smallB s[0] && !(s.data.toList == [110, 111, 116]) && (s.data.toList.drop 1).all wordB)) := HN
    clear HN h0
    by_cases h30 : s.size ≤ 30
    · cases hsm : smallB s[0] with
      | false =>
        have HE : Hid (isName s.data.toList = false) := by show _ = _; rw [HNH.out, hsm]; simp
        have HSM : Hid (smallB s[0] = false) := hsm
        clear hsm
        go_enter Tryz.func10, Tryz.ntmps10
        go_wp2_with fail
        refine (small_any s[0] _).mono ?_
        rintro e w1 ⟨rfl, rfl⟩
        rw [HSM.out]
        go_wp2
        go_ret
        exact ⟨ret_bool HE.out.symm, rfl⟩
      | true =>
        have HSM : Hid (smallB s[0] = true) := hsm
        by_cases hnot : s.data.toList = [110, 111, 116]
        · have HE : Hid (isName s.data.toList = false) := by show _ = _; rw [HNH.out, hnot]; simp
          have hn2 : (s.toList == [110, 111, 116]) = true := by rw [toList_of, hnot]; rfl
          clear hsm hnot
          go_enter Tryz.func10, Tryz.ntmps10
          go_wp2_with fail
          refine (small_any s[0] _).mono ?_
          rintro e w1 ⟨rfl, rfl⟩
          rw [HSM.out]
          go_wp2
          go_ret
          exact ⟨ret_bool HE.out.symm, rfl⟩
        · have hn2 : (s.toList == [110, 111, 116]) = false := by rw [toList_of]; simp [hnot]
          have HNA : Hid (isName s.data.toList = (s.data.toList.drop 1).all wordB) := by show _ = _; rw [HNH.out, hsm]; simp [h30, hnot]
          clear hsm hnot
          go_enter Tryz.func10, Tryz.ntmps10
          go_wp2_with fail
          refine (small_any s[0] _).mono ?_
          rintro e w1 ⟨rfl, rfl⟩
          rw [HSM.out]
          go_wp2
          go_loop [3] (fun i => ∃ k : Nat, 1 ≤ k ∧ k ≤ s.size ∧ i = .int .i64 k ∧ Hid (((s.data.toList.drop 1).take (k - 1)).all wordB = true)) (fun i => s.size - (intOf i).toNat)
          case atStart => exact ⟨1, by omega, by omega, rfl, by simp [Hid]⟩
          case round =>
            obtain ⟨k, hk1, hk2, rfl, HA⟩ := hrel
            by_cases hlt : k < s.size
            · have hst := name_step s.data.toList k s[k] hk1 (name_get s k hlt)
              cases hw : wordB s[k] with
              | true =>
                have HA2 : Hid (((s.data.toList.drop 1).take (k + 1 - 1)).all wordB = true) := by
                  show _ = _
                  rw [Nat.add_sub_cancel, hst, List.all_append, HA.out]; simp [hw]
                have HW : Hid (wordB s[k] = true) := hw
                clear hw hst
                go_wp2_with fail
                refine (word_any s[k] _).mono ?_
                rintro e w2 ⟨rfl, rfl⟩
                rw [HW.out]
                go_wp2
                go_round
                case rel => exact ⟨k + 1, by omega, by omega, by go_num, HA2⟩
                case measure => simp [intOf]; omega
              | false =>
                have HE : Hid (isName s.data.toList = false) := by
                  show _ = _
                  rw [HNA.out, ← List.take_append_drop k (s.data.toList.drop 1), hst]
                  simp [hw]
                have HW : Hid (wordB s[k] = false) := hw
                clear hw hst
                go_wp2_with fail
                refine (word_any s[k] _).mono ?_
                rintro e w2 ⟨rfl, rfl⟩
                rw [HW.out]
                go_wp2
                go_ret
                exact ⟨ret_bool HE.out.symm, rfl⟩
            · have HE : Hid (isName s.data.toList = true) := by
                show _ = _
                have := HA.out
                rw [List.take_of_length_le (by simp; omega)] at this
                rw [HNA.out, this]
              go_wp2
              go_ret
              exact ⟨ret_bool HE.out.symm, rfl⟩
    · have HE : Hid (isName s.data.toList = false) := by show _ = _; rw [HNH.out]; simp [h30]
      have h30' : 30 < s.size := by omega
      clear h30
      go_enter Tryz.func10, Tryz.ntmps10
      go_wp2
      go_ret
      exact ⟨ret_bool HE.out.symm, rfl⟩
end Go.Proofs.YtdfbjnachakkhaaGreatDoor
