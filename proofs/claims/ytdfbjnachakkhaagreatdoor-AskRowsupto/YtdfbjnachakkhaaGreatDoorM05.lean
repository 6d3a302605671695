import Derived.Test.YtdfbjnachakkhaaGreatDoorM01
namespace Go.Hands
open Go.RowKit
set_option linter.unusedVariables false
/-- nothing that lay has turned but what Z tells of -/
structure FrT (Z : Nat → Obj → Prop) (A C : World) : Prop where
  os : C.os = A.os
  tape : C.tape = A.tape
  output : C.output = A.output
  size : A.heap.size ≤ C.heap.size
  block : ∀ k o, A.heap[k]? = some o → ¬ Z k o → C.heap[k]? = some o
theorem FrT.refl (Z : Nat → Obj → Prop) (A : World) : FrT Z A A := ⟨rfl, rfl, rfl, Nat.le_refl _, fun _ _ h _ => h⟩
theorem FrT.trans {Z : Nat → Obj → Prop} {A B C : World} (h : FrT Z A B) (k : FrT Z B C) : FrT Z A C :=
  ⟨k.os.trans h.os, k.tape.trans h.tape, k.output.trans h.output, Nat.le_trans h.size k.size, fun j o hj hz => k.block j o (h.block j o hj hz) hz⟩
theorem FrT.mono {Z Z' : Nat → Obj → Prop} {A B : World} (h : FrT Z A B) (hz : ∀ k o, A.heap[k]? = some o → Z k o → Z' k o) : FrT Z' A B :=
  ⟨h.os, h.tape, h.output, h.size, fun j o hj hn => h.block j o hj (fun e => hn (hz j o hj e))⟩
theorem lt_of_heap {A : World} {k : Nat} {o : Obj} (h : A.heap[k]? = some o) : k < A.heap.size := (Array.getElem?_eq_some_iff.1 h).1
theorem FrT.grown {Z : Nat → Obj → Prop} {A B : World} {row : Option Nat} (h : A.grownBy B row) (hr : ∀ k o, row = some k → A.heap[k]? = some o → Z k o) : FrT Z A B :=
  ⟨h.os, h.tape, h.output, h.size, fun k o hk hz => (h.block k (lt_of_heap hk) (fun e => hz (hr k o e.symm hk))).trans hk⟩
theorem FrT.none {Z : Nat → Obj → Prop} {A B : World} (h : A.grownBy B none) : FrT Z A B := FrT.grown h (fun _ _ e => by cases e)
theorem FrT.alloc (Z : Nat → Obj → Prop) (A : World) (o : Obj) : FrT Z A (A.alloc o) :=
  ⟨rfl, rfl, rfl, by simp, fun k o' hk _ => (Below.heap_alloc _ _ _ (lt_of_heap hk)).trans hk⟩
theorem FrT.put {Z : Nat → Obj → Prop} (A : World) (l : Nat) (o' : Obj) (hz : ∀ o, A.heap[l]? = some o → Z l o) : FrT Z A (A.putObj l o') :=
  ⟨rfl, rfl, rfl, by simp, fun k o hk hn => (World.putObj_heap_other (fun e => by subst e; exact hn (hz o hk))).trans hk⟩
theorem FrT.draw (Z : Nat → Obj → Prop) (A : World) : FrT Z A A.drew := ⟨rfl, rfl, rfl, Nat.le_refl _, fun _ _ h _ => h⟩
theorem FrT.cell {Z : Nat → Obj → Prop} {A B : World} (h : FrT Z A B) {b j : Nat} {v : Value} (hc : A.cell? ⟨b, j, Option.none⟩ = some v) (hz : ∀ o, A.heap[b]? = some o → ¬ Z b o) : B.cell? ⟨b, j, Option.none⟩ = some v := by
  have hlt := World.block_lt_of_cell? A ⟨b, j, Option.none⟩ hc
  have hb : A.heap[b]? = some A.heap[b] := Array.getElem?_eq_getElem hlt
  have hb2 := h.block b _ hb (hz _ hb)
  unfold World.cell? at hc ⊢
  simp only at hc ⊢
  rw [hb2]; rw [hb] at hc; exact hc
/-- a loop's record, or its block of deferred calls -/
def isRec : Obj → Prop
  | .loop _ => True
  | .deferred _ => True
  | _ => False
/-- what a function that is ranged over turns by itself: blocks of its own, of a few kinds, that it has made, and those of Own -/
def Zi (Kd : Obj → Prop) (Own : Nat → Obj → Prop) (B : Nat) (k : Nat) (o : Obj) : Prop := Own k o ∨ (B ≤ k ∧ (isRec o ∨ Kd o))
section
variable {α : Type} {n : Nat} {P : Program}
/-- **a function value that hands out a list of things** to one who never stops it -/
def HandsZ (n : Nat) (P : Program) (g : Nat) (lb : Array Value) (encs : α → Array Value) (Fact : α → World → Prop) (Kd : Obj → Prop) (Own : Nat → Obj → Prop) (Zc : Nat → Obj → Prop) (xs : List α) (w : World) : Prop :=
  ∀ (l : Nat) (J : Nat → World → Prop) (W : World), FrT Zc w W → (∀ i A C, J i A → FrT (Zi Kd Own W.heap.size) A C → J i C) →
    (∀ i x W1, xs[i]? = some x → J i W1 → Fact x W1 → YieldAt Fence.wide (n - 1) P l (encs x) W1 fun e W' => e = .returned (.bool true) ∧ J (i + 1) W' ∧ FrT Zc W1 W') →
    J 0 W →
    CallsIn Fence.wide n P g (#[.func (.yield l) #[] #[]] ++ lb) W fun e W' => (∃ v, e = .returned v) ∧ J xs.length W' ∧ FrT (fun k o => Zi Kd Own W.heap.size k o ∨ Zc k o) W W'
set_option maxHeartbeats 1000000 in
/-- one round -/
theorem yieldZ {encs : α → Array Value} {Fact : α → World → Prop} {Kd : Obj → Prop} {Own : Nat → Obj → Prop} {Zc : Nat → Obj → Prop} {B L i : Nat} {x : α} {r : Loop} {W : World} (hL : W.heap[L]? = some (.loop r)) (hst : r.state = .ready) (hpe : r.pending = none) (hs : (encs x).size = r.params.size) (hBL : B ≤ L)
    (hZr : ∀ k o, Zc k o → ¬ isRec o) (I : Nat → World → Prop) (hI : ∀ i A C, I i A → FrT (Zi Kd Own B) A C → I i C) (hF : ∀ x A C, Fact x A → FrT (fun _ o => isRec o) A C → Fact x C)
    (Ax : α → Act → World → Prop) (hAx : ∀ x a' A C, Ax x a' A → FrT (fun _ o => isRec o) A C → Ax x a' C)
    (hassign : ∀ (K : Act → World → Prop), (∀ a' W', FrT (fun _ _ => False) W W' → Ax x a' W' → K a' W') → r.assign.wpIn (Fence.wide.inRound L) n P (Exit.then K (fun _ _ _ => False)) { tmps := (r.params.zip (encs x)).foldl (fun t (p, v) => t.setIfInBounds p v) r.tmps, defers := [] } W)
    (hbody : ∀ (a' : Act) (W : World), I i W → Fact x W → Ax x a' W → (∃ r0, W.heap[L]? = some (.loop r0)) → r.body.wpIn (Fence.wide.inRound L) n P (fun e _ W' => e = .normal ∧ I (i + 1) W' ∧ FrT Zc W W') a' W)
    (hi : I i W) (hf : Fact x W) :
    YieldAt Fence.wide n P L (encs x) W fun e W' => e = .returned (.bool true) ∧ I (i + 1) W' ∧ FrT Zc W W' ∧ W'.heap[L]? = some (.loop r) := by
  have hy := run_yield (P := P) (args := encs x) hL hs
  refine ⟨r.fn, _, r.assign, r.body, hy, roundIn_of_wpIn trivial (hassign _ ?_)⟩
  intro a' Wa hra hax
  have hLa : Wa.heap[L]? = some (.loop r) := hra.block L _ hL (fun h => h)
  refine ⟨_, run_beginRound hLa hst, ?_⟩
  have hput : FrT (fun k o => k = L ∧ isRec o) Wa (Wa.putObj L (.loop { r with state := .busy })) := FrT.put Wa L _ (fun o ho => ⟨rfl, by rw [hLa] at ho; cases ho; trivial⟩)
  have hLb : (Wa.putObj L (.loop { r with state := .busy })).heap[L]? = some (.loop { r with state := .busy }) := World.putObj_heap_same (lt_of_heap hLa)
  have hia : I i (Wa.putObj L (.loop { r with state := .busy })) := hI _ _ _ (hI _ _ _ hi (hra.mono (fun _ _ _ h => h.elim))) (hput.mono (fun k o _ h => .inr ⟨by rw [h.1]; exact hBL, .inl h.2⟩))
  have hfa : Fact x (Wa.putObj L (.loop { r with state := .busy })) := hF _ _ _ (hF _ _ _ hf (hra.mono (fun _ _ _ h => h.elim))) (hput.mono (fun k o _ h => h.2))
  refine wpIn_mono (hbody a' _ hia hfa (hAx _ _ _ _ hax (hput.mono (fun k o _ h => h.2))) ⟨_, hLb⟩) ?_
  rintro e a3 W3 ⟨rfl, hi3, hr3⟩
  have hL3 : W3.heap[L]? = some (.loop { r with state := .busy }) := hr3.block L _ hLb (fun h => hZr _ _ h trivial)
  refine ⟨_, _, run_endRound (P := P) none hL3, rfl, ?_, ?_, ?_⟩
  · refine hI _ _ _ hi3 (FrT.put W3 L _ (fun o ho => .inr ⟨hBL, .inl ?_⟩))
    rw [hL3] at ho; cases ho; trivial
  · refine ⟨hr3.os.trans hra.os, hr3.tape.trans hra.tape, hr3.output.trans hra.output, Nat.le_trans hra.size (by have := hr3.size; simp at this ⊢; omega), fun k o hk hz => ?_⟩
    by_cases e : k = L
    · subst e
      rw [hL] at hk
      cases hk
      rw [World.putObj_heap_same (lt_of_heap hL3)]
      congr 2
      cases r
      simp at hst hpe
      subst hst hpe
      rfl
    · have h1 : (Wa.putObj L (.loop { r with state := .busy })).heap[k]? = some o := (World.putObj_heap_other e).trans (hra.block k o hk (fun h => h))
      exact (World.putObj_heap_other e).trans (hr3.block k o h1 hz)
  · rw [World.putObj_heap_same (lt_of_heap hL3)]
    congr 2
    cases r
    simp at hst hpe
    subst hst hpe
    rfl
set_option maxHeartbeats 1000000 in
/-- **the statement**, at a loop that stands in no other one's round -/
theorem rangeZ {g : Operand} {ps : Array Tmp} {assign body : Code} {Q : Exit → Act → World → Prop} {a : Act} {w w0 : World}
    (h1 : 1 ≤ n) {gf : Nat} {lb : Array Value} (hg : a.eval g = .func (.func gf) #[] lb) (eg : ∀ args w, (callFunc gf args).run P w = .ok (.enter gf args) w)
    {encs : α → Array Value} {Fact : α → World → Prop} {Kd : Obj → Prop} {Own : Nat → Obj → Prop} {Zc : Nat → Obj → Prop} {xs : List α} (hseq : HandsZ (n - 1) P gf lb encs Fact Kd Own Zc xs w0) (hw : FrT Zc w0 w) (hOwn : ∀ k o, Own k o → k < w.heap.size)
    (hZr : ∀ k o, Zc k o → ¬ isRec o) (hps : ∀ x, (encs x).size = ps.size)
    (I : Nat → World → Prop) (hI : ∀ i A C, I i A → FrT (Zi Kd Own w.heap.size) A C → I i C) (h0 : I 0 w) (hF : ∀ x A C, Fact x A → FrT (fun _ o => isRec o) A C → Fact x C)
    (Ax : α → Act → World → Prop) (hAx : ∀ x a' A C, Ax x a' A → FrT (fun _ o => isRec o) A C → Ax x a' C)
    (hassign : ∀ (l i : Nat) (x : α) (W : World) (K : Act → World → Prop), xs[i]? = some x → I i W → Fact x W → (∀ a' W', FrT (fun _ _ => False) W W' → Ax x a' W' → K a' W') →
      assign.wpIn (Fence.wide.inRound l) (n - 1 - 1) P (Exit.then K (fun _ _ _ => False)) { tmps := (ps.zip (encs x)).foldl (fun t (p, v) => t.setIfInBounds p v) a.tmps, defers := [] } W)
    (hbody : ∀ (l i : Nat) (x : α) (a' : Act) (W : World), xs[i]? = some x → I i W → Fact x W → Ax x a' W → (∃ r0, W.heap[l]? = some (.loop r0)) → body.wpIn (Fence.wide.inRound l) (n - 1 - 1) P (fun e _ W' => e = .normal ∧ I (i + 1) W' ∧ FrT Zc W W') a' W)
    (hdone : ∀ (D : Nat) (W : World), w.heap.size ≤ D → I xs.length W → W.heap[D]? = some (.deferred (some [])) → FrT (fun k o => Zi Kd Own w.heap.size k o ∨ Zc k o) w W → Q .normal { a with defers := { target := .collected D, args := #[] } :: a.defers } W) :
    (Code.rangeFunc g ps assign body).wpIn Fence.wide n P Q a w := by
  refine wpIn_rangeFunc fun fn hfn => ?_
  let r : Loop := { state := .ready, pending := none, fn := fn, tmps := a.tmps, params := ps, assign := assign, body := body, defers := w.heap.size }
  obtain ⟨V, hV⟩ : ∃ V, (w.alloc (.deferred (some []))).alloc (.loop r) = V := ⟨_, rfl⟩
  have hsz : V.heap.size = w.heap.size + 2 := by rw [← hV]; simp
  have hL : V.heap[w.heap.size + 1]? = some (.loop r) := by
    rw [← hV]
    have := World.alloc_heap_new (w.alloc (.deferred (some []))) (.loop r)
    rwa [World.size_alloc] at this
  have hD : V.heap[w.heap.size]? = some (.deferred (some [])) := by
    rw [← hV]; exact (Below.heap_alloc _ _ _ (by simp)).trans (World.alloc_heap_new w _)
  have hR : ∀ Z, FrT Z w V := fun Z => by rw [← hV]; exact (FrT.alloc Z w _).trans (FrT.alloc Z _ _)
  refine ⟨w.heap.size + 1, [{ target := .collected w.heap.size, args := #[] }], V, { target := .fn (.func gf) lb, args := #[.func (.yield (w.heap.size + 1)) #[] #[]] }, V, gf, #[.func (.yield (w.heap.size + 1)) #[] #[]] ++ lb, V,
    ?_, ?_, ?_, ?_, fun _ => h1, ?_⟩
  · rw [← hV]; exact run_enterLoop_outer _ _ _ _ _
  · simp only [resolve, hg]; simp [go_sem]
  · intro f' hf'; trivial
  · simp [invoke, go_sem, eg]
  · clear hV
    refine (hseq (w.heap.size + 1) (fun i W => I i W ∧ W.heap[w.heap.size + 1]? = some (.loop r) ∧ W.heap[w.heap.size]? = some (.deferred (some []))) V (hw.trans (hR _)) ?_ ?_ ⟨hI _ _ _ h0 (hR _), hL, hD⟩).mono ?_
    · rintro i A C ⟨a1, a2, a3⟩ hf
      refine ⟨hI _ _ _ a1 (hf.mono (fun k o _ h => h.imp id (fun h => ⟨by omega, h.2⟩))), hf.block _ _ a2 ?_, hf.block _ _ a3 ?_⟩
      · rintro (h | h)
        · have := hOwn _ _ h; omega
        · omega
      · rintro (h | h)
        · have := hOwn _ _ h; omega
        · omega
    · rintro i x W hx ⟨hi, hl, hd⟩ hf
      obtain ⟨fn', tm', as', bo', hy, hR⟩ := yieldZ (n := n - 1 - 1) (B := w.heap.size) hl rfl rfl (by exact hps x) (by omega) hZr I hI hF Ax hAx (fun K hK => hassign _ i x W K hx hi hf hK) (fun a' W2 b1 b2 b3 b4 => hbody _ i x a' W2 hx b1 b2 b3 b4) hi hf
      refine ⟨fn', tm', as', bo', hy, hR.mono ?_⟩
      rintro e W2 ⟨rfl, b1, b2, b3⟩
      exact ⟨rfl, ⟨b1, b3, b2.block _ _ hd (fun h => hZr _ _ h trivial)⟩, b2⟩
    · rintro e W2 ⟨⟨v, rfl⟩, ⟨hi, hl, hd⟩, hr⟩
      refine ⟨none, _, run_endLoop (P := P) hl (by simp [r]), hdone _ _ (Nat.le_refl _) (hI _ _ _ hi (FrT.put W2 _ _ (fun o ho => .inr ⟨by omega, .inl ?_⟩))) ((World.putObj_heap_other (by omega)).trans hd) ?_⟩
      · rw [hl] at ho; cases ho; trivial
      · refine ((hR _).trans (hr.mono (fun k o _ h => h.imp (fun h => h.imp id (fun h => ⟨by omega, h.2⟩)) id))).trans (FrT.put W2 _ _ (fun o ho => .inl (.inr ⟨by omega, .inl ?_⟩)))
        rw [hl] at ho; cases ho; trivial
set_option maxHeartbeats 1000000 in
/-- **the statement**, in another one's round -/
theorem rangeZ_in {g : Operand} {ps : Array Tmp} {assign body : Code} {Q : Exit → Act → World → Prop} {a : Act} {w w0 : World} {l0 : Nat} {r0 : Loop} (hr0 : w.heap[l0]? = some (.loop r0))
    (h1 : 1 ≤ n) {gf : Nat} {lb : Array Value} (hg : a.eval g = .func (.func gf) #[] lb) (eg : ∀ args w, (callFunc gf args).run P w = .ok (.enter gf args) w)
    {encs : α → Array Value} {Fact : α → World → Prop} {Kd : Obj → Prop} {Own : Nat → Obj → Prop} {Zc : Nat → Obj → Prop} {xs : List α} (hseq : HandsZ (n - 1) P gf lb encs Fact Kd Own Zc xs w0) (hw : FrT Zc w0 w) (hOwn : ∀ k o, Own k o → k < w.heap.size)
    (hZr : ∀ k o, Zc k o → ¬ isRec o) (hps : ∀ x, (encs x).size = ps.size)
    (I : Nat → World → Prop) (hI : ∀ i A C, I i A → FrT (Zi Kd Own w.heap.size) A C → I i C) (h0 : I 0 w) (hF : ∀ x A C, Fact x A → FrT (fun _ o => isRec o) A C → Fact x C)
    (Ax : α → Act → World → Prop) (hAx : ∀ x a' A C, Ax x a' A → FrT (fun _ o => isRec o) A C → Ax x a' C)
    (hassign : ∀ (l i : Nat) (x : α) (W : World) (K : Act → World → Prop), xs[i]? = some x → I i W → Fact x W → (∀ a' W', FrT (fun _ _ => False) W W' → Ax x a' W' → K a' W') →
      assign.wpIn (Fence.wide.inRound l) (n - 1 - 1) P (Exit.then K (fun _ _ _ => False)) { tmps := (ps.zip (encs x)).foldl (fun t (p, v) => t.setIfInBounds p v) a.tmps, defers := [] } W)
    (hbody : ∀ (l i : Nat) (x : α) (a' : Act) (W : World), xs[i]? = some x → I i W → Fact x W → Ax x a' W → (∃ r0, W.heap[l]? = some (.loop r0)) → body.wpIn (Fence.wide.inRound l) (n - 1 - 1) P (fun e _ W' => e = .normal ∧ I (i + 1) W' ∧ FrT Zc W W') a' W)
    (hdone : ∀ (W : World), I xs.length W → FrT (fun k o => Zi Kd Own w.heap.size k o ∨ Zc k o) w W → Q .normal a W) :
    (Code.rangeFunc g ps assign body).wpIn (Fence.wide.inRound l0) n P Q a w := by
  refine wpIn_rangeFunc fun fn hfn => ?_
  let r : Loop := { state := .ready, pending := none, fn := fn, tmps := a.tmps, params := ps, assign := assign, body := body, defers := r0.defers }
  obtain ⟨V, hV⟩ : ∃ V, w.alloc (.loop r) = V := ⟨_, rfl⟩
  have hsz : V.heap.size = w.heap.size + 1 := by rw [← hV]; simp
  have hL : V.heap[w.heap.size]? = some (.loop r) := by
    rw [← hV]; exact World.alloc_heap_new w _
  have hR : ∀ Z, FrT Z w V := fun Z => by rw [← hV]; exact FrT.alloc Z w _
  refine ⟨w.heap.size, [], V, { target := .fn (.func gf) lb, args := #[.func (.yield w.heap.size) #[] #[]] }, V, gf, #[.func (.yield w.heap.size) #[] #[]] ++ lb, V,
    ?_, ?_, ?_, ?_, fun _ => h1, ?_⟩
  · rw [← hV]; exact run_enterLoop_inner hr0 _ _ _ _ _
  · simp only [resolve, hg]; simp [go_sem]
  · intro f' hf'; trivial
  · simp [invoke, go_sem, eg]
  · clear hV
    refine CallsIn.inRound l0 ((hseq w.heap.size (fun i W => I i W ∧ W.heap[w.heap.size]? = some (.loop r)) V (hw.trans (hR _)) ?_ ?_ ⟨hI _ _ _ h0 (hR _), hL⟩).mono ?_)
    · rintro i A C ⟨a1, a2⟩ hf
      refine ⟨hI _ _ _ a1 (hf.mono (fun k o _ h => h.imp id (fun h => ⟨by omega, h.2⟩))), hf.block _ _ a2 ?_⟩
      rintro (h | h)
      · have := hOwn _ _ h; omega
      · omega
    · rintro i x W hx ⟨hi, hl⟩ hf
      obtain ⟨fn', tm', as', bo', hy, hR⟩ := yieldZ (n := n - 1 - 1) (B := w.heap.size) hl rfl rfl (by exact hps x) (by omega) hZr I hI hF Ax hAx (fun K hK => hassign _ i x W K hx hi hf hK) (fun a' W2 b1 b2 b3 b4 => hbody _ i x a' W2 hx b1 b2 b3 b4) hi hf
      refine ⟨fn', tm', as', bo', hy, hR.mono ?_⟩
      rintro e W2 ⟨rfl, b1, b2, b3⟩
      exact ⟨rfl, ⟨b1, b3⟩, b2⟩
    · rintro e W2 ⟨⟨v, rfl⟩, ⟨hi, hl⟩, hr⟩
      refine ⟨none, _, run_endLoop (P := P) hl (by simp [r]), ?_⟩
      refine hdone _ (hI _ _ _ hi (FrT.put W2 _ _ (fun o ho => .inr ⟨by omega, .inl ?_⟩))) ?_
      · rw [hl] at ho; cases ho; trivial
      · refine ((hR _).trans (hr.mono (fun k o _ h => h.imp (fun h => h.imp id (fun h => ⟨by omega, h.2⟩)) id))).trans (FrT.put W2 _ _ (fun o ho => .inl (.inr ⟨by omega, .inl ?_⟩)))
        rw [hl] at ho; cases ho; trivial
end
end Go.Hands
