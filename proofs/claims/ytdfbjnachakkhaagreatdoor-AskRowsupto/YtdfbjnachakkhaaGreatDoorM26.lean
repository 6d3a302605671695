import Derived.Test.YtdfbjnachakkhaaGreatDoorM25
import Derived.Test.YtdfbjnachakkhaaGreatDoorM18
import Derived.Test.YtdfbjnachakkhaaGreatDoorM05
import Derived.Test.YtdfbjnachakkhaaGreatDoorM24
namespace Go.Proofs.YtdfbjnachakkhaaGreatDoor
open Go.ChangeShapes Go.WideShapes Go.ChangeAt Go.RowKit Go.Hands Go.WideMaps Go.Maps
set_option linter.unusedVariables false
set_option maxRecDepth 100000
set_option maxHeartbeats 1000000 in
theorem open_any (n : Nat) (hn : n ≤ 8) (w : World) :
    Calls Tryz.prog 70 #[.int .i64 (n : Nat)] w fun e w' => (∃ v, e = .returned v ∧ w'.ownsRow w.heap.size 3 1 v n (noneV n)) ∧ w'.heap[w.heap.size]? = some (.cells #[.int .i64 (-1)] 3 (0, 0)) ∧ w.grownBy w' none := by
  obtain ⟨wA, HWA⟩ : ∃ wA, Hid (wA = w.alloc (.cells #[.int .i64 (-1)] 3)) := ⟨_, rfl⟩
  have hwA := HWA.out.symm
  have HGA : Hid (w.grownBy wA none) := by rw [HWA.out]; exact fr_alloc _ _ _
  have p0 : wA.heap[w.heap.size]? = some (.cells #[.int .i64 (-1)] 3 (0, 0)) := by rw [HWA.out]; exact heap_alloc_new _ _
  have HP0 := hide p0
  have HR := hide (repeat_any n w.heap.size hn wA (cell_of p0 0 _ rfl))
  clear p0
  go_enter Tryz.func70, Tryz.ntmps70
  go_wp2_with fail
  refine HR.out.mono ?_
  rintro _ w1 ⟨⟨v, rfl, hv⟩, hg⟩
  have HV := hide hv
  have HG := hide hg
  clear hv hg
  go_wp2
  go_ret
  exact ⟨⟨v, rfl, own_lower HV.out HGA.out.size⟩, (HG.out.block _ (lt_of_heap HP0.out) (by simp)).trans HP0.out, fr_both HGA.out HG.out⟩
theorem infoMarks : (Tryz.prog.info? 264).map (fun i => (i.zero, i.size, i.bytes)) = some (some (.map none), 1, 8) := by kernel_rfl
theorem hold_wayV {F P : Option Addr → Nat → Nat → World → Prop} {G : Prop} (h1 : (∀ a c m w, F a c m w → P a c m w) → G) (h2 : ∀ a c m w, F a c m w → P a c m w) : G := h1 h2
theorem noneV_one (n : Nat) : ∀ x ∈ noneV n, x.oneCell' = true := by
  intro x hx
  obtain ⟨_, rfl⟩ := List.mem_replicate.1 hx
  rfl
set_option maxHeartbeats 2000000 in
theorem psearch_any (B P S R n : Nat) (parts given stops vt v0 : Value) (w : World) (hP : Planned B P S R n parts given stops vt w) (h0 : w.ownsRow B 3 1 v0 n (noneV n)) (hn : n ≤ 8) :
    Calls Tryz.prog 69 #[.pointer (some ⟨P, 0, none⟩), v0, .func (.func 35) #[] #[]] w fun e w' => ∃ Sx wv mk, e = .returned (.pointer (some ⟨Sx, 0, none⟩)) ∧ w'.heap[Sx]? = some (.cells (searchC P wv false mk) 159 (0, 0)) ∧ w'.ownsRow w.heap.size 3 1 wv n (noneV n) ∧ w.heap.size ≤ Sx ∧ (∀ q, wv.ownBlock = some q → q ≠ Sx) ∧ w.grownBy w' none := by
  obtain ⟨i0, hi, hz0, hz1, hz2⟩ := info_parts infoMarks
  obtain ⟨gp, cp, hpe, _, hcp⟩ := hP.prt.form (by omega)
  have k0 : w.cell? ⟨P, 2, none⟩ = some (.slice (some ⟨gp, 0, none⟩) 1 cp) := by rw [← hpe]; exact cell_of hP.blk 2 _ rfl
  have HO := hide h0
  have HMM : Hid (∀ W : World, ∃ wz, (Instr.makeSlice 157 (.int .i64 1) (.int .i64 1)).run Tryz.prog W = .ok (.slice (some ⟨W.heap.size, 0, none⟩) 1 1) wz ∧ W.grownBy wz none) := by
    intro W
    obtain ⟨wz, h1, _, h3⟩ := run_make_full W W.heap.size 157 264 i0 (.map none) 1 (P := Tryz.prog) Tryz.underlying157 hi hz0 hz1 .i64 .i64 1 (by rw [hz2]; omega) (by unfold maxLen; omega) (Nat.le_refl _)
    exact ⟨wz, h1, h3⟩
  obtain ⟨wm, hmk, hgm⟩ := HMM.out w.drew
  have HGM : Hid (w.grownBy wm none) := fr_both (fr_draws w 1 none) hgm
  have kM : wm.cell? ⟨P, 2, none⟩ = some (.slice (some ⟨gp, 0, none⟩) 1 cp) := (FrS.none (S := fun _ => False) HGM.out).cell k0 (fun h => h)
  have hmk' : (Instr.makeSlice 157 (.int .i64 1) (.int .i64 1)).run Tryz.prog w.drew = .ok (.slice (some ⟨w.heap.size, 0, none⟩) 1 1) wm := hmk
  have HC1 : Hid (∀ W, (∃ k, W = w.drewN k) → Calls Tryz.prog 106 #[v0] W fun e w' => ∃ xa xc wz sz, e = .returned (.slice xa n xc) ∧ Hid (wz.ownsRow w.heap.size 3 1 (.slice xa n xc) n (noneV n) ∧ w.grownBy wz none) ∧ (Instr.makeSlice 157 (.int .i64 1) (.int .i64 1)).run Tryz.prog w' = .ok (.slice (some ⟨sz, 0, none⟩) 1 1) wz ∧ w'.cell? ⟨P, 2, none⟩ = some (.slice (some ⟨gp, 0, none⟩) 1 cp) ∧ wz.cell? ⟨P, 2, none⟩ = some (.slice (some ⟨gp, 0, none⟩) 1 cp)) := by
    rintro W ⟨k, rfl⟩
    have hd := fr_draws w k none
    refine (cloneWay B n v0 (noneV n) (w.drewN k) (HO.out.kept hd (by cases v0.ownBlock <;> simp)) (noneV_one n) (by omega)).mono ?_
    rintro e w' ⟨⟨v, rfl, hv⟩, hg⟩
    obtain ⟨wz, h1, h2⟩ := HMM.out w'
    have hg1 := fr_both hd hg
    have hg2 := fr_both hg1 h2
    obtain ⟨xa, xc, rfl⟩ := own_form hv
    exact ⟨xa, xc, wz, _, rfl, ⟨hv.kept h2 (by cases (Value.slice xa n xc).ownBlock <;> simp), hg2⟩, h1, (FrS.none (S := fun _ => False) hg1).cell k0 (fun h => h), (FrS.none (S := fun _ => False) hg2).cell k0 (fun h => h)⟩
  have HC2 : Hid (Calls Tryz.prog 106 #[v0] wm fun e w' => ∃ xa xc, e = .returned (.slice xa n xc) ∧ Hid (w'.ownsRow w.heap.size 3 1 (.slice xa n xc) n (noneV n) ∧ w.grownBy w' none) ∧ w'.cell? ⟨P, 2, none⟩ = some (.slice (some ⟨gp, 0, none⟩) 1 cp)) := by
    refine (cloneWay B n v0 (noneV n) wm (HO.out.kept HGM.out (by cases v0.ownBlock <;> simp)) (noneV_one n) (by omega)).mono ?_
    rintro e w' ⟨⟨v, rfl, hv⟩, hg⟩
    have hg1 := fr_both HGM.out hg
    obtain ⟨xa, xc, rfl⟩ := own_form hv
    exact ⟨xa, xc, rfl, ⟨own_lower hv HGM.out.size, hg1⟩, (FrS.none (S := fun _ => False) hg1).cell k0 (fun h => h)⟩
  clear hP h0 hmk hgm
  go_enter Tryz.func69, Tryz.ntmps69
  go_wp2_with fail
  apply hold_wayV (F := fun xa xc mk w2 => w2.ownsRow w.heap.size 3 1 (.slice xa n xc) n (noneV n) ∧ w.grownBy w2 none)
  · intro HK
    go_region_held3 (fun w' => w'.cell? ⟨P, 2, none⟩ = some (.slice (some ⟨gp, 0, none⟩) 1 cp)) (go_keep)
      (first
        | (go_at_call 106; refine (HC1.out _ ⟨_, rfl⟩).mono ?_; rintro e w1 ⟨xa, xc, wz, sz, rfl, HF, hz, k1, k2⟩)
        | (go_at_call 106; refine HC2.out.mono ?_; rintro e w1 ⟨xa, xc, rfl, HF, k1⟩))
    · exact HK xa xc sz wz HF.out
    · exact HK xa xc w.heap.size w1 HF.out
  · rintro xa xc mk w2 ⟨hv, hg⟩
    have HV := hide hv
    have HG := hide hg
    clear hv hg
    go_wp2
    go_ret
    refine ⟨w2.heap.size, .slice xa n xc, _, rfl, heap_alloc_new _ _, HV.out.kept (fr_alloc _ _ none) (by cases (Value.slice xa n xc).ownBlock <;> simp), HG.out.size, fun q hq => ?_, fr_both HG.out (fr_alloc _ _ none)⟩
    have := (own_old HV.out hq).2
    omega
structure WaysP (b P : Nat) (w : World) : Prop where
  c1 : w.heap[b]? = some (.cells #[.pointer (some ⟨P, 0, none⟩)] 91 (0, 0))
  c2 : w.heap[b + 1]? = some (.cells #[.func (.func 35) #[] #[]] 147 (0, 0))
set_option maxHeartbeats 1000000 in
theorem pways_any (P : Nat) (w : World) :
    Calls Tryz.prog 34 #[.pointer (some ⟨P, 0, none⟩), .func (.func 35) #[] #[]] w fun e w' => e = .returned (.func (.func 68) #[] #[.pointer (some ⟨w.heap.size, 0, none⟩), .pointer (some ⟨w.heap.size + 1, 0, none⟩)]) ∧ WaysP w.heap.size P w' ∧ w.grownBy w' none := by
  go_enter Tryz.func34, Tryz.ntmps34
  go_wp2
  go_ret
  exact ⟨rfl, ⟨by rw [Below.heap_alloc _ _ _ (by simp)]; exact heap_alloc_new _ _, by
    have := heap_alloc_new (w.alloc (.cells #[.pointer (some ⟨P, 0, none⟩)] 91)) (.cells #[.func (.func 35) #[] #[]] 147)
    rw [World.size_alloc] at this; exact this⟩, fr_both (fr_alloc _ _ _) (fr_alloc _ _ _)⟩
end Go.Proofs.YtdfbjnachakkhaaGreatDoor

namespace Go.Hands
open Go.RowKit
set_option linter.unusedVariables false
section
variable {α β : Type} {n : Nat} {P : Program}
/-- **a function value that hands out a list of things**, each as a value that is known by then -/
def HandsV (n : Nat) (P : Program) (g : Nat) (lb : Array Value) (encs : α → β → Array Value) (Fact : α → β → World → Prop) (Kd : Obj → Prop) (Own : Nat → Obj → Prop) (Zc : Nat → Obj → Prop) (xs : List α) (w : World) : Prop :=
  ∀ (l : Nat) (J : Nat → World → Prop) (W : World), FrT Zc w W → (∀ i A C, J i A → FrT (Zi Kd Own W.heap.size) A C → J i C) →
    (∀ i x y W1, xs[i]? = some x → J i W1 → Fact x y W1 → YieldAt Fence.wide (n - 1) P l (encs x y) W1 fun e W' => e = .returned (.bool true) ∧ J (i + 1) W' ∧ FrT Zc W1 W') →
    J 0 W →
    CallsIn Fence.wide n P g (#[.func (.yield l) #[] #[]] ++ lb) W fun e W' => (∃ v, e = .returned v) ∧ J xs.length W' ∧ FrT (fun k o => Zi Kd Own W.heap.size k o ∨ Zc k o) W W'
set_option maxHeartbeats 1000000 in
/-- **the statement**, at a loop that stands in no other one's round -/
theorem rangeV {g : Operand} {ps : Array Tmp} {assign body : Code} {Q : Exit → Act → World → Prop} {a : Act} {w w0 : World}
    (h1 : 1 ≤ n) {gf : Nat} {lb : Array Value} (hg : a.eval g = .func (.func gf) #[] lb) (eg : ∀ args w, (callFunc gf args).run P w = .ok (.enter gf args) w)
    {encs : α → β → Array Value} {Fact : α → β → World → Prop} {Kd : Obj → Prop} {Own : Nat → Obj → Prop} {Zc : Nat → Obj → Prop} {xs : List α} (hseq : HandsV (n - 1) P gf lb encs Fact Kd Own Zc xs w0) (hw : FrT Zc w0 w) (hOwn : ∀ k o, Own k o → k < w.heap.size)
    (hZr : ∀ k o, Zc k o → ¬ isRec o) (hps : ∀ x y, (encs x y).size = ps.size)
    (I : Nat → World → Prop) (hI : ∀ i A C, I i A → FrT (Zi Kd Own w.heap.size) A C → I i C) (h0 : I 0 w) (hF : ∀ x y A C, Fact x y A → FrT (fun _ o => isRec o) A C → Fact x y C)
    (Ax : α → β → Act → World → Prop) (hAx : ∀ x y a' A C, Ax x y a' A → FrT (fun _ o => isRec o) A C → Ax x y a' C)
    (hassign : ∀ (l i : Nat) (x : α) (y : β) (W : World) (K : Act → World → Prop), xs[i]? = some x → I i W → Fact x y W → (∀ a' W', FrT (fun _ _ => False) W W' → Ax x y a' W' → K a' W') →
      assign.wpIn (Fence.wide.inRound l) (n - 1 - 1) P (Exit.then K (fun _ _ _ => False)) { tmps := (ps.zip (encs x y)).foldl (fun t (p, v) => t.setIfInBounds p v) a.tmps, defers := [] } W)
    (hbody : ∀ (l i : Nat) (x : α) (y : β) (a' : Act) (W : World), xs[i]? = some x → I i W → Fact x y W → Ax x y a' W → (∃ r0, W.heap[l]? = some (.loop r0)) → body.wpIn (Fence.wide.inRound l) (n - 1 - 1) P (fun e _ W' => e = .normal ∧ I (i + 1) W' ∧ FrT Zc W W') a' W)
    (hdone : ∀ (D : Nat) (W : World), w.heap.size ≤ D → I xs.length W → W.heap[D]? = some (.deferred (some [])) → FrT (fun k o => Zi Kd Own w.heap.size k o ∨ Zc k o) w W → Q .normal { a with defers := { target := .collected D, args := #[] } :: a.defers } W) :
    (Code.rangeFunc g ps assign body).wpIn Fence.wide n P Q a w := by
  refine wpIn_rangeFunc fun fn hfn => ?_
  let r : Loop := { state := .ready, pending := none, fn := fn, tmps := a.tmps, params := ps, assign := assign, body := body, defers := w.heap.size }
  obtain ⟨V, hV⟩ : ∃ V, (w.alloc (.deferred (some []))).alloc (.loop r) = V := ⟨_, rfl⟩
  have hsz : V.heap.size = w.heap.size + 2 := by rw [← hV]; simp
  have hL : V.heap[w.heap.size + 1]? = some (.loop r) := by
    rw [← hV]
    have := World.alloc_heap_new (w.alloc (.deferred (some []))) (.loop r)
    rwa [World.size_alloc] at this
  have hD : V.heap[w.heap.size]? = some (.deferred (some [])) := by
    rw [← hV]; exact (Below.heap_alloc _ _ _ (by simp)).trans (World.alloc_heap_new w _)
  have hR : ∀ Z, FrT Z w V := fun Z => by rw [← hV]; exact (FrT.alloc Z w _).trans (FrT.alloc Z _ _)
  refine ⟨w.heap.size + 1, [{ target := .collected w.heap.size, args := #[] }], V, { target := .fn (.func gf) lb, args := #[.func (.yield (w.heap.size + 1)) #[] #[]] }, V, gf, #[.func (.yield (w.heap.size + 1)) #[] #[]] ++ lb, V,
    ?_, ?_, ?_, ?_, fun _ => h1, ?_⟩
  · rw [← hV]; exact run_enterLoop_outer _ _ _ _ _
  · simp only [resolve, hg]; simp [go_sem]
  · intro f' hf'; trivial
  · simp [invoke, go_sem, eg]
  · clear hV
    refine (hseq (w.heap.size + 1) (fun i W => I i W ∧ W.heap[w.heap.size + 1]? = some (.loop r) ∧ W.heap[w.heap.size]? = some (.deferred (some []))) V (hw.trans (hR _)) ?_ ?_ ⟨hI _ _ _ h0 (hR _), hL, hD⟩).mono ?_
    · rintro i A C ⟨a1, a2, a3⟩ hf
      refine ⟨hI _ _ _ a1 (hf.mono (fun k o _ h => h.imp id (fun h => ⟨by omega, h.2⟩))), hf.block _ _ a2 ?_, hf.block _ _ a3 ?_⟩
      · rintro (h | h)
        · have := hOwn _ _ h; omega
        · omega
      · rintro (h | h)
        · have := hOwn _ _ h; omega
        · omega
    · rintro i x y W hx ⟨hi, hl, hd⟩ hf
      obtain ⟨fn', tm', as', bo', hy, hR⟩ := yieldZ (α := α × β) (x := (x, y)) (encs := fun p => encs p.1 p.2) (Fact := fun p => Fact p.1 p.2) (n := n - 1 - 1) (B := w.heap.size) (Kd := Kd) (Own := Own) (Zc := Zc) hl rfl rfl (by exact hps x y) (by omega) hZr I hI (fun p => hF p.1 p.2) (fun p => Ax p.1 p.2) (fun p => hAx p.1 p.2) (fun K hK => hassign _ i x y W K hx hi hf hK) (fun a' W2 b1 b2 b3 b4 => hbody _ i x y a' W2 hx b1 b2 b3 b4) hi hf
      refine ⟨fn', tm', as', bo', hy, hR.mono ?_⟩
      rintro e W2 ⟨rfl, b1, b2, b3⟩
      exact ⟨rfl, ⟨b1, b3, b2.block _ _ hd (fun h => hZr _ _ h trivial)⟩, b2⟩
    · rintro e W2 ⟨⟨v, rfl⟩, ⟨hi, hl, hd⟩, hr⟩
      refine ⟨none, _, run_endLoop (P := P) hl (by simp [r]), hdone _ _ (Nat.le_refl _) (hI _ _ _ hi (FrT.put W2 _ _ (fun o ho => .inr ⟨by omega, .inl ?_⟩))) ((World.putObj_heap_other (by omega)).trans hd) ?_⟩
      · rw [hl] at ho; cases ho; trivial
      · refine ((hR _).trans (hr.mono (fun k o _ h => h.imp (fun h => h.imp id (fun h => ⟨by omega, h.2⟩)) id))).trans (FrT.put W2 _ _ (fun o ho => .inl (.inr ⟨by omega, .inl ?_⟩)))
        rw [hl] at ho; cases ho; trivial
end
end Go.Hands

namespace Go.Proofs.YtdfbjnachakkhaaGreatDoor
open Go.ChangeShapes Go.WideShapes Go.ChangeAt Go.RowKit Go.Hands Go.WideMaps Go.Maps
set_option linter.unusedVariables false
set_option maxRecDepth 100000
attribute [local go_sem] Oper.semAt_some
set_option maxHeartbeats 4000000 in
theorem pways_hands (N B base R ix im n b P S : Nat) (rows : List (List Nat)) (old : Nat) (vr vu vt parts given stops : Value) (w0 w : World) (h : RelX base R ix im n rows old rows.length w0 vr vu) (hn : n ≤ 8) (hrl : rows.length ≤ 1000000) (hbw : base ≤ w0.heap.size) (hw0 : FrT (fun _ o => isOut o) w0 w)
    (hC : WaysP b P w) (hP : Planned B P S R n parts given stops vt w) (hN : 12 ≤ N) :
    HandsV N Tryz.prog 68 #[.pointer (some ⟨b, 0, none⟩), .pointer (some ⟨b + 1, 0, none⟩)] (fun (x : List Nat) (v : Value) => #[v]) (fun x v W => W.ownsRow 0 3 1 v n (numV (x.take n))) (fun o => isBox o ∨ isInt o) (fun k _ => k = ix) (fun _ o => isTxt o) rows w := by
  intro l J W hWW hJ hY h0
  have hF0 := hw0.trans (hWW.mono (fun _ _ _ h => h.out))
  have HH0 := hide (And.intro h hF0)
  have hck : ∀ (k : Nat) (cur : Array Value) (t : TypeId), w.heap[k]? = some (.cells cur t (0, 0)) → t ≠ 28 → t ≠ 22 → W.heap[k]? = some (.cells cur t (0, 0)) := by
    intro k cur t hk n2 n3
    refine hWW.block k _ hk (fun e => ?_)
    rcases isTxt_cells e with e | e
    · exact n2 e
    · exact n3 e
  have hrw : ∀ {base : Nat} {e : TypeId} {size : Nat} {v : Value} {m : Nat} {xs : List Value}, w.ownsRow base e size v m xs → e ≠ 28 → e ≠ 22 → W.ownsRow base e size v m xs :=
    fun h0 n2 n3 => frt_row hWW h0 (fun g cur fz _ _ => fun e => by
      rcases isTxt_cells e with e | e
      · exact n2 e
      · exact n3 e)
  have HPW : Hid (Planned B P S R n parts given stops vt W) := ⟨hck _ _ _ hP.blk (by decide) (by decide), hrw hP.prt (by decide) (by decide), hrw hP.trm (by decide) (by decide), hrw hP.stp (by decide) (by decide), hP.low⟩
  have HCW : Hid (WaysP b P W) := ⟨hck _ _ _ hC.c1 (by decide) (by decide), hck _ _ _ hC.c2 (by decide) (by decide)⟩
  have HJ := hide hJ
  have HY := hide hY
  have hixl : ix < W.heap.size := by
    have hm : ∃ es ck, w0.heap[ix]? = some (.map es ck) := by
      rcases h with ⟨_, _, _, _, _, h6, _⟩ | ⟨DM, vf, h⟩
      · obtain ⟨es, ck, hq, _⟩ := h6; exact ⟨es, ck, hq⟩
      · obtain ⟨es, ck, hq, _⟩ := h.ixm; exact ⟨es, ck, hq⟩
    obtain ⟨es, ck, hq⟩ := hm
    exact Nat.lt_of_lt_of_le (lt_of_heap hq) hF0.size
  have hbW : w0.heap.size ≤ W.heap.size := hF0.size
  obtain ⟨wY, HWY⟩ : ∃ wY, Hid (wY = W.alloc (.cells #[.func (.yield l) #[] #[]] 148)) := ⟨_, rfl⟩
  have hwY := HWY.out.symm
  have HGY : Hid (W.grownBy wY none) := by rw [HWY.out]; exact fr_alloc _ _ _
  have HYB : Hid (wY.heap[W.heap.size]? = some (.cells #[.func (.yield l) #[] #[]] 148 (0, 0))) := by rw [HWY.out]; exact heap_alloc_new _ _
  have H0 : Hid (J 0 wY) := HJ.out _ _ _ h0 (FrT.none HGY.out)
  have hfY := FrS.none (S := fun _ => False) HGY.out
  have k0 : wY.cell? ⟨b, 0, none⟩ = some (.pointer (some ⟨P, 0, none⟩)) := hfY.cell (cell_of HCW.out.c1 0 _ rfl) (fun h => h)
  have k1 : wY.cell? ⟨b + 1, 0, none⟩ = some (.func (.func 35) #[] #[]) := hfY.cell (cell_of HCW.out.c2 0 _ rfl) (fun h => h)
  have k2 : wY.cell? ⟨P, 3, none⟩ = some (.int .i64 (n : Nat)) := hfY.cell (cell_of HPW.out.blk 3 _ rfl) (fun h => h)
  have HPY : Hid (Planned B P S R n parts given stops vt wY) := by
    have hp := HPW.out
    have hg := HGY.out
    exact ⟨(hg.block _ (lt_of_heap hp.blk) (by simp)).trans hp.blk, own_far hp.prt hg (by simp), hp.trm.kept hg (by cases vt.ownBlock <;> simp), own_far hp.stp hg (by simp), hp.low⟩
  have hBP : B ≤ wY.heap.size := Nat.le_trans HPY.out.low (Nat.le_of_lt (lt_of_heap HPY.out.blk))
  have HOP : Hid (∀ Wd, (∃ k, Wd = wY.drewN k) → Calls Tryz.prog 70 #[.int .i64 (n : Nat)] Wd fun e w' => ∃ xa xc, e = .returned (.slice xa n xc) ∧ Hid (w'.ownsRow wY.heap.size 3 1 (.slice xa n xc) n (noneV n) ∧ w'.heap[wY.heap.size]? = some (.cells #[.int .i64 (-1)] 3 (0, 0)) ∧ wY.grownBy w' none) ∧ w'.cell? ⟨b, 0, none⟩ = some (.pointer (some ⟨P, 0, none⟩)) ∧ w'.cell? ⟨b + 1, 0, none⟩ = some (.func (.func 35) #[] #[]) ∧ w'.cell? ⟨P, 3, none⟩ = some (.int .i64 (n : Nat))) := by
    rintro Wd ⟨k, rfl⟩
    have hd := fr_draws wY k none
    refine (open_any n hn (wY.drewN k)).mono ?_
    rintro e w' ⟨⟨v, rfl, hv⟩, hb, hg⟩
    obtain ⟨xa, xc, rfl⟩ := own_form hv
    have hgg := fr_both hd hg
    have hf := FrS.none (S := fun _ => False) hgg
    exact ⟨xa, xc, rfl, ⟨hv, hb, hgg⟩, hf.cell k0 (fun h => h), hf.cell k1 (fun h => h), hf.cell k2 (fun h => h)⟩
  have HSE : Hid (∀ xa xc Wd, Hid (Wd.ownsRow wY.heap.size 3 1 (.slice xa n xc) n (noneV n) ∧ Wd.heap[wY.heap.size]? = some (.cells #[.int .i64 (-1)] 3 (0, 0)) ∧ wY.grownBy Wd none) → Calls Tryz.prog 69 #[.pointer (some ⟨P, 0, none⟩), .slice xa n xc, .func (.func 35) #[] #[]] Wd fun e w' => ∃ Sx wv mk, e = .returned (.pointer (some ⟨Sx, 0, none⟩)) ∧ Hid (w'.heap[Sx]? = some (.cells (searchC P wv false mk) 159 (0, 0)) ∧ w'.ownsRow wY.heap.size 3 1 wv n (noneV n) ∧ wY.heap.size < Sx ∧ wY.grownBy w' none ∧ ∃ gw, wY.heap.size ≤ gw ∧ gw ≠ Sx ∧ (∃ cur, w'.heap[gw]? = some (.cells cur 3 (0, 0))) ∧ ∀ q, wv.ownBlock = some q → q = gw) ∧ w'.cell? ⟨b, 0, none⟩ = some (.pointer (some ⟨P, 0, none⟩)) ∧ w'.cell? ⟨b + 1, 0, none⟩ = some (.func (.func 35) #[] #[]) ∧ w'.cell? ⟨P, 3, none⟩ = some (.int .i64 (n : Nat))) := by
    rintro xa xc Wd HW
    obtain ⟨hv, hb, hgW⟩ := HW.out
    have hp := HPY.out
    have hpW : Planned B P S R n parts given stops vt Wd := ⟨(hgW.block _ (lt_of_heap hp.blk) (by simp)).trans hp.blk, own_far hp.prt hgW (by simp), hp.trm.kept hgW (by cases vt.ownBlock <;> simp), own_far hp.stp hgW (by simp), hp.low⟩
    refine (psearch_any B P S R n parts given stops vt _ Wd hpW (own_lower hv hBP) hn).mono ?_
    rintro e w' ⟨Sx, wv, mk, rfl, h1, h2, h3, h4, h5⟩
    have hgg := fr_both hgW h5
    have hf := FrS.none (S := fun _ => False) hgg
    have hlt : wY.heap.size < Wd.heap.size := lt_of_heap hb
    refine ⟨Sx, wv, mk, rfl, ⟨h1, own_lower h2 hgW.size, by omega, hgg, ?_⟩, hf.cell k0 (fun h => h), hf.cell k1 (fun h => h), hf.cell k2 (fun h => h)⟩
    cases hob : wv.ownBlock with
    | none => exact ⟨wY.heap.size, Nat.le_refl _, by omega, ⟨_, (h5.block _ hlt (by simp)).trans hb⟩, fun q e => by cases e⟩
    | some q =>
      obtain ⟨cur, hc⟩ := own_type h2 hob
      have := (own_old h2 hob).1
      exact ⟨q, by omega, h4 q hob, ⟨cur, hc⟩, fun q' e => (Option.some.inj e).symm⟩
  clear hJ hY h0 hC h hw0 hWW hck hrw hP hF0 hfY
  refine callsIn_of_wp_marks Tryz.func68 rfl trivial ?_ rfl
  simp only [Tryz.ntmps68, List.size_toArray, List.length_cons, List.length_nil, Nat.reduceAdd, Nat.reduceSub, Array.replicate_succ, Array.replicate_zero, List.push_toArray, List.append_toArray, List.nil_append, List.cons_append]
  gi_wp2_with fail
  refine wpIn_wide.2 ?_
  go_region_held3 (fun w' => w'.cell? ⟨b, 0, none⟩ = some (.pointer (some ⟨P, 0, none⟩)) ∧ w'.cell? ⟨b + 1, 0, none⟩ = some (.func (.func 35) #[] #[]) ∧ w'.cell? ⟨P, 3, none⟩ = some (.int .i64 (n : Nat))) (go_keep)
    (first
      | (go_at_call 70; refine (HOP.out _ ⟨_, rfl⟩).mono ?_; rintro e w2 ⟨xa, xc, rfl, HF2, e0, e1, e2⟩)
      | (go_at_call 69; refine (HSE.out _ _ _ HF2).mono ?_; rintro e w3 ⟨Sx, wv, mk, rfl, HF3, f0, f1, f2⟩))
  obtain ⟨hS3, hv3, hSx, hg3, gw, hgw, hgS, hgi, hwv⟩ := HF3.out
  have HG3 := hide hg3
  have HV3 := hide hv3
  have HGI := hide hgi
  have HWV := hide hwv
  have s0 : w3.cell? ⟨Sx, 3, none⟩ = some (.bool false) := cell_of hS3 3 _ rfl
  have s1 := thaw_of hS3 3
  obtain ⟨w5, HW5⟩ : ∃ w5, Hid (w5 = w3.setCell ⟨Sx, 3, none⟩ (.bool true)) := ⟨_, rfl⟩
  have hw5 := HW5.out.symm
  have HS5 : Hid (w5.heap[Sx]? = some (.cells (searchC P wv true mk) 159 (0, 0))) := by rw [HW5.out]; exact blk_set hS3 3 _
  have HF5 : Hid (FrS (fun j => j = Sx) w3 w5) := by rw [HW5.out]; exact FrS.of (fr_set w3 Sx 3 _) (fun g e => .inl (Option.some.inj e).symm)
  have HG5 : Hid (wY.grownBy w5 none) := fr_far hg3 HF5.out (fun j hj e => by have e' : j = Sx := e; omega)
  have HV5 : Hid (w5.ownsRow wY.heap.size 3 1 wv n (noneV n)) := HF5.out.row hv3 (fun q cur fz hq _ _ e => by have e' : q = Sx := e; have := hwv q hq; omega)
  have HGI5 : Hid (∃ cur, w5.heap[gw]? = some (.cells cur 3 (0, 0))) := by
    obtain ⟨cur, hc⟩ := hgi
    exact ⟨cur, (HF5.out.block _ (lt_of_heap hc) hgS).trans hc⟩
  have HP5 : Hid (Planned B P S R n parts given stops vt w5) := by
    have hp := HPY.out
    have hg := HG5.out
    exact ⟨(hg.block _ (lt_of_heap hp.blk) (by simp)).trans hp.blk, own_far hp.prt hg (by simp), hp.trm.kept hg (by cases vt.ownBlock <;> simp), own_far hp.stp hg (by simp), hp.low⟩
  obtain ⟨gp, cp, hpe, _, hcp⟩ := HP5.out.prt.form (by omega)
  have hf5 := FrS.none (S := fun _ => False) HG5.out
  have k0' : w5.cell? ⟨b, 0, none⟩ = some (.pointer (some ⟨P, 0, none⟩)) := hf5.cell k0 (fun h => h)
  have k3 : w5.cell? ⟨P, 2, none⟩ = some (.slice (some ⟨gp, 0, none⟩) 1 cp) := by rw [← hpe]; exact cell_of HP5.out.blk 2 _ rfl
  have HSW : Hid (Calls Tryz.prog 71 #[.pointer (some ⟨Sx, 0, none⟩), .int .i64 0, .int .i64 1] w5 fun e w' => e = .returned (.func (.func 108) #[] #[.pointer (some ⟨w5.heap.size + 1, 0, none⟩), .pointer (some ⟨w5.heap.size + 1 + 1, 0, none⟩), .pointer (some ⟨w5.heap.size, 0, none⟩)]) ∧ WaysC w5.heap.size Sx 0 1 w' ∧ w5.grownBy w' none) := sways_any Sx 0 1 w5
  clear hS3 hv3 hg3 hgi HF3 HF2 HOP HSE k0 k1 k2 e0 e1 e2 f0 f1 f2 hf5
  gi_wp2_with fail
  refine ⟨trivial, fun h => (by cases h), ?_⟩
  refine (callsIn_wide.2 HSW.out).mono ?_
  rintro e w6 ⟨rfl, hC6, hg6⟩
  have HC6 := hide hC6
  have HG6 : Hid (wY.grownBy w6 none) := fr_both HG5.out hg6
  have HGW6 : Hid (W.grownBy w6 none) := fr_both HGY.out HG6.out
  have HS6 : Hid (w6.heap[Sx]? = some (.cells (searchC P wv true mk) 159 (0, 0))) := (hg6.block _ (lt_of_heap HS5.out) (by simp)).trans HS5.out
  have HV6 : Hid (w6.ownsRow wY.heap.size 3 1 wv n (noneV n)) := HV5.out.kept hg6 (by cases wv.ownBlock <;> simp)
  have HGI6 : Hid (∃ cur, w6.heap[gw]? = some (.cells cur 3 (0, 0))) := by
    obtain ⟨cur, hc⟩ := HGI5.out
    exact ⟨cur, (hg6.block _ (lt_of_heap hc) (by simp)).trans hc⟩
  have HP6 : Hid (Planned B P S R n parts given stops vt w6) := by
    have hp := HPY.out
    have hg := HG6.out
    exact ⟨(hg.block _ (lt_of_heap hp.blk) (by simp)).trans hp.blk, own_far hp.prt hg (by simp), hp.trm.kept hg (by cases vt.ownBlock <;> simp), own_far hp.stp hg (by simp), hp.low⟩
  have HJ6 : Hid (J 0 w6) := HJ.out _ _ _ H0.out (FrT.none HG6.out)
  have HY6 : Hid (w6.heap[W.heap.size]? = some (.cells #[.func (.yield l) #[] #[]] 148 (0, 0))) := (HG6.out.block _ (lt_of_heap HYB.out) (by simp)).trans HYB.out
  have hsY : wY.heap.size = W.heap.size + 1 := by rw [HWY.out]; simp
  have hs6 : w5.heap.size ≤ w6.heap.size := hg6.size
  have hg5l : gw < w5.heap.size := by obtain ⟨cur, hc⟩ := HGI5.out; exact lt_of_heap hc
  have HPL : Hid (P ≠ gw ∧ (∀ q, vt.ownBlock = some q → q ≠ gw) ∧ (∀ q, parts.ownBlock = some q → q ≠ gw) ∧ (∀ q, stops.ownBlock = some q → q ≠ gw)) := by
    have hp := HPW.out
    refine ⟨?_, fun q hq => ?_, fun q hq => ?_, fun q hq => ?_⟩
    · have := lt_of_heap hp.blk; omega
    · have := (own_old hp.trm hq).2; omega
    · have := (own_old hp.prt hq).2; omega
    · have := (own_old hp.stp hq).2; omega
  clear hC6 hg6 HSW k0' k3 s0 s1
  gi_wp2_with fail
  refine rangeZ (by omega) (gf := 108) (lb := #[.pointer (some ⟨w5.heap.size + 1, 0, none⟩), .pointer (some ⟨w5.heap.size + 1 + 1, 0, none⟩), .pointer (some ⟨w5.heap.size, 0, none⟩)]) rfl (enters_of Tryz.func108 (by kernel_rfl) rfl)
    (ways_hands (N - 1) B wY.heap.size base R ix im n gw w5.heap.size Sx P S rows old vr vu wv vt mk parts given stops w0 w6 HH0.out.1 hn hrl (by omega) hbw ((HH0.out.2.mono (fun _ _ _ h => .inr h)).trans (FrT.none HGW6.out)) HC6.out HS6.out HP6.out HV6.out HGI6.out ⟨by omega, by omega, by omega, fun e => hgS e.symm, HPL.out.1⟩ HPL.out.2.1 HPL.out.2.2.1 HPL.out.2.2.2 HWV.out (by omega))
    (FrT.refl _ _) (fun k o h => ?own) (fun k o h => isTxt_rec h) (fun _ => rfl)
    (fun i W' => Hid (J i W') ∧ Hid (W'.heap[W.heap.size]? = some (.cells #[.func (.yield l) #[] #[]] 148 (0, 0))) ∧ Hid (FrT (fun k o => Zi (fun o => isBox o ∨ isInt o) (fun k _ => k = ix) W.heap.size k o ∨ isTxt o) W W'))
    ?low ⟨HJ6, HY6, FrT.none HGW6.out⟩ (fun x A C h hf => frt_row hf h (fun g cur fz _ _ e => e))
    (fun x a' W' => a' = { tmps := #[.func (.yield l) #[] #[], .pointer (some ⟨b, 0, none⟩), .pointer (some ⟨b + 1, 0, none⟩), .pointer (some ⟨W.heap.size, 0, none⟩), .pointer (some ⟨Sx, 0, none⟩), wv, .pointer (some ⟨P, 0, none⟩), .pointer (some ⟨P, 0, none⟩), .pointer (some ⟨P, 0, none⟩), .pointer (some ⟨P, 3, none⟩), .int .i64 (n : Nat), .slice xa n xc, .func (.func 35) #[] #[], .pointer (some ⟨Sx, 0, none⟩), .pointer (some ⟨Sx, 0, none⟩), .pointer (some ⟨Sx, 0, none⟩), .pointer (some ⟨Sx, 3, none⟩), .pointer (some ⟨Sx, 0, none⟩), .pointer (some ⟨P, 0, none⟩), .pointer (some ⟨P, 0, none⟩), .pointer (some ⟨P, 2, none⟩), .slice (some ⟨gp, 0, none⟩) 1 cp, .int .i64 1, .func (.func 108) #[] #[.pointer (some ⟨w5.heap.size + 1, 0, none⟩), .pointer (some ⟨w5.heap.size + 1 + 1, 0, none⟩), .pointer (some ⟨w5.heap.size, 0, none⟩)], wv, undef, undef, undef, undef], defers := [] })
    (fun _ _ _ _ h _ => h) ?assign ?body ?done
  case own =>
    rcases h with h | h
    · have h' : k = ix := h; omega
    · have h' : k = gw := h.1; omega
  case low =>
    rintro i A C ⟨hj, hy, hi⟩ hf
    have hz : ∀ k o, Zi isBox (fun k o => k = ix ∨ (k = gw ∧ isInt o)) w6.heap.size k o → Zi (fun o => isBox o ∨ isInt o) (fun k _ => k = ix) W.heap.size k o := by
      rintro k o ((h | h) | h)
      · exact .inl h
      · exact .inr ⟨by rw [h.1]; omega, .inr (.inr h.2)⟩
      · exact .inr ⟨by omega, h.2.imp id .inl⟩
    refine ⟨HJ.out _ _ _ hj.out (hf.mono (fun k o _ h => hz k o h)), hf.block _ _ hy.out ?_, hi.out.trans (hf.mono (fun k o _ h => .inl (hz k o h)))⟩
    rintro ((h | h) | h)
    · have h' : W.heap.size = ix := h; omega
    · have h' : W.heap.size = gw := h.1; omega
    · rcases h.2 with h | h
      · exact h
      · obtain ⟨q, e⟩ := h; cases e
  case assign =>
    rintro l' i x W' K hx _ _ hK
    have HK := hide hK
    clear hK
    gi_wp2
    exact HK.out _ _ (FrT.refl _ _) rfl
  case body =>
    rintro l' i x a' W1 hx ⟨HJ1, HY1, HI1⟩ hf1 rfl hl'
    obtain ⟨fn, tmps, assign, body, hyy, hR⟩ := HY.out i x wv W1 hx HJ1.out (own_lower hf1 (Nat.zero_le _))
    have HRR := hide hR
    have y0 : W1.cell? ⟨W.heap.size, 0, none⟩ = some (.func (.yield l) #[] #[]) := cell_of HY1.out 0 _ rfl
    clear hR hx hf1
    gi_wp2
    refine ⟨fun h => (by cases h), RoundIn.mono (round_wide HRR.out) ?_⟩
    rintro e W9 ⟨rfl, hJ9, hr9⟩
    have HJ9 : Hid (J (i + 1) W9) := hJ9
    have HR9 := hide hr9
    have HY9 : Hid (W9.heap[W.heap.size]? = some (.cells #[.func (.yield l) #[] #[]] 148 (0, 0))) := hr9.block _ _ HY1.out (fun e => by rcases isTxt_cells e with e | e <;> cases e)
    have HI9 : Hid (FrT (fun k o => Zi (fun o => isBox o ∨ isInt o) (fun k _ => k = ix) W.heap.size k o ∨ isTxt o) W W9) := HI1.out.trans (hr9.mono (fun _ _ _ h => .inr h))
    clear hJ9 hr9 hyy y0
    gi_wp2
    exact HR9.out
  case done =>
    rintro D W' hD ⟨HJD, _, HID⟩ hd hfr
    gi_wp2
    refine ⟨by simp, .inl ⟨_, _, rfl, run_takeDeferred hd, ?_⟩⟩
    have hDp : FrT (fun k o => k = D ∧ isRec o) W' (W'.putObj D (.deferred none)) := FrT.put W' D _ (fun o ho => by rw [hd] at ho; cases ho; exact ⟨rfl, trivial⟩)
    refine ⟨_, results_none rfl _ _ _, ⟨_, rfl⟩, HJ.out _ _ _ HJD.out (hDp.mono (fun k o _ h => .inr ⟨by rw [h.1]; omega, .inl h.2⟩)), HID.out.trans (hDp.mono (fun k o _ h => .inl (.inr ⟨by rw [h.1]; omega, .inl h.2⟩)))⟩
end Go.Proofs.YtdfbjnachakkhaaGreatDoor
