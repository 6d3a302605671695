import Derived.Test.YtdfbjnachakkhaaGreatDoorM04
import Derived.Test.YtdfbjnachakkhaaGreatDoorM05
import Derived.OrdersHeld
import Derived.OrdersIn
import Derived.RegionIn
import Derived.Deep.RegionHeld3
import Derived.Deep.AppendLies
import Derived.Test.YtdfbjnachakkhaaGreatDoorM01
import Derived.DeepKeys4
import Derived.Maps.Keyed
import Derived.Test.YtdfbjnachakkhaaGreatDoorM03
import Derived.WideKeyEntry
import Derived.Maps.Own
import Derived.Maps.Range
import Derived.Maps.AppendAt
import Derived.Maps.OwnRows
import Derived.Maps.Views
namespace Go.Proofs.YtdfbjnachakkhaaGreatDoor
open Go.ChangeShapes Go.WideShapes Go.ChangeAt Go.RowKit Go.Hands
set_option linter.unusedVariables false
attribute [local go_sem] Oper.semAt_some
theorem frt_below {Z : Nat → Obj → Prop} {A B : World} (h : Below A.heap.size A B) : FrT Z A B := ⟨h.os, h.tape, h.output, h.size, fun k o hk _ => (h.block k (lt_of_heap hk)).trans hk⟩
set_option maxRecDepth 100000 in
set_option maxHeartbeats 4000000 in
theorem body_one (n base Bn : Nat) (bd : Value) (p : PPart) (u : Value) (Zc : Nat → Obj → Prop) (w0 w : World) (hw0 : FrT Zc w0 w) (hbox : w.cell? ⟨Bn, 3, none⟩ = some bd) (hparts : PartsAt 65 67 base w0 bd [p] [u]) (hZb : ∀ o, ¬ Zc Bn o) (hZp : ∀ g o, bd.ownBlock = some g → ¬ Zc g o) (hk : p.kind = 0) :
    HandsZ n Tryz.prog 49 #[.pointer (some ⟨Bn, 0, none⟩)] (fun x : BX => #[.int .i64 (x.kind : Nat), x.atomV]) (fun _ _ => True) (fun _ => False) (fun _ _ => False) Zc [bxOf p u] w := by
  intro l J W hW hJ hY h0
  have hbW := hW.cell hbox (fun o _ => hZb o)
  have HJ := hide hJ
  have HY := hide hY
  have hBn : Bn < W.heap.size := World.block_lt_of_cell? W ⟨Bn, 3, none⟩ hbW
  have HPC : Hid (∃ g c, bd = .slice (some ⟨g, 0, none⟩) 1 c ∧ (∀ o, ¬ Zc g o) ∧ ∀ (j : Nat) (x : Value), (partV p u)[j]? = some x → W.cell? ⟨g, j, none⟩ = some x) := by
    rcases own_parts hparts with ⟨_, h⟩ | ⟨g, cap, rfl, _, hgw, hc, _⟩
    · cases h
    · refine ⟨g, cap, rfl, fun o => hZp g o rfl, fun j x hx => ?_⟩
      have := hc 0 p u rfl rfl j x hx
      rw [Nat.zero_mul, Nat.zero_add] at this
      exact hW.cell (hw0.cell this (fun o _ => hZp g o rfl)) (fun o _ => hZp g o rfl)
  have hus : u = .slice (sliceA u) p.atom.args.length (sliceC u) := own_slice (hparts.args 0 p u rfl rfl)
  obtain ⟨g, bc, hbe, hgz, hc⟩ := HPC.out
  have HGZ := hide hgz
  rw [hbe] at hbW
  obtain ⟨ua, HUA⟩ : ∃ ua, Hid (ua = sliceA u) := ⟨sliceA u, (rfl : sliceA u = _)⟩
  obtain ⟨uc, HUC⟩ : ∃ uc, Hid (uc = sliceC u) := ⟨sliceC u, (rfl : sliceC u = _)⟩
  have HBXE : Hid (bxOf p u = ⟨p.kind, p.atom.name, p.atom.args.length, ua, uc, p.atom.place, p.atom.args⟩) := by show _ = _; rw [HUA.out, HUC.out]; rfl
  rw [← HUA.out, ← HUC.out] at hus
  rw [hus] at hc
  have HC := hide hc
  have hBg : Bn ≠ g ∨ Bn = g := Classical.em _ |>.symm
  have H0 := hide h0
  have HKK : Hid ((p.kind == 0 || p.kind == 1) = true) := by show _ = _; simp [hk]
  have hkp : p.kind ≤ 1000 := by omega
  clear hparts hW hJ hY h0 hbox hw0 HPC hgz hc hBg hk
  refine callsIn_of_wp Tryz.func49 rfl trivial ?_ rfl
  simp only [Tryz.ntmps49, List.size_toArray, List.length_cons, List.length_nil, Nat.reduceAdd, Nat.reduceSub, Array.replicate_succ, Array.replicate_zero, List.push_toArray, List.append_toArray, List.nil_append, List.cons_append]
  gi_wp2
  gi_loopw [8] (fun iv wr => ∃ k : Nat, k ≤ 1 ∧ iv = .int .i64 k ∧ Hid (J k wr) ∧ Hid (FrT Zc W wr)) (fun iv _ => 1 - (intOf iv).toNat)
  case atStart => exact ⟨0, by omega, rfl, H0, FrT.refl _ _⟩
  case round =>
    obtain ⟨k, hk1, rfl, HJK, HRW⟩ := hrel
    by_cases hlt : k < 1
    · have hk0 : k = 0 := by omega
      subst hk0
      have hcw : ∀ (j : Nat) (x : Value), (partV p (.slice ua p.atom.args.length uc))[j]? = some x → wr.cell? ⟨g, j, none⟩ = some x := fun j x hx => HRW.out.cell (HC.out j x hx) (fun o _ => HGZ.out o)
      have q0 := hcw 0 _ rfl
      have q1 := hcw 1 _ rfl
      have q2 := hcw 2 _ rfl
      have q3 := hcw 3 _ rfl
      have q4 := hcw 4 _ rfl
      have q5 := hcw 5 _ rfl
      have q6 := hcw 6 _ rfl
      have q7 := hcw 7 _ rfl
      have q8 := hcw 8 _ rfl
      have q9 := hcw 9 _ rfl
      clear hcw
      gi_wp2_with fail
      obtain ⟨wb, HWB⟩ : ∃ wb, Hid (wb = wr.alloc (.cells (partV p (.slice ua p.atom.args.length uc)).toArray 67)) := ⟨_, rfl⟩
      have HRB : Hid (∀ Z, FrT Z wr wb) := by intro Z; rw [HWB.out]; exact FrT.alloc _ _ _
      have HCB : Hid (∀ (j : Nat) (x : Value), (partV p (.slice ua p.atom.args.length uc))[j]? = some x → wb.cell? ⟨wr.heap.size, j, none⟩ = some x) := by
        intro j x hx
        rw [HWB.out, World.cell?_alloc_at _ _ _ _ rfl]
        simpa using hx
      have HSB : Hid (wr.heap.size < wb.heap.size) := by rw [HWB.out]; simp [Hid]
      rw [show (wr.alloc (.cells #[Value.int IntKind.i64 (p.kind : Nat), Value.string (str p.atom.name), Value.slice ua p.atom.args.length uc, Value.int IntKind.i64 (p.atom.place : Nat), Value.bool p.left.isVar, Value.string (str p.left.text), Value.int IntKind.i64 (p.left.place : Nat), Value.bool p.right.isVar, Value.string (str p.right.text), Value.int IntKind.i64 (p.right.place : Nat)] 67)) = wb from HWB.out.symm]
      clear HWB q0 q1 q2 q3 q4 q5 q6 q7 q8 q9
      refine ⟨trivial, fun h => (by cases h), ?_⟩
      refine (callsIn_wide.2 (hasAtom_any p ua p.atom.args.length uc wb hkp)).mono ?_
      rintro e w1 ⟨rfl, hb1⟩
      have hcw : ∀ (j : Nat) (x : Value), (partV p (.slice ua p.atom.args.length uc))[j]? = some x → w1.cell? ⟨wr.heap.size, j, none⟩ = some x := fun j x hx => (hb1.cell (p := ⟨wr.heap.size, j, none⟩) HSB.out).trans (HCB.out j x hx)
      have r0 := hcw 0 _ rfl
      have r1 := hcw 1 _ rfl
      have r2 := hcw 2 _ rfl
      have r3 := hcw 3 _ rfl
      have HR1 : Hid (∀ Z, FrT Z wr w1) := fun Z => (HRB.out Z).trans (frt_below hb1)
      have HJ1 : Hid (J 0 w1) := HJ.out _ _ _ HJK.out (HR1.out _)
      clear hb1 hcw
      rw [HKK.out]
      obtain ⟨fn, tmps, assign, body, hy, hR⟩ := HY.out 0 (bxOf p u) w1 rfl HJ1.out trivial
      rw [HBXE.out] at hy
      dsimp only [BX.atomV] at hy
      have HRR := hide hR
      clear hR
      gi_wp2
      refine ⟨fun h => (by cases h), HRR.out.mono ?_⟩
      rintro e W3 ⟨rfl, hJ3, hr3⟩
      have HJ3 : Hid (J 1 W3) := hJ3
      have HR3 : Hid (FrT Zc W W3) := (HRW.out.trans (HR1.out _)).trans hr3
      clear hJ3 hr3
      gi_wp2
      go_roundw
      case rel => exact ⟨1, by omega, by go_num, HJ3, HR3⟩
      case measure => simp [intOf]
    · have hk0 : k = 1 := by omega
      subst hk0
      gi_wp2
      go_end0
      exact ⟨⟨_, rfl⟩, HJK.out, HRW.out.mono (fun _ _ _ h => .inr h)⟩
end Go.Proofs.YtdfbjnachakkhaaGreatDoor

namespace Go.Hands
open Go.RowKit
set_option linter.unusedVariables false
theorem rows_round {n l : Nat} {P : Program} {row : String} {args : Array Value} {w : World} {R : Value → World → Prop} (h : Rows P row args w R) : RowsIn (Fence.wide.inRound l) n P row args w R := by
  intro c cs _
  obtain ⟨v, w', r, s⟩ := h c cs
  exact ⟨v, w', r, stepsIn_wide.2 s⟩
theorem upon_round {n l : Nat} {P : Program} {o : Oper} {a : Act} {next : Act → World → Prop} {Q : Exit → Act → World → Prop} {r : Result Next} (h : o.upon P a next Q r) : o.uponIn (Fence.wide.inRound l) n P a next Q r := by
  cases r with
  | ok x w' =>
    cases x with
    | value v => exact h
    | skip => exact h
    | defer d => exact h
    | enter f args => exact ⟨fun h => (by cases h), CallsIn.inRound l (callsIn_wide.2 h)⟩
    | row r args => exact ⟨fun h => (by cases h), rows_round h⟩
    | _ => exact h.elim
  | halt x w' => cases x <;> exact h
theorem oper_round {n l : Nat} {P : Program} {o : Oper} {a : Act} {w : World} {next : Act → World → Prop} {Q : Exit → Act → World → Prop} (hd : ∀ c, o.op ≠ .defer c) (h : o.wp P a w next Q) : o.wpIn (Fence.wide.inRound l) n P a w next Q := by
  refine ⟨fun _ _ => trivial, ?_⟩
  rw [Oper.semAt_eq _ _ _ hd]
  exact upon_round h
def noDefer (ops : Array Oper) : Bool := ops.all fun o => match o.op with | .defer _ => false | _ => true
theorem noDefer_at {ops : Array Oper} (h : noDefer ops = true) {i : Nat} {o : Oper} (hi : ops[i]? = some o) : ∀ c, o.op ≠ .defer c := by
  intro c hc
  unfold noDefer at h
  rw [Array.all_eq_true'] at h
  have := h o (Array.mem_of_getElem? hi)
  rw [hc] at this; cases this
theorem op_round {n l : Nat} {P : Program} {ops : Array Oper} {Q : Exit → Act → World → Prop} {i : Nat} {K : Act → World → Prop} {a : Act} {w : World} (hd : noDefer ops = true) (hQ : ¬ LetsOut Q) (h : wpOp P ops Q i K a w) : wpOpIn (Fence.wide.inRound l) n P ops Q i K a w := by
  unfold wpOp at h
  unfold wpOpIn
  cases ho : ops[i]? with
  | none => rw [ho] at h; exact h
  | some o =>
    rw [ho] at h
    dsimp only at h ⊢
    by_cases hw : Region.wanted o (yielded ops a.tmps) = true
    · rw [if_pos hw] at h ⊢
      rcases h with h | h
      · exact oper_round (noDefer_at hd ho) h
      · exact (hQ h.2).elim
    · rw [if_neg hw] at h ⊢
      exact ⟨fun _ _ => trivial, h⟩
theorem anyH_round {n l : Nat} {P : Program} {md : Region.Mode} {ops : Array Oper} {Q : Exit → Act → World → Prop} {S : World → Prop} (hd : noDefer ops = true) (hQ : ¬ LetsOut Q) : ∀ (fuel : Nat) (listed : Array Bool) (a : Act) (w : World), wpAnyH P md ops Q S fuel listed a w → wpAnyIn (Fence.wide.inRound l) n P md ops Q fuel listed a w
  | 0, _, _, _, h => h
  | fuel + 1, _, _, _, h => ⟨h.1, fun i hi => op_round hd hQ (wpOp_mono (fun a' w' h' => anyH_round hd hQ fuel _ a' w' h'.2) (h.2 i hi))⟩
/-- an append, by its run -/
theorem step_append_run {P : Program} {w w' : World} {ops : Array Oper} {o : Oper} {a : Act} {K : Act → World → Prop} {Q : Exit → Act → World → Prop} {E : Prop} (hgd : o.guard = none) (s x : Operand) (t : TypeId)
    (ho : o.op = .call { callee := .builtin .append, args := #[s, x], argTypes := #[t, t] }) {v1 v2 r : Value} (hs : a.eval s = v1) (hx : a.eval x = v2) (hr : (Builtin.append_ #[t, t] o.type #[v1, v2]).run P w = .ok r w') (h : K (a.put o.dst r) w') :
    if Region.wanted o (yielded ops a.tmps) = true then Oper.wp P o a w K Q else E := by
  have hw : Region.wanted o (yielded ops a.tmps) = true := by simp [Region.wanted, hgd]
  rw [if_pos hw]
  unfold Oper.wp execOp
  simp only [ho, resolve, invoke, builtin, Sem.run_bind, Sem.run_pure, Result.andThen_ok, List.map_toArray, List.map_cons, List.map_nil, hs, hx, hr]
  exact h
/-- **a region in a round**: its end alone is asked, by the plain law with what is held -/
theorem region_round {n l id : Nat} {P : Program} {ops : Array Oper} {Q : Exit → Act → World → Prop} {a : Act} {w : World} (S : World → Prop) (E : Act → World → Prop) (hm : P.follows .mixedOrders = true) (hd : noDefer ops = true)
    (h : wpAnyH P .any ops (fun e a w => e = .normal ∧ E a w) S ops.size (Array.replicate ops.size false) a w.drew) (hE : ∀ a' w', E a' w' → Q .normal a' w') : (Code.region id ops true).wpIn (Fence.wide.inRound l) n P Q a w := by
  refine wpIn_mono (wpIn_region_any hm (anyH_round hd ?_ _ _ _ _ h)) ?_
  · rintro ⟨_, _, h, _⟩; cases h
  · rintro e a' w' ⟨rfl, hE'⟩
    exact hE _ _ hE'
end Go.Hands

namespace Go.Proofs.YtdfbjnachakkhaaGreatDoor
open Go.ChangeShapes Go.WideShapes Go.ChangeAt Go.RowKit Go.WideMaps Go.Maps
set_option linter.unusedVariables false
set_option maxRecDepth 100000
theorem laidOutA : laidOutB Tryz.prog = true := by kernel_rfl
theorem rowTypeA : (193 : TypeId) < Tryz.prog.types.size := of_decide_eq_true (by kernel_rfl)
theorem wideA : (match Tryz.prog.underlying 193 with | some (.array _ _) | some (.struct _) => true | _ => false) = true := by kernel_rfl
theorem keyedRow : Keyed Tryz.prog 193 := Keyed.of_law (deep_law_laid laidOutA (m := 2) (by omega) rowTypeA (by kernel_rfl) wideA)
theorem keyTypeA : Tryz.prog.keyType 193 = true := by kernel_rfl
theorem cellsA : Tryz.prog.cellsOf 193 = 8 := by kernel_rfl
theorem cellsInt : Tryz.prog.cellsOf 3 = 1 := by kernel_rfl
theorem underA : Tryz.prog.underlying 193 = some (.array 8 3) := by kernel_rfl
theorem typesA : ∃ n, Tryz.prog.types.size = n + 1 := ⟨Tryz.prog.types.size - 1, by have h : 0 < Tryz.prog.types.size := Nat.lt_of_le_of_lt (Nat.zero_le _) rowTypeA; omega⟩
/-- eight numbers as a value -/
def rowV (a : List Nat) : Value := .agg (a.map fun n => Value.int .i64 (n : Nat)).toArray
/-- as a map's key reads -/
def keyR (a : List Nat) : Lit := .string (keyBytes (a.map fun n => Lit.int .i64 (n : Nat)))
theorem wf_nat {n : Nat} (h : n ≤ 1000000000000) : (Lit.int .i64 (n : Nat)).wf = true := WalkArith.wf_i64 (by omega)
theorem keyOf_row (a : List Nat) (h8 : a.length = 8) (hb : ∀ n ∈ a, n ≤ 1000000000000) : keyOf Tryz.prog 193 (rowV a) = some (keyR a) := by
  match a, h8 with
  | [a0, a1, a2, a3, a4, a5, a6, a7], _ =>
    have w0 := wf_nat (hb a0 (by simp))
    have w1 := wf_nat (hb a1 (by simp))
    have w2 := wf_nat (hb a2 (by simp))
    have w3 := wf_nat (hb a3 (by simp))
    have w4 := wf_nat (hb a4 (by simp))
    have w5 := wf_nat (hb a5 (by simp))
    have w6 := wf_nat (hb a6 (by simp))
    have w7 := wf_nat (hb a7 (by simp))
    obtain ⟨d, hd⟩ := typesA
    unfold keyOf
    rw [underA]
    have hf : (rowV [a0, a1, a2, a3, a4, a5, a6, a7]).formed Tryz.prog 193 = true := by simp [Value.formed, rowV, cellsA]
    rw [keyTypeA, hf]
    have hi : ∀ n : Nat, (Lit.int .i64 (n : Nat)).wf = true → Tryz.prog.keyLits (d + 1) 3 [.int .i64 (n : Nat)] = some [.int .i64 (n : Nat)] := fun n hn => by
      unfold Program.keyLits
      rw [Tryz.underlying3]
      simp [hn]
    rw [hd]
    unfold Program.keyLits
    rw [underA]
    simp [rowV, keyR, Value.cells, cellsA, cellsInt, List.range_succ, hi _ w0, hi _ w1, hi _ w2, hi _ w3, hi _ w4, hi _ w5, hi _ w6, hi _ w7]
theorem keyR_inj {a b : List Nat} (ha : a.length = 8) (hb : b.length = 8) (h1 : ∀ n ∈ a, n ≤ 1000000000000) (h2 : ∀ n ∈ b, n ≤ 1000000000000) (h : keyR a = keyR b) : a = b := by
  have e := keyedRow.inj (keyOf_row a ha h1) (h ▸ keyOf_row b hb h2)
  unfold rowV at e
  injection e with e
  have e2 := congrArg Array.toList e
  simp only at e2
  have inj : ∀ (x y : List Nat), x.map (fun n => Value.int .i64 (n : Nat)) = y.map (fun n => Value.int .i64 (n : Nat)) → x = y := by
    intro x
    induction x with
    | nil => intro y hy; cases y with | nil => rfl | cons _ _ => simp at hy
    | cons p x ih =>
      intro y hy
      cases y with
      | nil => simp at hy
      | cons q y =>
        rw [List.map_cons, List.map_cons] at hy
        injection hy with h3 h4
        injection h3 with _ h5
        rw [ih y h4]
        congr 1
        omega
  exact inj a b e2
end Go.Proofs.YtdfbjnachakkhaaGreatDoor

namespace Go.Proofs.YtdfbjnachakkhaaGreatDoor
open Go.ChangeShapes Go.WideShapes Go.ChangeAt Go.RowKit Go.WideMaps Go.Maps
set_option linter.unusedVariables false
set_option maxRecDepth 100000
theorem lawRow : KeyLaw Tryz.prog 193 := deep_law_laid laidOutA (m := 2) (by omega) rowTypeA (by kernel_rfl) wideA
/-- an element is read as itself -/
def heldA (v : Value) : Option (DataW Value × List MemPlace) := some (.held v, [])
theorem entry_own {P : Program} {w : World} {t k e : TypeId} {b n : Nat} {D : DataW Value} (h : w.ownsMap P k heldA b n D) (K : KeyLaw P k) (ht : P.underlying t = some (.map k e)) {z : Value} (hz : ∀ u : World, (zeroValue e).run P u = .ok z u) (hn : n < maxLen) {key : Value} {kl : Lit} (hkey : keyOf P k key = some kl) :
    ∃ (v0 : Value) (st : Nat) (w1 : World), (Instr.mapEntry t (.map (some b)) key).run P w = .ok (.tuple #[v0, goInt st]) w1 ∧ w.grownBy w1 (some b) ∧ w1.heap.size = w.heap.size ∧ (∃ es ck, w1.heap[b]? = some (.map es ck)) ∧ D.atKey kl (.held z) = .held v0 ∧
      ∀ (w2 : World) (val : Value), w2.heap[b]? = w1.heap[b]? → b < w2.heap.size → ∃ w3, (Instr.entryStore t (.map (some b)) (goInt st) val).run P w2 = .ok () w3 ∧ w3.ownsMap P k heldA b (n + 1) (D.put kl (.held val)) ∧ w2.grownBy w3 (some b) ∧ w3.heap.size = w2.heap.size := by
  have hup := fun val => h.update (Keyed.of_law K) ht hn (val := val) hkey (rfl : heldA val = some (.held val, []))
  have h' := h
  obtain ⟨es, clock, hb, F, hs, hD⟩ := h'
  obtain ⟨v0, st, es1, clock1, hrun, hv, hst⟩ := WideElems.entry_then_store K ht hz hb F hkey
  refine ⟨v0, st, _, hrun, ⟨rfl, rfl, rfl, by simp [ChangeMaps.setBlock], fun i _ hi => ChangeMaps.heap_setBlock_other hb _ (fun e => hi (by rw [e]))⟩, by simp [ChangeMaps.setBlock], ⟨_, _, ChangeMaps.heap_setBlock_same hb _⟩, ?_, fun w2 val hw2 hlt => ?_⟩
  · rw [hD]
    rcases fit_look false (Keyed.of_law K) ht (hz w) hb F hkey with ⟨_, hno, hat⟩ | ⟨e0, y, he0, hk0, _, hRv, hat, _⟩
    · rcases hv with ⟨e1, h1, h2, _⟩ | ⟨_, rfl⟩
      · exact absurd h2 (hno e1 h1)
      · exact hat _
    · rcases hv with ⟨e1, h1, h2, rfl⟩ | ⟨hno, _⟩
      · rw [hat]
        have hee : e1 = e0 := entry_eq_of_key (List.pairwise_map.1 F.stamped.2.2) h1 he0 (by rw [h2, hk0])
        subst hee
        unfold heldA at hRv
        injection hRv with hRv
        rw [← hRv]
      · exact absurd hk0 (hno e0 he0)
  · obtain ⟨es', clock', hr1, hr2⟩ := hst w2 val (by rw [hw2]; exact ChangeMaps.heap_setBlock_same hb _)
    obtain ⟨w', hr3, hown', _⟩ := hup val
    rw [hr2] at hr3
    injection hr3 with _ hr4
    subst hr4
    have hb2 : w2.heap[b]? = some (.map es1 clock1) := by rw [hw2]; exact ChangeMaps.heap_setBlock_same hb _
    refine ⟨_, hr1, ?_, ⟨rfl, rfl, rfl, by simp [ChangeMaps.setBlock], fun i _ hi => ChangeMaps.heap_setBlock_other hb2 _ (fun e => hi (by rw [e]))⟩, by simp [ChangeMaps.setBlock]⟩
    obtain ⟨es2, cl2, hb3, r⟩ := hown'
    refine ⟨es2, cl2, ?_, r⟩
    rw [ChangeMaps.heap_setBlock_same hb] at hb3
    rw [ChangeMaps.heap_setBlock_same hb2]
    exact hb3
end Go.Proofs.YtdfbjnachakkhaaGreatDoor

namespace Go.Proofs.YtdfbjnachakkhaaGreatDoor
open Go.ChangeShapes Go.WideShapes Go.ChangeAt Go.RowKit Go.WideMaps Go.Maps
set_option linter.unusedVariables false
/-- what lay there lies there, but for the blocks of a set -/
structure FrS (S : Nat → Prop) (w w' : World) : Prop where
  os : w'.os = w.os
  tape : w'.tape = w.tape
  output : w'.output = w.output
  size : w.heap.size ≤ w'.heap.size
  block : ∀ i, i < w.heap.size → ¬ S i → w'.heap[i]? = w.heap[i]?
theorem FrS.refl (S : Nat → Prop) (w : World) : FrS S w w := ⟨rfl, rfl, rfl, Nat.le_refl _, fun _ _ _ => rfl⟩
theorem FrS.of {S : Nat → Prop} {w w' : World} {r : Option Nat} (h : w.grownBy w' r) (hS : ∀ g, r = some g → S g ∨ w.heap.size ≤ g) : FrS S w w' :=
  ⟨h.os, h.tape, h.output, h.size, fun i hi hn => h.block i hi (fun e => (hS i e.symm).elim hn (fun k => by omega))⟩
theorem FrS.none {S : Nat → Prop} {w w' : World} (h : w.grownBy w' none) : FrS S w w' := FrS.of h (fun _ e => by cases e)
theorem FrS.trans {S S' : Nat → Prop} {a b c : World} (h : FrS S a b) (k : FrS S' b c) (hs : ∀ i, i < a.heap.size → S' i → S i) : FrS S a c :=
  ⟨k.os.trans h.os, k.tape.trans h.tape, k.output.trans h.output, Nat.le_trans h.size k.size, fun i hi hn => (k.block i (Nat.lt_of_lt_of_le hi h.size) (fun e => hn (hs i hi e))).trans (h.block i hi hn)⟩
theorem FrS.mono {S S' : Nat → Prop} {a b : World} (h : FrS S a b) (hs : ∀ i, i < a.heap.size → S i → S' i) : FrS S' a b :=
  ⟨h.os, h.tape, h.output, h.size, fun i hi hn => h.block i hi (fun e => hn (hs i hi e))⟩
theorem FrS.below {S : Nat → Prop} {w w' : World} {B : Nat} (h : FrS S w w') (hB : B ≤ w.heap.size) (hS : ∀ i, S i → B ≤ i) : Below B w w' :=
  ⟨h.os, h.tape, h.output, h.size, fun i hi => h.block i (by omega) (fun e => by have := hS i e; omega)⟩
theorem FrS.cell {S : Nat → Prop} {w w' : World} (h : FrS S w w') {p : Addr} {v : Value} (hc : w.cell? p = some v) (hS : ¬ S p.block) : w'.cell? p = some v :=
  (World.cell?_of_block (w := w) (h.block p.block (World.block_lt_of_cell? w p hc) hS)).trans hc
theorem row_kept {w w' : World} {base : Nat} {e : TypeId} {size : Nat} {v : Value} {n : Nat} {xs : List Value} (h : w.ownsRow base e size v n xs) (hk : ∀ g cur fz, v.ownBlock = some g → w.heap[g]? = some (.cells cur e fz) → w'.heap[g]? = w.heap[g]?) : w'.ownsRow base e size v n xs := by
  refine ⟨h.1, ?_⟩
  rcases h.2 with h2 | ⟨g, cap, cur, hv, hbg, hg, rest⟩
  · exact Or.inl h2
  · exact Or.inr ⟨g, cap, cur, hv, hbg, by rw [hk g cur _ (by rw [hv]; rfl) hg]; exact hg, rest⟩
/-- a row lies as before where its block is none of the set's -/
theorem FrS.row {S : Nat → Prop} {w w' : World} (hf : FrS S w w') {base : Nat} {e : TypeId} {size : Nat} {v : Value} {n : Nat} {xs : List Value} (h : w.ownsRow base e size v n xs) (hn : ∀ g cur fz, v.ownBlock = some g → w.heap[g]? = some (.cells cur e fz) → base ≤ g → ¬ S g) : w'.ownsRow base e size v n xs :=
  row_kept h (fun g cur fz hv hg => hf.block g (own_blk h hv).2 (hn g cur fz hv hg (own_blk h hv).1))
theorem FrS.map {H : Type} {S : Nat → Prop} {w w' : World} (hf : FrS S w w') {P : Program} {k : TypeId} {R : Value → Option (DataW H × List MemPlace)} {b n : Nat} {D : DataW H} (h : w.ownsMap P k R b n D) (hn : ¬ S b) : w'.ownsMap P k R b n D := by
  obtain ⟨es, clock, hb, r⟩ := h
  exact ⟨es, clock, by rw [hf.block b (Array.getElem?_eq_some_iff.1 hb).1 hn]; exact hb, r⟩
end Go.Proofs.YtdfbjnachakkhaaGreatDoor

namespace Go.Proofs.YtdfbjnachakkhaaGreatDoor
open Go.ChangeShapes Go.WideShapes Go.ChangeAt Go.RowKit Go.WideMaps Go.Maps
set_option linter.unusedVariables false
theorem infoIntA : (Tryz.prog.info? 3).map (fun i => (i.zero, i.size, i.bytes)) = some (some (.int .i64 0), 1, 8) := by kernel_rfl
theorem zeroInts (w : World) : (zeroValue 97).run Tryz.prog w = .ok (.slice none 0 0) w := by kernel_rfl
/-- a row that may be a key -/
def Row8N (a : List Nat) : Prop := a.length = 8 ∧ ∀ n ∈ a, n ≤ 1000000000000
/-- numbers as they lie -/
def numV (l : List Nat) : List Value := l.map fun n => Value.int .i64 (n : Nat)
def updF (f : List Nat → List Nat) (a l : List Nat) : List Nat → List Nat := fun b => if b = a then l else f b
/-- a map of lists of numbers: each key's list lies by itself -/
structure Idx (base b n : Nat) (w : World) (D : DataW Value) (vf : List Nat → Value) (f : List Nat → List Nat) : Prop where
  own : w.ownsMap Tryz.prog 193 heldA b n D
  at' : ∀ a, Row8N a → D.atKey (keyR a) (.held (.slice none 0 0)) = .held (vf a)
  rows : ∀ a, Row8N a → w.ownsRow base 3 1 (vf a) (f a).length (numV (f a))
  apart : ∀ a a', Row8N a → Row8N a' → a ≠ a' → (vf a).ownBlock = none ∨ (vf a).ownBlock ≠ (vf a').ownBlock
theorem Idx.start {base b : Nat} {w : World} (h : w.ownsMap Tryz.prog 193 heldA b 0 (.map [])) : Idx base b 0 w (.map []) (fun _ => .slice none 0 0) (fun _ => []) :=
  ⟨h, fun a _ => rfl, fun a _ => World.ownsRow_nil _ _ _ _, fun a a' _ _ _ => .inl rfl⟩
/-- a map's block is no row's -/
theorem idx_apart {base b n m size : Nat} {w : World} {D : DataW Value} {e : TypeId} {v : Value} {xs : List Value} (h : w.ownsMap Tryz.prog 193 heldA b n D) (ho : w.ownsRow base e size v m xs) : v.ownBlock ≠ some b := by
  obtain ⟨es, clock, hb, r⟩ := h
  intro e
  rcases ho.2 with ⟨rfl, _⟩ | ⟨g, cap, cur, rfl, _, hg, _⟩
  · cases e
  · have : g = b := Option.some.inj e
    subst this
    rw [hb] at hg; cases hg
theorem Idx.kept {base b n : Nat} {w w' : World} {D : DataW Value} {vf : List Nat → Value} {f : List Nat → List Nat} (h : Idx base b n w D vf f) (hg : w.grownBy w' none) : Idx base b n w' D vf f :=
  ⟨h.own.kept hg (by simp), h.at', fun a ha => (h.rows a ha).kept hg (by cases (vf a).ownBlock <;> simp), h.apart⟩
set_option maxRecDepth 100000 in
set_option maxHeartbeats 4000000 in
theorem add_any (base b k : Nat) (D : DataW Value) (vf : List Nat → Value) (f : List Nat → List Nat) (a : List Nat) (n : Nat) (w : World) (h : Idx base b k w D vf f) (ha : Row8N a) (hk : k ≤ 1000000000) (hfl : (f a).length ≤ 1000000000) (hn : n ≤ 1000000000000) (hbs : base ≤ w.heap.size) :
    Calls Tryz.prog 130 #[.map (some b), rowV a, .int .i64 (n : Nat)] w fun e w' => e = .returned (.tuple #[]) ∧ (∃ D' vf', Idx base b (k + 1) w' D' vf' (updF f a (f a ++ [n])) ∧ (∀ c, Row8N c → (vf' c).ownBlock = (vf c).ownBlock ∨ ∃ g, (vf' c).ownBlock = some g ∧ w.heap.size ≤ g)) ∧ FrS (fun i => i = b ∨ (vf a).ownBlock = some i) w w' := by
  obtain ⟨i0, hi, hz0, hz1, hz2⟩ := info_parts infoIntA
  have hkey := keyOf_row a ha.1 ha.2
  have HI := hide h
  have HA := hide ha
  match a, ha.1 with
  | [a0, a1, a2, a3, a4, a5, a6, a7], _ =>
    obtain ⟨a, HAE⟩ : ∃ a, Hid (a = [a0, a1, a2, a3, a4, a5, a6, a7]) := ⟨_, rfl⟩
    rw [← HAE.out] at hkey hfl HA ⊢
    obtain ⟨wA, HWA⟩ : ∃ wA, Hid (wA = (w.alloc (.cells #[.int .i64 (a0 : Nat), .int .i64 (a1 : Nat), .int .i64 (a2 : Nat), .int .i64 (a3 : Nat), .int .i64 (a4 : Nat), .int .i64 (a5 : Nat), .int .i64 (a6 : Nat), .int .i64 (a7 : Nat)] 193)).alloc (.cells #[.int .i64 (n : Nat)] 3)) := ⟨_, rfl⟩
    have hwA := HWA.out.symm
    have HGA : Hid (w.grownBy wA none) := by rw [HWA.out]; exact fr_both (fr_alloc _ _ _) (fr_alloc _ _ _)
    have HSA : Hid (wA.heap.size = w.heap.size + 2) := by show _ = _; rw [HWA.out]; simp
    have cA : wA.cell? ⟨w.heap.size + 1, 0, none⟩ = some (.int .i64 (n : Nat)) := by rw [HWA.out, World.cell?_alloc_at _ _ _ _ (by simp)]; rfl
    have HIA := hide (HI.out.kept HGA.out)
    obtain ⟨v0, st, w1, hrun, hg1, hs1, hmb, hat, hst⟩ := entry_own (t := 246) (e := 97) HIA.out.own lawRow Tryz.underlying246 zeroInts (by unfold maxLen; omega) hkey
    have hv0 : v0 = vf a := by
      have e := HIA.out.at' a HA.out
      rw [hat] at e
      injection e
    have HST := hide hst
    have hr1 : w1.ownsRow base 3 1 v0 (f a).length (numV (f a)) := by
      rw [hv0]
      have ho := HIA.out.rows a HA.out
      exact ho.kept hg1 (Or.inr (idx_apart HIA.out.own ho))
    obtain ⟨m, HM⟩ : ∃ m, Hid (m = (f a).length) := ⟨_, rfl⟩
    rw [← HM.out] at hr1 hfl
    have HR1 := hide hr1
    obtain ⟨va, vc, hve⟩ : ∃ va vc, v0 = .slice va m vc := by
      rcases hr1.2 with ⟨e, e0⟩ | ⟨g, cap, cur, e, _⟩
      · exact ⟨none, 0, by rw [e, e0]⟩
      · exact ⟨_, cap, e⟩
    have hbA : b < wA.heap.size := HIA.out.own.lt
    have hbw : b < w.heap.size := HI.out.own.lt
    have c1 : w1.cell? ⟨w.heap.size + 1, 0, none⟩ = some (.int .i64 (n : Nat)) := by
      have hblk := hg1.block (w.heap.size + 1) (by have := HSA.out; omega) (fun e => by have := Option.some.inj e; omega)
      unfold World.cell? at cA ⊢
      simp only at cA ⊢
      rw [hblk]; exact cA
    have hnews : ∀ (j : Nat) (u : Value), [Value.int IntKind.i64 (n : Nat)][j]? = some u → w1.cell? ((⟨w.heap.size + 1, 0, none⟩ : Addr).add j) = some u := by
      intro j u hj
      match j, hj with
      | 0, hj =>
        simp at hj
        subst hj
        simpa [Addr.add] using c1
    have hb1 : base ≤ w1.heap.size := by have := HSA.out; omega
    have HMB := hide hmb
    have HN1 := hide hnews
    have HG1 := hide hg1
    have HAT := hide hat
    have HS1 := hide hs1
    have HV0 := hide hv0
    clear hnews hg1 hat hs1 hv0 hmb
    dsimp only [goInt] at hrun
    have HVE := hide hve
    rw [hve] at hrun HR1
    rw [HAE.out] at hrun
    dsimp only [rowV, List.map] at hrun
    rw [HAE.out]
    dsimp only [rowV, List.map]
    rw [← HAE.out]
    go_enter Tryz.func130, Tryz.ntmps130
    go_wp2_with (at_builtin; refine wpList_append_own_at _ rfl _ _ 97 rfl base 3 i0 (.int .i64 0) 1 8 Tryz.underlying97 hi hz0 hz1 hz2 rfl (by omega) _ _ _ rfl HR1.out ⟨w.heap.size+1,0,none⟩ 1 1 [.int .i64 (n : Nat)] rfl rfl HN1.out (by simp [Value.oneCell']) (by unfold maxLen; omega) (by omega) hb1 ?_)
    intro v' w2 hown' hgrow hnil hloc
    have hnb : (Value.slice va m vc).ownBlock ≠ some b := by
      have ho := HIA.out.rows a HA.out
      have e : Value.slice va m vc = vf a := by rw [← HVE.out, HV0.out]
      rw [e]
      exact idx_apart HIA.out.own ho
    have hw2b : w2.heap[b]? = w1.heap[b]? := hgrow.block b (by have := HS1.out; omega) (fun e => hnb e.symm)
    have HB2 : Hid (∃ es ck, w2.heap[b]? = some (.map es ck)) := by
      show ∃ es ck, w2.heap[b]? = some (.map es ck)
      rw [hw2b]
      exact HMB.out
    obtain ⟨w3, hes, hown3, hg3, hs3⟩ := HST.out w2 v' hw2b (by have := hgrow.size; have := HS1.out; omega)
    have HO' := hide hown'
    have HGR := hide hgrow
    have HLO := hide hloc
    have HO3 := hide hown3
    have HG3 := hide hg3
    clear hown' hgrow hloc hown3 hg3 hs3 hw2b hnil hst
    dsimp only [goInt] at hes
    go_wp2
    go_end0
    have hve' : Value.slice va m vc = vf a := by rw [← HVE.out, HV0.out]
    have hblk : ∀ g, (vf a).ownBlock = some g → g < w.heap.size := fun g hg => (own_blk (HI.out.rows a HA.out) hg).2
    have hsz2 : wA.heap.size ≤ w2.heap.size := by have := HGR.out.size; have := HS1.out; omega
    have hloc := HLO.out
    rw [hve'] at hloc
    have hgr := HGR.out
    rw [hve'] at hgr
    have hne' : ∀ c, Row8N c → c ≠ a → v'.ownBlock = none ∨ v'.ownBlock ≠ (vf c).ownBlock := by
      intro c hc hca
      rcases hloc with e | e
      · rw [e]; exact HI.out.apart a c HA.out hc (fun e => hca e.symm)
      · right
        rw [e]
        intro e2
        have := (own_blk (HI.out.rows c hc) e2.symm).2
        have := HSA.out
        have := HS1.out
        omega
    refine ⟨rfl, ⟨_, fun c => if c = a then v' else vf c, ⟨HO3.out, ?_, ?_, ?_⟩, ?_⟩, ?_⟩
    · intro c hc
      by_cases e : c = a
      · subst e
        rw [if_pos rfl]
        exact atKey_put_same HI.out.own.isMap (by simp [keyR, WideAt.IsKeyLit]) _ _
      · rw [if_neg e, atKey_put_other (fun e2 => e (keyR_inj hc.1 HA.out.1 hc.2 HA.out.2 e2))]
        exact HI.out.at' c hc
    · intro c hc
      by_cases e : c = a
      · subst e
        rw [if_pos rfl]
        unfold updF
        rw [if_pos rfl]
        have ho := HO'.out
        rw [HM.out] at ho
        have e1 : numV (f c ++ [n]) = numV (f c) ++ [Value.int .i64 (n : Nat)] := by simp [numV]
        rw [e1, List.length_append]
        exact row_kept ho (fun g cur fz hg hc => HG3.out.block g (own_blk ho hg).2 (fun e => by
          cases e
          obtain ⟨es, ck, hm⟩ := HB2.out
          rw [hm] at hc
          cases hc))
      · rw [if_neg e]
        unfold updF
        rw [if_neg e]
        have ho := HI.out.rows c hc
        refine row_kept ho (fun g cur fz hg hcells => ?_)
        have hgb : g ≠ b := fun e => idx_apart HI.out.own ho (by rw [hg, e])
        have hgl := (own_blk ho hg).2
        have h1 := HGA.out.block g hgl (by simp)
        have h2 := HG1.out.block g (by have := HSA.out; omega) (fun e => hgb (Option.some.inj e))
        have h3 := hgr.block g (by have := HSA.out; have := HS1.out; omega) (fun e2 => by
          rcases HI.out.apart a c HA.out hc (fun e3 => e e3.symm) with e4 | e4
          · rw [e4] at e2; cases e2
          · exact e4 (by rw [hg]; exact e2.symm))
        have h4 := HG3.out.block g (by have := HSA.out; omega) (fun e => hgb (Option.some.inj e))
        rw [h4, h3, h2, h1]
    · intro c c' hc hc' hcc
      by_cases e : c = a
      · subst e
        rw [if_pos rfl, if_neg (fun e => hcc e.symm)]
        exact hne' c' hc' (fun e => hcc e.symm)
      · rw [if_neg e]
        by_cases e' : c' = a
        · subst e'
          rw [if_pos rfl]
          rcases hne' c hc e with e2 | e2
          · cases e3 : (vf c).ownBlock with
            | none => exact .inl rfl
            | some g => rw [e2]; exact .inr (by simp)
          · exact .inr (fun e3 => e2 e3.symm)
        · rw [if_neg e']
          exact HI.out.apart c c' hc hc' hcc
    · intro c hc
      dsimp only
      by_cases e : c = a
      · subst e
        rw [if_pos rfl]
        rcases hloc with e2 | e2
        · exact .inl e2
        · exact .inr ⟨_, e2, by have := HS1.out; have := HSA.out; omega⟩
      · rw [if_neg e]; exact .inl rfl
    · refine FrS.trans (S' := fun i => i = b) (FrS.trans (S' := fun i => (vf a).ownBlock = some i) (FrS.trans (S' := fun i => i = b) (FrS.none HGA.out) (FrS.of HG1.out (fun g e => .inl (Option.some.inj e).symm)) (fun i _ e => .inl e)) (FrS.of hgr (fun g e => .inl e)) (fun i _ e => .inr e)) (FrS.of HG3.out (fun g e => .inl (Option.some.inj e).symm)) (fun i _ e => .inl e)
end Go.Proofs.YtdfbjnachakkhaaGreatDoor
