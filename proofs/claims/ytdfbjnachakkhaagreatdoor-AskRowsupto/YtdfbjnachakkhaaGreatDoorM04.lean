import Derived.Test.YtdfbjnachakkhaaGreatDoorM01
import Derived.Test.YtdfbjnachakkhaaGreatDoorM03
import Derived.Shelf.Abstract
import Derived.Test.YtdfbjnachakkhaaGreatDoorM02
import Derived.Maps.OwnIn
import Derived.Maps.Views
import Derived.Maps.OwnSet
namespace Go.Proofs.YtdfbjnachakkhaaGreatDoor
open Go.ChangeShapes Go.WideShapes Go.ChangeAt Go.RowKit Go.Hands
set_option linter.unusedVariables false
/-- an atom as it is handed out: with its part's kind, and where its terms lie -/
structure BX where
  kind : Nat
  name : List UInt8
  n : Nat
  ua : Option Addr
  uc : Nat
  place : Nat
  args : List PTerm
def BX.atomV (x : BX) : Value := .agg #[.string (str x.name), .slice x.ua x.n x.uc, .int .i64 (x.place : Nat)]
def sliceA : Value → Option Addr
  | .slice a _ _ => a
  | _ => none
def sliceC : Value → Nat
  | .slice _ _ c => c
  | _ => 0
def bxOf (p : PPart) (u : Value) : BX := ⟨p.kind, p.atom.name, p.atom.args.length, sliceA u, sliceC u, p.atom.place, p.atom.args⟩
/-- the atoms of a body, in their order -/
def bodyX (ps : List PPart) (vs : List Value) : List BX := ((ps.zip vs).filter fun q => q.1.kind == 0 || q.1.kind == 1).map fun q => bxOf q.1 q.2
theorem bodyX_next (ps : List PPart) (vs : List Value) (k : Nat) (h1 : k < ps.length) (h2 : k < vs.length) : bodyX (ps.take (k + 1)) (vs.take (k + 1)) = bodyX (ps.take k) (vs.take k) ++ (if ps[k].kind == 0 || ps[k].kind == 1 then [bxOf ps[k] vs[k]] else []) := by
  unfold bodyX
  rw [List.take_succ_eq_append_getElem h1, List.take_succ_eq_append_getElem h2, List.zip_append (by simp; omega), List.filter_append, List.map_append]
  congr 1
  by_cases hk : (ps[k].kind == 0 || ps[k].kind == 1) <;> simp [hk]
theorem bodyX_split (ps : List PPart) (vs : List Value) (k : Nat) (hl : vs.length = ps.length) : bodyX ps vs = bodyX (ps.take k) (vs.take k) ++ bodyX (ps.drop k) (vs.drop k) := by
  unfold bodyX
  conv => lhs; rw [← List.take_append_drop k ps, ← List.take_append_drop k vs, List.zip_append (by simp; omega), List.filter_append, List.map_append]
theorem own_slice {w : World} {base : Nat} {e : TypeId} {size : Nat} {v : Value} {n : Nat} {xs : List Value} (h : w.ownsRow base e size v n xs) : v = .slice (sliceA v) n (sliceC v) := by
  rcases h.2 with ⟨rfl, h0⟩ | ⟨g, cap, cur, rfl, _⟩
  · rw [h0]; rfl
  · rfl
set_option maxRecDepth 100000 in
set_option maxHeartbeats 1000000 in
theorem hasAtom_any (p : PPart) (ua : Option Addr) (un uc : Nat) (w : World) (hk : p.kind ≤ 1000) :
    Calls Tryz.prog 50 #[.agg (partV p (.slice ua un uc)).toArray] w fun e w' => e = .returned (.bool (p.kind == 0 || p.kind == 1)) ∧ Below w.heap.size w w' := by
  obtain ⟨k, HK⟩ : ∃ k, Hid (k = p.kind) := ⟨_, rfl⟩
  have hkk : k ≤ 1000 := by rw [HK.out]; exact hk
  unfold partV
  rw [← HK.out]
  clear HK hk
  by_cases h0 : k = 0
  · subst h0
    go_enter Tryz.func50, Tryz.ntmps50
    go_wp2
    go_ret
    exact ⟨rfl, (Below.refl _ _).alloc (Nat.le_refl _) _⟩
  · by_cases h1 : k = 1
    · subst h1
      go_enter Tryz.func50, Tryz.ntmps50
      go_wp2
      go_ret
      exact ⟨rfl, (Below.refl _ _).alloc (Nat.le_refl _) _⟩
    · have e0 : ((k : Int) == 0) = false := by rw [beq_eq_false_iff_ne]; omega
      have e1 : ((k : Int) == 1) = false := by rw [beq_eq_false_iff_ne]; omega
      have HE : Hid ((k == 0 || k == 1) = false) := by show _ = _; simp; omega
      go_enter Tryz.func50, Tryz.ntmps50
      go_wp2
      go_ret
      exact ⟨ret_bool HE.out.symm, (Below.refl _ _).alloc (Nat.le_refl _) _⟩
set_option maxRecDepth 100000 in
set_option maxHeartbeats 1000000 in
theorem body_any (name : ByteArray) (ha : Option Addr) (hn hc : Nat) (place : Int) (ba : Option Addr) (bn bc : Nat) (w : World) :
    Calls Tryz.prog 26 #[.agg #[.string name, .slice ha hn hc, .int .i64 place, .slice ba bn bc]] w fun e w' => e = .returned (.func (.func 49) #[] #[.pointer (some ⟨w.heap.size, 0, none⟩)]) ∧ w' = w.alloc (.cells #[.string name, .slice ha hn hc, .int .i64 place, .slice ba bn bc] 82) := by
  go_enter Tryz.func26, Tryz.ntmps26
  go_wp2
  go_ret
  exact ⟨rfl, rfl⟩
attribute [local go_sem] Oper.semAt_some
set_option maxRecDepth 100000 in
set_option maxHeartbeats 4000000 in
theorem body_hands0 (n base Bn : Nat) (bd : Value) (ps : List PPart) (vs : List Value) (M : Nat → Prop) (w0 w : World) (hw0 : Rnd M w0 w) (hbox : w.cell? ⟨Bn, 3, none⟩ = some bd) (hparts : PartsAt 65 67 base w0 bd ps vs) (hlow : ∀ g, bd.ownBlock = some g → ¬ M g)
    (hM : ∀ k, M k → k ≠ Bn) (hl : ps.length ≤ 1000000) (hkd : ∀ p ∈ ps, p.kind ≤ 1000) :
    Hands Fence.wide n Tryz.prog 49 #[.pointer (some ⟨Bn, 0, none⟩)] (fun x : BX => #[.int .i64 (x.kind : Nat), x.atomV]) M (fun ys => ys = bodyX ps vs) (fun pre => pre <+: bodyX ps vs) w := by
  intro l Mx J Jx W hW hMx hJ hJx hY h0
  have hbW := hW.cell hbox (fun hm => hM _ hm rfl)
  have HJ : Hid (Low W.heap.size J) := hJ
  have HY := hide hY
  have HBX : Hid (W.cell? ⟨Bn, 3, none⟩ = some bd) := hbW
  have hBn : Bn < W.heap.size := World.block_lt_of_cell? W ⟨Bn, 3, none⟩ hbW
  refine callsIn_of_wp Tryz.func49 rfl trivial ?_ rfl
  simp only [Tryz.ntmps49, List.size_toArray, List.length_cons, List.length_nil, Nat.reduceAdd, Nat.reduceSub, Array.replicate_succ, Array.replicate_zero, List.push_toArray, List.append_toArray, List.nil_append, List.cons_append]
  have HKD := hide hkd
  have HLN : Hid (vs.length = ps.length) := hparts.len
  have HAR : Hid (∀ (i : Nat) (p : PPart) (u : Value), ps[i]? = some p → vs[i]? = some u → u = .slice (sliceA u) p.atom.args.length (sliceC u)) := fun i p u hp hu => own_slice (hparts.args i p u hp hu)
  have HPC : Hid (∀ k, k < ps.length → ∃ g, sliceA bd = some ⟨g, 0, none⟩ ∧ g < W.heap.size ∧ ¬ M g ∧ ∀ (p : PPart) (u : Value), ps[k]? = some p → vs[k]? = some u → ∀ (j : Nat) (x : Value), (partV p u)[j]? = some x → W.cell? ⟨g, k * 10 + j, none⟩ = some x) := by
    intro k hk
    rcases own_parts hparts with ⟨_, rfl⟩ | ⟨g, cap, rfl, _, hgw, hc, _⟩
    · simp at hk
    · have hnm : ¬ M g := hlow g rfl
      exact ⟨g, rfl, Nat.lt_of_lt_of_le hgw (Nat.le_trans hw0.size hW.size), hnm, fun p u hp hu j x hx => hW.cell (hw0.cell (hc k p u hp hu j x hx) hnm) hnm⟩
  have hbd := own_slice hparts.own
  obtain ⟨bda, HBA⟩ : ∃ a, Hid (a = sliceA bd) := ⟨_, rfl⟩
  obtain ⟨bdc, HBC⟩ : ∃ c, Hid (c = sliceC bd) := ⟨_, rfl⟩
  rw [← HBA.out, ← HBC.out] at hbd
  rw [← HBA.out] at HPC
  rw [hbd] at hbW
  clear hparts hlow hbd HBA HBC HBX hW hJ hY hkd hbox
  have H0 := hide h0
  clear h0
  gi_wp2
  gi_loopw [8] (fun iv wr => ∃ k : Nat, k ≤ ps.length ∧ iv = .int .i64 k ∧ Hid (J (bodyX (ps.take k) (vs.take k)) wr) ∧ Hid (Rnd M W wr)) (fun iv _ => ps.length - (intOf iv).toNat)
  case atStart => exact ⟨0, by omega, rfl, H0, Rnd.refl _ _⟩
  case round =>
    obtain ⟨k, hk, rfl, HJK, HRW⟩ := hrel
    by_cases hlt : k < ps.length
    · have hlv : k < vs.length := by have := HLN.out; omega
      obtain ⟨g, rfl, hgw, hgm, hc⟩ := HPC.out k hlt
      have hc2 := hc ps[k] vs[k] (List.getElem?_eq_getElem hlt) (List.getElem?_eq_getElem hlv)
      have hus := HAR.out k _ _ (List.getElem?_eq_getElem hlt) (List.getElem?_eq_getElem hlv)
      have HBN : Hid (bodyX (ps.take (k + 1)) (vs.take (k + 1)) = bodyX (ps.take k) (vs.take k) ++ (if ps[k].kind == 0 || ps[k].kind == 1 then [bxOf ps[k] vs[k]] else [])) := bodyX_next ps vs k hlt hlv
      have hkp : ps[k].kind ≤ 1000 := HKD.out _ (List.getElem_mem hlt)
      have HBXE : Hid (bxOf ps[k] vs[k] = ⟨ps[k].kind, ps[k].atom.name, ps[k].atom.args.length, sliceA vs[k], sliceC vs[k], ps[k].atom.place, ps[k].atom.args⟩) := rfl
      rw [hus] at hc2
      obtain ⟨p, HP⟩ : ∃ p, Hid (p = ps[k]) := ⟨ps[k], (rfl : ps[k] = _)⟩
      rw [← HP.out] at hc2 hkp HBXE HBN
      obtain ⟨ua, HUA⟩ : ∃ ua, Hid (ua = sliceA vs[k]) := ⟨sliceA vs[k], (rfl : sliceA vs[k] = _)⟩
      obtain ⟨uc, HUC⟩ : ∃ uc, Hid (uc = sliceC vs[k]) := ⟨sliceC vs[k], (rfl : sliceC vs[k] = _)⟩
      rw [← HUA.out, ← HUC.out] at hc2 HBXE
      have hcw : ∀ (j : Nat) (x : Value), (partV p (.slice ua p.atom.args.length uc))[j]? = some x → wr.cell? ⟨g, k * 10 + j, none⟩ = some x := fun j x hx => HRW.out.cell (hc2 j x hx) hgm
      have q0 := hcw 0 _ rfl
      rw [Nat.add_zero] at q0
      have q1 := hcw 1 _ rfl
      have q2 := hcw 2 _ rfl
      have q3 := hcw 3 _ rfl
      have q4 := hcw 4 _ rfl
      have q5 := hcw 5 _ rfl
      have q6 := hcw 6 _ rfl
      have q7 := hcw 7 _ rfl
      have q8 := hcw 8 _ rfl
      have q9 := hcw 9 _ rfl
      clear hc hc2 hus hcw
      have HSP : Hid (bodyX ps vs = bodyX (ps.take (k + 1)) (vs.take (k + 1)) ++ bodyX (ps.drop (k + 1)) (vs.drop (k + 1))) := bodyX_split ps vs (k + 1) HLN.out
      gi_wp2_with fail
      obtain ⟨wb, HWB⟩ : ∃ wb, Hid (wb = wr.alloc (.cells (partV p (.slice ua p.atom.args.length uc)).toArray 67)) := ⟨_, rfl⟩
      have HRB : Hid (Rnd M W wb) := by rw [HWB.out]; exact HRW.out.alloc _
      have HBB : Hid (Below W.heap.size wr wb) := by rw [HWB.out]; exact (Below.refl _ _).alloc HRW.out.size _
      have HCB : Hid (∀ (j : Nat) (x : Value), (partV p (.slice ua p.atom.args.length uc))[j]? = some x → wb.cell? ⟨wr.heap.size, j, none⟩ = some x) := by
        intro j x hx
        rw [HWB.out, World.cell?_alloc_at _ _ _ _ rfl]
        simpa using hx
      have HSB : Hid (wr.heap.size < wb.heap.size) := by rw [HWB.out]; simp [Hid]
      rw [show (wr.alloc (.cells #[Value.int IntKind.i64 (p.kind : Nat), Value.string (str p.atom.name), Value.slice ua p.atom.args.length uc, Value.int IntKind.i64 (p.atom.place : Nat), Value.bool p.left.isVar, Value.string (str p.left.text), Value.int IntKind.i64 (p.left.place : Nat), Value.bool p.right.isVar, Value.string (str p.right.text), Value.int IntKind.i64 (p.right.place : Nat)] 67)) = wb from HWB.out.symm]
      clear HWB q0 q1 q2 q3 q4 q5 q6 q7 q8 q9
      refine ⟨trivial, fun h => (by cases h), ?_⟩
      refine (callsIn_wide.2 (hasAtom_any p ua p.atom.args.length uc wb hkp)).mono ?_
      rintro e w1 ⟨rfl, hb1⟩
      have hcw : ∀ (j : Nat) (x : Value), (partV p (.slice ua p.atom.args.length uc))[j]? = some x → w1.cell? ⟨wr.heap.size, j, none⟩ = some x := fun j x hx => (hb1.cell (p := ⟨wr.heap.size, j, none⟩) HSB.out).trans (HCB.out j x hx)
      have r0 := hcw 0 _ rfl
      have r1 := hcw 1 _ rfl
      have r2 := hcw 2 _ rfl
      have r3 := hcw 3 _ rfl
      have HB1 : Hid (Below W.heap.size wr w1) := HBB.out.trans (hb1.mono (by have := HRB.out.size; omega))
      have HR1 : Hid (Rnd M W w1) := HRB.out.trans (Rnd.of_below hb1)
      have HJ1 : Hid (J (bodyX (ps.take k) (vs.take k)) w1) := HJ.out _ _ _ HJK.out HB1.out
      clear hb1 hcw
      cases hkk : (p.kind == 0 || p.kind == 1) with
      | true =>
        rw [hkk] at HBN
        have HBN2 : Hid (bodyX (ps.take (k + 1)) (vs.take (k + 1)) = bodyX (ps.take k) (vs.take k) ++ [⟨p.kind, p.atom.name, p.atom.args.length, ua, uc, p.atom.place, p.atom.args⟩]) := by
          show _ = _
          rw [HBN.out, if_pos rfl, ← HBXE.out, HP.out]
        have hlen : bodyX (ps.take k) (vs.take k) ++ [⟨p.kind, p.atom.name, p.atom.args.length, ua, uc, p.atom.place, p.atom.args⟩] <+: bodyX ps vs := ⟨_, by rw [← HBN2.out]; exact HSP.out.symm⟩
        obtain ⟨fn, tmps, assign, body, hy, hR⟩ := HY.out _ ⟨p.kind, p.atom.name, p.atom.args.length, ua, uc, p.atom.place, p.atom.args⟩ w1 HJ1.out HR1.out hlen
        dsimp only [BX.atomV] at hy
        have HRR := hide hR
        clear hR hlen hkk
        gi_wp2
        refine ⟨fun h => (by cases h), HRR.out.mono ?_⟩
        rintro e W3 (⟨rfl, hJ3, hr3⟩ | ⟨rfl, hJx3, -⟩)
        · have HJ3 : Hid (J (bodyX (ps.take (k + 1)) (vs.take (k + 1))) W3) := by rw [HBN2.out]; exact hJ3
          have HR3 : Hid (Rnd M W W3) := HR1.out.trans hr3
          clear hJ3 hr3
          gi_wp2
          go_roundw
          case rel => exact ⟨k + 1, by omega, by go_num, HJ3, HR3⟩
          case measure => simp [intOf]; omega
        · have HX3 : Hid (∃ pre, pre <+: bodyX ps vs ∧ Jx pre W3) := ⟨bodyX (ps.take (k + 1)) (vs.take (k + 1)), ⟨_, HSP.out.symm⟩, by rw [HBN2.out]; exact hJx3⟩
          clear hJx3
          gi_wp2
          refine bodyPost_ret (results_none rfl _ _ _) rfl ?_
          exact ⟨⟨_, rfl⟩, .inr HX3.out⟩
      | false =>
        rw [hkk] at HBN
        have HJ3 : Hid (J (bodyX (ps.take (k + 1)) (vs.take (k + 1))) w1) := by
          have e : bodyX (ps.take (k + 1)) (vs.take (k + 1)) = bodyX (ps.take k) (vs.take k) := by rw [HBN.out, if_neg (by simp), List.append_nil]
          rw [e]; exact HJ1.out
        clear hkk HBN
        gi_wp2
        go_roundw
        case rel => exact ⟨k + 1, by omega, by go_num, HJ3, HR1⟩
        case measure => simp [intOf]; omega
    · have HE : Hid (J (bodyX ps vs) wr) := by
        have := HJK.out
        rw [List.take_of_length_le (by omega), List.take_of_length_le (by have := HLN.out; omega)] at this
        exact this
      gi_wp2
      go_end0
      exact ⟨⟨_, rfl⟩, .inl ⟨_, rfl, HE.out, HRW.out⟩⟩
theorem body_hands (n base Bn n₀ : Nat) (bd : Value) (ps : List PPart) (vs : List Value) (M : Nat → Prop) (w0 w : World) (hw0 : Rnd M w0 w) (hbox : w.cell? ⟨Bn, 3, none⟩ = some bd) (hparts : PartsAt 65 67 base w0 bd ps vs) (hlow : ∀ g, bd.ownBlock = some g → g < n₀)
    (hM : ∀ k, M k → n₀ ≤ k ∧ k ≠ Bn) (hl : ps.length ≤ 1000000) (hkd : ∀ p ∈ ps, p.kind ≤ 1000) :
    Hands Fence.wide n Tryz.prog 49 #[.pointer (some ⟨Bn, 0, none⟩)] (fun x : BX => #[.int .i64 (x.kind : Nat), x.atomV]) M (fun ys => ys = bodyX ps vs) (fun pre => pre <+: bodyX ps vs) w :=
  body_hands0 n base Bn bd ps vs M w0 w hw0 hbox hparts (fun g hg hm => by have := hlow g hg; have := (hM g hm).1; omega) (fun k hm => (hM k hm).2) hl hkd
end Go.Proofs.YtdfbjnachakkhaaGreatDoor

namespace Go.Proofs.YtdfbjnachakkhaaGreatDoor
open Go.ChangeShapes Go.WideShapes Go.ChangeAt Go.RowKit Go.Hands
set_option linter.unusedVariables false
attribute [local go_sem] Oper.semAt_some
/-- a rule in a box -/
structure RuleBox (w : World) (B : Nat) (name : List UInt8) (ha : Option Addr) (hn hc place : Nat) (bd : Value) : Prop where
  c0 : w.cell? ⟨B, 0, none⟩ = some (.string (str name))
  c1 : w.cell? ⟨B, 1, none⟩ = some (.slice ha hn hc)
  c2 : w.cell? ⟨B, 2, none⟩ = some (.int .i64 (place : Nat))
  c3 : w.cell? ⟨B, 3, none⟩ = some bd
theorem RuleBox.rnd {M : Nat → Prop} {w w' : World} {B : Nat} {name : List UInt8} {ha : Option Addr} {hn hc place : Nat} {bd : Value} (h : RuleBox w B name ha hn hc place bd) (hr : Rnd M w w') (hm : ¬ M B) : RuleBox w' B name ha hn hc place bd :=
  ⟨hr.cell h.c0 hm, hr.cell h.c1 hm, hr.cell h.c2 hm, hr.cell h.c3 hm⟩
end Go.Proofs.YtdfbjnachakkhaaGreatDoor

namespace Go.Proofs.YtdfbjnachakkhaaGreatDoor
open Go.ChangeShapes Go.WideShapes Go.ChangeAt Go.RowKit Go.Hands
set_option linter.unusedVariables false
attribute [local go_sem] Oper.semAt_some
theorem Rnd.weak {M : Nat → Prop} {A B : World} (h : Rnd (fun _ => False) A B) : Rnd M A B := h.mono (fun _ h => h.elim)
end Go.Proofs.YtdfbjnachakkhaaGreatDoor

namespace Go.Proofs.YtdfbjnachakkhaaGreatDoor
open Go.ChangeShapes Go.WideShapes Go.ChangeAt Go.RowKit Go.Hands Go.WideMaps Go.Maps
set_option linter.unusedVariables false
attribute [local go_sem] Oper.semAt_some
theorem keyedS : Keyed Tryz.prog 9 := string_keyed Tryz.underlying9
theorem zeroI (w : World) : (zeroValue 3).run Tryz.prog w = .ok (.int .i64 0) w := by kernel_rfl
theorem mapAt {P : Program} {k : TypeId} {R : Value → Option (DataW Unit × List MemPlace)} {b n : Nat} {D : DataW Unit} {w W : World} (h : w.ownsMap P k R b n D) (hk : W.heap[b]? = w.heap[b]?) : W.ownsMap P k R b n D := by
  obtain ⟨es, clock, hb, r⟩ := h
  exact ⟨es, clock, hk.trans hb, r⟩
theorem mapLt {P : Program} {k : TypeId} {R : Value → Option (DataW Unit × List MemPlace)} {b n : Nat} {D : DataW Unit} {w : World} (h : w.ownsMap P k R b n D) : b < w.heap.size := by
  obtain ⟨es, clock, hb, r⟩ := h
  rcases Nat.lt_or_ge b w.heap.size with h' | h'
  · exact h'
  · rw [Array.getElem?_eq_none h'] at hb; cases hb
end Go.Proofs.YtdfbjnachakkhaaGreatDoor

namespace Go.Proofs.YtdfbjnachakkhaaGreatDoor
set_option linter.unusedVariables false
/-- has an atom of Kind 0 that variable? -/
def boundV (body : List PPart) (v : List UInt8) : Bool := body.any (fun p => decide (p.kind = 0) && p.atom.args.any (fun t => t.isVar && t.text == v))
def partTerms (p : PPart) : List PTerm := if p.kind < 2 then p.atom.args else [p.left, p.right]
end Go.Proofs.YtdfbjnachakkhaaGreatDoor

namespace Go.Proofs.YtdfbjnachakkhaaGreatDoor
open Go.ChangeShapes Go.WideShapes Go.ChangeAt Go.RowKit Go.Hands Go.WideMaps Go.Maps
set_option linter.unusedVariables false
attribute [local go_sem] Oper.semAt_some
theorem zeroU (w : World) : (zeroValue 76).run Tryz.prog w = .ok (.agg #[]) w := by kernel_rfl
/-- where an atom's terms lie -/
def TermsX (w : World) (x : BX) : Prop := x.args = [] ∨ ∃ g, x.ua = some ⟨g, 0, none⟩ ∧ g < w.heap.size ∧ ∀ k (hk : k < x.args.length), w.cell? ⟨g, k * 3, none⟩ = some (.bool x.args[k].isVar) ∧ w.cell? ⟨g, k * 3 + 1, none⟩ = some (.string (str x.args[k].text)) ∧ w.cell? ⟨g, k * 3 + 2, none⟩ = some (.int .i64 (x.args[k].place : Nat))
theorem bodyX_mem {ps : List PPart} {vs : List Value} {x : BX} (h : x ∈ bodyX ps vs) : ∃ (i : Nat) (p : PPart) (u : Value), ps[i]? = some p ∧ vs[i]? = some u ∧ (p.kind == 0 || p.kind == 1) = true ∧ x = bxOf p u := by
  unfold bodyX at h
  obtain ⟨q, hq, rfl⟩ := List.mem_map.1 h
  obtain ⟨hq1, hq2⟩ := List.mem_filter.1 hq
  obtain ⟨i, hi⟩ := List.mem_iff_getElem?.1 hq1
  rw [List.getElem?_zip_eq_some] at hi
  exact ⟨i, q.1, q.2, hi.1, hi.2, hq2, rfl⟩
theorem body_terms {tT tP : TypeId} {base : Nat} {w : World} {v : Value} {ps : List PPart} {vs : List Value} (h : PartsAt tT tP base w v ps vs) {x : BX} (hx : x ∈ bodyX ps vs) : x.n = x.args.length ∧ TermsX w x := by
  obtain ⟨i, p, u, hp, hu, _, rfl⟩ := bodyX_mem hx
  refine ⟨rfl, ?_⟩
  rcases own_terms (h.args i p u hp hu) with ⟨_, h0⟩ | ⟨g, cap, rfl, _, hg, hc⟩
  · exact .inl h0
  · exact .inr ⟨g, rfl, hg, hc⟩
/-- the variables among terms -/
def tvs (ts : List PTerm) : List (List UInt8) := (ts.filter (·.isVar)).map (·.text)
def bindsX (l : List BX) : List (List UInt8) := l.flatMap fun x => if x.kind = 0 then tvs x.args else []
theorem bindsX_snoc (l : List BX) (x : BX) : bindsX (l ++ [x]) = bindsX l ++ (if x.kind = 0 then tvs x.args else []) := by simp [bindsX]
theorem tvs_len (ts : List PTerm) : (tvs ts).length ≤ ts.length := by unfold tvs; rw [List.length_map]; exact List.length_filter_le _ _
theorem tvs_next (ts : List PTerm) (k : Nat) (h : k < ts.length) : tvs (ts.take (k + 1)) = tvs (ts.take k) ++ (if ts[k].isVar then [ts[k].text] else []) := by
  unfold tvs
  rw [List.take_succ_eq_append_getElem h, List.filter_append, List.map_append]
  congr 1
  by_cases hv : ts[k].isVar <;> simp [hv]
theorem bindsX_len (l : List BX) (h : ∀ x ∈ l, x.args.length ≤ 1000000) : (bindsX l).length ≤ l.length * 1000000 := by
  induction l with
  | nil => simp [bindsX]
  | cons x l ih =>
    have h1 := ih (fun y hy => h y (List.mem_cons_of_mem _ hy))
    have h2 := h x (List.mem_cons_self ..)
    have h3 := tvs_len x.args
    have e : bindsX (x :: l) = (if x.kind = 0 then tvs x.args else []) ++ bindsX l := by simp [bindsX]
    rw [e, List.length_append, List.length_cons]
    split
    · omega
    · rw [List.length_nil]; omega
/-- the set of these, as the map that holds it reads -/
def litsU (l : List (List UInt8)) : List Lit := l.map Lit.string
abbrev setU (l : List (List UInt8)) : DataW Unit := setOf (.agg []) (litsU l)
theorem setU_snoc (l : List (List UInt8)) (t : List UInt8) : setU (l ++ [t]) = (setU l).put (.string t) (.agg []) := by
  rw [setU, litsU, List.map_append]; exact setOf_snoc _ _ _
theorem setU_has (l : List (List UInt8)) (t : List UInt8) : Maps.has (setU l) (.string t) = decide (t ∈ l) := by
  have hk : ∀ x ∈ litsU l, WideAt.IsKeyLit x := by
    intro x hx
    obtain ⟨q, _, rfl⟩ := List.mem_map.1 hx
    simp [WideAt.IsKeyLit]
  rw [setU, has_setOf _ _ _ hk, litsU, List.any_map, Bool.eq_iff_iff, List.any_eq_true, decide_eq_true_iff]
  constructor
  · rintro ⟨q, hq, h⟩
    by_cases e : (Lit.string q) = Lit.string t
    · injection e with e; rw [← e]; exact hq
    · simp only [Function.comp_apply] at h
      rw [sameKey_ne e] at h; cases h
  · intro h
    exact ⟨t, h, by simp only [Function.comp_apply]; exact WideAt.sameKey_self (by simp [WideAt.IsKeyLit])⟩
/-- the set is what the body binds -/
theorem bindsX_bound (ps : List PPart) (vs : List Value) (hl : vs.length = ps.length) (v : List UInt8) : decide (v ∈ bindsX (bodyX ps vs)) = boundV ps v := by
  rw [Bool.eq_iff_iff, decide_eq_true_iff]
  unfold boundV bindsX
  rw [List.mem_flatMap, List.any_eq_true]
  constructor
  · rintro ⟨x, hx, hv⟩
    obtain ⟨i, p, u, hp, hu, hk, rfl⟩ := bodyX_mem hx
    refine ⟨p, List.mem_of_getElem? hp, ?_⟩
    by_cases h0 : p.kind = 0
    · simp only [bxOf, h0, if_true] at hv
      obtain ⟨t, ht, rfl⟩ := List.mem_map.1 hv
      obtain ⟨ht1, ht2⟩ := List.mem_filter.1 ht
      simp only [h0, decide_true, Bool.true_and, List.any_eq_true]
      exact ⟨t, ht1, by simp [ht2]⟩
    · simp [bxOf, h0] at hv
  · rintro ⟨p, hp, h⟩
    simp only [Bool.and_eq_true, decide_eq_true_eq, List.any_eq_true] at h
    obtain ⟨h0, t, ht, htv, hte⟩ := h
    obtain ⟨i, hi⟩ := List.mem_iff_getElem?.1 hp
    have hlt : i < ps.length := (List.getElem?_eq_some_iff.1 hi).1
    have hu : vs[i]? = some (vs[i]'(by omega)) := List.getElem?_eq_getElem (by omega)
    refine ⟨bxOf p (vs[i]'(by omega)), ?_, ?_⟩
    · unfold bodyX
      refine List.mem_map.2 ⟨(p, vs[i]'(by omega)), List.mem_filter.2 ⟨List.mem_iff_getElem?.2 ⟨i, List.getElem?_zip_eq_some.2 ⟨hi, hu⟩⟩, by simp [h0]⟩, rfl⟩
    · simp only [bxOf, h0, if_true, tvs]
      exact List.mem_map.2 ⟨t, List.mem_filter.2 ⟨ht, htv⟩, by simpa using hte⟩
set_option maxRecDepth 100000 in
set_option maxHeartbeats 4000000 in
theorem binds_any (base : Nat) (name : ByteArray) (ha : Option Addr) (hn hc : Nat) (place : Int) (bd : Value) (ps : List PPart) (vs : List Value) (w0 w : World) (hw0 : Rnd (fun _ => False) w0 w) (hparts : PartsAt 65 67 base w0 bd ps vs)
    (hl : ps.length ≤ 1000000) (hkd : ∀ p ∈ ps, p.kind ≤ 1000) (hb : ∀ x ∈ bodyX ps vs, x.args.length ≤ 1000000 ∧ ∀ t ∈ x.args, t.text.length ≤ 1000000) :
    Calls Tryz.prog 52 #[.agg #[.string name, .slice ha hn hc, .int .i64 place, bd]] w fun e w' => ∃ (b nn : Nat), w.heap.size ≤ b ∧ e = .returned (.map (some b)) ∧ w'.ownsMap Tryz.prog 9 unitElem b nn (setU (bindsX (bodyX ps vs))) ∧ Below w.heap.size w w' := by
  have hmm := @run_makeMap Tryz.prog
  have hbd := own_slice hparts.own
  obtain ⟨bda, HBA⟩ : ∃ a, Hid (a = sliceA bd) := ⟨_, rfl⟩
  obtain ⟨bdc, HBC⟩ : ∃ c, Hid (c = sliceC bd) := ⟨_, rfl⟩
  rw [← HBA.out, ← HBC.out] at hbd
  have HPS := hide hparts
  have HW0 := hide hw0
  have HKD := hide hkd
  have HBB := hide hb
  have HBD := hide hbd
  clear hparts hw0 hkd hb HBA HBC
  rw [hbd]
  clear hbd
  obtain ⟨W2, HW2⟩ : ∃ W2, Hid (W2 = ((w.alloc (.cells #[.string name, .slice ha hn hc, .int .i64 place, .slice bda ps.length bdc] 82)).alloc (.map #[] 0)).alloc (.cells #[.map (some (w.heap.size + 1))] 73)) := ⟨_, rfl⟩
  have HB2 : Hid (Below w.heap.size w W2) := by rw [HW2.out]; exact (((Below.refl _ _).alloc (Nat.le_refl _) _).alloc (by simp) _).alloc (by simp; omega) _
  have HR2 : Hid (Rnd (fun _ => False) w W2) := by rw [HW2.out]; exact (((Rnd.refl _ _).alloc _).alloc _).alloc _
  have HS2 : Hid (W2.heap.size = w.heap.size + 3) := by show _ = _; rw [HW2.out]; simp
  have c2 : W2.cell? ⟨w.heap.size + 1 + 1, 0, none⟩ = some (.map (some (w.heap.size + 1))) := by
    rw [HW2.out, World.cell?_alloc_at _ _ _ _ (by simp)]; rfl
  have HM2 : Hid (W2.ownsMap Tryz.prog 9 unitElem (w.heap.size + 1) 0 (setU [])) := by
    have h1 := World.ownsMap_made (H := Unit) (w.alloc (.cells #[.string name, .slice ha hn hc, .int .i64 place, .slice bda ps.length bdc] 82)) Tryz.prog 9 unitElem
    rw [World.size_alloc] at h1
    refine mapAt h1 ?_
    rw [HW2.out]
    exact Below.heap_alloc _ _ _ (by simp)
  obtain ⟨n, hn1⟩ : ∃ n : Nat, 30 ≤ n := ⟨30, by omega⟩
  refine (callsIn_wide (n := n)).1 ?_
  refine callsIn_of_wp_marks Tryz.func52 rfl trivial ?_ rfl
  simp only [Tryz.ntmps52, List.size_toArray, List.length_cons, List.length_nil, Nat.reduceAdd, Nat.reduceSub, Array.replicate_succ, Array.replicate_zero, List.push_toArray, List.append_toArray, List.nil_append, List.cons_append]
  gi_wp2_with fail
  have hW2 := HW2.out.symm
  rw [hW2]
  clear hW2
  refine ⟨trivial, fun h => (by cases h), ?_⟩
  refine (callsIn_wide.2 (body_any name ha hn hc place bda ps.length bdc W2)).mono ?_
  rintro e W4 ⟨rfl, hW4⟩
  have HW4 := hide hW4
  have HR24 : Hid (Rnd (fun _ => False) W2 W4) := by rw [HW4.out]; exact (Rnd.refl _ _).alloc _
  have HS4 : Hid (W4.heap.size = W2.heap.size + 1) := by show _ = _; rw [HW4.out]; simp
  have b4 : W4.cell? ⟨W2.heap.size, 3, none⟩ = some bd := by rw [HW4.out, HBD.out, World.cell?_alloc_at _ _ _ _ rfl]; rfl
  have HM4 : Hid (W4.ownsMap Tryz.prog 9 unitElem (w.heap.size + 1) 0 (setU [])) := mapAt HM2.out (HR24.out.block _ (by have := HS2.out; omega) (fun h => h))
  have c4 := HR24.out.cell c2 (fun h => h)
  have HR4 : Hid (Rnd (fun _ => False) w W4) := HR2.out.trans HR24.out
  have HS0 : Hid (w0.heap.size ≤ w.heap.size) := HW0.out.size
  clear hW4 HW4 c2 HM2
  gi_wp2
  refine range_hands rfl (by omega) (gf := 49) (lb := #[.pointer (some ⟨W2.heap.size, 0, none⟩)]) rfl trivial (enters_of Tryz.func49 (by kernel_rfl) rfl)
    (body_hands (n - 1) base W2.heap.size w0.heap.size bd ps vs (fun k => k = w.heap.size + 1) w0 W4 (Rnd.weak (HW0.out.trans HR4.out)) b4 HPS.out (fun g hg => (own_blk HPS.out.own hg).2) (fun k hm => by have := HS4.out; have := HS2.out; have := HS0.out; subst hm; omega) hl HKD.out)
    (Rnd.refl _ _) (fun k hm => by have := HS4.out; have := HS2.out; have := HS0.out; have hm2 : k = w.heap.size + 1 := hm; omega) (fun _ => False) (fun k hm => hm.elim) (fun _ => rfl)
    (fun pre W' => Below w.heap.size w W' ∧ W'.cell? ⟨w.heap.size + 1 + 1, 0, none⟩ = some (.map (some (w.heap.size + 1))) ∧ W'.ownsMap Tryz.prog 9 unitElem (w.heap.size + 1) (bindsX pre).length (setU (bindsX pre)))
    (fun _ _ _ => False)
    (fun s A C h hb => ⟨h.1.trans (hb.mono (by have := HS4.out; have := HS2.out; have := HS0.out; omega)), (hb.cell (p := ⟨w.heap.size + 1 + 1, 0, none⟩) (by have := HS4.out; have := HS2.out; have := HS0.out; show w.heap.size + 1 + 1 < _; omega)).trans h.2.1, mapAt h.2.2 (hb.block _ (by have := HS4.out; have := HS2.out; have := HS0.out; omega))⟩)
    (fun c s A C h hb => h)
    ⟨HR4.out.below (n := w.heap.size) (Nat.le_refl _) (fun _ h => h.elim), c4, HM4.out⟩
    (fun x a' W' => ∃ Bx, W'.cell? ⟨Bx, 0, none⟩ = some (.string (str x.name)) ∧ W'.cell? ⟨Bx, 1, none⟩ = some (.slice x.ua x.n x.uc) ∧ W'.cell? ⟨Bx, 2, none⟩ = some (.int .i64 (x.place : Nat)) ∧ a' = { tmps := #[.agg #[.string name, .slice ha hn hc, .int .i64 place, .slice bda ps.length bdc], .pointer (some ⟨w.heap.size, 0, none⟩), .map none, .pointer (some ⟨w.heap.size + 1 + 1, 0, none⟩), .int .i64 (x.kind : Nat), .pointer (some ⟨Bx, 0, none⟩), undef, undef, .map (some (w.heap.size + 1)), .agg #[.string name, .slice ha hn hc, .int .i64 place, .slice bda ps.length bdc], .func (.func 49) #[] #[.pointer (some ⟨W2.heap.size, 0, none⟩)], .int .i64 (x.kind : Nat), x.atomV, undef, undef, undef, undef, undef, undef, undef, undef, undef, undef, undef, undef, undef, undef, undef, undef, undef], defers := [] })
    ?hAx ?assign ?body ?done ?stop
  case hAx =>
    rintro x a' W' l' r o hl' ⟨Bx, h0, h1, h2, rfl⟩
    exact ⟨Bx, cell_put_loop hl' h0, cell_put_loop hl' h1, cell_put_loop hl' h2, rfl⟩
  case assign =>
    rintro l' pre ⟨xk, xn, xl, xa, xc, xp, xts⟩ W' K hsz hi hK
    have HK := hide hK
    clear hK hi
    dsimp only [BX.atomV]
    gi_wp2
    refine HK.out _ _ ((Rnd.refl _ _).alloc _) ⟨W'.heap.size, ?_, ?_, ?_, rfl⟩ <;> (rw [World.cell?_alloc_at _ _ _ _ rfl]; rfl)
  case body =>
    rintro l' pre x a' W' hsz ⟨hb, hcc, hown⟩ ⟨Bx, h0, h1, h2, rfl⟩ hlen
    have hmem : x ∈ bodyX ps vs := hlen.subset (by simp)
    obtain ⟨hxn, hxt⟩ := body_terms HPS.out hmem
    obtain ⟨hxa, hxs⟩ := HBB.out x hmem
    have HBS := hide hb
    have HSN : Hid (bindsX (pre ++ [x]) = bindsX pre ++ (if x.kind = 0 then tvs x.args else [])) := bindsX_snoc pre x
    have hpl : (bindsX pre).length ≤ pre.length * 1000000 := bindsX_len pre (fun y hy => (HBB.out y (hlen.subset (List.mem_append_left _ hy))).1)
    have hpn : pre.length ≤ 1000000 := by
      have e1 := hlen.length_le
      have e2 : (bodyX ps vs).length ≤ ps.length := by
        unfold bodyX; rw [List.length_map]
        refine Nat.le_trans (List.length_filter_le _ _) ?_
        rw [List.length_zip]; omega
      simp at e1; omega
    have hnn : (bindsX pre).length ≤ 1000000000000 := Nat.le_trans hpl (by omega)
    clear hlen hmem hb hpl hpn
    by_cases hk0 : x.kind = 0
    · have HSN2 : Hid (bindsX (pre ++ [x]) = bindsX pre ++ tvs x.args) := by show _ = _; rw [HSN.out, if_pos hk0]
      have hbn : ((x.kind : Int) != 0) = false := by simp [hk0]
      rw [hxn] at h1
      obtain ⟨ts, HTS⟩ : ∃ ts, Hid (ts = x.args) := ⟨_, rfl⟩
      have hxt2 : ts = [] ∨ ∃ g, x.ua = some ⟨g, 0, none⟩ ∧ g < w.heap.size ∧ ∀ k (hk : k < ts.length), W'.cell? ⟨g, k * 3, none⟩ = some (.bool ts[k].isVar) ∧ W'.cell? ⟨g, k * 3 + 1, none⟩ = some (.string (str ts[k].text)) ∧ W'.cell? ⟨g, k * 3 + 2, none⟩ = some (.int .i64 (ts[k].place : Nat)) := by
        rw [HTS.out]
        rcases hxt with h | ⟨g, hg1, hg2, hg3⟩
        · exact .inl h
        · refine .inr ⟨g, hg1, Nat.lt_of_lt_of_le hg2 HS0.out, fun k hk => ?_⟩
          obtain ⟨t0, t1, t2⟩ := hg3 k hk
          have hgw : g < w.heap.size := Nat.lt_of_lt_of_le hg2 HS0.out
          exact ⟨(HBS.out.cell (p := ⟨g, k * 3, none⟩) hgw).trans (HW0.out.cell t0 (fun h => h)), (HBS.out.cell (p := ⟨g, k * 3 + 1, none⟩) hgw).trans (HW0.out.cell t1 (fun h => h)), (HBS.out.cell (p := ⟨g, k * 3 + 2, none⟩) hgw).trans (HW0.out.cell t2 (fun h => h))⟩
      rw [← HTS.out] at h1 hxa hxs HSN2
      have HXT := hide hxt2
      have HXS := hide hxs
      have HOWN := hide hown
      clear hxt hxt2 hxs hown hxn
      gi_wp2
      gi_loopw [18] (fun iv wr => ∃ k : Nat, k ≤ ts.length ∧ iv = .int .i64 k ∧ Hid (Rnd (fun k => k = w.heap.size + 1) W' wr) ∧ Hid (wr.ownsMap Tryz.prog 9 unitElem (w.heap.size + 1) ((bindsX pre).length + (tvs (ts.take k)).length) (setU (bindsX pre ++ tvs (ts.take k))))) (fun iv _ => ts.length - (intOf iv).toNat)
      case atStart => exact ⟨0, by omega, rfl, Rnd.refl _ _, by simpa [tvs] using HOWN⟩
      case round =>
        obtain ⟨k, hk, rfl, HRW, HMO⟩ := hrel
        by_cases hlt : k < ts.length
        · rcases HXT.out with h | ⟨g, hgx, hgw, hgc⟩
          · exfalso; rw [h] at hlt; simp at hlt
          · rw [hgx]
            have hgm : ¬ (g = w.heap.size + 1) := by omega
            obtain ⟨t0, t1, t2⟩ := hgc k hlt
            replace t0 := HRW.out.cell t0 hgm
            replace t1 := HRW.out.cell t1 hgm
            replace t2 := HRW.out.cell t2 hgm
            have HTN : Hid (tvs (ts.take (k + 1)) = tvs (ts.take k) ++ (if ts[k].isVar then [ts[k].text] else [])) := tvs_next ts k hlt
            have hsx : ts[k].text.length ≤ 1000000 := HXS.out _ (List.getElem_mem hlt)
            obtain ⟨t, HT⟩ : ∃ t, Hid (t = ts[k]) := ⟨ts[k], (rfl : ts[k] = _)⟩
            rw [← HT.out] at t0 t1 t2 HTN hsx
            have hkey : keyOf Tryz.prog 9 (.string (str t.text)) = some (.string t.text) := by
              have := keyOf_string_mk Tryz.underlying9 (s := str t.text) (by rw [str_size]; unfold maxLen; omega)
              rw [data_str] at this; exact this
            obtain ⟨sx, HSX⟩ : ∃ sx, Hid (sx = str t.text) := ⟨_, rfl⟩
            rw [← HSX.out] at hkey t1
            obtain ⟨wb, HWB⟩ : ∃ wb, Hid (wb = wr.alloc (.cells #[.bool t.isVar, .string sx, .int .i64 (t.place : Nat)] 65)) := ⟨_, rfl⟩
            have HRB : Hid (Rnd (fun k => k = w.heap.size + 1) W' wb) := by rw [HWB.out]; exact HRW.out.alloc _
            have b0 : wb.cell? ⟨wr.heap.size, 0, none⟩ = some (.bool t.isVar) := by rw [HWB.out, World.cell?_alloc_at _ _ _ _ rfl]; rfl
            have b1 : wb.cell? ⟨wr.heap.size, 1, none⟩ = some (.string sx) := by rw [HWB.out, World.cell?_alloc_at _ _ _ _ rfl]; rfl
            have cb := HRB.out.cell hcc (fun e => by have e2 : w.heap.size + 1 + 1 = w.heap.size + 1 := e; omega)
            have hownb : wb.ownsMap Tryz.prog 9 unitElem (w.heap.size + 1) ((bindsX pre).length + (tvs (ts.take k)).length) (setU (bindsX pre ++ tvs (ts.take k))) := mapAt HMO.out (by rw [HWB.out]; exact Below.heap_alloc _ _ _ (mapLt HMO.out))
            have hwb := HWB.out.symm
            have htl := tvs_len (ts.take k)
            rw [List.length_take] at htl
            clear hgc hgx
            cases htv : t.isVar with
            | true =>
              rw [htv] at t0 b0 HTN hwb
              have HT2 : Hid (tvs (ts.take (k + 1)) = tvs (ts.take k) ++ [t.text]) := by show _ = _; rw [HTN.out, if_pos rfl]
              gi_wp2_with (first
                | (gi_at_mapUpdate; refine wpListIn_mapUpdate_own _ rfl _ _ _ 73 rfl 9 76 keyedS Tryz.underlying73 _ (w.heap.size + 1) _ _ rfl hownb (by unfold maxLen; omega) _ _ _ rfl rfl hkey _ [] unitElem_mk ?_; intro w1 hown1 hgrow1)
                | fail)
              have R1 : Hid (w1.ownsMap Tryz.prog 9 unitElem (w.heap.size + 1) ((bindsX pre).length + (tvs (ts.take (k + 1))).length) (setU (bindsX pre ++ tvs (ts.take (k + 1))))) := by
                rw [HT2.out, ← List.append_assoc, setU_snoc, List.length_append]; exact hown1
              have R2 : Hid (Rnd (fun k => k = w.heap.size + 1) W' w1) := HRB.out.trans (Rnd.grown hgrow1 (fun k e => by cases e; rfl))
              clear hown1 hgrow1 hownb hwb b0 b1 t0 t1 t2 cb
              gi_wp2
              go_roundw
              case rel => exact ⟨k + 1, by omega, by go_num, R2, R1⟩
              case measure => simp [intOf]; omega
            | false =>
              rw [htv] at t0 b0 HTN hwb
              have HT2 : Hid (tvs (ts.take (k + 1)) = tvs (ts.take k)) := by show _ = _; rw [HTN.out, if_neg (by simp), List.append_nil]
              have R1 : Hid (wb.ownsMap Tryz.prog 9 unitElem (w.heap.size + 1) ((bindsX pre).length + (tvs (ts.take (k + 1))).length) (setU (bindsX pre ++ tvs (ts.take (k + 1))))) := by rw [HT2.out]; exact hownb
              gi_wp2
              go_roundw
              case rel => exact ⟨k + 1, by omega, by go_num, HRB, R1⟩
              case measure => simp [intOf]; omega
        · have HE : Hid (wr.ownsMap Tryz.prog 9 unitElem (w.heap.size + 1) (bindsX (pre ++ [x])).length (setU (bindsX (pre ++ [x])))) := by
            have := HMO.out
            rw [List.take_of_length_le (by omega)] at this
            rw [HSN2.out, List.length_append]; exact this
          gi_wp2
          refine ⟨HRW.out, ?_, HRW.out.cell hcc (fun e => by have e2 : w.heap.size + 1 + 1 = w.heap.size + 1 := e; omega), HE.out⟩
          exact HBS.out.trans (HRW.out.below (n := w.heap.size) HBS.out.size (fun k e => by have e2 : k = w.heap.size + 1 := e; omega))
    · have HSN2 : Hid (bindsX (pre ++ [x]) = bindsX pre) := by show _ = _; rw [HSN.out, if_neg hk0, List.append_nil]
      have hbn : ((x.kind : Int) != 0) = true := by simp; omega
      gi_wp2
      exact ⟨Rnd.refl _ _, HBS.out, hcc, by rw [HSN2.out]; exact hown⟩
  case done =>
    rintro D xs W' hD rfl ⟨hb, hcc, hown⟩ hd
    gi_wp2
    refine ⟨by simp, .inl ⟨_, _, rfl, run_takeDeferred hd, ?_⟩⟩
    have hDW : w.heap.size ≤ D := by have := HS4.out; have := HS2.out; have := HS0.out; omega
    refine ⟨_, results_tmp rfl _ _ _, w.heap.size + 1, _, Nat.le_succ _, rfl, mapAt hown (World.putObj_heap_other (by have := HS4.out; have := HS2.out; have := HS0.out; omega)), hb.trans (below_put hDW)⟩
  case stop =>
    rintro D c pre W' hD hpre h hd
    exact h.elim
end Go.Proofs.YtdfbjnachakkhaaGreatDoor
