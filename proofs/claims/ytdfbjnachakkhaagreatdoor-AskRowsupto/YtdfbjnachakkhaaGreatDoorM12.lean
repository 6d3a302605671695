import Derived.Test.YtdfbjnachakkhaaGreatDoorM09
import Derived.Test.YtdfbjnachakkhaaGreatDoorM10
import Derived.Test.YtdfbjnachakkhaaGreatDoorM11
import Derived.Test.YtdfbjnachakkhaaGreatDoorM08
import Derived.Deep.RegionHeld3
namespace Go.Proofs.YtdfbjnachakkhaaGreatDoor
open Go.ChangeShapes Go.WideShapes Go.ChangeAt Go.RowKit Go.Hands Go.WideMaps Go.Maps
set_option linter.unusedVariables false
set_option maxRecDepth 100000
theorem enterS11 : ∀ args w, (callFunc 60 args).run Tryz.prog w = .ok (.enter 60 args) w := enters_of Tryz.func60 (by kernel_rfl) rfl
theorem enterS1 : ∀ args w, (callFunc 58 args).run Tryz.prog w = .ok (.enter 58 args) w := enters_of Tryz.func58 (by kernel_rfl) rfl
set_option maxHeartbeats 1000000 in
theorem store11_any (base rb : Nat) (name : ByteArray) (u : Value) (pl : Nat) (ts : List PTerm) (w : World) (ra : Option Addr) (rn rc : Nat) (hr : w.cell? ⟨rb, 0, none⟩ = some (.slice ra rn rc)) (h : w.ownsRow base 65 3 u ts.length (termsV ts)) (hv : ∀ t ∈ ts, t.isVar = true) (hl : ts.length ≤ 1000000) :
    Calls Tryz.prog 60 #[.agg #[.string name, u, .int .i64 (pl : Nat)], .pointer (some ⟨rb, 0, none⟩)] w fun e w' => e = .returned (.bool true) ∧ w.grownBy w' none := by
  have HF : Hid (∀ W : World, w.grownBy W none → Calls Tryz.prog 61 #[.agg #[.string name, u, .int .i64 (pl : Nat)], .slice ra rn rc] W fun e w' => e = .returned (.bool true) ∧ W.grownBy w' none) := fun W hg => fits_any base name u u pl ts W ra rn rc (h.kept hg (by cases u.ownBlock <;> simp)) hv hl
  obtain ⟨ua, uc, hue⟩ := own_form h
  generalize ts.length = n at *
  rw [hue] at HF ⊢
  clear h hv
  obtain ⟨wb, HWB⟩ : ∃ wb, Hid (wb = w.alloc (.cells #[.string name, .slice ua n uc, .int .i64 (pl : Nat)] 63)) := ⟨_, rfl⟩
  have hwb := HWB.out.symm
  have HGB : Hid (w.grownBy wb none) := by rw [HWB.out]; exact fr_alloc _ _ _
  have hbl : wb.heap[w.heap.size]? = some (.cells #[.string name, .slice ua n uc, .int .i64 (pl : Nat)] 63) := by rw [HWB.out]; exact heap_alloc_new _ _
  have hrb := (FrS.none (S := fun _ => False) HGB.out).cell hr (fun h => h)
  have hd := fun k => (FrS.none (S := fun _ => False) (fr_draws wb k none))
  have d0 : ∀ k, (wb.drewN k).cell? ⟨w.heap.size, 0, none⟩ = some (.string name) := fun k => (hd k).cell (cell_of hbl 0 _ rfl) (fun h => h)
  have d1 : ∀ k, (wb.drewN k).cell? ⟨w.heap.size, 1, none⟩ = some (.slice ua n uc) := fun k => (hd k).cell (cell_of hbl 1 _ rfl) (fun h => h)
  have d2 : ∀ k, (wb.drewN k).cell? ⟨w.heap.size, 2, none⟩ = some (.int .i64 (pl : Nat)) := fun k => (hd k).cell (cell_of hbl 2 _ rfl) (fun h => h)
  have d3 : ∀ k, (wb.drewN k).cell? ⟨rb, 0, none⟩ = some (.slice ra rn rc) := fun k => (hd k).cell hrb (fun h => h)
  have x0 : wb.cell? ⟨w.heap.size, 0, none⟩ = some (.string name) := cell_of hbl 0 _ rfl
  have x1 : wb.cell? ⟨w.heap.size, 1, none⟩ = some (.slice ua n uc) := cell_of hbl 1 _ rfl
  have x2 : wb.cell? ⟨w.heap.size, 2, none⟩ = some (.int .i64 (pl : Nat)) := cell_of hbl 2 _ rfl
  clear hd hbl
  go_enter Tryz.func60, Tryz.ntmps60
  go_wp2_with fail
  refine (HF.out wb HGB.out).mono ?_
  rintro _ w2 ⟨rfl, hg2⟩
  have HG2 : Hid (w.grownBy w2 none) := fr_both HGB.out hg2
  clear hg2
  go_wp2
  go_ret
  exact ⟨rfl, HG2.out⟩
/-- an atom's row is among the atoms -/
structure AtomAt (B g c : Nat) (name : ByteArray) (u : Value) (pl : Nat) (base : Nat) (ts : List PTerm) (w : World) : Prop where
  own : w.ownsRow B 63 3 (.slice (some ⟨g, 0, none⟩) 1 c) 1 [.string name, u, .int .i64 (pl : Nat)]
  terms : w.ownsRow base 65 3 u ts.length (termsV ts)
  vars : ∀ t ∈ ts, t.isVar = true
  len : ts.length ≤ 1000000
theorem AtomAt.grown {B g c : Nat} {name : ByteArray} {u : Value} {pl base : Nat} {ts : List PTerm} {w w' : World} (h : AtomAt B g c name u pl base ts w) (hg : w.grownBy w' none) : AtomAt B g c name u pl base ts w' :=
  ⟨own_far h.own hg (by simp), h.terms.kept hg (by cases u.ownBlock <;> simp), h.vars, h.len⟩
set_option maxHeartbeats 1000000 in
theorem indexAtom_any (B g c rb : Nat) (name : ByteArray) (u : Value) (pl base : Nat) (ts : List PTerm) (w : World) (ra : Option Addr) (rn rc : Nat) (hr : w.cell? ⟨rb, 0, none⟩ = some (.slice ra rn rc)) (h : AtomAt B g c name u pl base ts w) :
    Calls Tryz.prog 98 #[.slice (some ⟨g, 0, none⟩) 1 c, .func (.func 60) #[] #[.pointer (some ⟨rb, 0, none⟩)]] w fun e w' => e = .returned (.int .i64 0) ∧ w.grownBy w' none := by
  have EG := enterS11
  have HF : Hid (∀ W : World, w.grownBy W none → Calls Tryz.prog 60 #[.agg #[.string name, u, .int .i64 (pl : Nat)], .pointer (some ⟨rb, 0, none⟩)] W fun e w' => e = .returned (.bool true) ∧ W.grownBy w' none) := fun W hg => store11_any base rb name u pl ts W ra rn rc ((FrS.none (S := fun _ => False) hg).cell hr (fun h => h)) (h.grown hg).terms h.vars h.len
  obtain ⟨ua, uc, hue⟩ := own_form h.terms
  have q0 := own_cell h.own (g := g) rfl 0 _ rfl
  have q1 := own_cell h.own (g := g) rfl 1 _ rfl
  have q2 := own_cell h.own (g := g) rfl 2 _ rfl
  generalize ts.length = n at *
  rw [hue] at HF q1
  clear h
  go_enter Tryz.func98, Tryz.ntmps98
  go_wp2
  refine wp_loop_rounds 1 ?_
  rw [rounds_succ]
  go_wp2_with fail
  refine (HF.out _ (fr_refl _ _)).mono ?_
  rintro _ w2 ⟨rfl, hg2⟩
  have HG2 := hide hg2
  clear hg2
  go_wp2
  go_ret
  exact ⟨rfl, HG2.out⟩
set_option maxHeartbeats 1000000 in
theorem containsAtom_any (B g c rb : Nat) (name : ByteArray) (u : Value) (pl base : Nat) (ts : List PTerm) (w : World) (ra : Option Addr) (rn rc : Nat) (hr : w.cell? ⟨rb, 0, none⟩ = some (.slice ra rn rc)) (h : AtomAt B g c name u pl base ts w) :
    Calls Tryz.prog 59 #[.slice (some ⟨g, 0, none⟩) 1 c, .func (.func 60) #[] #[.pointer (some ⟨rb, 0, none⟩)]] w fun e w' => e = .returned (.bool true) ∧ w.grownBy w' none := by
  have HIX := hide (indexAtom_any B g c rb name u pl base ts w ra rn rc hr h)
  clear h
  go_enter Tryz.func59, Tryz.ntmps59
  go_wp2_with fail
  refine HIX.out.mono ?_
  rintro _ w2 ⟨rfl, hg2⟩
  have HG2 := hide hg2
  clear hg2
  go_wp2
  go_ret
  exact ⟨rfl, HG2.out⟩
/-- the variables that a row's judge looks at -/
structure Judge (ab rlb rel am : Nat) (nm : List UInt8) (B g c : Nat) (name : ByteArray) (u : Value) (pl base : Nat) (ts : List PTerm) (w : World) : Prop where
  atoms : w.cell? ⟨ab, 0, none⟩ = some (.map (some am))
  relp : w.cell? ⟨rlb, 0, none⟩ = some (.pointer (some ⟨rel, 0, none⟩))
  rname : w.cell? ⟨rel, 0, none⟩ = some (.string (str nm))
  map : w.ownsMap Tryz.prog 9 heldA am 1 (Dat nm (.slice (some ⟨g, 0, none⟩) 1 c))
  atom : AtomAt B g c name u pl base ts w
theorem Judge.grown {ab rlb rel am : Nat} {nm : List UInt8} {B g c : Nat} {name : ByteArray} {u : Value} {pl base : Nat} {ts : List PTerm} {w w' : World} (h : Judge ab rlb rel am nm B g c name u pl base ts w) (hg : w.grownBy w' none) : Judge ab rlb rel am nm B g c name u pl base ts w' := by
  have hf := FrS.none (S := fun _ => False) hg
  exact ⟨hf.cell h.atoms (fun h => h), hf.cell h.relp (fun h => h), hf.cell h.rname (fun h => h), h.map.kept hg (by simp), h.atom.grown hg⟩
set_option maxHeartbeats 1000000 in
theorem store1_any (ab rlb rel am : Nat) (nm : List UInt8) (B g c : Nat) (name : ByteArray) (u : Value) (pl base : Nat) (ts : List PTerm) (w : World) (ra : Option Addr) (rn rc : Nat) (h : Judge ab rlb rel am nm B g c name u pl base ts w) (hnm : nm.length ≤ 1000) :
    Calls Tryz.prog 58 #[.slice ra rn rc, .pointer (some ⟨ab, 0, none⟩), .pointer (some ⟨rlb, 0, none⟩)] w fun e w' => e = .returned (.bool false) ∧ w.grownBy w' none := by
  obtain ⟨wb, HWB⟩ : ∃ wb, Hid (wb = w.alloc (.cells #[.slice ra rn rc] 28)) := ⟨_, rfl⟩
  have hwb := HWB.out.symm
  have HGB : Hid (w.grownBy wb none) := by rw [HWB.out]; exact fr_alloc _ _ _
  have hbl : wb.heap[w.heap.size]? = some (.cells #[.slice ra rn rc] 28) := by rw [HWB.out]; exact heap_alloc_new _ _
  have hr : wb.cell? ⟨w.heap.size, 0, none⟩ = some (.slice ra rn rc) := cell_of hbl 0 _ rfl
  have HJ := hide (h.grown HGB.out)
  have HD : Hid (∀ k, wb.grownBy (wb.drewN k) none) := fun k => fr_draws wb k none
  have HCO : Hid (∀ W : World, wb.grownBy W none → Calls Tryz.prog 59 #[.slice (some ⟨g, 0, none⟩) 1 c, .func (.func 60) #[] #[.pointer (some ⟨w.heap.size, 0, none⟩)]] W fun e w' => e = .returned (.bool true) ∧ W.grownBy w' none) := fun W hg => containsAtom_any B g c w.heap.size name u pl base ts W ra rn rc ((FrS.none (S := fun _ => False) hg).cell hr (fun h => h)) (HJ.out.atom.grown hg)
  have hlk : ∀ W : World, wb.grownBy W none → (Instr.lookup 127 (.map (some am)) (.string (str nm)) false).run Tryz.prog W = .ok (.slice (some ⟨g, 0, none⟩) 1 c) W := by
    intro W hg
    obtain ⟨q, ps, hrun, hq⟩ := (HJ.out.map.kept hg (by simp)).lookup keyedT Tryz.underlying127 (zeroAtoms W) (zd := .held (.slice none 0 0)) (zp := []) rfl (keyT nm hnm)
    have e := heldA_inv hq
    rw [show (Dat nm (.slice (some ⟨g, 0, none⟩) 1 c)).atKey (.string nm) (.held (.slice none 0 0)) = .held (.slice (some ⟨g, 0, none⟩) 1 c) from atKey_put_same isMap_empty (by simp [WideAt.IsKeyLit]) _ _] at e
    injection e with e
    rw [hrun, e]
  have x0 := HJ.out.atoms
  have x1 := HJ.out.relp
  have x2 := HJ.out.rname
  have l0 := hlk wb (fr_refl _ _)
  have l1 : (Instr.lookup 127 (.map (some am)) (.string (str nm)) false).run Tryz.prog wb.drew = .ok (.slice (some ⟨g, 0, none⟩) 1 c) wb.drew := hlk wb.drew (fr_draws wb 1 none)
  clear h hbl hr hlk
  generalize str nm = snm at *
  go_enter Tryz.func58, Tryz.ntmps58
  have HC2 : Hid (∀ W : World, (∃ k, W = wb.drewN k) → Calls Tryz.prog 59 #[.slice (some ⟨g, 0, none⟩) 1 c, .func (.func 60) #[] #[.pointer (some ⟨w.heap.size, 0, none⟩)]] W fun e w' => e = .returned (.bool true) ∧ Hid (w.grownBy w' none) ∧ w'.cell? ⟨ab, 0, none⟩ = some (.map (some am)) ∧ w'.cell? ⟨rlb, 0, none⟩ = some (.pointer (some ⟨rel, 0, none⟩)) ∧ w'.cell? ⟨rel, 0, none⟩ = some (.string snm)) := by
    rintro W ⟨k, rfl⟩
    refine (HCO.out _ (HD.out k)).mono ?_
    rintro e w' ⟨rfl, hg⟩
    have hf := FrS.none (S := fun _ => False) (fr_both (HD.out k) hg)
    exact ⟨rfl, fr_both HGB.out (fr_both (HD.out k) hg), hf.cell x0 (fun h => h), hf.cell x1 (fun h => h), hf.cell x2 (fun h => h)⟩
  go_wp2_with fail
  go_region_held3 (fun w' => w'.cell? ⟨ab, 0, none⟩ = some (.map (some am)) ∧ w'.cell? ⟨rlb, 0, none⟩ = some (.pointer (some ⟨rel, 0, none⟩)) ∧ w'.cell? ⟨rel, 0, none⟩ = some (.string snm)) (go_keep)
    (first | (go_at_call 59; refine (HC2.out _ ⟨_, rfl⟩).mono ?_; rintro e w2 ⟨rfl, HG2, k0, k1, k2⟩))
  all_goals go_wp2
  all_goals go_ret
  all_goals exact ⟨rfl, HG2.out⟩
end Go.Proofs.YtdfbjnachakkhaaGreatDoor

namespace Go.Proofs.YtdfbjnachakkhaaGreatDoor
open Go.ChangeShapes Go.WideShapes Go.ChangeAt Go.RowKit Go.WideMaps Go.Maps
set_option linter.unusedVariables false
set_option maxRecDepth 100000
/-- a relation whose index isn't there before it is asked for -/
def RelX (base R ix im n : Nat) (rows : List (List Nat)) (old now : Nat) (w : World) (vr vu : Value) : Prop :=
  (im = R ∧ rows = [] ∧ vr = .slice none 0 0 ∧ vu = .slice none 0 0 ∧ w.heap[R]? = some (.cells (relC n vr vu old now ix) 200 (0, 0)) ∧ w.ownsMap Tryz.prog 244 heldA ix 0 (.map []) ∧ base ≤ R ∧ base ≤ ix) ∨ ∃ DM vf, RelB base R ix im n rows old now w vr vu DM vf
theorem RelX.blk {base R ix im n : Nat} {rows : List (List Nat)} {old now : Nat} {w : World} {vr vu : Value} (h : RelX base R ix im n rows old now w vr vu) : w.heap[R]? = some (.cells (relC n vr vu old now ix) 200 (0, 0)) := by
  rcases h with h | ⟨_, _, h⟩
  · exact h.2.2.2.2.1
  · exact h.blk
theorem RelX.rws {base R ix im n : Nat} {rows : List (List Nat)} {old now : Nat} {w : World} {vr vu : Value} (h : RelX base R ix im n rows old now w vr vu) : w.ownsRow base 193 8 vr rows.length (flatR rows) := by
  rcases h with ⟨_, rfl, rfl, _⟩ | ⟨_, _, h⟩
  · exact World.ownsRow_nil _ _ _ _
  · exact h.rws
theorem RelX.rds {base R ix im n : Nat} {rows : List (List Nat)} {old now : Nat} {w : World} {vr vu : Value} (h : RelX base R ix im n rows old now w vr vu) : w.ownsRow base 3 1 vu rows.length (List.replicate rows.length (.int .i64 0)) := by
  rcases h with ⟨_, rfl, _, rfl, _⟩ | ⟨_, _, h⟩
  · exact World.ownsRow_nil _ _ _ _
  · exact h.rds
theorem RelX.ixlt {base R ix im n : Nat} {rows : List (List Nat)} {old now : Nat} {w : World} {vr vu : Value} (h : RelX base R ix im n rows old now w vr vu) : ix < w.heap.size := by
  rcases h with h | ⟨_, _, h⟩
  · exact h.2.2.2.2.2.1.lt
  · exact h.ixm.lt
theorem RelX.lowR {base R ix im n : Nat} {rows : List (List Nat)} {old now : Nat} {w : World} {vr vu : Value} (h : RelX base R ix im n rows old now w vr vu) : base ≤ R := by
  rcases h with h | ⟨_, _, h⟩
  · exact h.2.2.2.2.2.2.1
  · exact h.lowR
theorem RelX.kept {base R ix im n : Nat} {rows : List (List Nat)} {old now : Nat} {w w' : World} {vr vu : Value} (h : RelX base R ix im n rows old now w vr vu) {S : Nat → Prop} (hf : FrS S w w') (hR : ¬ S R) (hix : ¬ S ix) (him : ¬ S im) (hc : ∀ g cur e fz, base ≤ g → w.heap[g]? = some (.cells cur e fz) → (e = 193 ∨ e = 3) → ¬ S g) : RelX base R ix im n rows old now w' vr vu := by
  rcases h with ⟨h1, h2, h3, h4, h5, h6, h7⟩ | ⟨DM, vf, h⟩
  · exact .inl ⟨h1, h2, h3, h4, by rw [hf.block R (Array.getElem?_eq_some_iff.1 h5).1 hR]; exact h5, hf.map h6 hix, h7⟩
  · exact .inr ⟨DM, vf, h.kept hf hR hix him hc⟩
theorem RelX.grown {base R ix im n : Nat} {rows : List (List Nat)} {old now : Nat} {w w' : World} {vr vu : Value} (h : RelX base R ix im n rows old now w vr vu) (hg : w.grownBy w' none) : RelX base R ix im n rows old now w' vr vu :=
  h.kept (S := fun _ => False) (FrS.none hg) (fun h => h) (fun h => h) (fun h => h) (fun _ _ _ _ _ _ _ h => h)
set_option maxHeartbeats 1000000 in
theorem has_fresh (base R ix n old now : Nat) (a : List Nat) (w : World) (hb : w.heap[R]? = some (.cells (relC n (.slice none 0 0) (.slice none 0 0) old now ix) 200 (0, 0))) (hm : w.ownsMap Tryz.prog 244 heldA ix 0 (.map [])) (hn : n ≤ 8) (ha : Row8N a) :
    Calls Tryz.prog 129 #[.pointer (some ⟨R, 0, none⟩), rowV a] w fun e w' => e = .returned (.bool false) ∧ (∃ im DM vf, w.heap.size ≤ im ∧ Idx w.heap.size im 0 w' DM vf (fun _ => []) ∧ w'.ownsMap Tryz.prog 244 heldA ix 1 (Dix n im)) ∧ w.grownBy w' (some ix) := by
  have hpow : 2 ^ n - 1 ≤ 255 := by
    have : 2 ^ n ≤ 2 ^ 8 := Nat.pow_le_pow_right (by omega) hn
    omega
  have HW : Hid (∀ W : World, w.grownBy W none → Calls Tryz.prog 173 #[.pointer (some ⟨R, 0, none⟩)] W fun e w' => e = .returned (.int .i64 ((2 ^ n - 1 : Nat) : Int)) ∧ w' = W) := fun W hg => whole_any R n W ((FrS.none (S := fun _ => False) hg).cell (cell_of hb 0 _ (relC0 _ _ _ _ _ _)) (by simp)) hn
  have HX : Hid (∀ W : World, w.grownBy W none → Calls Tryz.prog 172 #[.pointer (some ⟨R, 0, none⟩), .int .i64 ((2 ^ n - 1 : Nat) : Int)] W fun e w' => ∃ im DM vf, e = .returned (.map (some im)) ∧ w.heap.size ≤ im ∧ Idx w.heap.size im 0 w' DM vf (fun _ => []) ∧ w'.ownsMap Tryz.prog 244 heldA ix 1 (Dix n im) ∧ W.grownBy w' (some ix)) := by
    intro W hg
    have hf := FrS.none (S := fun _ => False) hg
    refine (index_new R ix n 0 n w.heap.size (.map []) (.slice none 0 0) [] W hn (hf.cell (cell_of hb 1 _ (relC1 _ _ _ _ _ _)) (by simp)) (hf.cell (cell_of hb 5 _ (relC5 _ _ _ _ _ _)) (by simp)) (hm.kept hg (by simp)) (by omega) rfl (World.ownsRow_nil _ _ _ _) (fun a h => by simp at h) (by simp)).mono ?_
    rintro e w' ⟨im, DM, vf, rfl, him, hI, hM, hG⟩
    exact ⟨im, DM, vf, rfl, Nat.le_trans hg.size him, ⟨hI.own, hI.at', fun a ha => own_lower (hI.rows a ha) hg.size, hI.apart⟩, hM, hG⟩
  obtain ⟨c, HC⟩ : ∃ c : Int, Hid (c = ((2 ^ n - 1 : Nat) : Int)) := ⟨_, rfl⟩
  rw [← HC.out] at HW HX
  have HA := hide ha
  have hixl := hm.lt
  clear hm hb
  obtain ⟨a0, a1, a2, a3, a4, a5, a6, a7, HAE⟩ : ∃ a0 a1 a2 a3 a4 a5 a6 a7, Hid (a = [a0, a1, a2, a3, a4, a5, a6, a7]) := by
    exact row8 a ha.1
  have hrv : rowV a = .agg #[.int .i64 (a0 : Nat), .int .i64 (a1 : Nat), .int .i64 (a2 : Nat), .int .i64 (a3 : Nat), .int .i64 (a4 : Nat), .int .i64 (a5 : Nat), .int .i64 (a6 : Nat), .int .i64 (a7 : Nat)] := by rw [HAE.out]; rfl
  have HRV := hide hrv
  rw [hrv]
  clear hrv ha
  go_enter Tryz.func129, Tryz.ntmps129
  obtain ⟨wA, HWA⟩ : ∃ wA, Hid (wA = (w.alloc (.cells #[.int .i64 (a0 : Nat), .int .i64 (a1 : Nat), .int .i64 (a2 : Nat), .int .i64 (a3 : Nat), .int .i64 (a4 : Nat), .int .i64 (a5 : Nat), .int .i64 (a6 : Nat), .int .i64 (a7 : Nat)] 193))) := ⟨_, rfl⟩
  have hwA := HWA.out.symm
  have HGA : Hid (w.grownBy wA none) := by rw [HWA.out]; exact fr_alloc _ _ _
  have HGD : Hid (∀ k, w.grownBy (wA.drewN k) none) := fun k => fr_both HGA.out (fr_draws _ _ _)
  have q0 : wA.cell? ⟨w.heap.size, 0, none⟩ = some (.int .i64 (a0 : Nat)) := by rw [HWA.out, World.cell?_alloc_at _ _ _ _ (by simp)]; rfl
  have q1 : wA.cell? ⟨w.heap.size, 1, none⟩ = some (.int .i64 (a1 : Nat)) := by rw [HWA.out, World.cell?_alloc_at _ _ _ _ (by simp)]; rfl
  have q2 : wA.cell? ⟨w.heap.size, 2, none⟩ = some (.int .i64 (a2 : Nat)) := by rw [HWA.out, World.cell?_alloc_at _ _ _ _ (by simp)]; rfl
  have q3 : wA.cell? ⟨w.heap.size, 3, none⟩ = some (.int .i64 (a3 : Nat)) := by rw [HWA.out, World.cell?_alloc_at _ _ _ _ (by simp)]; rfl
  have q4 : wA.cell? ⟨w.heap.size, 4, none⟩ = some (.int .i64 (a4 : Nat)) := by rw [HWA.out, World.cell?_alloc_at _ _ _ _ (by simp)]; rfl
  have q5 : wA.cell? ⟨w.heap.size, 5, none⟩ = some (.int .i64 (a5 : Nat)) := by rw [HWA.out, World.cell?_alloc_at _ _ _ _ (by simp)]; rfl
  have q6 : wA.cell? ⟨w.heap.size, 6, none⟩ = some (.int .i64 (a6 : Nat)) := by rw [HWA.out, World.cell?_alloc_at _ _ _ _ (by simp)]; rfl
  have q7 : wA.cell? ⟨w.heap.size, 7, none⟩ = some (.int .i64 (a7 : Nat)) := by rw [HWA.out, World.cell?_alloc_at _ _ _ _ (by simp)]; rfl
  have HQ : Hid (∀ W : World, (∃ k, W = wA.drewN k) → Calls Tryz.prog 172 #[.pointer (some ⟨R, 0, none⟩), .int .i64 c] W fun e w' => ∃ im xa xc, e = .returned (.map (some im)) ∧ Hid (∃ DM vf, w.heap.size ≤ im ∧ Idx w.heap.size im 0 w' DM vf (fun _ => []) ∧ w'.ownsMap Tryz.prog 244 heldA ix 1 (Dix n im)) ∧ Hid (w.grownBy w' (some ix)) ∧ ((Instr.lookup 246 (.map (some im)) (.agg #[.int .i64 (a0 : Nat), .int .i64 (a1 : Nat), .int .i64 (a2 : Nat), .int .i64 (a3 : Nat), .int .i64 (a4 : Nat), .int .i64 (a5 : Nat), .int .i64 (a6 : Nat), .int .i64 (a7 : Nat)]) false).run Tryz.prog w' = .ok (.slice xa 0 xc) w') ∧ w'.cell? ⟨w.heap.size, 0, none⟩ = some (.int .i64 (a0 : Nat)) ∧ w'.cell? ⟨w.heap.size, 1, none⟩ = some (.int .i64 (a1 : Nat)) ∧ w'.cell? ⟨w.heap.size, 2, none⟩ = some (.int .i64 (a2 : Nat)) ∧ w'.cell? ⟨w.heap.size, 3, none⟩ = some (.int .i64 (a3 : Nat)) ∧ w'.cell? ⟨w.heap.size, 4, none⟩ = some (.int .i64 (a4 : Nat)) ∧ w'.cell? ⟨w.heap.size, 5, none⟩ = some (.int .i64 (a5 : Nat)) ∧ w'.cell? ⟨w.heap.size, 6, none⟩ = some (.int .i64 (a6 : Nat)) ∧ w'.cell? ⟨w.heap.size, 7, none⟩ = some (.int .i64 (a7 : Nat))) := by
    rintro W ⟨k, rfl⟩
    refine (HX.out _ (HGD.out k)).mono ?_
    rintro e w' ⟨im, DM, vf, rfl, him, hI, hM, hG⟩
    obtain ⟨xa, xc, hxe⟩ := own_form (hI.rows a HA.out)
    have hfr : FrS (fun i => i = ix) wA w' := FrS.trans (FrS.none (fr_draws wA k none)) (FrS.of hG (fun g e => .inl (Option.some.inj e).symm)) (fun i _ e => e)
    have hne : ¬ w.heap.size = ix := by omega
    refine ⟨im, xa, xc, rfl, ⟨DM, vf, him, hI, hM⟩, ?_, ?_, hfr.cell q0 hne, hfr.cell q1 hne, hfr.cell q2 hne, hfr.cell q3 hne, hfr.cell q4 hne, hfr.cell q5 hne, hfr.cell q6 hne, hfr.cell q7 hne⟩
    · exact fr_trans (fr_weak (HGD.out k) _) hG (fun g hg => Or.inl rfl)
    · have hl := hI.look a HA.out
      rw [hxe, HRV.out] at hl
      exact hl
  have HW2 : Hid (∀ W : World, (∃ k, W = wA.drewN k) → Calls Tryz.prog 173 #[.pointer (some ⟨R, 0, none⟩)] W fun e w' => e = .returned (.int .i64 c) ∧ w' = W) := by
    rintro W ⟨k, rfl⟩
    exact HW.out _ (HGD.out k)
  go_wp2_with fail
  go_region_held3 (fun w' => w'.cell? ⟨w.heap.size, 0, none⟩ = some (.int .i64 (a0 : Nat)) ∧ w'.cell? ⟨w.heap.size, 1, none⟩ = some (.int .i64 (a1 : Nat)) ∧ w'.cell? ⟨w.heap.size, 2, none⟩ = some (.int .i64 (a2 : Nat)) ∧ w'.cell? ⟨w.heap.size, 3, none⟩ = some (.int .i64 (a3 : Nat)) ∧ w'.cell? ⟨w.heap.size, 4, none⟩ = some (.int .i64 (a4 : Nat)) ∧ w'.cell? ⟨w.heap.size, 5, none⟩ = some (.int .i64 (a5 : Nat)) ∧ w'.cell? ⟨w.heap.size, 6, none⟩ = some (.int .i64 (a6 : Nat)) ∧ w'.cell? ⟨w.heap.size, 7, none⟩ = some (.int .i64 (a7 : Nat))) (go_keep)
    (first | (go_at_call 173; refine (HW2.out _ ⟨_, rfl⟩).mono ?_; rintro e _ ⟨rfl, rfl⟩) | (go_at_call 172; refine (HQ.out _ ⟨_, rfl⟩).mono ?_; rintro e w2 ⟨im, xa, xc, rfl, HE2, HG2, hlk, k0, k1, k2, k3, k4, k5, k6, k7⟩))
  all_goals go_wp2
  all_goals go_ret
  all_goals exact ⟨rfl, ⟨_, HE2.out⟩, HG2.out⟩
/-- whether a row is there that isn't -/
theorem has_x (base R ix im0 n : Nat) (rows : List (List Nat)) (old now : Nat) (a : List Nat) (w : World) (vr vu : Value) (h : RelX base R ix im0 n rows old now w vr vu) (hn : n ≤ 8) (ha : Row8N a) (hnew : a ∉ rows) :
    Calls Tryz.prog 129 #[.pointer (some ⟨R, 0, none⟩), rowV a] w fun e w' => e = .returned (.bool false) ∧ (∃ im DM vf, RelB base R ix im n rows old now w' vr vu DM vf ∧ (im = im0 ∨ w.heap.size ≤ im)) ∧ w.grownBy w' (some ix) := by
  rcases h with ⟨h1, h2, h3, h4, h5, h6, h7, h8⟩ | ⟨DM, vf, h⟩
  · subst h2 h3 h4
    refine (has_fresh base R ix n old now a w h5 h6 hn ha).mono ?_
    rintro e w' ⟨rfl, ⟨im, DM, vf, him, hI, hM⟩, hG⟩
    have hRl : R < w.heap.size := (Array.getElem?_eq_some_iff.1 h5).1
    have hixR : ix ≠ R := by
      rintro rfl
      obtain ⟨es, ck, hq, _⟩ := h6
      rw [hq] at h5; cases h5
    have hb : base ≤ w.heap.size := by omega
    have hixl : ix < w.heap.size := h6.lt
    refine ⟨rfl, ⟨im, DM, vf, ⟨?_, World.ownsRow_nil _ _ _ _, World.ownsRow_nil _ _ _ _, hM, ⟨hI.own, hI.at', fun c hc => own_lower (hI.rows c hc) hb, hI.apart⟩, fun c hc => by simp at hc, by omega, h7, h8, by omega, fun c hc => .inl rfl⟩, .inr him⟩, hG⟩
    rw [hG.block R hRl (fun e => hixR (Option.some.inj e).symm)]
    exact h5
  · have hempty : posK n rows rows.length a = [] := posK_none n rows a rows.length (Nat.le_refl _) (fun b hb e => hnew (by rw [← e, (h.rok b hb).2]; exact hb))
    refine (has_none base R ix im0 n rows old now a w vr vu DM vf h hn ha hempty).mono ?_
    rintro e w' ⟨rfl, hg⟩
    exact ⟨rfl, ⟨im0, DM, vf, h.grown hg, .inl rfl⟩, fr_weak hg _⟩
end Go.Proofs.YtdfbjnachakkhaaGreatDoor
