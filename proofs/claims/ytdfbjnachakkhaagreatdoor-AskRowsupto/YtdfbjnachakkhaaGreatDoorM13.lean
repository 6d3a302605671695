import Derived.Test.YtdfbjnachakkhaaGreatDoorM12
import Derived.Test.YtdfbjnachakkhaaGreatDoorM10
import Derived.Deep.AppendLies
import Derived.Deep.RegionLaw
namespace Go.Proofs.YtdfbjnachakkhaaGreatDoor
open Go.ChangeShapes Go.WideShapes Go.ChangeAt Go.RowKit Go.WideMaps Go.Maps
set_option linter.unusedVariables false
set_option maxRecDepth 100000
theorem hold_world {F P : World → Prop} {G : Prop} (h1 : (∀ w, F w → P w) → G) (h2 : ∀ w, F w → P w) : G := h1 h2
theorem zeroPtrR (w : World) : (zeroValue 137).run Tryz.prog w = .ok (.pointer none) w := by kernel_rfl
/-- the relations of one name -/
def Done (name : List UInt8) (R : Nat) : DataW Value := (DataW.map []).put (.string name) (.held (.pointer (some ⟨R, 0, none⟩)))
theorem Done_at (name : List UInt8) (R : Nat) (z : DataW Value) : (Done name R).atKey (.string name) z = .held (.pointer (some ⟨R, 0, none⟩)) := atKey_put_same isMap_empty (by simp [WideAt.IsKeyLit]) _ _
theorem rel_look {w : World} {rm n : Nat} {D : DataW Value} (h : w.ownsMap Tryz.prog 9 heldA rm n D) (t : List UInt8) (ht : t.length ≤ 1000) (v : Value) (hv : D.atKey (.string t) (.held (.pointer none)) = .held v) :
    (Instr.lookup 101 (.map (some rm)) (.string (str t)) false).run Tryz.prog w = .ok v w := by
  obtain ⟨u, ps, hrun, hu⟩ := h.lookup keyedT Tryz.underlying101 (zeroPtrR w) (zd := .held (.pointer none)) (zp := []) rfl (keyT t ht)
  have e := heldA_inv hu
  rw [hv] at e
  injection e with e
  rw [hrun, e]
set_option maxHeartbeats 1000000 in
theorem relation_old (base S nm rm n : Nat) (l : List (List UInt8)) (name : List UInt8) (R k : Nat) (w : World) (vl : Value) (D : DataW Unit) (h : TX base S nm rm l w vl D) (hm : w.ownsMap Tryz.prog 9 heldA rm k (Done name R)) (hn : name.length ≤ 1000) :
    Calls Tryz.prog 63 #[.pointer (some ⟨S, 0, none⟩), .string (str name), .int .i64 (n : Nat)] w fun e w' => e = .returned (.pointer (some ⟨R, 0, none⟩)) ∧ w' = w := by
  have hlk := rel_look hm name hn _ (Done_at name R _)
  have c2 := cell_of h.blk 2 _ (storeC2 _ _ _)
  clear h hm
  generalize str name = s at *
  go_enter Tryz.func63, Tryz.ntmps63
  go_wp2
  go_ret
  exact ⟨rfl, rfl⟩
set_option maxHeartbeats 1000000 in
theorem relation_new (base S nm rm n : Nat) (l : List (List UInt8)) (name : List UInt8) (w : World) (vl : Value) (D : DataW Unit) (h : TX base S nm rm l w vl D) (hm : w.ownsMap Tryz.prog 9 heldA rm 0 (.map [])) (hn : name.length ≤ 1000) :
    Calls Tryz.prog 63 #[.pointer (some ⟨S, 0, none⟩), .string (str name), .int .i64 (n : Nat)] w fun e w' => ∃ R ix, e = .returned (.pointer (some ⟨R, 0, none⟩)) ∧ w'.heap[R]? = some (.cells (relC n (.slice none 0 0) (.slice none 0 0) 0 0 ix) 200 (0, 0)) ∧ w'.ownsMap Tryz.prog 244 heldA ix 0 (.map []) ∧ w'.ownsMap Tryz.prog 9 heldA rm 1 (Done name R) ∧ w.heap.size ≤ R ∧ w.heap.size ≤ ix ∧ w.grownBy w' (some rm) := by
  have hlk := rel_look hm name hn (.pointer none) rfl
  have c2 := cell_of h.blk 2 _ (storeC2 _ _ _)
  have hkey := keyT name hn
  have hrl := hm.lt
  have HM := hide hm
  clear h hm
  obtain ⟨s, HS⟩ : ∃ s, Hid (s = str name) := ⟨_, rfl⟩
  rw [← HS.out] at hlk hkey ⊢
  go_enter Tryz.func63, Tryz.ntmps63
  go_wp2_with fail
  refine (newRelation_any n w).mono ?_
  rintro _ w1 ⟨R, ix, rfl, hb, hx, hR, hX, hg⟩
  have c3 := (FrS.none (S := fun _ => False) hg).cell c2 (by simp)
  obtain ⟨w2, hup, hown2, hg2⟩ := (HM.out.kept hg (by simp)).update keyedT Tryz.underlying101 (by unfold maxLen; omega) hkey (val := .pointer (some ⟨R, 0, none⟩)) (rfl : heldA (.pointer (some ⟨R, 0, none⟩)) = some (.held (.pointer (some ⟨R, 0, none⟩)), []))
  have HB : Hid (w2.heap[R]? = some (.cells (relC n (.slice none 0 0) (.slice none 0 0) 0 0 ix) 200 (0, 0))) := by
    show _ = _
    rw [hg2.block R (Array.getElem?_eq_some_iff.1 hb).1 (fun e => by have := Option.some.inj e; omega)]; exact hb
  have HX : Hid (w2.ownsMap Tryz.prog 244 heldA ix 0 (.map [])) := hx.kept hg2 (fun e => by have := Option.some.inj e; omega)
  have HO := hide hown2
  have HG : Hid (w.grownBy w2 (some rm)) := fr_trans (fr_weak hg _) hg2 (fun g hg => Or.inl rfl)
  clear hb hx hg hown2 hg2
  go_wp2
  go_ret
  exact ⟨R, ix, rfl, HB.out, HX.out, HO.out, hR, hX, HG.out⟩
theorem RelX.turned {base R ix im n : Nat} {rows : List (List Nat)} {old now old' now' : Nat} {w w' : World} {vr vu : Value} (h : RelX base R ix im n rows old now w vr vu) (hb : w'.heap[R]? = some (.cells (relC n vr vu old' now' ix) 200 (0, 0))) (hf : FrS (fun i => i = R) w w') : RelX base R ix im n rows old' now' w' vr vu := by
  have hc : ∀ g cur e fz, w.heap[g]? = some (.cells cur e fz) → (e = 193 ∨ e = 3) → ¬ g = R := by
    rintro g cur e fz hg he rfl
    rw [h.blk] at hg; injection hg with hg; injection hg with _ h3
    rcases he with he | he <;> (rw [he] at h3; cases h3)
  have hm : ∀ g es ck, w.heap[g]? = some (.map es ck) → ¬ g = R := by
    rintro g es ck hg rfl
    rw [h.blk] at hg; cases hg
  rcases h with ⟨h1, h2, h3, h4, h5, h6, h7⟩ | ⟨DM, vf, h⟩
  · exact .inl ⟨h1, h2, h3, h4, hb, hf.map h6 (by obtain ⟨es, ck, hq, _⟩ := h6; exact hm ix es ck hq), h7⟩
  · refine .inr ⟨DM, vf, hb, hf.row h.rws (fun g cur fz hv hg _ => hc g cur _ fz hg (.inl rfl)), hf.row h.rds (fun g cur fz hv hg _ => hc g cur _ fz hg (.inr rfl)), hf.map h.ixm (by obtain ⟨es, ck, hq, _⟩ := h.ixm; exact hm ix es ck hq), ⟨hf.map h.idx.own (by obtain ⟨es, ck, hq, _⟩ := h.idx.own; exact hm im es ck hq), h.idx.at', fun a ha => hf.row (h.idx.rows a ha) (fun g cur fz hv hg _ => hc g cur _ fz hg (.inr rfl)), h.idx.apart⟩, h.rok, h.ne, h.lowR, h.lowX, h.lowM, h.apart⟩
set_option maxHeartbeats 1000000 in
theorem turn_any (base R ix im n : Nat) (rows : List (List Nat)) (now : Nat) (w : World) (vr vu : Value) (h : RelX base R ix im n rows 0 now w vr vu) (hrl : rows.length ≤ 1000000) (hnow : now ≤ 1000000) :
    Calls Tryz.prog 64 #[.pointer (some ⟨R, 0, none⟩)] w fun e w' => (∃ b, e = .returned (.bool b)) ∧ RelX base R ix im n rows now rows.length w' vr vu ∧ FrS (fun i => i = R) w w' := by
  have HI := hide h
  have hb := h.blk
  obtain ⟨va, vc, hve⟩ := own_form h.rws
  obtain ⟨m, HM⟩ : ∃ m, Hid (m = rows.length) := ⟨_, rfl⟩
  rw [← HM.out] at hve hrl
  have c1 := cell_of hb 1 _ (relC1 _ _ _ _ _ _)
  have c3 := cell_of hb 3 _ (relC3 _ _ _ _ _ _)
  have c4 := cell_of hb 4 _ (relC4 _ _ _ _ _ _)
  have t3 := thaw_of hb 3
  have t4 := thaw_of hb 4
  rw [hve] at c1
  have HB := hide hb
  clear h hb
  go_enter Tryz.func64, Tryz.ntmps64
  obtain ⟨wB, HWB⟩ : ∃ wB, Hid (wB = ((w.setCell ⟨R, 3, none⟩ (.int .i64 (now : Nat))).setCell ⟨R, 4, none⟩ (.int .i64 (m : Nat))).drew) := ⟨_, rfl⟩
  have hwB := HWB.out.symm
  have HBB : Hid (wB.heap[R]? = some (.cells (relC n vr vu now m ix) 200 (0, 0))) := by
    show _ = _
    rw [HWB.out]
    exact blk_set (blk_set HB.out 3 (.int .i64 (now : Nat))) 4 (.int .i64 (m : Nat))
  have HFB : Hid (FrS (fun i => i = R) w wB) := by
    rw [HWB.out]
    exact FrS.trans (S' := fun _ => False) (FrS.trans (S' := fun i => i = R) (FrS.of (fr_set w R 3 _) (fun g e => .inl (Option.some.inj e).symm)) (FrS.of (fr_set _ R 4 _) (fun g e => .inl (Option.some.inj e).symm)) (fun i _ e => e)) (FrS.none (fr_draws _ 1 none)) (fun i _ e => e.elim)
  have hd := fun k => (FrS.none (S := fun _ => False) (fr_draws wB k none))
  have d3 := fun k => (hd k).cell (cell_of HBB.out 3 _ (relC3 _ _ _ _ _ _)) (fun h => h)
  have d4 := fun k => (hd k).cell (cell_of HBB.out 4 _ (relC4 _ _ _ _ _ _)) (fun h => h)
  have x3 := cell_of HBB.out 3 _ (relC3 _ _ _ _ _ _)
  have x4 := cell_of HBB.out 4 _ (relC4 _ _ _ _ _ _)
  clear hd
  go_wp2_with fail
  apply hold_world (F := fun w4 => w4 = wB)
  · intro HK
    go_region_law (fail)
    all_goals exact HK wB rfl
  rintro _ rfl
  clear c1 c3 c4 t3 t4
  go_wp2_with fail
  go_quiet (fail)
  go_wp2
  go_ret
  refine ⟨⟨_, rfl⟩, ?_, ?_⟩
  · rw [← HM.out]
    exact (HI.out.turned HBB.out HFB.out).grown (fr_draws _ _ none)
  · exact FrS.trans (S' := fun _ => False) HFB.out (FrS.none (fr_draws _ _ none)) (fun i _ e => e.elim)
/-- all that is there in this round -/
theorem relAll_any (R n old now ix : Nat) (vr vu : Value) (w : World) (h : w.heap[R]? = some (.cells (relC n vr vu old now ix) 200 (0, 0))) :
    Calls Tryz.prog 72 #[.pointer (some ⟨R, 0, none⟩)] w fun e w' => e = .returned (.agg #[.int .i64 0, .int .i64 (now : Nat)]) ∧ w.grownBy w' none := by
  have c4 := cell_of h 4 _ (relC4 _ _ _ _ _ _)
  have hRl : R < w.heap.size := (Array.getElem?_eq_some_iff.1 h).1
  clear h
  go_enter Tryz.func72, Tryz.ntmps72
  go_wp2
  refine bodyPost_ret (v := .agg #[.int .i64 0, .int .i64 (now : Nat)]) (by simp [results, Tryz.results72, go_sem]) rfl ⟨rfl, fr_alloc _ _ _⟩
end Go.Proofs.YtdfbjnachakkhaaGreatDoor

namespace Go.Proofs.YtdfbjnachakkhaaGreatDoor
open Go.ChangeShapes Go.WideShapes Go.ChangeAt Go.RowKit Go.WideMaps Go.Maps
set_option linter.unusedVariables false
set_option maxRecDepth 100000
/-- what adding a row may change -/
def AddS (base R ix im : Nat) (w : World) (i : Nat) : Prop := i = R ∨ i = ix ∨ i = im ∨ (base ≤ i ∧ ∃ cur e fz, w.heap[i]? = some (.cells cur e fz) ∧ (e = 193 ∨ e = 3))
set_option maxHeartbeats 1000000 in
theorem addRow_any (base R ix im0 n : Nat) (rows : List (List Nat)) (old now : Nat) (a : List Nat) (w : World) (vr vu : Value) (h : RelX base R ix im0 n rows old now w vr vu) (hn : n ≤ 8) (ha : Row8N a) (hma : maskR n a = a) (hnew : a ∉ rows) (hrl : rows.length ≤ 1000000) :
    Calls Tryz.prog 100 #[.pointer (some ⟨R, 0, none⟩), rowV a, .int .i64 0] w fun e w' => e = .returned (.bool true) ∧ (∃ im vr' vu', RelX base R ix im n (rows ++ [a]) old now w' vr' vu' ∧ (im = im0 ∨ w.heap.size ≤ im)) ∧ FrS (AddS base R ix im0 w) w w' := by
  have HI := hide h
  have HA := hide ha
  have HHAS : Hid (∀ W : World, w.grownBy W none → Calls Tryz.prog 129 #[.pointer (some ⟨R, 0, none⟩), rowV a] W fun e w' => e = .returned (.bool false) ∧ (∃ im DM vf, RelB base R ix im n rows old now w' vr vu DM vf ∧ (im = im0 ∨ W.heap.size ≤ im)) ∧ W.grownBy w' (some ix)) := by
    exact fun W hg => has_x base R ix im0 n rows old now a W vr vu (h.grown hg) hn ha hnew
  obtain ⟨a0, a1, a2, a3, a4, a5, a6, a7, HAE⟩ : ∃ a0 a1 a2 a3 a4 a5 a6 a7, Hid (a = [a0, a1, a2, a3, a4, a5, a6, a7]) := by
    exact row8 a ha.1
  have hrv : rowV a = .agg #[.int .i64 (a0 : Nat), .int .i64 (a1 : Nat), .int .i64 (a2 : Nat), .int .i64 (a3 : Nat), .int .i64 (a4 : Nat), .int .i64 (a5 : Nat), .int .i64 (a6 : Nat), .int .i64 (a7 : Nat)] := by rw [HAE.out]; rfl
  have HRV := hide hrv
  rw [hrv] at HHAS ⊢
  clear hrv h ha
  obtain ⟨wA, HWA⟩ : ∃ wA, Hid (wA = (w.alloc (.cells #[.int .i64 (a0 : Nat), .int .i64 (a1 : Nat), .int .i64 (a2 : Nat), .int .i64 (a3 : Nat), .int .i64 (a4 : Nat), .int .i64 (a5 : Nat), .int .i64 (a6 : Nat), .int .i64 (a7 : Nat)] 193))) := ⟨_, rfl⟩
  have hwA := HWA.out.symm
  have HGA : Hid (w.grownBy wA none) := by rw [HWA.out]; exact fr_alloc _ _ _
  go_enter Tryz.func100, Tryz.ntmps100
  have q0 : wA.cell? ⟨w.heap.size, 0, none⟩ = some (.int .i64 (a0 : Nat)) := by rw [HWA.out, World.cell?_alloc_at _ _ _ _ (by simp)]; rfl
  have q1 : wA.cell? ⟨w.heap.size, 1, none⟩ = some (.int .i64 (a1 : Nat)) := by rw [HWA.out, World.cell?_alloc_at _ _ _ _ (by simp)]; rfl
  have q2 : wA.cell? ⟨w.heap.size, 2, none⟩ = some (.int .i64 (a2 : Nat)) := by rw [HWA.out, World.cell?_alloc_at _ _ _ _ (by simp)]; rfl
  have q3 : wA.cell? ⟨w.heap.size, 3, none⟩ = some (.int .i64 (a3 : Nat)) := by rw [HWA.out, World.cell?_alloc_at _ _ _ _ (by simp)]; rfl
  have q4 : wA.cell? ⟨w.heap.size, 4, none⟩ = some (.int .i64 (a4 : Nat)) := by rw [HWA.out, World.cell?_alloc_at _ _ _ _ (by simp)]; rfl
  have q5 : wA.cell? ⟨w.heap.size, 5, none⟩ = some (.int .i64 (a5 : Nat)) := by rw [HWA.out, World.cell?_alloc_at _ _ _ _ (by simp)]; rfl
  have q6 : wA.cell? ⟨w.heap.size, 6, none⟩ = some (.int .i64 (a6 : Nat)) := by rw [HWA.out, World.cell?_alloc_at _ _ _ _ (by simp)]; rfl
  have q7 : wA.cell? ⟨w.heap.size, 7, none⟩ = some (.int .i64 (a7 : Nat)) := by rw [HWA.out, World.cell?_alloc_at _ _ _ _ (by simp)]; rfl
  go_wp2_with fail
  refine (HHAS.out wA HGA.out).mono ?_
  rintro _ wB ⟨rfl, ⟨im, DM, vf, hIB, hime⟩, hgB⟩
  have HIB := hide hIB
  have HIM := hide hime
  clear hIB hime
  have HGB : Hid (FrS (fun i => i = ix) w wB) := FrS.trans (FrS.none HGA.out) (FrS.of hgB (fun g e => .inl (Option.some.inj e).symm)) (fun i _ e => e)
  have hixw : ix < w.heap.size := HI.out.ixlt
  have hsA : wA.heap.size = w.heap.size + 1 := by rw [HWA.out]; simp
  have hsB : w.heap.size + 1 ≤ wB.heap.size := by have := hgB.size; omega
  have fB := FrS.of (S := fun i => i = ix) hgB (fun g e => .inl (Option.some.inj e).symm)
  have hnx : ¬ w.heap.size = ix := by omega
  have b0 := fB.cell q0 hnx
  have b1 := fB.cell q1 hnx
  have b2 := fB.cell q2 hnx
  have b3 := fB.cell q3 hnx
  have b4 := fB.cell q4 hnx
  have b5 := fB.cell q5 hnx
  have b6 := fB.cell q6 hnx
  have b7 := fB.cell q7 hnx
  clear q0 q1 q2 q3 q4 q5 q6 q7 hgB fB hwA
  obtain ⟨va, vc, hve⟩ := own_form HI.out.rws
  obtain ⟨ua, uc, hue⟩ := own_form HI.out.rds
  obtain ⟨m, HM⟩ : ∃ m, Hid (m = rows.length) := ⟨_, rfl⟩
  rw [← HM.out] at hve hue hrl
  have cR1 := cell_of HIB.out.blk 1 _ (relC1 _ _ _ _ _ _)
  have hRl : R < wB.heap.size := World.block_lt_of_cell? _ _ cR1
  have hRw : R < w.heap.size := World.block_lt_of_cell? _ _ (cell_of HI.out.blk 1 _ (relC1 _ _ _ _ _ _))
  rw [hve] at cR1
  go_wp2_with fail
  obtain ⟨iR, hiR, hR0, hR1, hR2⟩ := info_parts infoRowA
  obtain ⟨i0, hi, hz0, hz1, hz2⟩ := info_parts infoIntA
  have HOV := hide (by have := HIB.out.rws; rw [hve, ← HM.out] at this; exact this : wB.ownsRow base 193 8 (.slice va m vc) m (flatR rows))
  have hbB : base ≤ wB.heap.size := by have := HI.out.lowR; omega
  have zR : ∀ Z, (wB.drew.alloc Z).cell? ⟨R, 1, none⟩ = some (.slice va m vc) := fun Z => (FrS.none (S := fun _ => False) (fr_both (fr_draws wB 1 none) (fr_alloc _ Z _))).cell cR1 (by simp)
  have y0 : ∀ Z, (wB.drew.alloc Z).cell? ⟨w.heap.size, 0, none⟩ = some (.int .i64 (a0 : Nat)) := fun Z => (FrS.none (S := fun _ => False) (fr_both (fr_draws wB 1 none) (fr_alloc _ Z _))).cell b0 (by simp)
  apply hold_way (F := fun g cp w4 => w4.ownsRow base 193 8 (.slice (some ⟨g, 0, none⟩) (m + 1) cp) (m + 1) (flatR rows ++ [.int .i64 (a0 : Nat), .int .i64 (a1 : Nat), .int .i64 (a2 : Nat), .int .i64 (a3 : Nat), .int .i64 (a4 : Nat), .int .i64 (a5 : Nat), .int .i64 (a6 : Nat), .int .i64 (a7 : Nat)]) ∧ (∃ Z, (wB.drew.alloc Z).grownBy w4 (Value.slice va m vc).ownBlock) ∧ ((Value.slice va m vc).ownBlock = some g ∨ wB.heap.size ≤ g))
  · intro HK
    go_region_law
      (first
        | (refine step_append_lies _ rfl _ _ 197 rfl base 193 iR (.agg #[.int .i64 0, .int .i64 0, .int .i64 0, .int .i64 0, .int .i64 0, .int .i64 0, .int .i64 0, .int .i64 0]) 8 64 Tryz.underlying197 hiR hR0 hR1 hR2 rfl (by decide) _ _ (flatR rows) rfl (own_drawn HOV.out _) ⟨wB.heap.size, 0, none⟩ 1 1 [.int .i64 (a0 : Nat), .int .i64 (a1 : Nat), .int .i64 (a2 : Nat), .int .i64 (a3 : Nat), .int .i64 (a4 : Nat), .int .i64 (a5 : Nat), .int .i64 (a6 : Nat), .int .i64 (a7 : Nat)] rfl rfl (fun j' u hj' => cell_new8 _ _ _ _ j' u hj') (fun u hu => by simp at hu; rcases hu with rfl | rfl | rfl | rfl | rfl | rfl | rfl | rfl <;> rfl) (by decide) (by unfold maxLen; omega) (by omega) (by simp; omega) _ rfl ?_; intro g cp w4 hown4 hg4 hat4 hlt4; have m0 := app_cell HIB.out.blk HOV.out hg4 1 _ (relC1 _ _ _ _ _ _); have m1 := app_thaw HIB.out.blk HOV.out hg4 1 _ (relC1 _ _ _ _ _ _)))
    all_goals exact HK g cp w4 ⟨hown4, ⟨_, hg4⟩, hat4.imp (fun e => e) (fun e => by rw [e]; simp)⟩
  rintro g cp w4 ⟨hown4, ⟨Z4, hg4⟩, hat4⟩
  rw [← hve] at hg4 hat4
  have hOB := HIB.out.rws
  have hflat : flatR rows ++ [.int .i64 (a0 : Nat), .int .i64 (a1 : Nat), .int .i64 (a2 : Nat), .int .i64 (a3 : Nat), .int .i64 (a4 : Nat), .int .i64 (a5 : Nat), .int .i64 (a6 : Nat), .int .i64 (a7 : Nat)] = flatR (rows ++ [a]) := by
    rw [HAE.out]; simp [flatR, numV]
  rw [hflat] at hown4
  obtain ⟨v1, HV1⟩ : ∃ v1, Hid (v1 = Value.slice (some ⟨g, 0, none⟩) (m + 1) cp) := ⟨_, rfl⟩
  have hv1b : v1.ownBlock = some g := by rw [HV1.out]; rfl
  rw [← HV1.out] at hown4 ⊢
  have hblk4 := app_blk HIB.out.blk hOB hg4
  obtain ⟨wC, HWC⟩ : ∃ wC, Hid (wC = w4.setCell ⟨R, 1, none⟩ v1) := ⟨_, rfl⟩
  have hwC := HWC.out.symm
  have HBC : Hid (wC.heap[R]? = some (.cells (relC n v1 vu old now ix) 200 (0, 0))) := by
    rw [HWC.out]; exact blk_set hblk4 1 v1
  have HF4 : Hid (FrS (fun i => vr.ownBlock = some i) wB w4) := FrS.trans (S' := fun i => vr.ownBlock = some i) (FrS.none (fr_both (fr_draws wB 1 none) (fr_alloc _ Z4 none))) (FrS.of hg4 (fun g e => .inl e)) (fun i _ e => e)
  have HFC : Hid (FrS (fun i => vr.ownBlock = some i ∨ i = R) wB wC) := by
    rw [HWC.out]
    exact FrS.trans (S' := fun i => i = R) (HF4.out.mono (fun i _ e => .inl e)) (FrS.of (fr_set w4 R 1 v1) (fun g e => .inl (Option.some.inj e).symm)) (fun i _ e => .inr e)
  have HRWC : Hid (wC.ownsRow base 193 8 v1 (m + 1) (flatR (rows ++ [a]))) := by
    rw [HWC.out]
    exact row_kept hown4 (fun q cur fz hq hc => Below.heap_setCell _ _ _ _ (fun e => by
      have e' : q = R := e
      rw [e', hblk4] at hc; injection hc with hc; injection hc with _ h2; cases h2))
  have hnR : ∀ (q : Nat) (cur : Array Value) (e : TypeId) (fz : Nat × Nat), wB.heap[q]? = some (.cells cur e fz) → e = 3 → ¬ (vr.ownBlock = some q ∨ q = R) := by
    rintro q cur e fz hq rfl (h1 | h1)
    · obtain ⟨cur2, h2⟩ := own_type hOB h1
      rw [hq] at h2; injection h2 with h2; injection h2 with _ h3; cases h3
    · rw [h1, HIB.out.blk] at hq; injection hq with hq; injection hq with _ h3; cases h3
  have hnM : ∀ (q : Nat) (es : Array MapEntry) (ck : Nat), wB.heap[q]? = some (.map es ck) → ¬ (vr.ownBlock = some q ∨ q = R) := by
    rintro q es ck hq (h1 | h1)
    · obtain ⟨cur2, h2⟩ := own_type hOB h1
      rw [hq] at h2; cases h2
    · rw [h1, HIB.out.blk] at hq; cases hq
  have HRDC : Hid (wC.ownsRow base 3 1 vu m (List.replicate m (.int .i64 0))) := by
    have := HFC.out.row HIB.out.rds (fun q cur fz _ hq _ => hnR q cur _ fz hq rfl)
    rw [← HM.out] at this; exact this
  have HXC : Hid (wC.ownsMap Tryz.prog 244 heldA ix 1 (Dix n im)) := by
    obtain ⟨es, ck, hq, _⟩ := HIB.out.ixm
    exact HFC.out.map HIB.out.ixm (hnM ix es ck hq)
  have HIC : Hid (Idx base im m wC DM vf (posK n rows m)) := by
    have hI := HIB.out.idx
    rw [← HM.out] at hI
    obtain ⟨es, ck, hq, _⟩ := hI.own
    exact ⟨HFC.out.map hI.own (hnM im es ck hq), hI.at', fun c hc => HFC.out.row (hI.rows c hc) (fun q cur fz _ hq _ => hnR q cur _ fz hq rfl), hI.apart⟩
  have HFw : Hid (FrS (fun i => vr.ownBlock = some i ∨ i = R ∨ i = ix) w wC) := FrS.trans (HGB.out.mono (fun i _ e => .inr (.inr e))) HFC.out (fun i _ e => e.elim .inl (fun e => .inr (.inl e)))
  have bC := fun (t : Nat) (u : Value) (h : wB.cell? ⟨w.heap.size, t, none⟩ = some u) => HFC.out.cell h (by
    rintro (h1 | h1)
    · have := (own_blk HI.out.rws h1).2; exact Nat.lt_irrefl _ this
    · have h1' : w.heap.size = R := h1
      omega)
  have e0 := bC 0 _ b0
  have e1 := bC 1 _ b1
  have e2 := bC 2 _ b2
  have e3 := bC 3 _ b3
  have e4 := bC 4 _ b4
  have e5 := bC 5 _ b5
  have e6 := bC 6 _ b6
  have e7 := bC 7 _ b7
  have hsC : wB.heap.size ≤ wC.heap.size := HFC.out.size
  clear b0 b1 b2 b3 b4 b5 b6 b7 bC hnR hnM hblk4 hflat hown4 hg4 hat4 zR y0 cR1 hiR hR0 hR1 hR2 hOB
  have cC2 := cell_of HBC.out 2 _ (relC2 _ _ _ _ _ _)
  have hRC : R < wC.heap.size := by omega
  rw [hue] at cC2
  have HOU : Hid (wC.ownsRow base 3 1 (.slice ua m uc) m (List.replicate m (.int .i64 0))) := by rw [← hue]; exact HRDC.out
  have hbC : base ≤ wC.heap.size := by omega
  go_wp2_with (at_builtin; refine wpList_append_own_at _ rfl _ _ 97 rfl base 3 i0 (.int .i64 0) 1 8 Tryz.underlying97 hi hz0 hz1 hz2 rfl (by omega) _ _ _ rfl (HOU.out.alloc _) ⟨wC.heap.size, 0, none⟩ 1 1 [.int .i64 0] rfl rfl (cell_one_new _ _ _) (by simp [Value.oneCell']) (by unfold maxLen; omega) (by omega) (by simp; omega) ?_)
  intro v2 w5 hown5 hg5 hnil5 hat5
  rw [← hue] at hg5 hat5
  have hv2o : v2.ownBlock = vu.ownBlock ∨ v2.ownBlock = some (wC.heap.size) ∨ v2.ownBlock = some (wC.heap.size + 1) := by
    rcases hat5 with e | e
    · exact .inl e
    · exact .inr (.inr e)
  have HF5 : Hid (FrS (fun i => vu.ownBlock = some i) wC w5) := FrS.trans (S' := fun i => vu.ownBlock = some i) (FrS.none (fr_alloc wC _ none)) (FrS.of hg5 (fun g e => .inl e)) (fun i _ e => e)
  have hnuR : ¬ vu.ownBlock = some R := fun e => by
    obtain ⟨cur2, h2⟩ := own_type HRDC.out e
    rw [HBC.out] at h2; injection h2 with h2; injection h2 with _ h3; cases h3
  have hblk5 : w5.heap[R]? = some (.cells (relC n v1 vu old now ix) 200 (0, 0)) := (HF5.out.block R hRC hnuR).trans HBC.out
  have m0 := cell_of hblk5 2 _ (relC2 _ _ _ _ _ _)
  have m1 := thaw_of hblk5 2
  obtain ⟨wD, HWD⟩ : ∃ wD, Hid (wD = w5.setCell ⟨R, 2, none⟩ v2) := ⟨_, rfl⟩
  obtain ⟨xa, xc, hv2⟩ := own_form hown5
  have hwD : w5.setCell ⟨R, 2, none⟩ (.slice xa (m + 1) xc) = wD := by rw [← hv2]; exact HWD.out.symm
  have HBD : Hid (wD.heap[R]? = some (.cells (relC n v1 v2 old now ix) 200 (0, 0))) := by
    rw [HWD.out]; exact blk_set hblk5 2 v2
  have HFD : Hid (FrS (fun i => vu.ownBlock = some i ∨ i = R) wC wD) := by
    rw [HWD.out]
    exact FrS.trans (S' := fun i => i = R) (HF5.out.mono (fun i _ e => .inl e)) (FrS.of (fr_set w5 R 2 v2) (fun g e => .inl (Option.some.inj e).symm)) (fun i _ e => .inr e)
  have HRDD : Hid (wD.ownsRow base 3 1 v2 (m + 1) (List.replicate (m + 1) (.int .i64 0))) := by
    rw [HWD.out]
    have e : List.replicate (m + 1) (Value.int .i64 0) = List.replicate m (Value.int .i64 0) ++ [Value.int .i64 0] := List.replicate_succ'
    rw [e]
    exact row_kept hown5 (fun q cur fz hq hc => Below.heap_setCell _ _ _ _ (fun e => by
      have e' : q = R := e
      rw [e', hblk5] at hc; injection hc with hc; injection hc with _ h2; cases h2))
  have HRWD : Hid (wD.ownsRow base 193 8 v1 (m + 1) (flatR (rows ++ [a]))) := HFD.out.row HRWC.out (fun q cur fz hq hc _ => by
    rintro (h1 | h1)
    · obtain ⟨cur2, h2⟩ := own_type HRDC.out h1
      rw [hc] at h2; injection h2 with h2; injection h2 with _ h3; cases h3
    · rw [h1, HBC.out] at hc; injection hc with hc; injection hc with _ h3; cases h3)
  have hnM : ∀ (q : Nat) (es : Array MapEntry) (ck : Nat), wC.heap[q]? = some (.map es ck) → ¬ (vu.ownBlock = some q ∨ q = R) := by
    rintro q es ck hq (h1 | h1)
    · obtain ⟨cur2, h2⟩ := own_type HRDC.out h1
      rw [hq] at h2; cases h2
    · rw [h1, HBC.out] at hq; cases hq
  have HXD : Hid (wD.ownsMap Tryz.prog 244 heldA ix 1 (Dix n im)) := by
    obtain ⟨es, ck, hq, _⟩ := HXC.out
    exact HFD.out.map HXC.out (hnM ix es ck hq)
  have HID : Hid (Idx base im m wD DM vf (posK n rows m)) := by
    have hI := HIC.out
    obtain ⟨es, ck, hq, _⟩ := hI.own
    refine ⟨HFD.out.map hI.own (hnM im es ck hq), hI.at', fun c hc => HFD.out.row (hI.rows c hc) (fun q cur fz hq hcl _ => ?_), hI.apart⟩
    rintro (h1 | h1)
    · rcases HIB.out.apart c hc with e | e
      · rw [e] at h1; cases h1
      · exact e (by rw [h1, hq])
    · rw [h1, HBC.out] at hcl; injection hcl with hcl; injection hcl with _ h3; cases h3
  have HAP : Hid (∀ c, Row8N c → ∀ q, v2.ownBlock = some q → (vf c).ownBlock ≠ some q) := by
    intro c hc q hq e
    have hl := (own_blk (HIC.out.rows c hc) e).2
    rcases hv2o with h1 | h1 | h1
    · rcases HIB.out.apart c hc with e2 | e2
      · rw [h1, e2] at hq; cases hq
      · exact e2 (by rw [← h1, hq, e])
    · rw [hq] at h1; have := Option.some.inj h1; omega
    · rw [hq] at h1; have := Option.some.inj h1; omega
  have HFw2 : Hid (FrS (fun i => vr.ownBlock = some i ∨ i = R ∨ i = ix ∨ vu.ownBlock = some i) w wD) := FrS.trans (HFw.out.mono (fun i _ e => e.elim .inl (fun e => e.elim (fun e => .inr (.inl e)) (fun e => .inr (.inr (.inl e)))))) HFD.out (fun i _ e => e.elim (fun e => .inr (.inr (.inr e))) (fun e => .inr (.inl e)))
  have fD := fun (t : Nat) (u : Value) (h : wC.cell? ⟨w.heap.size, t, none⟩ = some u) => HFD.out.cell h (by
    rintro (h1 | h1)
    · have := (own_blk HI.out.rds h1).2; exact Nat.lt_irrefl _ this
    · have h1' : w.heap.size = R := h1
      omega)
  have d0 := fD 0 _ e0
  have d1 := fD 1 _ e1
  have d2 := fD 2 _ e2
  have d3 := fD 3 _ e3
  have d4 := fD 4 _ e4
  have d5 := fD 5 _ e5
  have d6 := fD 6 _ e6
  have d7 := fD 7 _ e7
  have hsD : wC.heap.size ≤ wD.heap.size := HFD.out.size
  have cD5 := cell_of HBD.out 5 _ (relC5 _ _ _ _ _ _)
  clear e0 e1 e2 e3 e4 e5 e6 e7 fD hnM hv2o hblk5 hown5 hg5 hat5 hnil5 hnuR cC2
  obtain ⟨wE, hrng, hrg, hgE, hsE⟩ := HXD.out.range keyedC Tryz.underlying198
  have HRG := hide hrg
  have HGE := hide hgE
  clear hrg hgE
  rw [hv2]
  go_wp2_with fail
  refine wp_loop_rounds 2 ?_
  rw [rounds_succ]
  obtain ⟨c, HC⟩ : ∃ c : Int, Hid (c = ((2 ^ n - 1 : Nat) : Int)) := ⟨_, rfl⟩
  rcases HRG.out.next keyedC 0 with ⟨_, hno, _⟩ | ⟨key, v, kl, y, wF, cnt', hkey, hleft, hRv, hat, hrun, hrng', _, hgF, hsF, hent⟩
  · have := hno (.int .i64 ((2 ^ n - 1 : Nat) : Int))
    rw [Dix_has] at this; cases this
  have hkl : kl = .int .i64 c := by
    by_cases e : kl = .int .i64 ((2 ^ n - 1 : Nat) : Int)
    · rw [e, HC.out]
    · rw [Dix_other n im kl e] at hleft; cases hleft
  have hpow : 2 ^ n - 1 ≤ 255 := by
    have : 2 ^ n ≤ 2 ^ 8 := Nat.pow_le_pow_right (by omega) hn
    omega
  have hke : key = .int .i64 c := by
    rw [hkl] at hkey
    have h2 := keyC (2 ^ n - 1) (by omega)
    rw [← HC.out] at h2
    exact keyedC.inj hkey h2
  have hve2 : v = .map (some im) := by
    have h1 := heldA_inv (d := y.1) (ps := y.2) hRv
    have h2 := hat (.held (.map none))
    rw [hkl, HC.out, Dix_at, h1] at h2
    injection h2 with h2
    exact h2.symm
  subst hke hve2
  have HRGF := hide hrng'
  have HGF := hide hgF
  have hsE' := hsE
  clear hrng' hgF hkey hleft hRv hat hrng
  have HFF : Hid (FrS (fun i => i = wD.heap.size) wD wF) := FrS.trans (FrS.none HGE.out) (FrS.of (S := fun i => i = wD.heap.size) HGF.out (fun g e => .inl (Option.some.inj e).symm)) (fun i _ e => e)
  have gD := fun (t : Nat) (u : Value) (h : wD.cell? ⟨w.heap.size, t, none⟩ = some u) => HFF.out.cell h (by show ¬ w.heap.size = wD.heap.size; omega)
  have f0 := gD 0 _ d0
  have f1 := gD 1 _ d1
  have f2 := gD 2 _ d2
  have f3 := gD 3 _ d3
  have f4 := gD 4 _ d4
  have f5 := gD 5 _ d5
  have f6 := gD 6 _ d6
  have f7 := gD 7 _ d7
  clear d0 d1 d2 d3 d4 d5 d6 d7 gD cD5 m0 m1
  have hof := of_any n hn a0 a1 a2 a3 a4 a5 a6 a7 wF
  rw [← HAE.out, hma, HRV.out, ← HC.out] at hof
  have HOF := hide hof
  clear hof
  go_wp2_with fail
  refine HOF.out.mono ?_
  rintro _ wG ⟨rfl, hbG⟩
  have HGG : Hid (wF.grownBy wG none) := below_grown hbG
  clear hbG
  have HIG : Hid (Idx base im m wG DM vf (posK n rows m)) := by
    have hI := HID.out
    have hF : Idx base im m wF DM vf (posK n rows m) := ⟨HFF.out.map hI.own (by have := hI.own.lt; show ¬ im = wD.heap.size; omega), hI.at', fun q hq => HFF.out.row (hI.rows q hq) (fun g cur fz hv _ _ => by have := (own_blk (hI.rows q hq) hv).2; show ¬ g = wD.heap.size; omega), hI.apart⟩
    exact hF.kept HGG.out
  have hpl : (posK n rows m a).length ≤ m := posK_len n rows m a
  have hszG : wD.heap.size ≤ wG.heap.size := by have := HFF.out.size; have := HGG.out.size; omega
  have HAD := hide (add_any base im m DM vf (posK n rows m) a m wG HIG.out HA.out (by omega) (by omega) (by omega) (by omega))
  rw [HRV.out] at HAD
  go_wp2_with fail
  refine HAD.out.mono ?_
  rintro _ w7 ⟨rfl, ⟨D7, v7, hi7, hv7⟩, hf7⟩
  have HI7 := hide hi7
  have HV7 := hide hv7
  have HF7 := hide hf7
  clear hi7 hv7 hf7
  have hvl : ∀ q, (vf a).ownBlock = some q → q < wD.heap.size := fun q e => (own_blk (HID.out.rows a HA.out) e).2
  have himl : im < wD.heap.size := HID.out.own.lt
  have hixl : ix < wD.heap.size := HXD.out.lt
  have hnix : ¬ (ix = im ∨ (vf a).ownBlock = some ix) := by
    rintro (e | e)
    · exact HIB.out.ne e.symm
    · obtain ⟨cur, h2⟩ := own_type (HID.out.rows a HA.out) e
      obtain ⟨es, ck, hq, _⟩ := HXD.out
      rw [hq] at h2; cases h2
  have hFsz : wD.heap.size < wF.heap.size := by omega
  have hGsz : wF.heap.size ≤ wG.heap.size := HGG.out.size
  have HR7 := hide (ranges_at (W := w7) HRGF.out ((HF7.out.block ix (by omega) hnix).trans (HGG.out.block ix (by omega) (by simp))) ((HF7.out.block wD.heap.size (by omega) (by rintro (e | e); omega; have := hvl _ e; omega)).trans (HGG.out.block _ (by omega) (by simp))))
  have HFA : Hid (FrS (fun i => i = im ∨ (vf a).ownBlock = some i ∨ i = wD.heap.size) wD w7) := FrS.trans (S' := fun i => i = im ∨ (vf a).ownBlock = some i) (FrS.trans (S' := fun _ => False) (HFF.out.mono (fun i _ e => .inr (.inr e))) (FrS.none HGG.out) (fun i _ e => e.elim)) HF7.out (fun i _ e => e.elim .inl (fun e => .inr (.inl e)))
  have hrun2 : (Instr.next (.pointer (some ⟨wD.heap.size, 0, none⟩)) false 0).run Tryz.prog w7 = .ok (.tuple #[.bool false]) w7 := by
    rcases HR7.out.next keyedC 0 with ⟨_, _, hr2⟩ | ⟨key2, v2', kl2, y2, w8, cnt2, _, hleft2, _⟩
    · exact hr2
    · exfalso
      rw [hkl] at hleft2
      by_cases e : kl2 = .int .i64 ((2 ^ n - 1 : Nat) : Int)
      · rw [e, ← HC.out] at hleft2
        simp [Lit.sameKey] at hleft2
      · rw [Dix_other n im kl2 e] at hleft2
        simp at hleft2
  clear HRGF HR7 f0 f1 f2 f3 f4 f5 f6 f7 hrun hent HOF HAD
  go_wp2
  rw [rounds_succ]
  go_wp2
  go_ret
  have hnR7 : ¬ (R = im ∨ (vf a).ownBlock = some R ∨ R = wD.heap.size) := by
    rintro (e | e | e)
    · obtain ⟨es, ck, hq, _⟩ := HID.out.own
      rw [← e, HBD.out] at hq; cases hq
    · obtain ⟨cur, h2⟩ := own_type (HID.out.rows a HA.out) e
      rw [HBD.out] at h2; injection h2 with h2; injection h2 with _ h3; cases h3
    · omega
  refine ⟨rfl, ⟨im, v1, v2, .inr ⟨D7, v7, ?_⟩, HIM.out.imp (fun e => e) (fun e => by omega)⟩, ?_⟩
  · refine ⟨?_, ?_, ?_, ?_, ?_, ?_, HIB.out.ne, HIB.out.lowR, HIB.out.lowX, HIB.out.lowM, ?_⟩
    · rw [HFA.out.block R (by omega) hnR7]; exact HBD.out
    · rw [List.length_append, List.length_singleton, ← HM.out]
      refine HFA.out.row HRWD.out (fun q cur fz hq hc _ => ?_)
      rintro (e | e | e)
      · obtain ⟨es, ck, hq2, _⟩ := HID.out.own
        rw [← e, hc] at hq2; cases hq2
      · obtain ⟨cur2, h2⟩ := own_type (HID.out.rows a HA.out) e
        rw [hc] at h2; injection h2 with h2; injection h2 with _ h3; cases h3
      · have := (own_blk HRWD.out hq).2; omega
    · rw [List.length_append, List.length_singleton, ← HM.out]
      refine HFA.out.row HRDD.out (fun q cur fz hq hc _ => ?_)
      rintro (e | e | e)
      · obtain ⟨es, ck, hq2, _⟩ := HID.out.own
        rw [← e, hc] at hq2; cases hq2
      · exact HAP.out a HA.out q hq e
      · have := (own_blk HRDD.out hq).2; omega
    · refine HFA.out.map HXD.out (fun e => ?_)
      rcases e with e | e | e
      · exact hnix (.inl e)
      · exact hnix (.inr e)
      · omega
    · have e : posK n (rows ++ [a]) (rows ++ [a]).length = updF (posK n rows m) a (posK n rows m a ++ [m]) := by
        have e1 : (rows ++ [a]).getD rows.length [] = a := by
          rw [List.getD_eq_getElem?_getD, List.getElem?_append_right (Nat.le_refl _)]; simp
        rw [List.length_append, List.length_singleton, posK, e1, hma, posK_more n rows [a] rows.length (Nat.le_refl _), ← HM.out]
      rw [e, List.length_append, List.length_singleton, ← HM.out]
      exact HI7.out
    · intro c hc
      rcases List.mem_append.1 hc with hc | hc
      · exact HIB.out.rok c hc
      · rw [List.mem_singleton.1 hc]; exact ⟨HA.out, hma⟩
    · intro c hc
      cases hq : v2.ownBlock with
      | none => exact .inl rfl
      | some q =>
        right
        intro e
        rcases HV7.out c hc with e2 | ⟨q2, e2, hq2⟩
        · exact HAP.out c hc q hq (by rw [← e2, ← e])
        · rw [e2] at e
          have := Option.some.inj e
          have := (own_blk HRDD.out hq).2
          omega
  · refine FrS.trans (S' := fun i => i = im ∨ (vf a).ownBlock = some i ∨ i = wD.heap.size) (HFw2.out.mono (fun i hi e => ?_)) HFA.out (fun i hi e => ?_)
    · rcases e with e | e | e | e
      · obtain ⟨cur, hc⟩ := own_type HI.out.rws e
        exact .inr (.inr (.inr ⟨(own_blk HI.out.rws e).1, cur, _, _, hc, .inl rfl⟩))
      · exact .inl e
      · exact .inr (.inl e)
      · obtain ⟨cur, hc⟩ := own_type HI.out.rds e
        exact .inr (.inr (.inr ⟨(own_blk HI.out.rds e).1, cur, _, _, hc, .inr rfl⟩))
    · rcases e with e | e | e
      · rcases HIM.out with h1 | h1
        · exact .inr (.inr (.inl (by rw [e, h1])))
        · omega
      · by_cases hx : i = ix
        · exact .inr (.inl hx)
        · have ho := HIB.out.idx.rows a HA.out
          obtain ⟨cur, hc⟩ := own_type ho e
          have hb := HGB.out.block i hi hx
          exact .inr (.inr (.inr ⟨(own_blk ho e).1, cur, _, _, by rw [← hb]; exact hc, .inr rfl⟩))
      · omega
end Go.Proofs.YtdfbjnachakkhaaGreatDoor
