import Derived.Test.YtdfbjnachakkhaaGreatDoorM19
namespace Go.Proofs.YtdfbjnachakkhaaGreatDoor
open Go.ChangeShapes Go.WideShapes Go.ChangeAt Go.RowKit Go.Hands Go.WideMaps Go.Maps
set_option linter.unusedVariables false
set_option maxRecDepth 100000
set_option maxHeartbeats 1000000 in
theorem waysNew_any (base S nm rm R pb n : Nat) (name : List UInt8) (l : List (List UInt8)) (bd u : Value) (p : PPart) (w : World) (vl : Value) (D : DataW Unit)
    (htx : TX base S nm rm l w vl D) (hrm : w.ownsMap Tryz.prog 9 heldA rm 1 (Done name R))
    (hparts : PartsAt 65 67 pb w bd [p] [u]) (hk : p.kind = 0) (hpn : p.atom.name = name) (hvar : ∀ t ∈ p.atom.args, t.isVar = true) (hpl : p.atom.args.length = n) (hnn : n ≤ 8) (hnd : (p.atom.args.map (·.text)).Nodup) (hx : ∀ t ∈ p.atom.args, t.text.length ≤ 1000) (hname : name.length ≤ 1000) :
    Calls Tryz.prog 33 #[.agg #[.string { data := #[] }, .slice none 0 0, .int .i64 0, bd], .pointer (some ⟨S, 0, none⟩), .int .i64 (-1)] w fun e w' => (∃ P parts given stops vt, e = .returned (.pointer (some ⟨P, 0, none⟩)) ∧ Planned w.heap.size P S R n parts given stops vt w') ∧ w.grownBy w' none := by
  have hmm := @run_makeMap Tryz.prog
  obtain ⟨i0, hi, hz0, hz1, hz2⟩ := info_parts infoBoolA
  obtain ⟨bda, bdc, hbd⟩ : ∃ a c, bd = .slice a 1 c := by obtain ⟨a, c, h⟩ := own_form hparts.own; exact ⟨a, c, h⟩
  have HTX := hide htx
  have HRM := hide hrm
  have HP := hide hparts
  have HV := hide hvar
  have HND := hide hnd
  have HX := hide hx
  have hnl : nm < w.heap.size := htx.num.lt
  have hrl : rm < w.heap.size := hrm.lt
  clear htx hrm hparts hvar hnd hx
  rw [hbd]
  obtain ⟨wB, HWB⟩ : ∃ wB, Hid (wB = ((w.alloc (.cells #[.string { data := #[] }, .slice none 0 0, .int .i64 0, .slice bda 1 bdc] 82)).alloc (.map #[] 0)).alloc (.cells #[.pointer (some ⟨S, 0, none⟩), .map (some (w.heap.size + 1))] 140)) := ⟨_, rfl⟩
  have hwB := HWB.out.symm
  have HGB : Hid (w.grownBy wB none) := by rw [HWB.out]; exact fr_both (fr_both (fr_alloc _ _ _) (fr_alloc _ _ _)) (fr_alloc _ _ _)
  have p0 : wB.heap[w.heap.size]? = some (.cells #[.string { data := #[] }, .slice none 0 0, .int .i64 0, .slice bda 1 bdc] 82) := by rw [HWB.out]; exact al3_0 _ _ _ _
  have p2 : wB.heap[w.heap.size + 2]? = some (.cells #[.pointer (some ⟨S, 0, none⟩), .map (some (w.heap.size + 1))] 140) := by rw [HWB.out]; exact al3_2 _ _ _ _
  have HP0 := hide p0
  have HP2 := hide p2
  have HVM : Hid (VarM (w.heap.size + 1) [] wB) := by
    have h1 := World.ownsMap_made (H := Unit) (w.alloc (.cells #[.string { data := #[] }, .slice none 0 0, .int .i64 0, .slice bda 1 bdc] 82)) Tryz.prog 9 (plainElem Tryz.prog 3)
    rw [World.size_alloc] at h1
    refine ⟨.map [], ?_, NumT.nil, rfl⟩
    rw [HWB.out]
    exact h1.kept (fr_alloc _ _ none) (by simp)
  have HPM := hide (parts_any base S nm rm R (w.heap.size + 1) pb n name l bd u p wB vl D (HTX.out.grown HGB.out) (HRM.out.kept HGB.out (by simp)) (by omega) (by omega) HVM.out (HP.out.kept HGB.out (fun g h => by cases h)) hk hpn HV.out hpl hnn HND.out HX.out hname)
  rw [hbd] at HPM
  have c0 : wB.cell? ⟨w.heap.size, 1, none⟩ = some (.slice none 0 0) := cell_of p0 1 _ rfl
  have c3 : wB.cell? ⟨w.heap.size, 3, none⟩ = some (.slice bda 1 bdc) := cell_of p0 3 _ rfl
  have m0 : wB.cell? ⟨w.heap.size + 1 + 1, 0, none⟩ = some (.pointer (some ⟨S, 0, none⟩)) := cell_of p2 0 _ rfl
  have m1 : wB.cell? ⟨w.heap.size + 1 + 1, 1, none⟩ = some (.map (some (w.heap.size + 1))) := cell_of p2 1 _ rfl
  clear p0 p2
  go_enter Tryz.func33, Tryz.ntmps33
  go_wp2_with fail
  refine HPM.out.mono ?_
  rintro _ w1 ⟨⟨vp, vt, rfl, hvp, hvt⟩, hvm, hg1⟩
  have hf1 := FrS.of (S := fun j => j = w.heap.size + 1) hg1 (fun g e => .inl (Option.some.inj e).symm)
  have HF1 := hide hf1
  have HVP := hide hvp
  have HVT := hide hvt
  have HVM1 := hide hvm
  obtain ⟨gp, cp, hvpe, _, _⟩ := hvp.form (by omega)
  subst hvpe
  have d0 := hf1.cell c0 (by show ¬ w.heap.size = w.heap.size + 1; omega)
  have n0 := hf1.cell m0 (by show ¬ w.heap.size + 1 + 1 = w.heap.size + 1; omega)
  have n1 := hf1.cell m1 (by show ¬ w.heap.size + 1 + 1 = w.heap.size + 1; omega)
  have HTN := hide (terms_none S (w.heap.size + 1) w1)
  have hs1 : wB.heap.size ≤ w1.heap.size := hg1.size
  have hsB : wB.heap.size = w.heap.size + 3 := by rw [HWB.out]; simp
  have HSB := hide hsB
  clear hvp hvt hvm hg1 hf1 c0 c3 m0 m1 hsB
  go_wp2_with fail
  refine HTN.out.mono ?_
  rintro _ w2 ⟨rfl, hg2⟩
  have HG2 := hide hg2
  have hf2 := FrS.none (S := fun _ => False) hg2
  have q0 := hf2.cell n0 (fun h => h)
  have q1 := hf2.cell n1 (fun h => h)
  have HVM2 : Hid (VarM (w.heap.size + 1) (p.atom.args.map (·.text)) w2) := by
    obtain ⟨D', h1, h2⟩ := HVM1.out.map
    exact ⟨D', h1.kept hg2 (by simp), h2⟩
  have hs2 : w1.heap.size ≤ w2.heap.size := hg2.size
  clear hg2 hf2 d0 n0 n1
  have HLN : Hid (∀ W : World, w2.grownBy W none → (Builtin.len_ #[72] 3 #[.map (some (w.heap.size + 1))]).run Tryz.prog W = .ok (.int .i64 (n : Nat)) W) := by
    intro W hg
    obtain ⟨D', h1, h2, h3⟩ := HVM2.out.map
    have := (h1.kept hg (by simp)).len Tryz.underlying72 3
    rw [h3, List.length_map, hpl] at this; exact this
  have hl0 := HLN.out w2.drew (fr_draws w2 1 none)
  obtain ⟨wm, hmk, hownM, hgM⟩ := run_make_full w2.drew w.heap.size 146 4 i0 (.bool false) 1 (P := Tryz.prog) Tryz.underlying146 hi hz0 hz1 .i64 .i64 n (by rw [hz2]; omega) (by unfold maxLen; omega) (by show w.heap.size ≤ w2.heap.size; have := HSB.out; omega)
  have hmk' : Sem.run Tryz.prog (Instr.makeSlice 146 (.int .i64 (n : Nat)) (.int .i64 (n : Nat))) w2.drew = .ok (.slice (some ⟨w2.heap.size, 0, none⟩) n n) wm := hmk
  have HOM : Hid (wm.ownsRow w.heap.size 4 1 (.slice (some ⟨w2.heap.size, 0, none⟩) n n) n (offV n)) := by
    have h5 := hownM
    have e1 : (madeCells (Value.bool false).cells (n * 1)).toList = offV n := by rw [Nat.mul_one]; exact toList_madeCells_one _ _
    rw [e1] at h5
    exact h5
  have HGM : Hid (w2.grownBy wm none) := fr_both (fr_draws w2 1 none) hgM
  have hfm := FrS.none (S := fun _ => False) HGM.out
  have s0 := hfm.cell q0 (fun h => h)
  have s1 := hfm.cell q1 (fun h => h)
  have s2 := HLN.out wm HGM.out
  have HPL : Hid (Calls Tryz.prog 67 #[.agg #[.pointer (some ⟨S, 0, none⟩), .map (some (w.heap.size + 1))], .slice none 0 0, .slice (some ⟨gp, 0, none⟩) 1 cp, .int .i64 (-1), .slice (some ⟨w2.heap.size, 0, none⟩) n n] wm fun e w' => ∃ P parts stops, e = .returned (.pointer (some ⟨P, 0, none⟩)) ∧ Hid (Planned w.heap.size P S R n parts (.slice (some ⟨w2.heap.size, 0, none⟩) n n) stops vt w') ∧ Hid (w2.grownBy w' none) ∧ w'.cell? ⟨w.heap.size + 1 + 1, 0, none⟩ = some (.pointer (some ⟨S, 0, none⟩)) ∧ w'.cell? ⟨w.heap.size + 1 + 1, 1, none⟩ = some (.map (some (w.heap.size + 1))) ∧ (Builtin.len_ #[72] 3 #[.map (some (w.heap.size + 1))]).run Tryz.prog w' = .ok (.int .i64 (n : Nat)) w') := by
    have hgm2 := fr_both HG2.out HGM.out
    have hbb : w.heap.size ≤ wB.heap.size := by have := HSB.out; omega
    refine (plan_any w.heap.size S (w.heap.size + 1) n R gp cp vt _ (p.atom.args.map (·.text)) wm (by obtain ⟨D', h1, h2⟩ := HVM2.out.map; exact ⟨D', h1.kept HGM.out (by simp), h2⟩) (by rw [List.length_map, hpl]) (by have := HGM.out.size; have := HSB.out; omega) (own_far (own_lower HVP.out hbb) hgm2 (by simp)) ((own_lower HVT.out hbb).kept hgm2 (by cases vt.ownBlock <;> simp)) HOM.out hnn).mono ?_
    rintro e w' ⟨⟨P, parts, stops, rfl, hpln⟩, hg⟩
    have hg2' := fr_both HGM.out hg
    have hf := FrS.none (S := fun _ => False) hg2'
    exact ⟨P, parts, stops, rfl, hpln, hg2', hf.cell q0 (fun h => h), hf.cell q1 (fun h => h), HLN.out w' hg2'⟩
  clear hmk hownM hgM hfm
  go_wp2_with fail
  go_region_held3 (fun w' => w'.cell? ⟨w.heap.size + 1 + 1, 0, none⟩ = some (.pointer (some ⟨S, 0, none⟩)) ∧ w'.cell? ⟨w.heap.size + 1 + 1, 1, none⟩ = some (.map (some (w.heap.size + 1))) ∧ (Builtin.len_ #[72] 3 #[.map (some (w.heap.size + 1))]).run Tryz.prog w' = .ok (.int .i64 (n : Nat)) w') (go_keep)
    (first | (go_at_call 67; refine HPL.out.mono ?_; rintro e w5 ⟨P, parts, stops, rfl, HPN, HG5, k0, k1, k2⟩))
  all_goals go_wp2
  all_goals go_ret
  have hgf : w.grownBy w5 none := by
    refine fr_both (fr_far HGB.out HF1.out (fun j hj e => ?_)) (fr_both HG2.out HG5.out)
    have e' : j = w.heap.size + 1 := e
    omega
  exact ⟨⟨P, parts, _, stops, vt, rfl, HPN.out⟩, hgf⟩
end Go.Proofs.YtdfbjnachakkhaaGreatDoor

namespace Go.Proofs.YtdfbjnachakkhaaGreatDoor
open Go.ChangeShapes Go.WideShapes Go.ChangeAt Go.RowKit Go.Hands Go.WideMaps Go.Maps
set_option linter.unusedVariables false
set_option maxRecDepth 100000
/-- nothing is put -/
def noneV (n : Nat) : List Value := List.replicate n (.int .i64 (-1))
theorem noneV_at {n i : Nat} (h : i < n) : (noneV n)[i]? = some (.int .i64 (-1)) := by simp [noneV, h]
set_option maxHeartbeats 1000000 in
theorem text_none (n i g c : Nat) (w : World) (hi : i < n) (hn : n ≤ 8) (h : w.cell? ⟨g, i, none⟩ = some (.int .i64 (-1))) :
    Calls Tryz.prog 191 #[.slice (some ⟨g, 0, none⟩) n c, .agg #[.bool true, .int .i64 (i : Nat)]] w fun e w' => e = .returned (.tuple #[.int .i64 (-1), .bool false]) ∧ w.grownBy w' none := by
  obtain ⟨wA, HWA⟩ : ∃ wA, Hid (wA = w.alloc (.cells #[.bool true, .int .i64 (i : Nat)] 204)) := ⟨_, rfl⟩
  have hwA := HWA.out.symm
  have HGA : Hid (w.grownBy wA none) := by rw [HWA.out]; exact fr_alloc _ _ _
  have p0 : wA.heap[w.heap.size]? = some (.cells #[.bool true, .int .i64 (i : Nat)] 204) := by rw [HWA.out]; exact heap_alloc_new _ _
  have c0 : wA.cell? ⟨w.heap.size, 0, none⟩ = some (.bool true) := cell_of p0 0 _ rfl
  have c1 : wA.cell? ⟨w.heap.size, 1, none⟩ = some (.int .i64 (i : Nat)) := cell_of p0 1 _ rfl
  have c2 := (FrS.none (S := fun _ => False) HGA.out).cell h (fun h => h)
  have hd := fun k => FrS.none (S := fun _ => False) (fr_draws wA k none)
  have d1 := fun k => (hd k).cell c1 (fun h => h)
  have d2 := fun k => (hd k).cell c2 (fun h => h)
  clear hd p0 h
  go_enter Tryz.func191, Tryz.ntmps191
  go_wp2_with fail
  go_region_held3 (fun w' => w'.cell? ⟨w.heap.size, 1, none⟩ = some (.int .i64 (i : Nat)) ∧ w'.cell? ⟨g, i, none⟩ = some (.int .i64 (-1))) (go_keep) (fail)
  all_goals go_wp2
  all_goals refine bodyPost_ret (v := .tuple #[.int .i64 (-1), .bool false]) (by simp [results, Tryz.results191, go_sem]) rfl ⟨rfl, fr_both HGA.out (fr_draws wA 1 none)⟩
set_option maxHeartbeats 1000000 in
theorem everywhere_any (R n old now ix k : Nat) (vr vu : Value) (w : World) (h : w.heap[R]? = some (.cells (relC n vr vu old now ix) 200 (0, 0))) :
    Calls Tryz.prog 35 #[.int .i64 (k : Nat), .pointer (some ⟨R, 0, none⟩)] w fun e w' => e = .returned (.agg #[.int .i64 0, .int .i64 (now : Nat)]) ∧ w.grownBy w' none := by
  have HA : Hid (∀ W, w.grownBy W none → Calls Tryz.prog 72 #[.pointer (some ⟨R, 0, none⟩)] W fun e w' => e = .returned (.agg #[.int .i64 0, .int .i64 (now : Nat)]) ∧ W.grownBy w' none) := fun W hg => relAll_any R n old now ix vr vu W ((hg.block R (Array.getElem?_eq_some_iff.1 h).1 (by simp)).trans h)
  clear h
  obtain ⟨wA, HWA⟩ : ∃ wA, Hid (wA = w.alloc (.cells #[.int .i64 0, .int .i64 0] 164)) := ⟨_, rfl⟩
  have HGA : Hid (w.grownBy wA none) := by rw [HWA.out]; exact fr_alloc _ _ _
  have HP0 : Hid (wA.heap[w.heap.size]? = some (.cells #[.int .i64 0, .int .i64 0] 164 (0, 0))) := by rw [HWA.out]; exact heap_alloc_new _ _
  have hsA : w.heap.size < wA.heap.size := by rw [HWA.out]; simp
  go_enter Tryz.func35, Tryz.ntmps35
  go_wp2_with fail
  rw [← HWA.out]
  refine (HA.out wA HGA.out).mono ?_
  rintro _ w1 ⟨rfl, hg1⟩
  have HB1 : Hid (w1.heap[w.heap.size]? = some (.cells #[.int .i64 0, .int .i64 0] 164 (0, 0))) := (hg1.block _ hsA (by simp)).trans HP0.out
  have HG1 : Hid (w.grownBy w1 none) := fr_both HGA.out hg1
  have x0 : w1.cell? ⟨w.heap.size, 0, none⟩ = some (.int .i64 0) := cell_of HB1.out 0 _ rfl
  have x1 : w1.cell? ⟨w.heap.size, 1, none⟩ = some (.int .i64 0) := cell_of HB1.out 1 _ rfl
  have t0 := thaw_of HB1.out 0
  have t1 := thaw_of HB1.out 1
  clear hg1
  go_wp2
  have hb3 := blk_set (blk_set HB1.out 0 (.int .i64 0)) 1 (.int .i64 (now : Nat))
  have y0 := cell_of hb3 0 (.int .i64 0) rfl
  have y1 := cell_of hb3 1 (.int .i64 (now : Nat)) rfl
  refine bodyPost_ret (v := .agg #[.int .i64 0, .int .i64 (now : Nat)]) (by simp [results, Tryz.results35, go_sem, y0, y1]) rfl ⟨rfl, ?_⟩
  exact fr_trans (fr_trans HG1.out (fr_set w1 w.heap.size 0 _) (fun q hq => Or.inr (by cases hq; exact Nat.le_refl _))) (fr_set _ w.heap.size 1 _) (fun q hq => Or.inr (by cases hq; exact Nat.le_refl _))
set_option maxHeartbeats 1000000 in
theorem bound_none (B Bw n : Nat) (wv vt : Value) (w : World) (hw : w.ownsRow Bw 3 1 wv n (noneV n)) (h : w.ownsRow B 204 2 vt n (tvV n)) (hn : n ≤ 8) :
    Calls Tryz.prog 185 #[wv, vt] w fun e w' => e = .returned (.tuple #[.int .i64 0, rowV [0, 0, 0, 0, 0, 0, 0, 0]]) ∧ w.grownBy w' none := by
  have HO := hide h
  have HW := hide hw
  obtain ⟨va, vc, hve⟩ := own_form h
  obtain ⟨wa, wc, hwe⟩ := own_form hw
  rw [hve, hwe]
  clear h hw
  obtain ⟨wA, HWA⟩ : ∃ wA, Hid (wA = (w.alloc (.cells #[.int .i64 0, .int .i64 0, .int .i64 0, .int .i64 0, .int .i64 0, .int .i64 0, .int .i64 0, .int .i64 0] 193)).alloc (.cells #[.int .i64 0, .int .i64 0, .int .i64 0, .int .i64 0, .int .i64 0, .int .i64 0, .int .i64 0, .int .i64 0] 193)) := ⟨_, rfl⟩
  have HGA : Hid (w.grownBy wA none) := by rw [HWA.out]; exact fr_both (fr_alloc _ _ _) (fr_alloc _ _ _)
  have HP0 : Hid (wA.heap[w.heap.size]? = some (.cells #[.int .i64 0, .int .i64 0, .int .i64 0, .int .i64 0, .int .i64 0, .int .i64 0, .int .i64 0, .int .i64 0] 193 (0, 0))) := by rw [HWA.out, Below.heap_alloc _ _ _ (by simp)]; exact heap_alloc_new _ _
  have HP1 : Hid (wA.heap[w.heap.size + 1]? = some (.cells #[.int .i64 0, .int .i64 0, .int .i64 0, .int .i64 0, .int .i64 0, .int .i64 0, .int .i64 0, .int .i64 0] 193 (0, 0))) := by
    rw [HWA.out]
    have := heap_alloc_new (w.alloc (.cells #[.int .i64 0, .int .i64 0, .int .i64 0, .int .i64 0, .int .i64 0, .int .i64 0, .int .i64 0, .int .i64 0] 193)) (.cells #[.int .i64 0, .int .i64 0, .int .i64 0, .int .i64 0, .int .i64 0, .int .i64 0, .int .i64 0, .int .i64 0] 193)
    rw [World.size_alloc] at this; exact this
  have HSA : Hid (wA.heap.size = w.heap.size + 2) := by show _ = _; rw [HWA.out]; simp
  go_enter Tryz.func185, Tryz.ntmps185
  go_wp2_with fail
  go_loopw [6, 14] (fun cv iv wr => ∃ i : Nat, i ≤ n ∧ iv = .int .i64 i ∧ cv = .int .i64 0 ∧ Hid (wA.grownBy wr none)) (fun _ iv _ => n - (intOf iv).toNat)
  case atStart => exact ⟨0, Nat.zero_le _, rfl, rfl, by rw [HWA.out]; exact fr_refl _ _⟩
  case round =>
    obtain ⟨i, hin, rfl, rfl, HG⟩ := hrel
    by_cases hlt : i < n
    · obtain ⟨g, hg⟩ : ∃ g, va = some ⟨g, 0, none⟩ := by
        rcases HO.out.2 with ⟨e, e0⟩ | ⟨g, cap, cur, e, _⟩
        · omega
        · rw [hve] at e; injection e with e1 e2 e3; exact ⟨g, e1⟩
      obtain ⟨gw, hgw⟩ : ∃ g, wa = some ⟨g, 0, none⟩ := by
        rcases HW.out.2 with ⟨e, e0⟩ | ⟨g, cap, cur, e, _⟩
        · omega
        · rw [hwe] at e; injection e with e1 e2 e3; exact ⟨g, e1⟩
      have hob : vt.ownBlock = some g := by rw [hve, hg]; rfl
      have hobw : wv.ownBlock = some gw := by rw [hwe, hgw]; rfl
      have hf := FrS.none (S := fun _ => False) (fr_both HGA.out HG.out)
      have z0 := hf.cell (own_cell HO.out hob (i * 2) _ (tvV_at0 hlt)) (fun h => h)
      have z1 := hf.cell (own_cell HO.out hob (i * 2 + 1) _ (tvV_at1 hlt)) (fun h => h)
      have z2 := hf.cell (own_cell HW.out hobw i _ (noneV_at hlt)) (fun h => h)
      rw [hg, hgw]
      obtain ⟨wb, HWB⟩ : ∃ wb, Hid (wb = wr.alloc (.cells #[.bool true, .int .i64 (i : Nat)] 204)) := ⟨_, rfl⟩
      have hwb := HWB.out.symm
      have HGB : Hid (wr.grownBy wb none) := by rw [HWB.out]; exact fr_alloc _ _ _
      have hbl : wb.heap[wr.heap.size]? = some (.cells #[.bool true, .int .i64 (i : Nat)] 204) := by rw [HWB.out]; exact heap_alloc_new _ _
      have d0 : wb.cell? ⟨wr.heap.size, 0, none⟩ = some (.bool true) := cell_of hbl 0 _ rfl
      have d1 : wb.cell? ⟨wr.heap.size, 1, none⟩ = some (.int .i64 (i : Nat)) := cell_of hbl 1 _ rfl
      have HTX := hide (text_none n i gw wc wb hlt hn ((FrS.none (S := fun _ => False) HGB.out).cell z2 (fun h => h)))
      clear hbl hf hob hobw z2
      go_wp2_with fail
      refine HTX.out.mono ?_
      rintro _ w2 ⟨rfl, hg2⟩
      have HG2 : Hid (wA.grownBy w2 none) := fr_both HG.out (fr_both HGB.out hg2)
      clear hg2
      go_wp2
      go_roundw
      case rel => exact ⟨i + 1, by omega, by go_num, rfl, HG2⟩
      case measure => simp [intOf]; omega
    · have b0 : wr.drew.heap[w.heap.size]? = some (.cells #[.int .i64 0, .int .i64 0, .int .i64 0, .int .i64 0, .int .i64 0, .int .i64 0, .int .i64 0, .int .i64 0] 193 (0, 0)) := (HG.out.block w.heap.size (by have := HSA.out; omega) (by simp)).trans HP0.out
      have b1 : wr.drew.heap[w.heap.size + 1]? = some (.cells #[.int .i64 0, .int .i64 0, .int .i64 0, .int .i64 0, .int .i64 0, .int .i64 0, .int .i64 0, .int .i64 0] 193 (0, 0)) := (HG.out.block (w.heap.size + 1) (by have := HSA.out; omega) (by simp)).trans HP1.out
      have y0 : wr.drew.cell? ⟨w.heap.size + 1, 0, none⟩ = some (.int .i64 0) := cell_of b1 0 _ rfl
      have x0 : wr.drew.cell? ⟨w.heap.size, 0, none⟩ = some (.int .i64 0) := cell_of b0 0 _ rfl
      have t0 := thaw_of b0 0
      have s0 := setCell_same (j := 0) (v := .int .i64 0) b0 rfl
      have y1 : wr.drew.cell? ⟨w.heap.size + 1, 1, none⟩ = some (.int .i64 0) := cell_of b1 1 _ rfl
      have x1 : wr.drew.cell? ⟨w.heap.size, 1, none⟩ = some (.int .i64 0) := cell_of b0 1 _ rfl
      have t1 := thaw_of b0 1
      have s1 := setCell_same (j := 1) (v := .int .i64 0) b0 rfl
      have y2 : wr.drew.cell? ⟨w.heap.size + 1, 2, none⟩ = some (.int .i64 0) := cell_of b1 2 _ rfl
      have x2 : wr.drew.cell? ⟨w.heap.size, 2, none⟩ = some (.int .i64 0) := cell_of b0 2 _ rfl
      have t2 := thaw_of b0 2
      have s2 := setCell_same (j := 2) (v := .int .i64 0) b0 rfl
      have y3 : wr.drew.cell? ⟨w.heap.size + 1, 3, none⟩ = some (.int .i64 0) := cell_of b1 3 _ rfl
      have x3 : wr.drew.cell? ⟨w.heap.size, 3, none⟩ = some (.int .i64 0) := cell_of b0 3 _ rfl
      have t3 := thaw_of b0 3
      have s3 := setCell_same (j := 3) (v := .int .i64 0) b0 rfl
      have y4 : wr.drew.cell? ⟨w.heap.size + 1, 4, none⟩ = some (.int .i64 0) := cell_of b1 4 _ rfl
      have x4 : wr.drew.cell? ⟨w.heap.size, 4, none⟩ = some (.int .i64 0) := cell_of b0 4 _ rfl
      have t4 := thaw_of b0 4
      have s4 := setCell_same (j := 4) (v := .int .i64 0) b0 rfl
      have y5 : wr.drew.cell? ⟨w.heap.size + 1, 5, none⟩ = some (.int .i64 0) := cell_of b1 5 _ rfl
      have x5 : wr.drew.cell? ⟨w.heap.size, 5, none⟩ = some (.int .i64 0) := cell_of b0 5 _ rfl
      have t5 := thaw_of b0 5
      have s5 := setCell_same (j := 5) (v := .int .i64 0) b0 rfl
      have y6 : wr.drew.cell? ⟨w.heap.size + 1, 6, none⟩ = some (.int .i64 0) := cell_of b1 6 _ rfl
      have x6 : wr.drew.cell? ⟨w.heap.size, 6, none⟩ = some (.int .i64 0) := cell_of b0 6 _ rfl
      have t6 := thaw_of b0 6
      have s6 := setCell_same (j := 6) (v := .int .i64 0) b0 rfl
      have y7 : wr.drew.cell? ⟨w.heap.size + 1, 7, none⟩ = some (.int .i64 0) := cell_of b1 7 _ rfl
      have x7 : wr.drew.cell? ⟨w.heap.size, 7, none⟩ = some (.int .i64 0) := cell_of b0 7 _ rfl
      have t7 := thaw_of b0 7
      have s7 := setCell_same (j := 7) (v := .int .i64 0) b0 rfl
      have HGW : Hid (w.grownBy wr.drew none) := fr_both (fr_both HGA.out HG.out) (fr_draws wr 1 none)
      clear b0 b1
      go_wp2_with fail
      go_region_held3 (fun w' => w'.cell? ⟨w.heap.size + 1, 0, none⟩ = some (.int .i64 0) ∧ w'.cell? ⟨w.heap.size + 1, 1, none⟩ = some (.int .i64 0) ∧ w'.cell? ⟨w.heap.size + 1, 2, none⟩ = some (.int .i64 0) ∧ w'.cell? ⟨w.heap.size + 1, 3, none⟩ = some (.int .i64 0) ∧ w'.cell? ⟨w.heap.size + 1, 4, none⟩ = some (.int .i64 0) ∧ w'.cell? ⟨w.heap.size + 1, 5, none⟩ = some (.int .i64 0) ∧ w'.cell? ⟨w.heap.size + 1, 6, none⟩ = some (.int .i64 0) ∧ w'.cell? ⟨w.heap.size + 1, 7, none⟩ = some (.int .i64 0)) (go_keep) (fail)
      all_goals go_wp2
      all_goals refine bodyPost_ret (v := .tuple #[.int .i64 0, rowV [0, 0, 0, 0, 0, 0, 0, 0]]) (by simp [results, Tryz.results185, go_sem, x0, x1, x2, x3, x4, x5, x6, x7, rowV]) rfl ⟨rfl, HGW.out⟩
end Go.Proofs.YtdfbjnachakkhaaGreatDoor
