import Derived.Test.YtdfbjnachakkhaaGreatDoorM06
namespace Go.Proofs.YtdfbjnachakkhaaGreatDoor
open Go.ChangeShapes Go.WideShapes Go.ChangeAt Go.RowKit
set_option linter.unusedVariables false
/-- the first columns of a row -/
def maskR (n : Nat) (a : List Nat) : List Nat := a.take n ++ List.replicate (a.length - n) 0
theorem idx0 (a0 a1 a2 a3 a4 a5 a6 a7 : Int) (W : World) : (Instr.index 193 (.agg #[.int .i64 a0, .int .i64 a1, .int .i64 a2, .int .i64 a3, .int .i64 a4, .int .i64 a5, .int .i64 a6, .int .i64 a7]) (.int .i64 0)).run Tryz.prog W = .ok (.int .i64 a0) W := by kernel_rfl
theorem idx1 (a0 a1 a2 a3 a4 a5 a6 a7 : Int) (W : World) : (Instr.index 193 (.agg #[.int .i64 a0, .int .i64 a1, .int .i64 a2, .int .i64 a3, .int .i64 a4, .int .i64 a5, .int .i64 a6, .int .i64 a7]) (.int .i64 1)).run Tryz.prog W = .ok (.int .i64 a1) W := by kernel_rfl
theorem idx2 (a0 a1 a2 a3 a4 a5 a6 a7 : Int) (W : World) : (Instr.index 193 (.agg #[.int .i64 a0, .int .i64 a1, .int .i64 a2, .int .i64 a3, .int .i64 a4, .int .i64 a5, .int .i64 a6, .int .i64 a7]) (.int .i64 2)).run Tryz.prog W = .ok (.int .i64 a2) W := by kernel_rfl
theorem idx3 (a0 a1 a2 a3 a4 a5 a6 a7 : Int) (W : World) : (Instr.index 193 (.agg #[.int .i64 a0, .int .i64 a1, .int .i64 a2, .int .i64 a3, .int .i64 a4, .int .i64 a5, .int .i64 a6, .int .i64 a7]) (.int .i64 3)).run Tryz.prog W = .ok (.int .i64 a3) W := by kernel_rfl
theorem idx4 (a0 a1 a2 a3 a4 a5 a6 a7 : Int) (W : World) : (Instr.index 193 (.agg #[.int .i64 a0, .int .i64 a1, .int .i64 a2, .int .i64 a3, .int .i64 a4, .int .i64 a5, .int .i64 a6, .int .i64 a7]) (.int .i64 4)).run Tryz.prog W = .ok (.int .i64 a4) W := by kernel_rfl
theorem idx5 (a0 a1 a2 a3 a4 a5 a6 a7 : Int) (W : World) : (Instr.index 193 (.agg #[.int .i64 a0, .int .i64 a1, .int .i64 a2, .int .i64 a3, .int .i64 a4, .int .i64 a5, .int .i64 a6, .int .i64 a7]) (.int .i64 5)).run Tryz.prog W = .ok (.int .i64 a5) W := by kernel_rfl
theorem idx6 (a0 a1 a2 a3 a4 a5 a6 a7 : Int) (W : World) : (Instr.index 193 (.agg #[.int .i64 a0, .int .i64 a1, .int .i64 a2, .int .i64 a3, .int .i64 a4, .int .i64 a5, .int .i64 a6, .int .i64 a7]) (.int .i64 6)).run Tryz.prog W = .ok (.int .i64 a6) W := by kernel_rfl
theorem idx7 (a0 a1 a2 a3 a4 a5 a6 a7 : Int) (W : World) : (Instr.index 193 (.agg #[.int .i64 a0, .int .i64 a1, .int .i64 a2, .int .i64 a3, .int .i64 a4, .int .i64 a5, .int .i64 a6, .int .i64 a7]) (.int .i64 7)).run Tryz.prog W = .ok (.int .i64 a7) W := by kernel_rfl
set_option maxRecDepth 100000 in
set_option maxHeartbeats 4000000 in
theorem of_any (n : Nat) (h : n ≤ 8) (a0 a1 a2 a3 a4 a5 a6 a7 : Nat) (w : World) :
    Calls Tryz.prog 131 #[.int .i64 ((2 ^ n - 1 : Nat) : Int), rowV [a0, a1, a2, a3, a4, a5, a6, a7]] w fun e w' => e = .returned (rowV (maskR n [a0, a1, a2, a3, a4, a5, a6, a7])) ∧ Below w.heap.size w w' := by
  dsimp only [rowV, List.map]
  have x0 := idx0 (a0 : Nat) (a1 : Nat) (a2 : Nat) (a3 : Nat) (a4 : Nat) (a5 : Nat) (a6 : Nat) (a7 : Nat)
  have x1 := idx1 (a0 : Nat) (a1 : Nat) (a2 : Nat) (a3 : Nat) (a4 : Nat) (a5 : Nat) (a6 : Nat) (a7 : Nat)
  have x2 := idx2 (a0 : Nat) (a1 : Nat) (a2 : Nat) (a3 : Nat) (a4 : Nat) (a5 : Nat) (a6 : Nat) (a7 : Nat)
  have x3 := idx3 (a0 : Nat) (a1 : Nat) (a2 : Nat) (a3 : Nat) (a4 : Nat) (a5 : Nat) (a6 : Nat) (a7 : Nat)
  have x4 := idx4 (a0 : Nat) (a1 : Nat) (a2 : Nat) (a3 : Nat) (a4 : Nat) (a5 : Nat) (a6 : Nat) (a7 : Nat)
  have x5 := idx5 (a0 : Nat) (a1 : Nat) (a2 : Nat) (a3 : Nat) (a4 : Nat) (a5 : Nat) (a6 : Nat) (a7 : Nat)
  have x6 := idx6 (a0 : Nat) (a1 : Nat) (a2 : Nat) (a3 : Nat) (a4 : Nat) (a5 : Nat) (a6 : Nat) (a7 : Nat)
  have x7 := idx7 (a0 : Nat) (a1 : Nat) (a2 : Nat) (a3 : Nat) (a4 : Nat) (a5 : Nat) (a6 : Nat) (a7 : Nat)
  match n, h with
  | 0, _ =>
    go_enter Tryz.func131, Tryz.ntmps131
    go_wp2
    refine wp_loop_rounds 9 ?_
    iterate 9
      rw [rounds_succ]
      go_wp2
    refine bodyPost_ret (v := rowV (maskR 0 [a0, a1, a2, a3, a4, a5, a6, a7])) (by simp [results, Tryz.results131, go_sem, rowV, maskR]) rfl ?_
    exact ⟨rfl, (((Below.refl _ _).alloc (Nat.le_refl _) _).alloc (by simp) _).alloc (by simp; omega) _⟩
  | 1, _ =>
    go_enter Tryz.func131, Tryz.ntmps131
    go_wp2
    refine wp_loop_rounds 9 ?_
    iterate 9
      rw [rounds_succ]
      go_wp2
    refine bodyPost_ret (v := rowV (maskR 1 [a0, a1, a2, a3, a4, a5, a6, a7])) (by simp [results, Tryz.results131, go_sem, rowV, maskR]) rfl ?_
    exact ⟨rfl, (((Below.refl _ _).alloc (Nat.le_refl _) _).alloc (by simp) _).alloc (by simp; omega) _⟩
  | 2, _ =>
    go_enter Tryz.func131, Tryz.ntmps131
    go_wp2
    refine wp_loop_rounds 9 ?_
    iterate 9
      rw [rounds_succ]
      go_wp2
    refine bodyPost_ret (v := rowV (maskR 2 [a0, a1, a2, a3, a4, a5, a6, a7])) (by simp [results, Tryz.results131, go_sem, rowV, maskR]) rfl ?_
    exact ⟨rfl, (((Below.refl _ _).alloc (Nat.le_refl _) _).alloc (by simp) _).alloc (by simp; omega) _⟩
  | 3, _ =>
    go_enter Tryz.func131, Tryz.ntmps131
    go_wp2
    refine wp_loop_rounds 9 ?_
    iterate 9
      rw [rounds_succ]
      go_wp2
    refine bodyPost_ret (v := rowV (maskR 3 [a0, a1, a2, a3, a4, a5, a6, a7])) (by simp [results, Tryz.results131, go_sem, rowV, maskR]) rfl ?_
    exact ⟨rfl, (((Below.refl _ _).alloc (Nat.le_refl _) _).alloc (by simp) _).alloc (by simp; omega) _⟩
  | 4, _ =>
    go_enter Tryz.func131, Tryz.ntmps131
    go_wp2
    refine wp_loop_rounds 9 ?_
    iterate 9
      rw [rounds_succ]
      go_wp2
    refine bodyPost_ret (v := rowV (maskR 4 [a0, a1, a2, a3, a4, a5, a6, a7])) (by simp [results, Tryz.results131, go_sem, rowV, maskR]) rfl ?_
    exact ⟨rfl, (((Below.refl _ _).alloc (Nat.le_refl _) _).alloc (by simp) _).alloc (by simp; omega) _⟩
  | 5, _ =>
    go_enter Tryz.func131, Tryz.ntmps131
    go_wp2
    refine wp_loop_rounds 9 ?_
    iterate 9
      rw [rounds_succ]
      go_wp2
    refine bodyPost_ret (v := rowV (maskR 5 [a0, a1, a2, a3, a4, a5, a6, a7])) (by simp [results, Tryz.results131, go_sem, rowV, maskR]) rfl ?_
    exact ⟨rfl, (((Below.refl _ _).alloc (Nat.le_refl _) _).alloc (by simp) _).alloc (by simp; omega) _⟩
  | 6, _ =>
    go_enter Tryz.func131, Tryz.ntmps131
    go_wp2
    refine wp_loop_rounds 9 ?_
    iterate 9
      rw [rounds_succ]
      go_wp2
    refine bodyPost_ret (v := rowV (maskR 6 [a0, a1, a2, a3, a4, a5, a6, a7])) (by simp [results, Tryz.results131, go_sem, rowV, maskR]) rfl ?_
    exact ⟨rfl, (((Below.refl _ _).alloc (Nat.le_refl _) _).alloc (by simp) _).alloc (by simp; omega) _⟩
  | 7, _ =>
    go_enter Tryz.func131, Tryz.ntmps131
    go_wp2
    refine wp_loop_rounds 9 ?_
    iterate 9
      rw [rounds_succ]
      go_wp2
    refine bodyPost_ret (v := rowV (maskR 7 [a0, a1, a2, a3, a4, a5, a6, a7])) (by simp [results, Tryz.results131, go_sem, rowV, maskR]) rfl ?_
    exact ⟨rfl, (((Below.refl _ _).alloc (Nat.le_refl _) _).alloc (by simp) _).alloc (by simp; omega) _⟩
  | 8, _ =>
    go_enter Tryz.func131, Tryz.ntmps131
    go_wp2
    refine wp_loop_rounds 9 ?_
    iterate 9
      rw [rounds_succ]
      go_wp2
    refine bodyPost_ret (v := rowV (maskR 8 [a0, a1, a2, a3, a4, a5, a6, a7])) (by simp [results, Tryz.results131, go_sem, rowV, maskR]) rfl ?_
    exact ⟨rfl, (((Below.refl _ _).alloc (Nat.le_refl _) _).alloc (by simp) _).alloc (by simp; omega) _⟩
end Go.Proofs.YtdfbjnachakkhaaGreatDoor

namespace Go.Proofs.YtdfbjnachakkhaaGreatDoor
open Go.ChangeShapes Go.WideShapes Go.ChangeAt Go.RowKit Go.WideMaps Go.Maps
set_option linter.unusedVariables false
set_option maxRecDepth 100000
theorem heldA_inv {v : Value} {d : DataW Value} {ps : List MemPlace} (h : heldA v = some (d, ps)) : d = .held v := by
  unfold heldA at h; cases h; rfl
theorem keyedC : Keyed Tryz.prog 244 := int_keyed Tryz.underlying244
theorem zeroIdx (w : World) : (zeroValue 246).run Tryz.prog w = .ok (.map none) w := by kernel_rfl
theorem keyC (c : Nat) (h : c ≤ 1000000) : keyOf Tryz.prog 244 (.int .i64 (c : Nat)) = some (.int .i64 (c : Nat)) := keyOf_int_mk Tryz.underlying244 (WalkArith.wf_i64 (by omega))
/-- a list under a row, looked up -/
theorem Idx.look {base b n : Nat} {w : World} {D : DataW Value} {vf : List Nat → Value} {f : List Nat → List Nat} (h : Idx base b n w D vf f) (a : List Nat) (ha : Row8N a) :
    (Instr.lookup 246 (.map (some b)) (rowV a) false).run Tryz.prog w = .ok (vf a) w := by
  obtain ⟨v, ps, hrun, hv⟩ := h.own.lookup keyedRow Tryz.underlying246 (zeroInts w) (zd := .held (.slice none 0 0)) (zp := []) rfl (keyOf_row a ha.1 ha.2)
  have e := heldA_inv hv
  rw [h.at' a ha] at e
  injection e with e
  rw [hrun, e]
/-- an index looked up -/
theorem ix_look {w : World} {ix n : Nat} {D : DataW Value} (h : w.ownsMap Tryz.prog 244 heldA ix n D) (c : Nat) (hc : c ≤ 1000000) (v : Value) (hv : D.atKey (.int .i64 (c : Nat)) (.held (.map none)) = .held v) :
    (Instr.lookup 198 (.map (some ix)) (.int .i64 (c : Nat)) true).run Tryz.prog w = .ok (.tuple #[v, .bool (Maps.has D (.int .i64 (c : Nat)))]) w := by
  obtain ⟨u, ps, hrun, hu⟩ := h.look_ok keyedC Tryz.underlying198 (zeroIdx w) (zd := .held (.map none)) (zp := []) rfl (keyC c hc)
  have e := heldA_inv hu
  rw [hv] at e
  injection e with e
  rw [hrun, e]
theorem heap_alloc_new (w : World) (o : Obj) : (w.alloc o).heap[w.heap.size]? = some o := by unfold World.alloc; simp only [Array.getElem?_push, if_true]
/-- what a relation's block holds -/
def relC (n : Nat) (vr vu : Value) (old now ix : Nat) : Array Value := #[.int .i64 (n : Nat), vr, vu, .int .i64 (old : Nat), .int .i64 (now : Nat), .map (some ix)]
theorem cell_of {w : World} {R : Nat} {arr : Array Value} {t : TypeId} {fz : Nat × Nat} (h : w.heap[R]? = some (.cells arr t fz)) (j : Nat) (v : Value) (hv : arr[j]? = some v) : w.cell? ⟨R, j, none⟩ = some v := by
  unfold World.cell?
  simp only [h]
  exact hv
set_option maxRecDepth 100000 in
theorem whole_any (R n : Nat) (w : World) (h : w.cell? ⟨R, 0, none⟩ = some (.int .i64 (n : Nat))) (hn : n ≤ 8) :
    Calls Tryz.prog 173 #[.pointer (some ⟨R, 0, none⟩)] w fun e w' => e = .returned (.int .i64 ((2 ^ n - 1 : Nat) : Int)) ∧ w' = w := by
  match n, hn with
  | 0, _ | 1, _ | 2, _ | 3, _ | 4, _ | 5, _ | 6, _ | 7, _ | 8, _ =>
    go_enter Tryz.func173, Tryz.ntmps173
    go_wp2
    go_ret
    exact ⟨rfl, rfl⟩
set_option maxRecDepth 100000 in
theorem newRelation_any (n : Nat) (w : World) :
    Calls Tryz.prog 101 #[.int .i64 (n : Nat)] w fun e w' => ∃ R ix, e = .returned (.pointer (some ⟨R, 0, none⟩)) ∧ w'.heap[R]? = some (.cells (relC n (.slice none 0 0) (.slice none 0 0) 0 0 ix) 200 (0, 0)) ∧ w'.ownsMap Tryz.prog 244 heldA ix 0 (.map []) ∧ w.heap.size ≤ R ∧ w.heap.size ≤ ix ∧ w.grownBy w' none := by
  have hmm := @run_makeMap Tryz.prog
  go_enter Tryz.func101, Tryz.ntmps101
  go_wp2
  go_ret
  refine ⟨w.heap.size + 1, w.heap.size, rfl, ?_, ?_, by omega, Nat.le_refl _, fr_both (fr_alloc _ _ _) (fr_alloc _ _ _)⟩
  · have e : w.heap.size + 1 = (w.alloc (Obj.map #[] 0)).heap.size := by simp
    rw [e]
    exact heap_alloc_new _ _
  · exact (World.ownsMap_made _ _ _ _).alloc _
set_option maxRecDepth 100000 in
theorem index_known (R ix n : Nat) (D : DataW Value) (c im : Nat) (w : World) (h5 : w.cell? ⟨R, 5, none⟩ = some (.map (some ix))) (hm : w.ownsMap Tryz.prog 244 heldA ix n D) (hc : c ≤ 1000000) (hv : D.atKey (.int .i64 (c : Nat)) (.held (.map none)) = .held (.map (some im))) (hh : Maps.has D (.int .i64 (c : Nat)) = true) :
    Calls Tryz.prog 172 #[.pointer (some ⟨R, 0, none⟩), .int .i64 (c : Nat)] w fun e w' => e = .returned (.map (some im)) ∧ w' = w := by
  have hl := ix_look hm c hc _ hv
  rw [hh] at hl
  go_enter Tryz.func172, Tryz.ntmps172
  go_wp2
  go_ret
  exact ⟨rfl, rfl⟩
/-- whether a row is there: by the index of all columns -/
theorem has_any (R ix n nI : Nat) (D : DataW Value) (base im k : Nat) (DM : DataW Value) (vf : List Nat → Value) (f : List Nat → List Nat) (a : List Nat) (w : World) (h0 : w.cell? ⟨R, 0, none⟩ = some (.int .i64 (n : Nat))) (h5 : w.cell? ⟨R, 5, none⟩ = some (.map (some ix))) (hn : n ≤ 8) (hm : w.ownsMap Tryz.prog 244 heldA ix nI D) (hv : D.atKey (.int .i64 ((2 ^ n - 1 : Nat) : Int)) (.held (.map none)) = .held (.map (some im))) (hh : Maps.has D (.int .i64 ((2 ^ n - 1 : Nat) : Int)) = true) (hI : Idx base im k w DM vf f) (ha : Row8N a) (hfl : (f a).length ≤ 1000000000) :
    Calls Tryz.prog 129 #[.pointer (some ⟨R, 0, none⟩), rowV a] w fun e w' => e = .returned (.bool (decide (0 < (f a).length))) ∧ w.grownBy w' none := by
  have hpow : 2 ^ n - 1 ≤ 255 := by
    have : 2 ^ n ≤ 2 ^ 8 := Nat.pow_le_pow_right (by omega) hn
    omega
  have HW : Hid (∀ W : World, w.grownBy W none → Calls Tryz.prog 173 #[.pointer (some ⟨R, 0, none⟩)] W fun e w' => e = .returned (.int .i64 ((2 ^ n - 1 : Nat) : Int)) ∧ w' = W) := fun W hg => whole_any R n W ((FrS.none (S := fun _ => False) hg).cell h0 (by simp)) hn
  have HX : Hid (∀ W : World, w.grownBy W none → Calls Tryz.prog 172 #[.pointer (some ⟨R, 0, none⟩), .int .i64 ((2 ^ n - 1 : Nat) : Int)] W fun e w' => e = .returned (.map (some im)) ∧ w' = W) := fun W hg => index_known R ix nI D (2 ^ n - 1) im W ((FrS.none (S := fun _ => False) hg).cell h5 (by simp)) (hm.kept hg (by simp)) (by omega) hv hh
  have HL : Hid (∀ W : World, w.grownBy W none → (Instr.lookup 246 (.map (some im)) (rowV a) false).run Tryz.prog W = .ok (vf a) W) := fun W hg => (hI.kept hg).look a ha
  obtain ⟨c, HC⟩ : ∃ c : Int, Hid (c = ((2 ^ n - 1 : Nat) : Int)) := ⟨_, rfl⟩
  rw [← HC.out] at HW HX
  obtain ⟨va, vc, hve⟩ := own_form (hI.rows a ha)
  rw [hve] at HL
  obtain ⟨m, HM⟩ : ∃ m, Hid (m = (f a).length) := ⟨_, rfl⟩
  rw [← HM.out] at HL hfl ⊢
  match a, ha.1 with
  | [a0, a1, a2, a3, a4, a5, a6, a7], _ =>
    dsimp only [rowV, List.map] at HL ⊢
    go_enter Tryz.func129, Tryz.ntmps129
    obtain ⟨wA, HWA⟩ : ∃ wA, Hid (wA = (w.alloc (.cells #[.int .i64 (a0 : Nat), .int .i64 (a1 : Nat), .int .i64 (a2 : Nat), .int .i64 (a3 : Nat), .int .i64 (a4 : Nat), .int .i64 (a5 : Nat), .int .i64 (a6 : Nat), .int .i64 (a7 : Nat)] 193))) := ⟨_, rfl⟩
    have hwA := HWA.out.symm
    have HGA : Hid (w.grownBy wA none) := by rw [HWA.out]; exact fr_alloc _ _ _
    have HGD : Hid (∀ k, w.grownBy (wA.drewN k) none) := fun k => fr_both HGA.out (fr_draws _ _ _)
    have hl := fun k => HL.out (wA.drewN k) (HGD.out k)
    have q0 : wA.cell? ⟨w.heap.size, 0, none⟩ = some (.int .i64 (a0 : Nat)) := by rw [HWA.out, World.cell?_alloc_at _ _ _ _ (by simp)]; rfl
    have q1 : wA.cell? ⟨w.heap.size, 1, none⟩ = some (.int .i64 (a1 : Nat)) := by rw [HWA.out, World.cell?_alloc_at _ _ _ _ (by simp)]; rfl
    have q2 : wA.cell? ⟨w.heap.size, 2, none⟩ = some (.int .i64 (a2 : Nat)) := by rw [HWA.out, World.cell?_alloc_at _ _ _ _ (by simp)]; rfl
    have q3 : wA.cell? ⟨w.heap.size, 3, none⟩ = some (.int .i64 (a3 : Nat)) := by rw [HWA.out, World.cell?_alloc_at _ _ _ _ (by simp)]; rfl
    have q4 : wA.cell? ⟨w.heap.size, 4, none⟩ = some (.int .i64 (a4 : Nat)) := by rw [HWA.out, World.cell?_alloc_at _ _ _ _ (by simp)]; rfl
    have q5 : wA.cell? ⟨w.heap.size, 5, none⟩ = some (.int .i64 (a5 : Nat)) := by rw [HWA.out, World.cell?_alloc_at _ _ _ _ (by simp)]; rfl
    have q6 : wA.cell? ⟨w.heap.size, 6, none⟩ = some (.int .i64 (a6 : Nat)) := by rw [HWA.out, World.cell?_alloc_at _ _ _ _ (by simp)]; rfl
    have q7 : wA.cell? ⟨w.heap.size, 7, none⟩ = some (.int .i64 (a7 : Nat)) := by rw [HWA.out, World.cell?_alloc_at _ _ _ _ (by simp)]; rfl
    go_wp2_with fail
    go_quiet (first | (go_at_call 173; refine Calls.quiet_of_same (HW.out _ (HGD.out _))) | (go_at_call 172; refine Calls.quiet_of_same (HX.out _ (HGD.out _))))
    go_wp2
    go_ret
    exact ⟨rfl, HGD.out _⟩
end Go.Proofs.YtdfbjnachakkhaaGreatDoor

namespace Go.Proofs.YtdfbjnachakkhaaGreatDoor
open Go.ChangeShapes Go.WideShapes Go.ChangeAt Go.RowKit Go.WideMaps Go.Maps
set_option linter.unusedVariables false
set_option maxRecDepth 100000
/-- the numbers of rows, by their first columns: of the first k rows -/
def posK (j : Nat) (rows : List (List Nat)) : Nat → List Nat → List Nat
  | 0 => fun _ => []
  | k + 1 => updF (posK j rows k) (maskR j (rows.getD k [])) (posK j rows k (maskR j (rows.getD k [])) ++ [k])
theorem posK_len (j : Nat) (rows : List (List Nat)) : ∀ (k : Nat) (a : List Nat), (posK j rows k a).length ≤ k
  | 0, a => by simp [posK]
  | k + 1, a => by
    simp only [posK, updF]
    split
    · have := posK_len j rows k (maskR j (rows.getD k [])); rw [List.length_append, List.length_singleton]; omega
    · have := posK_len j rows k a; omega
/-- rows as they lie behind one another -/
def flatR (rows : List (List Nat)) : List Value := rows.flatMap numV
def RowsOK (rows : List (List Nat)) : Prop := ∀ a ∈ rows, Row8N a
theorem flatR_at (rows : List (List Nat)) (h : RowsOK rows) : ∀ (i : Nat) (a : List Nat), rows[i]? = some a → ∀ t, t < 8 → (flatR rows)[i * 8 + t]? = (numV a)[t]? := by
  induction rows with
  | nil => intro i a hi; simp at hi
  | cons b rows ih =>
    intro i a hi t ht
    have hb : (numV b).length = 8 := by simp [numV, (h b (by simp)).1]
    match i, hi with
    | 0, hi =>
      simp at hi
      subst hi
      simp only [flatR, List.flatMap_cons, Nat.zero_mul, Nat.zero_add]
      rw [List.getElem?_append_left (by omega)]
    | i + 1, hi =>
      simp only [flatR, List.flatMap_cons]
      rw [List.getElem?_append_right (by omega)]
      have e : (i + 1) * 8 + t - (numV b).length = i * 8 + t := by omega
      rw [e]
      exact ih (fun a ha => h a (by simp [ha])) i a (by simpa using hi) t ht
theorem mask_ok {j : Nat} {a : List Nat} (h : Row8N a) (hj : j ≤ 8) : Row8N (maskR j a) := by
  refine ⟨?_, ?_⟩
  · simp [maskR, h.1]; omega
  · intro n hn
    simp only [maskR, List.mem_append] at hn
    rcases hn with hn | hn
    · exact h.2 n (List.mem_of_mem_take hn)
    · rw [(List.mem_replicate.1 hn).2]; omega
/-- a row's cell, read -/
theorem own_cell {w : World} {base : Nat} {e : TypeId} {size : Nat} {v : Value} {n : Nat} {xs : List Value} (h : w.ownsRow base e size v n xs) {g : Nat} (hv : v.ownBlock = some g) (j : Nat) (u : Value) (hu : xs[j]? = some u) : w.cell? ⟨g, j, none⟩ = some u := by
  rcases h.2 with ⟨rfl, _⟩ | ⟨g', cap, cur, rfl, hbg, hg, _, _, hsz, htk⟩
  · cases hv
  · cases hv
    refine cell_of hg j u ?_
    rw [← htk, List.getElem?_take] at hu
    split at hu
    · rw [← hu]; simp
    · cases hu
theorem below_grown {w w' : World} (h : Below w.heap.size w w') : w.grownBy w' none := ⟨h.os, h.tape, h.output, h.size, fun k hk _ => h.block k hk⟩
theorem fr_far {S : Nat → Prop} {a b c : World} (h : a.grownBy b none) (k : FrS S b c) (hS : ∀ i, i < a.heap.size → ¬ S i) : a.grownBy c none :=
  ⟨k.os.trans h.os, k.tape.trans h.tape, k.output.trans h.output, Nat.le_trans h.size k.size, fun i hi hn => (k.block i (Nat.lt_of_lt_of_le hi h.size) (hS i hi)).trans (h.block i hi hn)⟩
theorem fr_weak {a b : World} (h : a.grownBy b none) (r : Option Nat) : a.grownBy b r := ⟨h.os, h.tape, h.output, h.size, fun k hk _ => h.block k hk (by simp)⟩
set_option maxHeartbeats 4000000 in
theorem index_new (R ix n nI j base : Nat) (D : DataW Value) (vr : Value) (rows : List (List Nat)) (w : World) (hj : j ≤ 8) (h1 : w.cell? ⟨R, 1, none⟩ = some vr) (h5 : w.cell? ⟨R, 5, none⟩ = some (.map (some ix))) (hm : w.ownsMap Tryz.prog 244 heldA ix nI D) (hnI : nI ≤ 1000) (hh : Maps.has D (.int .i64 ((2 ^ j - 1 : Nat) : Int)) = false) (hr : w.ownsRow base 193 8 vr rows.length (flatR rows)) (hrk : RowsOK rows) (hrl : rows.length ≤ 1000000) :
    Calls Tryz.prog 172 #[.pointer (some ⟨R, 0, none⟩), .int .i64 ((2 ^ j - 1 : Nat) : Int)] w fun e w' => ∃ im DM vf, e = .returned (.map (some im)) ∧ w.heap.size ≤ im ∧ Idx w.heap.size im rows.length w' DM vf (posK j rows rows.length) ∧ w'.ownsMap Tryz.prog 244 heldA ix (nI + 1) (D.put (.int .i64 ((2 ^ j - 1 : Nat) : Int)) (.held (.map (some im)))) ∧ w.grownBy w' (some ix) := by
  have hmm := @run_makeMap Tryz.prog
  have hpow : 2 ^ j - 1 ≤ 255 := by
    have : 2 ^ j ≤ 2 ^ 8 := Nat.pow_le_pow_right (by omega) hj
    omega
  have hl := ix_look hm (2 ^ j - 1) (by omega) _ (atKey_of_not_has hh _)
  rw [hh] at hl
  have HOF : Hid (∀ a, Row8N a → ∀ W, Calls Tryz.prog 131 #[.int .i64 ((2 ^ j - 1 : Nat) : Int), rowV a] W fun e w' => e = .returned (rowV (maskR j a)) ∧ Below W.heap.size W w') := by
    intro a ha W
    match a, ha.1 with
    | [a0, a1, a2, a3, a4, a5, a6, a7], _ => exact of_any j hj a0 a1 a2 a3 a4 a5 a6 a7 W
  obtain ⟨c, HC⟩ : ∃ c : Nat, Hid (c = 2 ^ j - 1) := ⟨_, rfl⟩
  rw [← HC.out] at HOF hl hpow ⊢
  have hixl := hm.lt
  have HM := hide hm
  have HR := hide hr
  have HRK := hide hrk
  clear hm hr hrk
  obtain ⟨va, vc, hve⟩ := own_form HR.out
  obtain ⟨m, HL⟩ : ∃ m, Hid (m = rows.length) := ⟨_, rfl⟩
  rw [← HL.out] at hve hrl
  rw [hve] at h1
  obtain ⟨wm, HWM⟩ : ∃ wm, Hid (wm = w.alloc (.map #[] 0)) := ⟨_, rfl⟩
  have hwm := HWM.out.symm
  have HGM : Hid (w.grownBy wm none) := by rw [HWM.out]; exact fr_alloc _ _ _
  have HSM : Hid (wm.heap.size = w.heap.size + 1) := by show _ = _; rw [HWM.out]; simp
  have HFM := hide (FrS.none (S := fun _ => False) HGM.out)
  have h1m := HFM.out.cell h1 (by simp)
  have h5m := HFM.out.cell h5 (by simp)
  have HIM := hide (Idx.start (base := w.heap.size) (b := w.heap.size) (w := wm) (by rw [HWM.out]; exact World.ownsMap_made _ _ _ _))
  go_enter Tryz.func172, Tryz.ntmps172
  go_wp2
  go_loopw [26] (fun i wr => ∃ k : Nat, k ≤ m ∧ i = .int .i64 k ∧ (∃ D vf, Idx w.heap.size w.heap.size k wr D vf (posK j rows k)) ∧ w.grownBy wr none) (fun i _ => m - (intOf i).toNat)
  case atStart => exact ⟨0, Nat.zero_le _, rfl, ⟨_, _, HIM.out⟩, HGM.out⟩
  case round =>
    obtain ⟨k, hk, rfl, ⟨Dk, vk, hik⟩, hnx⟩ := hrel
    have HIK := hide hik
    have HNX := hide hnx
    clear hik hnx
    by_cases hlt : k < m
    · have hlt' : k < rows.length := by rw [← HL.out]; exact hlt
      obtain ⟨a, HA⟩ : ∃ a, Hid (rows[k]? = some a) := ⟨_, List.getElem?_eq_getElem hlt'⟩
      have ha : Row8N a := HRK.out a (List.mem_of_getElem? HA.out)
      have HAR := hide ha
      obtain ⟨g, HG⟩ : ∃ g, Hid (va = some ⟨g, 0, none⟩) := by
        rcases HR.out.2 with ⟨e, e0⟩ | ⟨g, cap, cur, e, _⟩
        · omega
        · rw [hve] at e; injection e with e1 e2 e3; exact ⟨g, e1⟩
      have hob : vr.ownBlock = some g := by rw [hve, HG.out]; rfl
      have hcell : ∀ t, t < 8 → ∀ u, (numV a)[t]? = some u → wr.cell? ⟨g, k * 8 + t, none⟩ = some u := by
        intro t ht u hu
        have e := flatR_at rows HRK.out k a HA.out t ht
        exact (FrS.none (S := fun _ => False) HNX.out).cell (own_cell HR.out hob (k * 8 + t) u (by rw [e]; exact hu)) (by simp)
      have hof := HOF.out a ha
      have HCL := hide hcell
      clear hcell
      match a, ha.1 with
      | [a0, a1, a2, a3, a4, a5, a6, a7], _ =>
        have k0 : wr.cell? ⟨g, k * 8, none⟩ = some (.int .i64 (a0 : Nat)) := HCL.out 0 (by omega) _ rfl
        have k1 := HCL.out 1 (by omega) _ rfl
        have k2 := HCL.out 2 (by omega) _ rfl
        have k3 := HCL.out 3 (by omega) _ rfl
        have k4 := HCL.out 4 (by omega) _ rfl
        have k5 := HCL.out 5 (by omega) _ rfl
        have k6 := HCL.out 6 (by omega) _ rfl
        have k7 := HCL.out 7 (by omega) _ rfl
        rw [HG.out]
        clear ha
        obtain ⟨b, HB⟩ : ∃ b, Hid (b = maskR j [a0, a1, a2, a3, a4, a5, a6, a7]) := ⟨_, rfl⟩
        rw [← HB.out] at hof
        have hbr : Row8N b := by rw [HB.out]; exact mask_ok HAR.out hj
        have HBR := hide hbr
        dsimp only [rowV, List.map] at hof
        have HOA := hide hof
        obtain ⟨vb, HVB⟩ : ∃ vb, Hid (vb = rowV b) := ⟨_, rfl⟩
        have e0 : (Value.agg (List.map (fun n => Value.int IntKind.i64 ((n : Nat) : Int)) b).toArray) = vb := by rw [HVB.out]; rfl
        rw [e0] at HOA
        clear hof e0 hbr
        go_wp2_with fail
        refine (HOA.out _).mono ?_
        rintro _ w2 ⟨rfl, hb2⟩
        have hsz2 : wr.heap.size + 1 ≤ w2.heap.size := by have := hb2.size; simpa using this
        have HG2 : Hid (wr.grownBy w2 none) := fr_both (fr_alloc _ _ _) (below_grown hb2)
        clear hb2
        go_wp2_with fail
        rw [HVB.out]
        have hwsz := HNX.out.size
        have hkl := posK_len j rows k b
        refine (add_any w.heap.size w.heap.size k Dk vk (posK j rows k) b k w2 (HIK.out.kept HG2.out) HBR.out (by omega) (by omega) (by omega) (by omega)).mono ?_
        rintro _ w3 ⟨rfl, ⟨D3, v3, hi3, _⟩, hf3⟩
        have R1 : Hid (∃ D vf, Idx w.heap.size w.heap.size (k + 1) w3 D vf (posK j rows (k + 1))) := by
          refine ⟨D3, v3, ?_⟩
          have e : posK j rows (k + 1) = updF (posK j rows k) b (posK j rows k b ++ [k]) := by
            rw [posK, List.getD_eq_getElem?_getD, HA.out, HB.out]; rfl
          rw [e]; exact hi3
        have R2 : Hid (w.grownBy w3 none) := fr_far (fr_both HNX.out HG2.out) hf3 (fun i hi hS => by
          rcases hS with e | e
          · omega
          · have := (own_blk (HIK.out.rows b HBR.out) e).1; omega)
        clear hi3 hf3 hkl
        go_wp2
        go_roundw
        case rel => exact ⟨k + 1, by omega, by go_num, R1.out, R2.out⟩
        case measure => simp [intOf]; omega
    · have hkm : k = m := by omega
      subst hkm
      have hmr := HM.out.kept HNX.out (by simp)
      obtain ⟨w4, hup, hown4, hg4⟩ := hmr.update keyedC Tryz.underlying198 (by unfold maxLen; omega) (keyC c (by omega)) (val := .map (some w.heap.size)) (rfl : heldA (.map (some w.heap.size)) = some (.held (.map (some w.heap.size)), []))
      have h5r := (FrS.none (S := fun _ => False) HNX.out).cell h5 (by simp)
      have HO4 := hide hown4
      have HG4 := hide hg4
      clear hown4 hg4 hmr
      go_wp2
      go_ret
      refine ⟨w.heap.size, Dk, vk, rfl, Nat.le_refl _, ?_, HO4.out, ?_⟩
      · rw [← HL.out]
        have hik := HIK.out
        refine ⟨hik.own.kept HG4.out (fun e => by have := Option.some.inj e; omega), hik.at', fun a ha => ?_, hik.apart⟩
        have ho := hik.rows a ha
        refine ho.kept HG4.out ?_
        cases hv : (vk a).ownBlock with
        | none => exact Or.inl rfl
        | some g => exact Or.inr (fun e => by have := Option.some.inj e; have := (own_blk ho hv).1; omega)
      · exact fr_trans (fr_weak HNX.out _) HG4.out (fun g hg => Or.inl rfl)
end Go.Proofs.YtdfbjnachakkhaaGreatDoor
