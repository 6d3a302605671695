import Derived.Test.YtdfbjnachakkhaaGreatDoorM24
import Derived.Laws.IdiomCopy
import Derived.Lib.SlBuf
namespace Go.Proofs.YtdfbjnachakkhaaGreatDoor
open Go.ChangeShapes Go.WideShapes Go.ChangeAt Go.RowKit Go.Hands Go.WideMaps Go.Maps
set_option linter.unusedVariables false
set_option maxRecDepth 100000
set_option maxHeartbeats 1000000 in
theorem mul64_one (n : Nat) (hn : n ≤ 8) (w : World) :
    Calls Tryz.prog 184 #[.int .u64 1, .int .u64 (n : Nat)] w fun e w' => e = .returned (.tuple #[.int .u64 0, .int .u64 (n : Nat)]) ∧ w = w' := by
  obtain rfl | rfl | rfl | rfl | rfl | rfl | rfl | rfl | rfl : n = 0 ∨ n = 1 ∨ n = 2 ∨ n = 3 ∨ n = 4 ∨ n = 5 ∨ n = 6 ∨ n = 7 ∨ n = 8 := by omega
  all_goals
    go_enter Tryz.func184, Tryz.ntmps184
    go_wp2
    exact bodyPost_ret (by simp [results, Tryz.results184, go_sem]; kernel_rfl) rfl ⟨rfl, rfl⟩
set_option maxHeartbeats 1000000 in
theorem mul_one (n : Nat) (hn : n ≤ 8) (w : World) :
    Calls Tryz.prog 147 #[.int .u64 1, .int .u64 (n : Nat)] w fun e w' => e = .returned (.tuple #[.int .u64 0, .int .u64 (n : Nat)]) ∧ w = w' := by
  go_enter Tryz.func147, Tryz.ntmps147
  go_wp2_with fail
  refine (mul64_one n hn w).mono ?_
  rintro _ _ ⟨rfl, rfl⟩
  go_wp2
  exact bodyPost_ret (by simp [results, Tryz.results147, go_sem]) rfl ⟨rfl, rfl⟩
/-- a copy, by its run -/
theorem step_copy_run {P : Program} {w w' : World} {ops : Array Oper} {o : Oper} {a : Act} {K : Act → World → Prop} {Q : Exit → Act → World → Prop} {E : Prop} (hgd : o.guard = none) (d x : Operand) (t t' : TypeId)
    (ho : o.op = .call { callee := .builtin .copy, args := #[d, x], argTypes := #[t, t'] }) {v1 v2 r : Value} (hs : a.eval d = v1) (hx : a.eval x = v2) (hr : (Builtin.copy_ #[t, t'] o.type #[v1, v2]).run P w = .ok r w') (h : K (a.put o.dst r) w') :
    if Region.wanted o (yielded ops a.tmps) = true then Oper.wp P o a w K Q else E := by
  have hw : Region.wanted o (yielded ops a.tmps) = true := by simp [Region.wanted, hgd]
  rw [if_pos hw]
  unfold Oper.wp execOp
  simp only [ho, resolve, invoke, builtin, Sem.run_bind, Sem.run_pure, Result.andThen_ok, List.map_toArray, List.map_cons, List.map_nil, hs, hx, hr]
  exact h
/-- so many are filled -/
def fillV (N m : Nat) : List Value := List.replicate m (.int .i64 (-1)) ++ List.replicate (N - m) (.int .i64 0)
theorem fillV_step (N m : Nat) (h : m < N) : (fillV N m).set m (.int .i64 (-1)) = fillV N (m + 1) := by
  unfold fillV
  obtain ⟨d, hd⟩ : ∃ d, N - m = d + 1 := ⟨N - m - 1, by omega⟩
  rw [hd, show N - (m + 1) = d by omega, List.set_append_right _ _ (by simp), List.length_replicate, Nat.sub_self, List.replicate_succ, List.set_cons_zero, List.replicate_succ' (n := m), List.append_assoc]
  rfl
theorem fill_sets {base g n cap : Nat} : ∀ (k m : Nat) (w : World), w.ownsRow base 3 1 (.slice (some ⟨g, 0, none⟩) n cap) n (fillV n m) → m + k ≤ n → (w.setCells g m (List.replicate k (.int .i64 (-1)))).ownsRow base 3 1 (.slice (some ⟨g, 0, none⟩) n cap) n (fillV n (m + k))
  | 0, m, w, h, _ => h
  | k + 1, m, w, h, hk => by
    rw [List.replicate_succ]
    have h1 := own_set h m (.int .i64 (-1))
    rw [fillV_step n m (by omega)] at h1
    have := fill_sets k (m + 1) _ h1 (by omega)
    rw [show m + 1 + k = m + (k + 1) by omega] at this
    exact this
theorem fr_setCells (g : Nat) : ∀ (vs : List Value) (o : Nat) (w : World), w.grownBy (w.setCells g o vs) (some g)
  | [], o, w => ⟨rfl, rfl, rfl, Nat.le_refl _, fun _ _ _ => rfl⟩
  | v :: r, o, w => fr_both (fr_set w g o v) (fr_setCells g r (o + 1) _)
theorem fillV_at (N m j : Nat) (h : j < m) : (fillV N m)[j]? = some (.int .i64 (-1)) := by
  unfold fillV
  rw [List.getElem?_append_left (by simpa using h)]
  simp [h]
theorem fillV_is (N m j : Nat) (h : j < N) : ∃ u, (fillV N m)[j]? = some u := by
  refine ⟨_, List.getElem?_eq_getElem (show j < (fillV N m).length by simp [fillV]; omega)⟩
/-- a copy of what is filled -/
theorem copy_fill {base g n m k so : Nat} (cap scap : Nat) (src : Nat) (w : World) (t ty : TypeId) (hu : Tryz.prog.underlying t = some (.slice 3)) (h : w.ownsRow base 3 1 (.slice (some ⟨g, 0, none⟩) n cap) n (fillV n m)) (hs : ∀ j, j < Nat.min so k → w.cell? ⟨src, j, none⟩ = some (.int .i64 (-1))) (hm : m + k = n) :
    (Builtin.copy_ #[t, t] ty #[.slice (some ⟨g, m, none⟩) k k, .slice (some ⟨src, 0, none⟩) so scap]).run Tryz.prog w = .ok (goInt (Nat.min so k)) (w.setCells g m (List.replicate (Nat.min so k) (.int .i64 (-1)))) := by
  have hmin : Nat.min so k ≤ k := Nat.min_le_right _ _
  have hr := run_copy_cells (P := Tryz.prog) w t t ty 3 g m k k ⟨src, 0, none⟩ so scap (List.replicate (Nat.min so k) (.int .i64 (-1))) hu (by kernel_rfl) (by simp)
    (fun j v hj => by
      obtain ⟨h1, h2⟩ := List.getElem?_eq_some_iff.1 hj
      rw [List.getElem_replicate] at h2
      rw [List.length_replicate] at h1
      subst h2
      have := hs j h1
      unfold Addr.add
      split <;> simp_all)
    (fun j hj => by
      rw [List.length_replicate] at hj
      obtain ⟨u, hu⟩ := fillV_is n m (m + j) (by omega)
      rw [own_cell h (g := g) rfl (m + j) u hu]; rfl)
    (fun j hj => own_thaw h (m + j)) (fun v hv => by obtain ⟨_, rfl⟩ := List.mem_replicate.1 hv; rfl)
  rw [List.length_replicate] at hr
  exact hr
theorem fillV_0 (n : Nat) : fillV n 0 = List.replicate n (.int .i64 0) := by simp [fillV]
theorem fillV_all (n : Nat) : fillV n n = noneV n := by simp [fillV, noneV]
set_option maxHeartbeats 1000000 in
theorem repeat_any (n g : Nat) (hn : n ≤ 8) (w : World) (hg : w.cell? ⟨g, 0, none⟩ = some (.int .i64 (-1))) :
    Calls Tryz.prog 107 #[.slice (some ⟨g, 0, none⟩) 1 1, .int .i64 (n : Nat)] w fun e w' => (∃ v, e = .returned v ∧ w'.ownsRow w.heap.size 3 1 v n (noneV n)) ∧ w.grownBy w' none := by
  obtain ⟨i0, hi, hz0, hz1, hz2⟩ := info_parts infoIntA
  obtain ⟨wm, hmk, hownM, hgM⟩ := run_make_full w w.heap.size 151 3 i0 (.int .i64 0) 1 (P := Tryz.prog) Tryz.underlying151 hi hz0 hz1 .i64 .i64 n (by rw [hz2]; omega) (by unfold maxLen; omega) (Nat.le_refl _)
  have HOM : Hid (wm.ownsRow w.heap.size 3 1 (.slice (some ⟨w.heap.size, 0, none⟩) n n) n (fillV n 0)) := by
    have h5 := hownM
    have e1 : (madeCells (Value.int .i64 0).cells (n * 1)).toList = fillV n 0 := by rw [Nat.mul_one, fillV_0]; exact toList_madeCells_one _ _
    rw [e1] at h5
    exact h5
  have HGM := hide hgM
  have HG := hide hg
  have HM := hide (mul_one n hn w)
  clear hownM hgM hg
  go_enter Tryz.func107, Tryz.ntmps107
  have cp1 := copy_fill (m := 0) (k := n) (so := 1) n 1 g wm 151 3 Tryz.underlying151 HOM.out (fun j hj => by
    have hj0 : j = 0 := by have : Nat.min 1 n ≤ 1 := Nat.min_le_left _ _; omega
    subst hj0
    exact (FrS.none (S := fun _ => False) HGM.out).cell HG.out (fun h => h)) (by omega)
  obtain ⟨m0, HM0⟩ : ∃ m0, Hid (m0 = Nat.min 1 n) := ⟨_, rfl⟩
  have hm0n : m0 ≤ n := by rw [HM0.out]; exact Nat.min_le_right _ _
  have hm01 : 1 ≤ m0 ∨ n = 0 := by
    rw [HM0.out]
    rcases Nat.eq_zero_or_pos n with h | h
    · exact .inr h
    · exact .inl (by rw [show Nat.min 1 n = 1 from Nat.min_eq_left h]; omega)
  rw [← HM0.out] at cp1
  obtain ⟨w1, HW1⟩ : ∃ w1, Hid (w1 = wm.setCells w.heap.size 0 (List.replicate m0 (.int .i64 (-1)))) := ⟨_, rfl⟩
  rw [← HW1.out] at cp1
  have HO1 : Hid (w1.ownsRow w.heap.size 3 1 (.slice (some ⟨w.heap.size, 0, none⟩) n n) n (fillV n m0)) := by
    have := fill_sets m0 0 wm HOM.out (by omega)
    rw [Nat.zero_add] at this
    rw [HW1.out]; exact this
  have HG1 : Hid (w.grownBy w1 none) := fr_far HGM.out (FrS.of (S := fun j => j = w.heap.size) (by rw [HW1.out]; exact fr_setCells _ _ _ wm) (fun g e => .inl (Option.some.inj e).symm)) (fun j hj e => by have e' : j = w.heap.size := e; omega)
  have hgi : goInt m0 = .int .i64 (m0 : Nat) := rfl
  rw [hgi] at cp1
  have d0 : decide ((n : Int) < 0) = false := by simp
  have d1 : decide (9223372036854775807 < (n : Int)) = false := by simp; omega
  go_wp2_with fail
  refine HM.out.mono ?_
  rintro _ _ ⟨rfl, rfl⟩
  go_wp2_with fail
  go_loopw [8] (fun iv wr => ∃ m : Nat, m ≤ n ∧ (1 ≤ m ∨ n = 0) ∧ iv = .int .i64 m ∧ Hid (wr.ownsRow w.heap.size 3 1 (.slice (some ⟨w.heap.size, 0, none⟩) n n) n (fillV n m)) ∧ Hid (w.grownBy wr none)) (fun iv _ => n - (intOf iv).toNat)
  case atStart => exact ⟨m0, hm0n, hm01, rfl, HO1, HG1⟩
  case round =>
    obtain ⟨m, hm, hm1, rfl, HO, HGR⟩ := hrel
    by_cases hlt : m < n
    · obtain ⟨m2, HM2⟩ : ∃ m2, Hid (m2 = Nat.min m (n - m)) := ⟨_, rfl⟩
      have hm2 : m2 ≤ n - m := by rw [HM2.out]; exact Nat.min_le_right _ _
      have hm3 : 1 ≤ m2 := by rw [HM2.out]; exact Nat.le_min.2 ⟨by omega, by omega⟩
      have HCP : Hid (∀ W : World, (∃ k, W = wr.drewN k) → (Builtin.copy_ #[151, 151] 3 #[.slice (some ⟨w.heap.size, m, none⟩) (n - m) (n - m), .slice (some ⟨w.heap.size, 0, none⟩) m n]).run Tryz.prog W = .ok (.int .i64 (m2 : Nat)) (W.setCells w.heap.size m (List.replicate m2 (.int .i64 (-1))))) := by
        rintro W ⟨k, rfl⟩
        have hd := fr_draws wr k none
        have ho : (wr.drewN k).ownsRow w.heap.size 3 1 (.slice (some ⟨w.heap.size, 0, none⟩) n n) n (fillV n m) := own_far HO.out hd (by simp)
        rw [HM2.out]
        exact copy_fill n n w.heap.size _ _ _ Tryz.underlying151 ho (fun j hj => own_cell ho (g := w.heap.size) rfl j _ (fillV_at n m j (by have : Nat.min m (n - m) ≤ m := Nat.min_le_left _ _; omega))) (by omega)
      have hnm : ¬ n = m := by omega
      go_wp2_with fail
      go_region_law (refine step_copy_run (v1 := .slice (some ⟨w.heap.size, m, none⟩) (n - m) (n - m)) (v2 := .slice (some ⟨w.heap.size, 0, none⟩) m n) rfl (.tmp 41) (.tmp 44) 151 151 (by kernel_rfl) (by kernel_rfl) (by kernel_rfl) (HCP.out _ ⟨_, rfl⟩) ?_)
      have HO5 : Hid ((wr.drew.setCells w.heap.size m (List.replicate m2 (.int .i64 (-1)))).ownsRow w.heap.size 3 1 (.slice (some ⟨w.heap.size, 0, none⟩) n n) n (fillV n (m + m2))) := fill_sets m2 m _ (own_far HO.out (fr_draws wr 1 none) (by simp)) (by omega)
      have HG5 : Hid (w.grownBy (wr.drew.setCells w.heap.size m (List.replicate m2 (.int .i64 (-1)))) none) := fr_far (fr_both HGR.out (fr_draws wr 1 none)) (FrS.of (S := fun j => j = w.heap.size) (fr_setCells _ _ _ _) (fun g e => .inl (Option.some.inj e).symm)) (fun j hj e => by have e' : j = w.heap.size := e; omega)
      simp only [List.getElem_toArray, List.getElem_cons_succ, List.getElem_cons_zero, Act.put, List.setIfInBounds_toArray, List.set_cons_zero, List.set_cons_succ]
      go_wp2
      go_roundw
      case rel => exact ⟨m + m2, by omega, .inl (by omega), by rw [IntWalk.i64_in _ (by omega), Int.natCast_add], HO5, HG5⟩
      case measure => rw [IntWalk.i64_in _ (by omega)]; simp [intOf]; omega
    · have hmn : m = n := by omega
      subst hmn
      go_wp2
      go_ret
      refine ⟨⟨_, rfl, ?_⟩, HGR.out⟩
      have := HO.out
      rw [fillV_all] at this
      exact this
end Go.Proofs.YtdfbjnachakkhaaGreatDoor
