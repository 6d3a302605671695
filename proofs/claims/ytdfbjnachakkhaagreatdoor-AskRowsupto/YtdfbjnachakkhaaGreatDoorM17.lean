import Derived.Test.YtdfbjnachakkhaaGreatDoorM16
namespace Go.Proofs.YtdfbjnachakkhaaGreatDoor
open Go.ChangeShapes Go.WideShapes Go.ChangeAt Go.RowKit Go.Hands Go.WideMaps Go.Maps
set_option linter.unusedVariables false
set_option maxRecDepth 100000
set_option maxHeartbeats 1000000 in
theorem len64_small (n : Nat) (h : n ≤ 8) (w : World) : Calls Tryz.prog 162 #[.int .u64 (n : Nat)] w fun e w' => (∃ z : Int, e = .returned (.int .i64 z)) ∧ w' = w := by
  match n, h with
  | 0, _ | 1, _ | 2, _ | 3, _ | 4, _ | 5, _ | 6, _ | 7, _ | 8, _ =>
    go_enter Tryz.func162, Tryz.ntmps162
    go_wp2
    go_ret
    exact ⟨⟨_, rfl⟩, rfl⟩
set_option maxHeartbeats 1000000 in
theorem len_small (n : Nat) (h : n ≤ 8) (w : World) : Calls Tryz.prog 113 #[.int .u64 (n : Nat)] w fun e w' => (∃ z : Int, e = .returned (.int .i64 z)) ∧ w' = w := by
  have HL := hide (len64_small n h w)
  go_enter Tryz.func113, Tryz.ntmps113
  go_wp2_with fail
  refine HL.out.mono ?_
  rintro _ _ ⟨⟨z, rfl⟩, rfl⟩
  go_wp2
  go_ret
  exact ⟨⟨_, rfl⟩, rfl⟩
/-- numbers that rise by one from nought -/
def upV (n : Nat) : List Value := (List.range n).map fun i => Value.int .i64 (i : Nat)
theorem upV_at {n i : Nat} (h : i < n) : (upV n)[i]? = some (.int .i64 (i : Nat)) := by simp [upV, h]
theorem upV_next (n : Nat) : upV n ++ [.int .i64 (n : Nat)] = upV (n + 1) := by simp [upV, List.range_succ]
theorem isNaNI (a : Nat) (w : World) : Calls Tryz.prog 219 #[.int .i64 (a : Nat)] w fun e w' => e = .returned (.bool false) ∧ w' = w := by
  have h : (((a : Nat) : Int) != ((a : Nat) : Int)) = false := by simp
  go_enter Tryz.func219, Tryz.ntmps219
  go_wp2
  go_ret
  exact ⟨by first | rfl | simp, rfl⟩
set_option maxHeartbeats 1000000 in
theorem lessI (a b : Nat) (w : World) : Calls Tryz.prog 212 #[.int .i64 (a : Nat), .int .i64 (b : Nat)] w fun e w' => e = .returned (.bool (decide (a < b))) ∧ w' = w := by
  have HN := hide isNaNI
  go_enter Tryz.func212, Tryz.ntmps212
  go_wp2_with fail
  refine (HN.out a _).mono ?_
  rintro _ _ ⟨rfl, rfl⟩
  go_wp2
  go_ret
  exact ⟨by first | rfl | simp, rfl⟩
set_option maxHeartbeats 1000000 in
theorem insertion_up (B n : Nat) (v : Value) (w : World) (h : w.ownsRow B 3 1 v n (upV n)) (hn : n ≤ 8) :
    Calls Tryz.prog 206 #[v, .int .i64 0, .int .i64 (n : Nat)] w fun e w' => e = .returned (.tuple #[]) ∧ w.grownBy w' none := by
  have HO := hide h
  obtain ⟨va, vc, hve⟩ := own_form h
  rw [hve]
  clear h
  go_enter Tryz.func206, Tryz.ntmps206
  go_wp2_with fail
  go_loopw [6] (fun iv wr => ∃ i : Nat, 1 ≤ i ∧ (i ≤ n ∨ i = 1) ∧ iv = .int .i64 i ∧ Hid (w.grownBy wr none)) (fun iv _ => n - (intOf iv).toNat)
  case atStart => exact ⟨1, by omega, by omega, by go_num, fr_refl _ _⟩
  case round =>
    obtain ⟨i, hi1, hi2, rfl, HG⟩ := hrel
    by_cases hlt : i < n
    · obtain ⟨g, hg⟩ : ∃ g, va = some ⟨g, 0, none⟩ := by
        rcases HO.out.2 with ⟨e, e0⟩ | ⟨g, cap, cur, e, _⟩
        · omega
        · rw [hve] at e; injection e with e1 e2 e3; exact ⟨g, e1⟩
      have hob : v.ownBlock = some g := by rw [hve, hg]; rfl
      obtain ⟨j, HJ⟩ : ∃ j, Hid (i = j + 1) := ⟨i - 1, by show i = i - 1 + 1; omega⟩
      have hj := HJ.out
      subst hj
      have c0 := own_cell HO.out hob (j + 1) _ (upV_at hlt)
      have c1 := own_cell HO.out hob j _ (upV_at (by omega))
      have hd := fun k => FrS.none (S := fun _ => False) (fr_both HG.out (fr_draws wr k none))
      have d0 := fun k => (hd k).cell c0 (fun h => h)
      have d1 := fun k => (hd k).cell c1 (fun h => h)
      have x0 := (FrS.none (S := fun _ => False) HG.out).cell c0 (fun h => h)
      have x1 := (FrS.none (S := fun _ => False) HG.out).cell c1 (fun h => h)
      have HL : Hid (∀ W, Calls Tryz.prog 212 #[.int .i64 ((j + 1 : Nat) : Int), .int .i64 (j : Nat)] W fun e w' => e = .returned (.bool false) ∧ w' = W) := by
        intro W
        have := lessI (j + 1) j W
        rw [show decide (j + 1 < j) = false from by simp] at this
        exact this
      rw [hg]
      clear c0 c1 hob hd
      go_wp2_with fail
      refine wp_loop_rounds 1 ?_
      rw [rounds_succ]
      go_wp2_with fail
      go_quiet (first | (go_at_call 212; refine Calls.quiet_of_same (HL.out _)))
      go_wp2
      go_roundw
      case rel => exact ⟨j + 1 + 1, by omega, by omega, by go_num, fr_both HG.out (fr_draws _ _ _)⟩
      case measure => simp [intOf]; omega
    · go_wp2
      go_end0
      exact ⟨rfl, HG.out⟩
set_option maxHeartbeats 1000000 in
theorem pdq_up (B n : Nat) (z : Int) (v : Value) (w : World) (h : w.ownsRow B 3 1 v n (upV n)) (hn : n ≤ 8) :
    Calls Tryz.prog 199 #[v, .int .i64 0, .int .i64 (n : Nat), .int .i64 z] w fun e w' => e = .returned (.tuple #[]) ∧ w.grownBy w' none := by
  have HI := hide (insertion_up B n v w h hn)
  clear h
  go_enter Tryz.func199, Tryz.ntmps199
  go_wp2_with fail
  refine wp_loop_rounds 1 ?_
  rw [rounds_succ]
  go_wp2_with fail
  refine HI.out.mono ?_
  rintro _ w1 ⟨rfl, hg1⟩
  have HG1 := hide hg1
  clear hg1
  go_wp2
  refine bodyPost_ret (results_none rfl _ _ _) rfl ?_
  exact ⟨rfl, HG1.out⟩
set_option maxHeartbeats 1000000 in
theorem sort_up (B n : Nat) (v : Value) (w : World) (h : w.ownsRow B 3 1 v n (upV n)) (hn : n ≤ 8) :
    Calls Tryz.prog 175 #[v] w fun e w' => e = .returned (.tuple #[]) ∧ w.grownBy w' none := by
  have HL := hide (len_small n hn)
  have HP : Hid (∀ z W, w.grownBy W none → Calls Tryz.prog 199 #[v, .int .i64 0, .int .i64 (n : Nat), .int .i64 z] W fun e w' => e = .returned (.tuple #[]) ∧ W.grownBy w' none) := fun z W hg => pdq_up B n z v W (h.kept hg (by cases v.ownBlock <;> simp)) hn
  obtain ⟨va, vc, hve⟩ := own_form h
  rw [hve] at HP ⊢
  clear h
  go_enter Tryz.func175, Tryz.ntmps175
  go_wp2_with fail
  refine (HL.out _).mono ?_
  rintro _ _ ⟨⟨z, rfl⟩, rfl⟩
  go_wp2_with fail
  refine (HP.out z _ (fr_refl _ _)).mono ?_
  rintro _ w1 ⟨rfl, hg1⟩
  have HG1 := hide hg1
  clear hg1
  go_wp2
  go_end0
  exact ⟨rfl, HG1.out⟩
set_option maxHeartbeats 1000000 in
theorem compact_up (B n : Nat) (v : Value) (w : World) (h : w.ownsRow B 3 1 v n (upV n)) (hn : n ≤ 8) :
    Calls Tryz.prog 176 #[v] w fun e w' => e = .returned v ∧ w.grownBy w' none := by
  have HO := hide h
  obtain ⟨va, vc, hve⟩ := own_form h
  rw [hve]
  clear h
  by_cases h2 : n < 2
  · go_enter Tryz.func176, Tryz.ntmps176
    go_wp2
    go_ret
    exact ⟨rfl, fr_refl _ _⟩
  · obtain ⟨g, hg⟩ : ∃ g, va = some ⟨g, 0, none⟩ := by
      rcases HO.out.2 with ⟨e, e0⟩ | ⟨g, cap, cur, e, _⟩
      · omega
      · rw [hve] at e; injection e with e1 e2 e3; exact ⟨g, e1⟩
    have hob : v.ownBlock = some g := by rw [hve, hg]; rfl
    rw [hg]
    go_enter Tryz.func176, Tryz.ntmps176
    go_wp2_with fail
    go_loopw [3] (fun iv wr => ∃ i : Nat, 1 ≤ i ∧ i ≤ n ∧ iv = .int .i64 i ∧ Hid (w.grownBy wr none)) (fun iv _ => n - (intOf iv).toNat)
    case atStart => exact ⟨1, by omega, by omega, by go_num, fr_refl _ _⟩
    case round =>
      obtain ⟨i, hi1, hi2, rfl, HG⟩ := hrel
      by_cases hlt : i < n
      · obtain ⟨j, HJ⟩ : ∃ j, Hid (i = j + 1) := ⟨i - 1, by show i = i - 1 + 1; omega⟩
        have hj := HJ.out
        subst hj
        have c0 := own_cell HO.out hob (j + 1) _ (upV_at hlt)
        have c1 := own_cell HO.out hob j _ (upV_at (by omega))
        have hd := fun k => FrS.none (S := fun _ => False) (fr_both HG.out (fr_draws wr k none))
        have d0 := fun k => (hd k).cell c0 (fun h => h)
        have d1 := fun k => (hd k).cell c1 (fun h => h)
        have x0 := (FrS.none (S := fun _ => False) HG.out).cell c0 (fun h => h)
        have x1 := (FrS.none (S := fun _ => False) HG.out).cell c1 (fun h => h)
        have hne : ((((j + 1 : Nat) : Int)) == ((j : Nat) : Int)) = false := by rw [beq_eq_false_iff_ne]; omega
        have hne2 : ((((j : Nat) : Int) + 1) == ((j : Nat) : Int)) = false := by rw [beq_eq_false_iff_ne]; omega
        clear c0 c1 hd
        go_wp2_with fail
        go_quiet (fail)
        go_wp2
        go_roundw
        case rel => exact ⟨j + 1 + 1, by omega, by omega, by go_num, fr_both HG.out (fr_draws _ _ _)⟩
        case measure => simp [intOf]; omega
      · go_wp2
        go_ret
        exact ⟨rfl, HG.out⟩
end Go.Proofs.YtdfbjnachakkhaaGreatDoor

namespace Go.Proofs.YtdfbjnachakkhaaGreatDoor
open Go.ChangeShapes Go.WideShapes Go.ChangeAt Go.RowKit Go.Hands Go.WideMaps Go.Maps
set_option linter.unusedVariables false
set_option maxRecDepth 100000
theorem tvV_at0 {n i : Nat} (h : i < n) : (tvV n)[i * 2]? = some (.bool true) := by
  induction n with
  | zero => omega
  | succ n ih =>
    rw [tvV_next]
    by_cases e : i < n
    · rw [List.getElem?_append_left (by rw [tvV_len]; omega)]; exact ih e
    · have : i = n := by omega
      subst this
      rw [List.getElem?_append_right (by rw [tvV_len]; omega), tvV_len]; simp
theorem tvV_at1 {n i : Nat} (h : i < n) : (tvV n)[i * 2 + 1]? = some (.int .i64 (i : Nat)) := by
  induction n with
  | zero => omega
  | succ n ih =>
    rw [tvV_next]
    by_cases e : i < n
    · rw [List.getElem?_append_left (by rw [tvV_len]; omega)]; exact ih e
    · have : i = n := by omega
      subst this
      rw [List.getElem?_append_right (by rw [tvV_len]; omega), tvV_len]
      have : i * 2 + 1 - i * 2 = 1 := by omega
      rw [this]; rfl
set_option maxHeartbeats 1000000 in
theorem variablesOf_any (B n : Nat) (v : Value) (w : World) (h : w.ownsRow B 204 2 v n (tvV n)) (hn : n ≤ 8) :
    Calls Tryz.prog 137 #[v] w fun e w' => (∃ v', e = .returned v' ∧ w'.ownsRow w.heap.size 3 1 v' n (upV n)) ∧ w.grownBy w' none := by
  obtain ⟨i0, hi, hz0, hz1, hz2⟩ := info_parts infoIntA
  have HO := hide h
  obtain ⟨va, vc, hve⟩ := own_form h
  rw [hve]
  clear h
  go_enter Tryz.func137, Tryz.ntmps137
  go_wp2_with fail
  go_loopw [3, 8] (fun tv iv wr => ∃ i : Nat, i ≤ n ∧ iv = .int .i64 i ∧ Hid (wr.ownsRow w.heap.size 3 1 tv i (upV i)) ∧ Hid (w.grownBy wr none)) (fun _ iv _ => n - (intOf iv).toNat)
  case atStart => exact ⟨0, Nat.zero_le _, rfl, World.ownsRow_nil _ _ _ _, fr_refl _ _⟩
  case round =>
    obtain ⟨i, hin, rfl, HR, HG⟩ := hrel
    obtain ⟨ta, tc, htv⟩ := own_form HR.out
    subst htv
    by_cases hlt : i < n
    · obtain ⟨g, hg⟩ : ∃ g, va = some ⟨g, 0, none⟩ := by
        rcases HO.out.2 with ⟨e, e0⟩ | ⟨g, cap, cur, e, _⟩
        · omega
        · rw [hve] at e; injection e with e1 e2 e3; exact ⟨g, e1⟩
      have hob : v.ownBlock = some g := by rw [hve, hg]; rfl
      have hf := FrS.none (S := fun _ => False) HG.out
      have c0 := hf.cell (own_cell HO.out hob (i * 2) _ (tvV_at0 hlt)) (fun h => h)
      have c1 := hf.cell (own_cell HO.out hob (i * 2 + 1) _ (tvV_at1 hlt)) (fun h => h)
      rw [hg]
      obtain ⟨wb, HWB⟩ : ∃ wb, Hid (wb = wr.alloc (.cells #[.bool true, .int .i64 (i : Nat)] 204)) := ⟨_, rfl⟩
      have hwb := HWB.out.symm
      have HGB : Hid (wr.grownBy wb none) := by rw [HWB.out]; exact fr_alloc _ _ _
      have hbl : wb.heap[wr.heap.size]? = some (.cells #[.bool true, .int .i64 (i : Nat)] 204) := by rw [HWB.out]; exact heap_alloc_new _ _
      have d0 : wb.cell? ⟨wr.heap.size, 0, none⟩ = some (.bool true) := cell_of hbl 0 _ rfl
      have d1 : wb.cell? ⟨wr.heap.size, 1, none⟩ = some (.int .i64 (i : Nat)) := cell_of hbl 1 _ rfl
      have HRB : Hid (wb.ownsRow w.heap.size 3 1 (.slice ta i tc) i (upV i)) := HR.out.kept HGB.out (by cases (Value.slice ta i tc).ownBlock <;> simp)
      have hbs : w.heap.size ≤ wb.heap.size := by have := HG.out.size; have := HGB.out.size; omega
      clear hbl hf hob
      go_wp2_with (at_builtin; refine wpList_append_own_at _ rfl _ _ 97 rfl w.heap.size 3 i0 (.int .i64 0) 1 8 Tryz.underlying97 hi hz0 hz1 hz2 rfl (by omega) _ _ _ rfl (HRB.out.alloc _) ⟨wb.heap.size, 0, none⟩ 1 1 [.int .i64 (i : Nat)] rfl rfl (cell_one_new _ _ _) (by simp [Value.oneCell']) (by unfold maxLen; omega) (by omega) (by simp; omega) ?_)
      intro v2 w5 hown5 hg5 hnil5 hat5
      have HR5 : Hid (w5.ownsRow w.heap.size 3 1 v2 (i + 1) (upV (i + 1))) := by rw [← upV_next]; exact hown5
      have HG5 : Hid (w.grownBy w5 none) := by
        refine fr_far (fr_both HG.out HGB.out) (FrS.trans (S := fun j => (Value.slice ta i tc).ownBlock = some j) (S' := fun j => (Value.slice ta i tc).ownBlock = some j) (FrS.none (fr_alloc wb _ none)) (FrS.of hg5 (fun g e => .inl e)) (fun j _ e => e)) (fun j hj e => ?_)
        have := (own_blk HR.out e).1
        omega
      obtain ⟨xa, xc, hv2⟩ := own_form hown5
      clear hown5 hg5 hnil5 hat5 d0 d1 c0 c1
      subst hv2
      go_wp2
      go_roundw
      case rel => exact ⟨i + 1, by omega, by go_num, HR5, HG5⟩
      case measure => simp [intOf]; omega
    · have him : i = n := by omega
      subst him
      have HSO := hide (sort_up w.heap.size i _ wr HR.out hn)
      have HCO : Hid (∀ W, wr.grownBy W none → Calls Tryz.prog 176 #[.slice ta i tc] W fun e w' => e = .returned (.slice ta i tc) ∧ W.grownBy w' none) := fun W hg => compact_up w.heap.size i _ W (HR.out.kept hg (by cases (Value.slice ta i tc).ownBlock <;> simp)) hn
      go_wp2_with fail
      refine HSO.out.mono ?_
      rintro _ w2 ⟨rfl, hg2⟩
      have HG2 := hide hg2
      clear hg2
      go_wp2_with fail
      refine (HCO.out w2 HG2.out).mono ?_
      rintro _ w3 ⟨rfl, hg3⟩
      have HG3 := hide hg3
      clear hg3
      go_wp2
      go_ret
      have hgg := fr_both HG2.out HG3.out
      exact ⟨⟨_, rfl, HR.out.kept hgg (by cases (Value.slice ta i tc).ownBlock <;> simp)⟩, fr_both HG.out hgg⟩
end Go.Proofs.YtdfbjnachakkhaaGreatDoor

namespace Go.Proofs.YtdfbjnachakkhaaGreatDoor
open Go.ChangeShapes Go.WideShapes Go.ChangeAt Go.RowKit Go.Hands Go.WideMaps Go.Maps
set_option linter.unusedVariables false
set_option maxRecDepth 100000
/-- nothing is bound -/
def offV (n : Nat) : List Value := List.replicate n (.bool false)
theorem offV_at {n i : Nat} (h : i < n) : (offV n)[i]? = some (.bool false) := by simp [offV, h]
def farN (n : Nat) : Nat := if n = 0 then 0 else 9
set_option maxHeartbeats 1000000 in
theorem distance_any (B Bb n R : Nat) (vt bv : Value) (w : World) (h : w.ownsRow B 204 2 vt n (tvV n)) (hb : w.ownsRow Bb 4 1 bv n (offV n)) (hn : n ≤ 8) :
    Calls Tryz.prog 174 #[.agg #[.int .i64 0, .int .i64 0, .pointer (some ⟨R, 0, none⟩), vt], bv] w fun e w' => e = .returned (.int .i64 (farN n : Nat)) ∧ w.grownBy w' none := by
  have HO := hide h
  have HB := hide hb
  obtain ⟨va, vc, hve⟩ := own_form h
  obtain ⟨ba, bc, hbe⟩ := own_form hb
  rw [hve, hbe]
  clear h hb
  obtain ⟨wA, HWA⟩ : ∃ wA, Hid (wA = w.alloc (.cells #[.int .i64 0, .int .i64 0, .pointer (some ⟨R, 0, none⟩), .slice va n vc] 202)) := ⟨_, rfl⟩
  have hwA := HWA.out.symm
  have HGA : Hid (w.grownBy wA none) := by rw [HWA.out]; exact fr_alloc _ _ _
  have p0 : wA.heap[w.heap.size]? = some (.cells #[.int .i64 0, .int .i64 0, .pointer (some ⟨R, 0, none⟩), .slice va n vc] 202) := by rw [HWA.out]; exact heap_alloc_new _ _
  have c0 : wA.cell? ⟨w.heap.size, 0, none⟩ = some (.int .i64 0) := cell_of p0 0 _ rfl
  have c3 : wA.cell? ⟨w.heap.size, 3, none⟩ = some (.slice va n vc) := cell_of p0 3 _ rfl
  clear p0
  go_enter Tryz.func174, Tryz.ntmps174
  go_wp2_with fail
  go_loopw [5, 11] (fun ov iv wr => ∃ i : Nat, i ≤ n ∧ iv = .int .i64 i ∧ ov = .int .i64 i ∧ Hid (wA.grownBy wr none)) (fun _ iv _ => n - (intOf iv).toNat)
  case atStart => exact ⟨0, Nat.zero_le _, rfl, rfl, fr_refl _ _⟩
  case round =>
    obtain ⟨i, hin, rfl, rfl, HG⟩ := hrel
    by_cases hlt : i < n
    · obtain ⟨g, hg⟩ : ∃ g, va = some ⟨g, 0, none⟩ := by
        rcases HO.out.2 with ⟨e, e0⟩ | ⟨g, cap, cur, e, _⟩
        · omega
        · rw [hve] at e; injection e with e1 e2 e3; exact ⟨g, e1⟩
      obtain ⟨gb, hgb⟩ : ∃ g, ba = some ⟨g, 0, none⟩ := by
        rcases HB.out.2 with ⟨e, e0⟩ | ⟨g, cap, cur, e, _⟩
        · omega
        · rw [hbe] at e; injection e with e1 e2 e3; exact ⟨g, e1⟩
      have hob : vt.ownBlock = some g := by rw [hve, hg]; rfl
      have hobb : bv.ownBlock = some gb := by rw [hbe, hgb]; rfl
      have hf := FrS.none (S := fun _ => False) (fr_both HGA.out HG.out)
      have z0 := hf.cell (own_cell HO.out hob (i * 2) _ (tvV_at0 hlt)) (fun h => h)
      have z1 := hf.cell (own_cell HO.out hob (i * 2 + 1) _ (tvV_at1 hlt)) (fun h => h)
      rw [hg, hgb]
      obtain ⟨wb, HWB⟩ : ∃ wb, Hid (wb = wr.alloc (.cells #[.bool true, .int .i64 (i : Nat)] 204)) := ⟨_, rfl⟩
      have hwb := HWB.out.symm
      have HGB : Hid (wr.grownBy wb none) := by rw [HWB.out]; exact fr_alloc _ _ _
      have hbl : wb.heap[wr.heap.size]? = some (.cells #[.bool true, .int .i64 (i : Nat)] 204) := by rw [HWB.out]; exact heap_alloc_new _ _
      have d0 : wb.cell? ⟨wr.heap.size, 0, none⟩ = some (.bool true) := cell_of hbl 0 _ rfl
      have d1 : wb.cell? ⟨wr.heap.size, 1, none⟩ = some (.int .i64 (i : Nat)) := cell_of hbl 1 _ rfl
      have d2 := (FrS.none (S := fun _ => False) (fr_both (fr_both HGA.out HG.out) HGB.out)).cell (own_cell HB.out hobb i _ (offV_at hlt)) (fun h => h)
      clear hbl hf hob hobb
      go_wp2
      go_roundw
      case rel => exact ⟨i + 1, by omega, by go_num, by go_num, fr_both HG.out HGB.out⟩
      case measure => simp [intOf]; omega
    · have him : i = n := by omega
      subst him
      have hf := FrS.none (S := fun _ => False) HG.out
      have y0 := hf.cell c0 (fun h => h)
      have y3 := hf.cell c3 (fun h => h)
      have HGW : Hid (w.grownBy wr none) := fr_both HGA.out HG.out
      by_cases h0 : i = 0
      · have e0 : (((i : Nat) : Int) == 0) = true := by simp [h0]
        have HFA : Hid (farN i = 0) := by show _ = _; simp [farN, h0]
        clear h0 hf
        go_wp2
        go_ret
        exact ⟨by rw [HFA.out]; rfl, HGW.out⟩
      · have e0 : (((i : Nat) : Int) == 0) = false := by rw [beq_eq_false_iff_ne]; omega
        have HFA : Hid (farN i = 9) := by show _ = _; simp [farN, h0]
        clear hf
        go_wp2
        all_goals go_ret
        all_goals exact ⟨by rw [HFA.out]; rfl, HGW.out⟩
set_option maxHeartbeats 1000000 in
theorem nearest_any (B Bp Bb n R g c : Nat) (vt bv : Value) (w : World) (hp : w.ownsRow Bp 202 4 (.slice (some ⟨g, 0, none⟩) 1 c) 1 [.int .i64 0, .int .i64 0, .pointer (some ⟨R, 0, none⟩), vt]) (h : w.ownsRow B 204 2 vt n (tvV n)) (hb : w.ownsRow Bb 4 1 bv n (offV n)) (hn : n ≤ 8) :
    Calls Tryz.prog 136 #[.slice (some ⟨g, 0, none⟩) 1 c, bv] w fun e w' => e = .returned (.int .i64 0) ∧ w.grownBy w' none := by
  have HD : Hid (∀ W, w.grownBy W none → Calls Tryz.prog 174 #[.agg #[.int .i64 0, .int .i64 0, .pointer (some ⟨R, 0, none⟩), vt], bv] W fun e w' => e = .returned (.int .i64 (farN n : Nat)) ∧ W.grownBy w' none) := fun W hg => distance_any B Bb n R vt bv W (h.kept hg (by cases vt.ownBlock <;> simp)) (hb.kept hg (by cases bv.ownBlock <;> simp)) hn
  obtain ⟨va, vc, hve⟩ := own_form h
  obtain ⟨ba, bc, hbe⟩ := own_form hb
  rw [hve, hbe] at HD
  rw [hve] at hp
  rw [hbe]
  have q0 := own_cell hp (g := g) rfl 0 _ rfl
  have q1 := own_cell hp (g := g) rfl 1 _ rfl
  have q2 := own_cell hp (g := g) rfl 2 _ rfl
  have q3 := own_cell hp (g := g) rfl 3 _ rfl
  clear hp h hb
  obtain ⟨d, HDE⟩ : ∃ d, Hid (d = farN n) := ⟨_, rfl⟩
  have hdb : d ≤ 9 := by rw [HDE.out]; unfold farN; split <;> omega
  rw [← HDE.out] at HD
  obtain ⟨wA, HWA⟩ : ∃ wA, Hid (wA = w.alloc (.cells #[.int .i64 0, .int .i64 0, .pointer (some ⟨R, 0, none⟩), .slice va n vc] 202)) := ⟨_, rfl⟩
  have hwA := HWA.out.symm
  have HGA : Hid (w.grownBy wA none) := by rw [HWA.out]; exact fr_alloc _ _ _
  have p0 : wA.heap[w.heap.size]? = some (.cells #[.int .i64 0, .int .i64 0, .pointer (some ⟨R, 0, none⟩), .slice va n vc] 202) := by rw [HWA.out]; exact heap_alloc_new _ _
  have c0 : wA.cell? ⟨w.heap.size, 0, none⟩ = some (.int .i64 0) := cell_of p0 0 _ rfl
  have c1 : wA.cell? ⟨w.heap.size, 1, none⟩ = some (.int .i64 0) := cell_of p0 1 _ rfl
  have c2 : wA.cell? ⟨w.heap.size, 2, none⟩ = some (.pointer (some ⟨R, 0, none⟩)) := cell_of p0 2 _ rfl
  have c3 : wA.cell? ⟨w.heap.size, 3, none⟩ = some (.slice va n vc) := cell_of p0 3 _ rfl
  have fA := FrS.none (S := fun _ => False) HGA.out
  have r0 := fA.cell q0 (fun h => h)
  have r1 := fA.cell q1 (fun h => h)
  have r2 := fA.cell q2 (fun h => h)
  have r3 := fA.cell q3 (fun h => h)
  clear fA p0
  have HD2 : Hid (∀ W : World, (fun w' : World => wA.grownBy w' none ∧ w'.cell? ⟨w.heap.size, 0, none⟩ = some (.int .i64 0) ∧ w'.cell? ⟨w.heap.size, 1, none⟩ = some (.int .i64 0) ∧ w'.cell? ⟨w.heap.size, 2, none⟩ = some (.pointer (some ⟨R, 0, none⟩)) ∧ w'.cell? ⟨w.heap.size, 3, none⟩ = some (.slice va n vc) ∧ w'.cell? ⟨g, 0, none⟩ = some (.int .i64 0) ∧ w'.cell? ⟨g, 1, none⟩ = some (.int .i64 0) ∧ w'.cell? ⟨g, 2, none⟩ = some (.pointer (some ⟨R, 0, none⟩)) ∧ w'.cell? ⟨g, 3, none⟩ = some (.slice va n vc)) W → Calls Tryz.prog 174 #[.agg #[.int .i64 0, .int .i64 0, .pointer (some ⟨R, 0, none⟩), .slice va n vc], .slice ba n bc] W fun e w' => e = .returned (.int .i64 (d : Nat)) ∧ wA.grownBy w' none ∧ w'.cell? ⟨w.heap.size, 0, none⟩ = some (.int .i64 0) ∧ w'.cell? ⟨w.heap.size, 1, none⟩ = some (.int .i64 0) ∧ w'.cell? ⟨w.heap.size, 2, none⟩ = some (.pointer (some ⟨R, 0, none⟩)) ∧ w'.cell? ⟨w.heap.size, 3, none⟩ = some (.slice va n vc) ∧ w'.cell? ⟨g, 0, none⟩ = some (.int .i64 0) ∧ w'.cell? ⟨g, 1, none⟩ = some (.int .i64 0) ∧ w'.cell? ⟨g, 2, none⟩ = some (.pointer (some ⟨R, 0, none⟩)) ∧ w'.cell? ⟨g, 3, none⟩ = some (.slice va n vc)) := by
    rintro W ⟨hg, _⟩
    refine (HD.out W (fr_both HGA.out hg)).mono ?_
    rintro e w' ⟨rfl, hg2⟩
    have hf := FrS.none (S := fun _ => False) (fr_both hg hg2)
    exact ⟨rfl, fr_both hg hg2, hf.cell c0 (fun h => h), hf.cell c1 (fun h => h), hf.cell c2 (fun h => h), hf.cell c3 (fun h => h), hf.cell r0 (fun h => h), hf.cell r1 (fun h => h), hf.cell r2 (fun h => h), hf.cell r3 (fun h => h)⟩
  have hgd : wA.grownBy wA.drew none := fr_draws wA 1 none
  have hlt : (((d : Nat) : Int) < ((d : Nat) : Int)) = False := by simp
  go_enter Tryz.func136, Tryz.ntmps136
  go_wp2_with fail
  refine wp_loop_rounds 2 ?_
  rw [rounds_succ]
  go_wp2_with fail
  go_region_held3 (fun w' => wA.grownBy w' none ∧ w'.cell? ⟨w.heap.size, 0, none⟩ = some (.int .i64 0) ∧ w'.cell? ⟨w.heap.size, 1, none⟩ = some (.int .i64 0) ∧ w'.cell? ⟨w.heap.size, 2, none⟩ = some (.pointer (some ⟨R, 0, none⟩)) ∧ w'.cell? ⟨w.heap.size, 3, none⟩ = some (.slice va n vc) ∧ w'.cell? ⟨g, 0, none⟩ = some (.int .i64 0) ∧ w'.cell? ⟨g, 1, none⟩ = some (.int .i64 0) ∧ w'.cell? ⟨g, 2, none⟩ = some (.pointer (some ⟨R, 0, none⟩)) ∧ w'.cell? ⟨g, 3, none⟩ = some (.slice va n vc)) (simp [*])
    (first | (go_at_call 174; refine (HD2.out _ (by assumption)).mono ?_; rintro e w5 ⟨rfl, hg5, k0, k1, k2, k3, k4, k5, k6, k7⟩))
  have HG5 : Hid (w.grownBy w5 none) := fr_both HGA.out hg5
  go_wp2
  rw [rounds_succ]
  go_wp2
  go_ret
  exact ⟨rfl, HG5.out⟩
end Go.Proofs.YtdfbjnachakkhaaGreatDoor
