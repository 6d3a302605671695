/-
  slices.Compare and slices.Equal at texts of any number, walked.
-/
import Derived.Test.YtaeloanlllaphaaDoorCmpRows
import Derived.Test.YtaeloanlllaphaaDoorSortL
namespace Go.Proofs.YtaeloanlllaphaaDoor
open Go.ChangeShapes Go.WideShapes Go.ChangeAt Go.RowKit
set_option linter.unusedVariables false
theorem cmpL_cons (x y : List UInt8) (a b : List (List UInt8)) : cmpL (x :: a) (y :: b) = if ordB x y = 0 then cmpL a b else ordB x y := by
  rw [cmpL]; unfold ordB
  split
  · simp
  · split
    · simp
    · simp
set_option maxRecDepth 100000 in
set_option maxHeartbeats 1000000 in
theorem scompareL_any (va vb : Value) (la lb : List (List UInt8)) (w : World) (ha : Strs w va la) (hb : Strs w vb lb) (hl : la.length ≤ 140737488355328) (hl2 : lb.length ≤ 140737488355328) :
    Calls Tryd.prog 45 #[va, vb] w fun e w' => e = .returned (.int .i64 (cmpL la lb)) ∧ ∃ n, w' = w.drewN n := by
  obtain ⟨a, cap, rfl, ha⟩ := ha
  obtain ⟨b, cap2, rfl, hb⟩ := hb
  rcases ha with ⟨rfl, _⟩ | ⟨ba, oa, rfl, ha⟩
  · by_cases h0 : lb.length = 0
    · have hb0 : lb = [] := List.eq_nil_of_length_eq_zero h0
      subst hb0
      clear hb h0
      go_enter Tryd.func45, Tryd.ntmps45
      go_wp2
      refine wp_loop_rounds 1 ?_
      rw [rounds_succ]
      go_wp2
      go_ret
      exact ⟨rfl, 0, rfl⟩
    · have HE : Hid (cmpL [] lb = -1) := by
        show _ = _
        cases lb with
        | nil => simp at h0
        | cons y b => rfl
      have hpos : 0 < lb.length := by omega
      clear hb h0
      go_enter Tryd.func45, Tryd.ntmps45
      go_wp2
      refine wp_loop_rounds 1 ?_
      rw [rounds_succ]
      go_wp2
      go_ret
      exact ⟨ret_int HE.out.symm, 0, rfl⟩
  · have HA : Hid (∀ (i : Nat) (x : List UInt8), la[i]? = some x → w.cell? ⟨ba, oa + i, none⟩ = some (.string (str x))) := ha
    have HB : Hid (lb = [] ∨ ∃ bb ob, b = some ⟨bb, ob, none⟩ ∧ ∀ (i : Nat) (x : List UInt8), lb[i]? = some x → w.cell? ⟨bb, ob + i, none⟩ = some (.string (str x))) := hb.imp And.left id
    clear ha hb
    go_enter Tryd.func45, Tryd.ntmps45
    go_wp2
    go_loopw [11] (fun i wr => ∃ k n : Nat, k ≤ la.length ∧ k ≤ lb.length ∧ i = .int .i64 k ∧ wr = w.drewN n ∧ Hid (cmpL la lb = cmpL (la.drop k) (lb.drop k))) (fun i _ => la.length - (intOf i).toNat)
    case atStart => exact ⟨0, 0, by omega, by omega, rfl, rfl, by simp [Hid]⟩
    case round =>
      obtain ⟨k, n, hk, hk2, rfl, rfl, HT⟩ := hrel
      by_cases hlt : k < la.length
      · have c1 := HA.out k la[k] (get_at hlt)
        by_cases hlt2 : k < lb.length
        · obtain ⟨bb, ob, rfl, hcb⟩ := HB.out.resolve_left (fun h => by rw [h] at hlt2; simp at hlt2)
          have c2 := hcb k lb[k] (get_at hlt2)
          clear hcb
          have HU : Hid (cmpL la lb = if ordB la[k] lb[k] = 0 then cmpL (la.drop (k + 1)) (lb.drop (k + 1)) else ordB la[k] lb[k]) := by
            show _ = _; rw [HT.out, drop_row la k hlt, drop_row lb k hlt2, cmpL_cons]
          have HCM : Hid (∀ wx, Calls Tryd.prog 53 #[.string (str la[k]), .string (str lb[k])] wx fun e w' => e = .returned (.int .i64 (ordB la[k] lb[k])) ∧ wx = w') := by
            intro wx
            have := ccompare_any (str la[k]) (str lb[k]) wx
            rw [data_str, data_str] at this
            exact this
          generalize str la[k] = sa at *
          generalize str lb[k] = sb at *
          by_cases ho : ordB la[k] lb[k] = 0
          · have HE : Hid (cmpL la lb = cmpL (la.drop (k + 1)) (lb.drop (k + 1))) := by show _ = _; rw [HU.out, if_pos ho]
            rw [ho] at HCM
            clear ho HU
            go_wp2_with fail
            refine (HCM.out _).mono ?_
            rintro e w1 ⟨rfl, rfl⟩
            go_wp2
            go_roundw
            case rel => exact ⟨k + 1, _, by omega, by omega, by go_num, rfl, HE⟩
            case measure => simp [intOf]; omega
          · have HE : Hid (cmpL la lb = ordB la[k] lb[k]) := by show _ = _; rw [HU.out, if_neg ho]
            have hne : (ordB la[k] lb[k] != 0) = true := by simpa using ho
            clear HU
            generalize ordB la[k] lb[k] = o at *
            go_wp2_with fail
            refine (HCM.out _).mono ?_
            rintro e w1 ⟨rfl, rfl⟩
            go_wp2
            go_ret
            refine ⟨ret_int HE.out.symm, ?_⟩
            first | exact ⟨_, rfl⟩ | exact two_draws _ _ _
        · have HE : Hid (cmpL la lb = 1) := by
            show _ = _
            rw [HT.out, drop_row la k hlt, List.drop_of_length_le (l := lb) (by omega)]; rfl
          generalize str la[k] = sa at *
          go_wp2
          go_ret
          refine ⟨ret_int HE.out.symm, ?_⟩
          first | exact ⟨_, rfl⟩ | exact two_draws _ _ _
      · by_cases hlt2 : la.length < lb.length
        · have HE : Hid (cmpL la lb = -1) := by
            show _ = _
            rw [HT.out, List.drop_of_length_le (l := la) (by omega), drop_row lb k (by omega)]; rfl
          go_wp2
          go_ret
          refine ⟨ret_int HE.out.symm, ?_⟩
          first | exact ⟨_, rfl⟩ | exact two_draws _ _ _
        · have HE : Hid (cmpL la lb = 0) := by
            show _ = _
            rw [HT.out, List.drop_of_length_le (l := la) (by omega), List.drop_of_length_le (l := lb) (by omega)]; rfl
          go_wp2
          go_ret
          refine ⟨ret_int HE.out.symm, ?_⟩
          first | exact ⟨_, rfl⟩ | exact two_draws _ _ _
set_option maxRecDepth 100000 in
set_option maxHeartbeats 1000000 in
theorem sequalL_any (va vb : Value) (la lb : List (List UInt8)) (w : World) (ha : Strs w va la) (hb : Strs w vb lb) (hl : la.length ≤ 140737488355328) (hl2 : lb.length ≤ 140737488355328) :
    Calls Tryd.prog 47 #[va, vb] w fun e w' => e = .returned (.bool (la == lb)) ∧ ∃ n, w' = w.drewN n := by
  by_cases hlen : la.length = lb.length
  · exact sequal_any va vb la lb w ha hb hlen hl
  · obtain ⟨a, cap, rfl, ha⟩ := ha
    obtain ⟨b, cap2, rfl, hb⟩ := hb
    have hne : ((la.length : Int) != (lb.length : Int)) = true := by simp; omega
    have HE : Hid ((la == lb) = false) := by
      show _ = _
      rw [beq_eq_false_iff_ne]
      intro h; subst h; exact hlen rfl
    clear ha hb hlen
    go_enter Tryd.func47, Tryd.ntmps47
    go_wp2
    go_ret
    exact ⟨ret_bool HE.out.symm, 0, rfl⟩
end Go.Proofs.YtaeloanlllaphaaDoor
