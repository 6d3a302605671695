/-
  slices.Compare and slices.Equal at texts, walked.
-/
import Derived.Test.YtnnldpccagajbaaDoorRowsWalk
namespace Go.Proofs.YtnnldpccagajbaaDoor
open Go.ChangeShapes Go.WideShapes Go.ChangeAt Go.RowKit
set_option linter.unusedVariables false
def ordB (x y : List UInt8) : Int := if Op.bytesLess x y then -1 else if Op.bytesLess y x then 1 else 0
set_option maxRecDepth 100000 in
set_option maxHeartbeats 400000 in
theorem isNaN_any (s : ByteArray) (w : World) : Calls Tryd.prog 93 #[.string s] w fun e w' => e = .returned (.bool false) ∧ w = w' := by
  have hs : (s.toList == s.toList) = true := by simp
  go_enter Tryd.func93, Tryd.ntmps93
  go_wp2
  go_ret
  exact ⟨by simp, rfl⟩
set_option maxRecDepth 100000 in
set_option maxHeartbeats 1000000 in
theorem ccompare_any (s t : ByteArray) (w : World) : Calls Tryd.prog 73 #[.string s, .string t] w fun e w' => e = .returned (.int .i64 (ordB s.data.toList t.data.toList)) ∧ w = w' := by
  cases h1 : Op.bytesLess s.data.toList t.data.toList with
  | true =>
    have HE : Hid (ordB s.data.toList t.data.toList = -1) := by show _ = _; unfold ordB; rw [h1]; rfl
    have hs1 : Op.bytesLess s.toList t.toList = true := by rw [toList_of, toList_of]; exact h1
    clear h1
    go_enter Tryd.func73, Tryd.ntmps73
    go_wp2_with fail
    refine (isNaN_any s _).mono ?_
    rintro e w1 ⟨rfl, rfl⟩
    go_wp2_with fail
    refine (isNaN_any t _).mono ?_
    rintro e w1 ⟨rfl, rfl⟩
    go_wp2
    go_ret
    exact ⟨ret_int HE.out.symm, rfl⟩
  | false =>
    have hs1 : Op.bytesLess s.toList t.toList = false := by rw [toList_of, toList_of]; exact h1
    cases h2 : Op.bytesLess t.data.toList s.data.toList with
    | true =>
      have HE : Hid (ordB s.data.toList t.data.toList = 1) := by show _ = _; unfold ordB; rw [h1, h2]; rfl
      have hs2 : (s.toList == t.toList) = false := by
        rw [toList_of, toList_of, beq_eq_false_iff_ne]; intro he; rw [he, less_irrefl] at h2; cases h2
      clear h1 h2
      go_enter Tryd.func73, Tryd.ntmps73
      go_wp2_with fail
      refine (isNaN_any s _).mono ?_
      rintro e w1 ⟨rfl, rfl⟩
      go_wp2_with fail
      refine (isNaN_any t _).mono ?_
      rintro e w1 ⟨rfl, rfl⟩
      go_wp2
      go_ret
      exact ⟨ret_int HE.out.symm, rfl⟩
    | false =>
      have HE : Hid (ordB s.data.toList t.data.toList = 0) := by show _ = _; unfold ordB; rw [h1, h2]; rfl
      have he := less_eq h1 h2
      have hs2 : (s.toList == t.toList) = true := by rw [toList_of, toList_of, he]; simp
      clear h1 h2 he
      go_enter Tryd.func73, Tryd.ntmps73
      go_wp2_with fail
      refine (isNaN_any s _).mono ?_
      rintro e w1 ⟨rfl, rfl⟩
      go_wp2_with fail
      refine (isNaN_any t _).mono ?_
      rintro e w1 ⟨rfl, rfl⟩
      go_wp2
      go_ret
      exact ⟨ret_int HE.out.symm, rfl⟩
theorem ordR_cons (x y : List UInt8) (a b : List (List UInt8)) : ordR (x :: a) (y :: b) = if ordB x y = 0 then ordR a b else ordB x y := by
  rw [ordR]; unfold ordB
  split
  · simp
  · split
    · simp
    · simp
set_option maxRecDepth 100000 in
set_option maxHeartbeats 1000000 in
theorem scompare_any (va vb : Value) (la lb : List (List UInt8)) (w : World) (ha : Strs w va la) (hb : Strs w vb lb) (hlen : la.length = lb.length) (hl : la.length ≤ 140737488355328) :
    Calls Tryd.prog 60 #[va, vb] w fun e w' => e = .returned (.int .i64 (ordR la lb)) ∧ ∃ n, w' = w.drewN n := by
  obtain ⟨a, cap, rfl, ha⟩ := ha
  obtain ⟨b, cap2, rfl, hb⟩ := hb
  rcases ha with ⟨rfl, _⟩ | ⟨ba, oa, rfl, ha⟩
  · have hb0 : lb = [] := List.eq_nil_of_length_eq_zero (by simpa using hlen.symm)
    subst hb0
    clear hb hlen
    go_enter Tryd.func60, Tryd.ntmps60
    go_wp2
    refine wp_loop_rounds 1 ?_
    rw [rounds_succ]
    go_wp2
    go_ret
    exact ⟨rfl, 0, rfl⟩
  · rcases hb with ⟨rfl, _⟩ | ⟨bb, ob, rfl, hb⟩
    · have ha0 : la = [] := List.eq_nil_of_length_eq_zero (by simpa using hlen)
      subst ha0
      clear ha hlen
      go_enter Tryd.func60, Tryd.ntmps60
      go_wp2
      refine wp_loop_rounds 1 ?_
      rw [rounds_succ]
      go_wp2
      go_ret
      exact ⟨rfl, 0, rfl⟩
    · have HA : Hid (∀ (i : Nat) (x : List UInt8), la[i]? = some x → w.cell? ⟨ba, oa + i, none⟩ = some (.string (str x))) := ha
      have HB : Hid (∀ (i : Nat) (x : List UInt8), lb[i]? = some x → w.cell? ⟨bb, ob + i, none⟩ = some (.string (str x))) := hb
      have HL : Hid (la.length = lb.length) := hlen
      rw [← hlen]
      clear ha hb hlen
      go_enter Tryd.func60, Tryd.ntmps60
      go_wp2
      go_loopw [11] (fun i wr => ∃ k n : Nat, k ≤ la.length ∧ i = .int .i64 k ∧ wr = w.drewN n ∧ Hid (ordR la lb = ordR (la.drop k) (lb.drop k))) (fun i _ => la.length - (intOf i).toNat)
      case atStart => exact ⟨0, 0, by omega, rfl, rfl, by simp [Hid]⟩
      case round =>
        obtain ⟨k, n, hk, rfl, rfl, HT⟩ := hrel
        by_cases hlt : k < la.length
        · have hlt2 : k < lb.length := by have := HL.out; omega
          have c1 := HA.out k la[k] (get_at hlt)
          have c2 := HB.out k lb[k] (get_at hlt2)
          have HU : Hid (ordR la lb = if ordB la[k] lb[k] = 0 then ordR (la.drop (k + 1)) (lb.drop (k + 1)) else ordB la[k] lb[k]) := by
            show _ = _; rw [HT.out, drop_row la k hlt, drop_row lb k hlt2, ordR_cons]
          have HCM : Hid (∀ wx, Calls Tryd.prog 73 #[.string (str la[k]), .string (str lb[k])] wx fun e w' => e = .returned (.int .i64 (ordB la[k] lb[k])) ∧ wx = w') := by
            intro wx
            have := ccompare_any (str la[k]) (str lb[k]) wx
            rw [data_str, data_str] at this
            exact this
          generalize str la[k] = sa at *
          generalize str lb[k] = sb at *
          by_cases ho : ordB la[k] lb[k] = 0
          · have HE : Hid (ordR la lb = ordR (la.drop (k + 1)) (lb.drop (k + 1))) := by show _ = _; rw [HU.out, if_pos ho]
            rw [ho] at HCM
            clear ho HU
            go_wp2_with fail
            refine (HCM.out _).mono ?_
            rintro e w1 ⟨rfl, rfl⟩
            go_wp2
            go_roundw
            case rel => exact ⟨k + 1, _, by omega, by go_num, rfl, HE⟩
            case measure => simp [intOf]; omega
          · have HE : Hid (ordR la lb = ordB la[k] lb[k]) := by show _ = _; rw [HU.out, if_neg ho]
            have hne : (ordB la[k] lb[k] != 0) = true := by simpa using ho
            clear HU
            generalize ordB la[k] lb[k] = o at *
            go_wp2_with fail
            refine (HCM.out _).mono ?_
            rintro e w1 ⟨rfl, rfl⟩
            go_wp2
            go_ret
            refine ⟨ret_int HE.out.symm, ?_⟩
            first | exact ⟨_, rfl⟩ | exact two_draws _ _ _
        · have HE : Hid (ordR la lb = 0) := by show _ = _; rw [HT.out, List.drop_of_length_le (l := la) (by omega)]; rfl
          go_wp2
          go_ret
          refine ⟨ret_int HE.out.symm, ?_⟩
          first | exact ⟨_, rfl⟩ | exact two_draws _ _ _
set_option maxRecDepth 100000 in
set_option maxHeartbeats 1000000 in
theorem sequal_any (va vb : Value) (la lb : List (List UInt8)) (w : World) (ha : Strs w va la) (hb : Strs w vb lb) (hlen : la.length = lb.length) (hl : la.length ≤ 140737488355328) :
    Calls Tryd.prog 62 #[va, vb] w fun e w' => e = .returned (.bool (la == lb)) ∧ ∃ n, w' = w.drewN n := by
  obtain ⟨a, cap, rfl, ha⟩ := ha
  obtain ⟨b, cap2, rfl, hb⟩ := hb
  have hll : ((la.length : Int) != (la.length : Int)) = false := by simp
  rw [← hlen]
  rcases ha with ⟨rfl, _⟩ | ⟨ba, oa, rfl, ha⟩
  · have hb0 : lb = [] := List.eq_nil_of_length_eq_zero (by simpa using hlen.symm)
    subst hb0
    clear hb hlen
    go_enter Tryd.func62, Tryd.ntmps62
    go_wp2
    refine wp_loop_rounds 1 ?_
    rw [rounds_succ]
    go_wp2
    go_ret
    exact ⟨rfl, 0, rfl⟩
  · rcases hb with ⟨rfl, _⟩ | ⟨bb, ob, rfl, hb⟩
    · have ha0 : la = [] := List.eq_nil_of_length_eq_zero (by simpa using hlen)
      subst ha0
      clear ha hlen
      go_enter Tryd.func62, Tryd.ntmps62
      go_wp2
      refine wp_loop_rounds 1 ?_
      rw [rounds_succ]
      go_wp2
      go_ret
      exact ⟨rfl, 0, rfl⟩
    · have HA : Hid (∀ (i : Nat) (x : List UInt8), la[i]? = some x → w.cell? ⟨ba, oa + i, none⟩ = some (.string (str x))) := ha
      have HB : Hid (∀ (i : Nat) (x : List UInt8), lb[i]? = some x → w.cell? ⟨bb, ob + i, none⟩ = some (.string (str x))) := hb
      have HL : Hid (la.length = lb.length) := hlen
      clear ha hb hlen
      go_enter Tryd.func62, Tryd.ntmps62
      go_wp2
      go_loopw [13] (fun i wr => ∃ k n : Nat, k ≤ la.length ∧ i = .int .i64 k ∧ wr = w.drewN n ∧ Hid (la.take k = lb.take k)) (fun i _ => la.length - (intOf i).toNat)
      case atStart => exact ⟨0, 0, by omega, rfl, rfl, rfl⟩
      case round =>
        obtain ⟨k, n, hk, rfl, rfl, HT⟩ := hrel
        by_cases hlt : k < la.length
        · have hlt2 : k < lb.length := by have := HL.out; omega
          have c1 := HA.out k la[k] (get_at hlt)
          have c2 := HB.out k lb[k] (get_at hlt2)
          by_cases he : la[k] = lb[k]
          · have hs : ((str la[k]).toList == (str lb[k]).toList) = true := by rw [he]; simp
            have HE : Hid (la.take (k + 1) = lb.take (k + 1)) := by show _ = _; rw [take_next la k hlt, take_next lb k hlt2, HT.out, he]
            generalize str la[k] = sa at *
            generalize str lb[k] = sb at *
            clear he
            go_wp2
            go_quiet (fail)
            go_wp2
            go_roundw
            case rel => exact ⟨k + 1, _, by omega, by go_num, rfl, HE⟩
            case measure => simp [intOf]; omega
          · have hs : ((str la[k]).toList == (str lb[k]).toList) = false := by rw [toList_str, toList_str]; simp [he]
            have HE : Hid ((la == lb) = false) := by
              show _ = _
              rw [beq_eq_false_iff_ne]
              intro h; subst h; exact he rfl
            generalize str la[k] = sa at *
            generalize str lb[k] = sb at *
            clear he
            go_wp2
            go_quiet (fail)
            go_wp2
            go_ret
            refine ⟨ret_bool HE.out.symm, ?_⟩
            first | exact ⟨_, rfl⟩ | exact two_draws _ _ _
        · have HE : Hid ((la == lb) = true) := by
            show _ = _
            rw [beq_iff_eq]
            have := HT.out
            rw [List.take_of_length_le (by omega), List.take_of_length_le (by have := HL.out; omega)] at this
            exact this
          go_wp2
          go_ret
          refine ⟨ret_bool HE.out.symm, ?_⟩
          first | exact ⟨_, rfl⟩ | exact two_draws _ _ _
end Go.Proofs.YtnnldpccagajbaaDoor
