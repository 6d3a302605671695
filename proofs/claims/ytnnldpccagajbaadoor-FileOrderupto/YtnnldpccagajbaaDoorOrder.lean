/-
  Rows of texts: their order, and the document's order, walked.
-/
import Derived.Test.YtnnldpccagajbaaDoorLists
namespace Go.Proofs.YtnnldpccagajbaaDoor
open Go.ChangeShapes Go.WideShapes Go.ChangeAt Go.RowKit
set_option linter.unusedVariables false
/-- -1, 0 or 1: does a row stand ahead of another one? -/
def ordR : List (List UInt8) → List (List UInt8) → Int
  | x :: a, y :: b => if Op.bytesLess x y then -1 else if Op.bytesLess y x then 1 else ordR a b
  | _, _ => 0
theorem ordR_nil_left (b : List (List UInt8)) : ordR [] b = 0 := rfl
theorem ordR_nil_right (a : List (List UInt8)) : ordR a [] = 0 := by cases a <;> rfl
theorem less_eq {x y : List UInt8} (h1 : Op.bytesLess x y = false) (h2 : Op.bytesLess y x = false) : x = y := by
  have := less_or x y
  rw [h1, h2] at this
  simpa using this
theorem three_draws (w : World) (n m p : Nat) : ∃ k, ((w.drewN n).drewN m).drewN p = w.drewN k := ⟨n + m + p, by simp⟩
theorem gtr_less (x y : List UInt8) : (!(Op.bytesLess x y || x == y)) = Op.bytesLess y x := by rw [less_or]; simp
set_option maxRecDepth 100000 in
set_option maxHeartbeats 1000000 in
theorem order_any (va vb : Value) (la lb : List (List UInt8)) (w : World) (ha : Strs w va la) (hb : Strs w vb lb) (hl : la.length ≤ 140737488355328) (hl2 : lb.length ≤ 140737488355328) :
    Calls Tryd.prog 68 #[va, vb] w fun e w' => e = .returned (.int .i64 (ordR la lb)) ∧ ∃ n, w' = w.drewN n := by
  obtain ⟨a, cap, rfl, ha⟩ := ha
  obtain ⟨b, cap2, rfl, hb⟩ := hb
  rcases ha with ⟨rfl, _⟩ | ⟨ba, oa, rfl, ha⟩
  · go_enter Tryd.func68, Tryd.ntmps68
    go_wp2
    refine wp_loop_rounds 1 ?_
    rw [rounds_succ]
    go_wp2
    go_ret
    exact ⟨rfl, 0, rfl⟩
  · rcases hb with ⟨rfl, _⟩ | ⟨bb, ob, rfl, hb⟩
    · have HZ : Hid (ordR la [] = 0) := ordR_nil_right la
      clear ha
      go_enter Tryd.func68, Tryd.ntmps68
      go_wp2
      refine wp_loop_rounds 1 ?_
      rw [rounds_succ]
      go_wp2
      all_goals go_ret
      all_goals exact ⟨ret_int HZ.out.symm, 0, rfl⟩
    · have HA : Hid (∀ (i : Nat) (x : List UInt8), la[i]? = some x → w.cell? ⟨ba, oa + i, none⟩ = some (.string (str x))) := ha
      have HB : Hid (∀ (i : Nat) (x : List UInt8), lb[i]? = some x → w.cell? ⟨bb, ob + i, none⟩ = some (.string (str x))) := hb
      clear ha hb
      go_enter Tryd.func68, Tryd.ntmps68
      go_wp2
      go_loopw [5] (fun i wr => ∃ k n : Nat, k ≤ la.length ∧ k ≤ lb.length ∧ i = .int .i64 k ∧ wr = w.drewN n ∧ Hid (ordR la lb = ordR (la.drop k) (lb.drop k))) (fun i _ => la.length - (intOf i).toNat)
      case atStart => exact ⟨0, 0, by omega, by omega, rfl, rfl, by simp [Hid]⟩
      case round =>
        obtain ⟨k, n, hk, hk2, rfl, rfl, HT⟩ := hrel
        by_cases hlt : k < la.length
        · by_cases hlt2 : k < lb.length
          · have c1 := HA.out k la[k] (get_at hlt)
            have c2 := HB.out k lb[k] (get_at hlt2)
            have HU : Hid (ordR la lb = if Op.bytesLess la[k] lb[k] then -1 else if Op.bytesLess lb[k] la[k] then 1 else ordR (la.drop (k + 1)) (lb.drop (k + 1))) := by
              show _ = _; rw [HT.out, drop_row la k hlt, drop_row lb k hlt2]; rfl
            cases h1 : Op.bytesLess la[k] lb[k] with
            | true =>
              have HE : Hid (ordR la lb = -1) := by show _ = _; rw [HU.out, h1]; rfl
              have hs1 : Op.bytesLess (str la[k]).toList (str lb[k]).toList = true := by rw [toList_str, toList_str]; exact h1
              clear h1 HU
              generalize str la[k] = sa at *
              generalize str lb[k] = sb at *
              go_wp2
              go_quiet (fail)
              go_wp2
              go_ret
              refine ⟨ret_int HE.out.symm, ?_⟩
              first | exact ⟨_, rfl⟩ | exact two_draws _ _ _ | exact three_draws _ _ _ _
            | false =>
              have hs1 : Op.bytesLess (str la[k]).toList (str lb[k]).toList = false := by rw [toList_str, toList_str]; exact h1
              cases h2 : Op.bytesLess lb[k] la[k] with
              | true =>
                have HE : Hid (ordR la lb = 1) := by show _ = _; rw [HU.out, h1, h2]; rfl
                have hs2 : ((str la[k]).toList == (str lb[k]).toList) = false := by
                  rw [toList_str, toList_str, beq_eq_false_iff_ne]; intro he; rw [he, less_irrefl] at h2; cases h2
                clear h1 h2 HU
                generalize str la[k] = sa at *
                generalize str lb[k] = sb at *
                go_wp2
                go_quiet (fail)
                go_wp2
                go_quiet (fail)
                go_wp2
                go_ret
                refine ⟨ret_int HE.out.symm, ?_⟩
                first | exact ⟨_, rfl⟩ | exact two_draws _ _ _ | exact three_draws _ _ _ _
              | false =>
                have HE : Hid (ordR la lb = ordR (la.drop (k + 1)) (lb.drop (k + 1))) := by show _ = _; rw [HU.out, h1, h2]; rfl
                have he := less_eq h1 h2
                have hs2 : ((str la[k]).toList == (str lb[k]).toList) = true := by rw [he]; simp
                clear h1 h2 HU he
                generalize str la[k] = sa at *
                generalize str lb[k] = sb at *
                go_wp2
                go_quiet (fail)
                go_wp2
                go_quiet (fail)
                go_wp2
                go_roundw
                case rel => exact ⟨k + 1, _, by omega, by omega, by go_num, rfl, HE⟩
                case measure => simp [intOf]; omega
          · have HE : Hid (ordR la lb = 0) := by show _ = _; rw [HT.out, List.drop_of_length_le (l := lb) (by omega)]; exact ordR_nil_right _
            go_wp2
            go_ret
            exact ⟨ret_int HE.out.symm, _, rfl⟩
        · have HE : Hid (ordR la lb = 0) := by show _ = _; rw [HT.out, List.drop_of_length_le (l := la) (by omega)]; rfl
          go_wp2
          go_ret
          exact ⟨ret_int HE.out.symm, _, rfl⟩
theorem ordR_tri (a b : List (List UInt8)) : ordR a b = -1 ∨ ordR a b = 0 ∨ ordR a b = 1 := by
  induction a generalizing b with
  | nil => right; left; rfl
  | cons x a ih =>
    cases b with
    | nil => right; left; rfl
    | cons y b =>
      rw [ordR]; split
      · left; rfl
      · split
        · right; right; rfl
        · exact ih b
theorem less_asymm {x y : List UInt8} (h : Op.bytesLess x y = true) : Op.bytesLess y x = false := by
  cases h2 : Op.bytesLess y x with
  | false => rfl
  | true => have := less_trans x y x h h2; rw [less_irrefl] at this; cases this
theorem ordR_neg (a b : List (List UInt8)) : ordR b a = - ordR a b := by
  induction a generalizing b with
  | nil => rw [ordR_nil_right]; rfl
  | cons x a ih =>
    cases b with
    | nil => rfl
    | cons y b =>
      simp only [ordR]
      cases h1 : Op.bytesLess x y with
      | true => simp [less_asymm h1]
      | false =>
        cases h2 : Op.bytesLess y x with
        | true => simp
        | false => simpa using ih b
theorem ordR_eq (a b : List (List UInt8)) (hl : a.length = b.length) (h : ordR a b = 0) : a = b := by
  induction a generalizing b with
  | nil => cases b with
    | nil => rfl
    | cons _ _ => simp at hl
  | cons x a ih =>
    cases b with
    | nil => simp at hl
    | cons y b =>
      rw [ordR] at h
      cases h1 : Op.bytesLess x y with
      | true => rw [h1] at h; simp at h
      | false =>
        cases h2 : Op.bytesLess y x with
        | true => rw [h1, h2] at h; simp at h
        | false =>
          rw [h1, h2] at h
          rw [less_eq h1 h2, ih b (by simpa using hl) (by simpa using h)]
theorem ordR_self (a : List (List UInt8)) : ordR a a = 0 := by
  have := ordR_neg a a; omega
theorem ordR_trans (a b c : List (List UInt8)) (h1 : ordR a b = -1) (h2 : ordR b c = -1) (hl : a.length = b.length) (hl2 : b.length = c.length) : ordR a c = -1 := by
  induction a generalizing b c with
  | nil => simp [ordR] at h1
  | cons x a ih =>
    cases b with
    | nil => simp at hl
    | cons y b =>
      cases c with
      | nil => simp at hl2
      | cons z c =>
        rw [ordR] at h1 h2 ⊢
        cases a1 : Op.bytesLess x y with
        | true =>
          cases b1 : Op.bytesLess y z with
          | true => rw [less_trans x y z a1 b1]; rfl
          | false =>
            cases b2 : Op.bytesLess z y with
            | true => rw [b1, b2] at h2; simp at h2
            | false => rw [← less_eq b1 b2, a1]; rfl
        | false =>
          cases a2 : Op.bytesLess y x with
          | true => rw [a1, a2] at h1; simp at h1
          | false =>
            have e := less_eq a1 a2
            subst e
            rw [a1] at h1
            simp only [Bool.false_eq_true, if_false] at h1
            cases b1 : Op.bytesLess x z with
            | true => rfl
            | false =>
              cases b2 : Op.bytesLess z x with
              | true => rw [b1, b2] at h2; simp at h2
              | false =>
                rw [b1, b2] at h2
                simp only [Bool.false_eq_true, if_false] at h2 ⊢
                exact ih b c h1 h2 (by simpa using hl) (by simpa using hl2)
/-- rows of one length that rise -/
def Rises (m : Nat) (L : List (List (List UInt8))) : Prop := (∀ r ∈ L, r.length = m) ∧ ∀ (i j : Nat) (a b : List (List UInt8)), i < j → L[i]? = some a → L[j]? = some b → ordR a b = -1
/-- how many stand ahead of a row -/
def ahead (L : List (List (List UInt8))) (r : List (List UInt8)) : Nat := (L.takeWhile fun a => decide (ordR a r = -1)).length
/-- a row put in its place, if it is not there -/
def ins (L : List (List (List UInt8))) (r : List (List UInt8)) : List (List (List UInt8)) := if r ∈ L then L else L.take (ahead L r) ++ r :: L.drop (ahead L r)
theorem ahead_of (L : List (List (List UInt8))) (r : List (List UInt8)) (k : Nat) (hk : k ≤ L.length) (h1 : ∀ i a, i < k → L[i]? = some a → ordR a r = -1) (h2 : ∀ a, L[k]? = some a → ordR a r ≠ -1) : ahead L r = k := by
  unfold ahead
  induction L generalizing k with
  | nil => simp at hk; subst hk; rfl
  | cons x L ih =>
    cases k with
    | zero =>
      have := h2 x (by simp)
      rw [List.takeWhile_cons]; simp [this]
    | succ k =>
      have := h1 0 x (by omega) (by simp)
      rw [List.takeWhile_cons]; simp only [this, decide_true, if_true, List.length_cons]
      rw [ih k (by simpa using hk) (fun i a hi ha => h1 (i + 1) a (by omega) (by simpa using ha)) (fun a ha => h2 a (by simpa using ha))]
end Go.Proofs.YtnnldpccagajbaaDoor
