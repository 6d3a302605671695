import Derived.Test.YtgllfcoafgphbaaGreatDoorM22
import Derived.Maps.AppendAt
import Derived.Test.YtgllfcoafgphbaaGreatDoorM01
/-
  Rows of texts: their order, and the document's order, walked.
-/
namespace Go.Proofs.YtgllfcoafgphbaaGreatDoor
open Go.ChangeShapes Go.WideShapes Go.ChangeAt Go.RowKit
set_option linter.unusedVariables false
/-- -1, 0 or 1: does a row stand ahead of another one? -/
def ordR : List (List UInt8) → List (List UInt8) → Int
  | x :: a, y :: b => if Op.bytesLess x y then -1 else if Op.bytesLess y x then 1 else ordR a b
  | _, _ => 0
theorem ordR_nil_left (b : List (List UInt8)) : ordR [] b = 0 := rfl
theorem ordR_nil_right (a : List (List UInt8)) : ordR a [] = 0 := by cases a <;> rfl
theorem less_eq {x y : List UInt8} (h1 : Op.bytesLess x y = false) (h2 : Op.bytesLess y x = false) : x = y := by
  have := less_or x y
  rw [h1, h2] at this
  simpa using this
theorem three_draws (w : World) (n m p : Nat) : ∃ k, ((w.drewN n).drewN m).drewN p = w.drewN k := ⟨n + m + p, by simp⟩
theorem gtr_less (x y : List UInt8) : (!(Op.bytesLess x y || x == y)) = Op.bytesLess y x := by rw [less_or]; simp
set_option maxRecDepth 100000 in
set_option maxHeartbeats 1000000 in
theorem order_any (va vb : Value) (la lb : List (List UInt8)) (w : World) (ha : Strs w va la) (hb : Strs w vb lb) (hl : la.length ≤ 140737488355328) (hl2 : lb.length ≤ 140737488355328) :
    Calls Tryz.prog 112 #[va, vb] w fun e w' => e = .returned (.int .i64 (ordR la lb)) ∧ ∃ n, w' = w.drewN n := by
  obtain ⟨a, cap, rfl, ha⟩ := ha
  obtain ⟨b, cap2, rfl, hb⟩ := hb
  rcases ha with ⟨rfl, _⟩ | ⟨ba, oa, rfl, ha⟩
  · go_enter Tryz.func112, Tryz.ntmps112
    go_wp2
    refine wp_loop_rounds 1 ?_
    rw [rounds_succ]
    go_wp2
    go_ret
    exact ⟨rfl, 0, rfl⟩
  · rcases hb with ⟨rfl, _⟩ | ⟨bb, ob, rfl, hb⟩
    · have HZ : Hid (ordR la [] = 0) := ordR_nil_right la
      clear ha
      go_enter Tryz.func112, Tryz.ntmps112
      go_wp2
      refine wp_loop_rounds 1 ?_
      rw [rounds_succ]
      go_wp2
      all_goals go_ret
      all_goals exact ⟨ret_int HZ.out.symm, 0, rfl⟩
    · have HA : Hid (∀ (i : Nat) (x : List UInt8), la[i]? = some x → w.cell? ⟨ba, oa + i, none⟩ = some (.string (str x))) := ha
      have HB : Hid (∀ (i : Nat) (x : List UInt8), lb[i]? = some x → w.cell? ⟨bb, ob + i, none⟩ = some (.string (str x))) := hb
      clear ha hb
      go_enter Tryz.func112, Tryz.ntmps112
      go_wp2
      go_loopw [5] (fun i wr => ∃ k n : Nat, k ≤ la.length ∧ k ≤ lb.length ∧ i = .int .i64 k ∧ wr = w.drewN n ∧ Hid (ordR la lb = ordR (la.drop k) (lb.drop k))) (fun i _ => la.length - (intOf i).toNat)
      case atStart => exact ⟨0, 0, by omega, by omega, rfl, rfl, by simp [Hid]⟩
      case round =>
        obtain ⟨k, n, hk, hk2, rfl, rfl, HT⟩ := hrel
        by_cases hlt : k < la.length
        · by_cases hlt2 : k < lb.length
          · have c1 := HA.out k la[k] (get_at hlt)
            have c2 := HB.out k lb[k] (get_at hlt2)
            have HU : Hid (ordR la lb = if Op.bytesLess la[k] lb[k] then -1 else if Op.bytesLess lb[k] la[k] then 1 else ordR (la.drop (k + 1)) (lb.drop (k + 1))) := by
              show _ = _; rw [HT.out, drop_row la k hlt, drop_row lb k hlt2]; rfl
            cases h1 : Op.bytesLess la[k] lb[k] with
            | true =>
              have HE : Hid (ordR la lb = -1) := by show _ = _; rw [HU.out, h1]; rfl
              have hs1 : Op.bytesLess (str la[k]).toList (str lb[k]).toList = true := by rw [toList_str, toList_str]; exact h1
              clear h1 HU
              generalize str la[k] = sa at *
              generalize str lb[k] = sb at *
              go_wp2
              go_quiet (fail)
              go_wp2
              go_ret
              refine ⟨ret_int HE.out.symm, ?_⟩
              first | exact ⟨_, rfl⟩ | exact two_draws _ _ _ | exact three_draws _ _ _ _
            | false =>
              have hs1 : Op.bytesLess (str la[k]).toList (str lb[k]).toList = false := by rw [toList_str, toList_str]; exact h1
              cases h2 : Op.bytesLess lb[k] la[k] with
              | true =>
                have HE : Hid (ordR la lb = 1) := by show _ = _; rw [HU.out, h1, h2]; rfl
                have hs2 : ((str la[k]).toList == (str lb[k]).toList) = false := by
                  rw [toList_str, toList_str, beq_eq_false_iff_ne]; intro he; rw [he, less_irrefl] at h2; cases h2
                clear h1 h2 HU
                generalize str la[k] = sa at *
                generalize str lb[k] = sb at *
                go_wp2
                go_quiet (fail)
                go_wp2
                go_quiet (fail)
                go_wp2
                go_ret
                refine ⟨ret_int HE.out.symm, ?_⟩
                first | exact ⟨_, rfl⟩ | exact two_draws _ _ _ | exact three_draws _ _ _ _
              | false =>
                have HE : Hid (ordR la lb = ordR (la.drop (k + 1)) (lb.drop (k + 1))) := by show _ = _; rw [HU.out, h1, h2]; rfl
                have he := less_eq h1 h2
                have hs2 : ((str la[k]).toList == (str lb[k]).toList) = true := by rw [he]; simp
                clear h1 h2 HU he
                generalize str la[k] = sa at *
                generalize str lb[k] = sb at *
                go_wp2
                go_quiet (fail)
                go_wp2
                go_quiet (fail)
                go_wp2
                go_roundw
                case rel => exact ⟨k + 1, _, by omega, by omega, by go_num, rfl, HE⟩
                case measure => simp [intOf]; omega
          · have HE : Hid (ordR la lb = 0) := by show _ = _; rw [HT.out, List.drop_of_length_le (l := lb) (by omega)]; exact ordR_nil_right _
            go_wp2
            go_ret
            exact ⟨ret_int HE.out.symm, _, rfl⟩
        · have HE : Hid (ordR la lb = 0) := by show _ = _; rw [HT.out, List.drop_of_length_le (l := la) (by omega)]; rfl
          go_wp2
          go_ret
          exact ⟨ret_int HE.out.symm, _, rfl⟩
theorem ordR_tri (a b : List (List UInt8)) : ordR a b = -1 ∨ ordR a b = 0 ∨ ordR a b = 1 := by
  induction a generalizing b with
  | nil => right; left; rfl
  | cons x a ih =>
    cases b with
    | nil => right; left; rfl
    | cons y b =>
      rw [ordR]; split
      · left; rfl
      · split
        · right; right; rfl
        · exact ih b
theorem less_asymm {x y : List UInt8} (h : Op.bytesLess x y = true) : Op.bytesLess y x = false := by
  cases h2 : Op.bytesLess y x with
  | false => rfl
  | true => have := less_trans x y x h h2; rw [less_irrefl] at this; cases this
theorem ordR_neg (a b : List (List UInt8)) : ordR b a = - ordR a b := by
  induction a generalizing b with
  | nil => rw [ordR_nil_right]; rfl
  | cons x a ih =>
    cases b with
    | nil => rfl
    | cons y b =>
      simp only [ordR]
      cases h1 : Op.bytesLess x y with
      | true => simp [less_asymm h1]
      | false =>
        cases h2 : Op.bytesLess y x with
        | true => simp
        | false => simpa using ih b
theorem ordR_eq (a b : List (List UInt8)) (hl : a.length = b.length) (h : ordR a b = 0) : a = b := by
  induction a generalizing b with
  | nil => cases b with
    | nil => rfl
    | cons _ _ => simp at hl
  | cons x a ih =>
    cases b with
    | nil => simp at hl
    | cons y b =>
      rw [ordR] at h
      cases h1 : Op.bytesLess x y with
      | true => rw [h1] at h; simp at h
      | false =>
        cases h2 : Op.bytesLess y x with
        | true => rw [h1, h2] at h; simp at h
        | false =>
          rw [h1, h2] at h
          rw [less_eq h1 h2, ih b (by simpa using hl) (by simpa using h)]
theorem ordR_self (a : List (List UInt8)) : ordR a a = 0 := by
  have := ordR_neg a a; omega
theorem ordR_trans (a b c : List (List UInt8)) (h1 : ordR a b = -1) (h2 : ordR b c = -1) (hl : a.length = b.length) (hl2 : b.length = c.length) : ordR a c = -1 := by
  induction a generalizing b c with
  | nil => simp [ordR] at h1
  | cons x a ih =>
    cases b with
    | nil => simp at hl
    | cons y b =>
      cases c with
      | nil => simp at hl2
      | cons z c =>
        rw [ordR] at h1 h2 ⊢
        cases a1 : Op.bytesLess x y with
        | true =>
          cases b1 : Op.bytesLess y z with
          | true => rw [less_trans x y z a1 b1]; rfl
          | false =>
            cases b2 : Op.bytesLess z y with
            | true => rw [b1, b2] at h2; simp at h2
            | false => rw [← less_eq b1 b2, a1]; rfl
        | false =>
          cases a2 : Op.bytesLess y x with
          | true => rw [a1, a2] at h1; simp at h1
          | false =>
            have e := less_eq a1 a2
            subst e
            rw [a1] at h1
            simp only [Bool.false_eq_true, if_false] at h1
            cases b1 : Op.bytesLess x z with
            | true => rfl
            | false =>
              cases b2 : Op.bytesLess z x with
              | true => rw [b1, b2] at h2; simp at h2
              | false =>
                rw [b1, b2] at h2
                simp only [Bool.false_eq_true, if_false] at h2 ⊢
                exact ih b c h1 h2 (by simpa using hl) (by simpa using hl2)
/-- rows of one length that rise -/
def Rises (m : Nat) (L : List (List (List UInt8))) : Prop := (∀ r ∈ L, r.length = m) ∧ ∀ (i j : Nat) (a b : List (List UInt8)), i < j → L[i]? = some a → L[j]? = some b → ordR a b = -1
/-- how many stand ahead of a row -/
def ahead (L : List (List (List UInt8))) (r : List (List UInt8)) : Nat := (L.takeWhile fun a => decide (ordR a r = -1)).length
/-- a row put in its place, if it is not there -/
def ins (L : List (List (List UInt8))) (r : List (List UInt8)) : List (List (List UInt8)) := if r ∈ L then L else L.take (ahead L r) ++ r :: L.drop (ahead L r)
theorem ahead_of (L : List (List (List UInt8))) (r : List (List UInt8)) (k : Nat) (hk : k ≤ L.length) (h1 : ∀ i a, i < k → L[i]? = some a → ordR a r = -1) (h2 : ∀ a, L[k]? = some a → ordR a r ≠ -1) : ahead L r = k := by
  unfold ahead
  induction L generalizing k with
  | nil => simp at hk; subst hk; rfl
  | cons x L ih =>
    cases k with
    | zero =>
      have := h2 x (by simp)
      rw [List.takeWhile_cons]; simp [this]
    | succ k =>
      have := h1 0 x (by omega) (by simp)
      rw [List.takeWhile_cons]; simp only [this, decide_true, if_true, List.length_cons]
      rw [ih k (by simpa using hk) (fun i a hi ha => h1 (i + 1) a (by omega) (by simpa using ha)) (fun a ha => h2 a (by simpa using ha))]
end Go.Proofs.YtgllfcoafgphbaaGreatDoor

/-
  Rows in memory; the document's place, walked.
-/
namespace Go.Proofs.YtgllfcoafgphbaaGreatDoor
open Go.ChangeShapes Go.WideShapes Go.ChangeAt Go.RowKit
set_option linter.unusedVariables false
/-- a slice that holds values -/
def Vals (w : World) (v : Value) (vs : List Value) : Prop :=
  ∃ (a : Option Addr) (cap : Nat), v = .slice a vs.length cap ∧ ((vs = [] ∧ (a = none → cap = 0)) ∨ ∃ b off, a = some ⟨b, off, none⟩ ∧ ∀ (i : Nat) (x : Value), vs[i]? = some x → w.cell? ⟨b, off + i, none⟩ = some x)
/-- a slice of slices that reads as rows -/
def Rows2 (w : World) (v : Value) (vs : List Value) (L : List (List (List UInt8))) : Prop :=
  Vals w v vs ∧ vs.length = L.length ∧ ∀ (i : Nat) (x : Value) (r : List (List UInt8)), vs[i]? = some x → L[i]? = some r → Strs w x r
theorem val_at {vs : List Value} {k : Nat} (h : k < vs.length) : vs[k]? = some vs[k] := List.getElem?_eq_getElem h
theorem row_at {L : List (List (List UInt8))} {k : Nat} (h : k < L.length) : L[k]? = some L[k] := List.getElem?_eq_getElem h
theorem lt_of_some {α : Type} {l : List α} {k : Nat} {x : α} (h : l[k]? = some x) : k < l.length := by
  rcases Nat.lt_or_ge k l.length with h1 | h1
  · exact h1
  · rw [List.getElem?_eq_none h1] at h; cases h
theorem ahead_mem (m : Nat) (L : List (List (List UInt8))) (r : List (List UInt8)) (hL : Rises m L) (hr : r.length = m) (k : Nat) (h1 : ∀ i a, i < k → L[i]? = some a → ordR a r = -1) (h2 : ∀ i a, k ≤ i → L[i]? = some a → ordR a r ≠ -1) :
    (r ∈ L) ↔ ∃ a, L[k]? = some a ∧ ordR a r = 0 := by
  constructor
  · intro hm
    obtain ⟨j, hj⟩ := List.mem_iff_getElem?.1 hm
    have h0 := ordR_self r
    have hjk : k ≤ j := by
      rcases Nat.lt_or_ge j k with h | h
      · have := h1 j r h hj; omega
      · exact h
    rcases Nat.eq_or_lt_of_le hjk with e | e
    · subst e; exact ⟨r, hj, h0⟩
    · have hk : k < L.length := by have := lt_of_some hj; omega
      have := hL.2 k j _ r e (row_at hk) hj
      exact absurd this (h2 k _ (Nat.le_refl _) (row_at hk))
  · rintro ⟨a, ha, h0⟩
    have hma := List.mem_of_getElem? ha
    have := ordR_eq a r (by rw [hL.1 a hma, hr]) h0
    rw [← this]; exact hma
set_option maxRecDepth 100000 in
set_option maxHeartbeats 2000000 in
theorem place_any (v vr : Value) (vs : List Value) (L : List (List (List UInt8))) (r : List (List UInt8)) (m : Nat) (w : World) (h : Rows2 w v vs L) (hr : Strs w vr r) (hL : Rises m L) (hm : r.length = m) (hl : L.length ≤ 1099511627776) (hml : m ≤ 140737488355328) :
    Calls Tryz.prog 84 #[v, vr] w fun e w' => e = .returned (.tuple #[.int .i64 (ahead L r : Nat), .bool (decide (r ∈ L))]) ∧ ∃ n, w' = w.drewN n := by
  obtain ⟨⟨a, cap, rfl, hv⟩, hlen, hin⟩ := h
  have HIN : Hid (∀ (i : Nat) (x : Value) (r : List (List UInt8)), vs[i]? = some x → L[i]? = some r → Strs w x r) := hin
  have HRI : Hid (Rises m L) := hL
  have HR : Hid (Strs w vr r) := hr
  have HM : Hid (r.length = m) := hm
  have HLE : Hid (vs.length = L.length) := hlen
  clear hin hL hr hm
  rcases hv with ⟨rfl, _⟩ | ⟨b, off, rfl, hc⟩
  · have hL0 : L = [] := List.eq_nil_of_length_eq_zero (by simpa using hlen.symm)
    subst hL0
    clear hlen
    go_enter Tryz.func84, Tryz.ntmps84
    go_wp2
    refine wp_loop_rounds 1 ?_
    rw [rounds_succ]
    go_wp2
    go_ret2
    exact ⟨rfl, 0, rfl⟩
  · have HC : Hid (∀ (i : Nat) (x : Value), vs[i]? = some x → w.cell? ⟨b, off + i, none⟩ = some x) := hc
    clear hc
    rw [hlen]
    clear hlen
    go_enter Tryz.func84, Tryz.ntmps84
    go_wp2
    go_loopw [6, 7] (fun lov hiv wr => ∃ lo hi n : Nat, lo ≤ hi ∧ hi ≤ L.length ∧ lov = .int .i64 lo ∧ hiv = .int .i64 hi ∧ wr = w.drewN n ∧ Hid (∀ i a, i < lo → L[i]? = some a → ordR a r = -1) ∧ Hid (∀ i a, hi ≤ i → L[i]? = some a → ordR a r ≠ -1)) (fun lov hiv _ => (intOf hiv).toNat - (intOf lov).toNat)
    case atStart => exact ⟨0, L.length, 0, by omega, by omega, rfl, rfl, rfl, fun i a hi => absurd hi (by omega), fun i a hi ha => absurd (lt_of_some ha) (by omega)⟩
    case round =>
      obtain ⟨lo, hi, n, hlo, hhi, rfl, rfl, rfl, H1, H2⟩ := hrel
      by_cases hlt : lo < hi
      · have hmid : (lo + hi) / 2 < L.length := by omega
        have hvm : (lo + hi) / 2 < vs.length := by have := HLE.out; omega
        have c1 := HC.out ((lo + hi) / 2) vs[(lo + hi) / 2] (val_at hvm)
        have hst := HIN.out ((lo + hi) / 2) _ _ (val_at hvm) (row_at hmid)
        have hml2 : L[(lo + hi) / 2].length ≤ 140737488355328 := by rw [HRI.out.1 _ (List.getElem_mem hmid)]; exact hml
        obtain ⟨x, HX⟩ : ∃ x, Hid (x = vs[(lo + hi) / 2]) := ⟨vs[(lo + hi) / 2], rfl⟩
        rw [← HX.out] at c1 hst
        obtain ⟨q, HQ⟩ : ∃ q, Hid (q = L[(lo + hi) / 2]) := ⟨L[(lo + hi) / 2], rfl⟩
        rw [← HQ.out] at hst hml2
        have HST : Hid (Strs w x q) := hst
        obtain ⟨ax, capx, rfl, _⟩ := hst
        go_wp2_with fail
        refine (order_any _ vr q r _ (HST.out.drewN _) (HR.out.drewN _) hml2 (by rw [HM.out]; exact hml)).mono ?_
        rintro e w2 ⟨rfl, hd2⟩
        obtain ⟨n2, rfl⟩ := hd2
        by_cases ho : ordR q r = -1
        · have ho' : ordR q r < 0 := by omega
          have H1' : Hid (∀ i a, i < (lo + hi) / 2 + 1 → L[i]? = some a → ordR a r = -1) := by
            intro i a hi' ha
            rcases Nat.lt_or_ge i ((lo + hi) / 2) with h | h
            · have hal := HRI.out.1 a (List.mem_of_getElem? ha)
              have hql := HRI.out.1 _ (List.getElem_mem hmid)
              have hlt2 := HRI.out.2 i _ a _ h ha (row_at hmid)
              rw [HQ.out] at ho
              exact ordR_trans a _ r hlt2 ho (by rw [hal, hql]) (by rw [hql, HM.out])
            · obtain rfl : i = (lo + hi) / 2 := by omega
              rw [row_at hmid] at ha
              cases ha
              rw [← HQ.out]; exact ho
          clear ho
          generalize ordR q r = oq at *
          go_wp2
          go_roundw
          case rel => exact ⟨(lo + hi) / 2 + 1, hi, _, by omega, by omega, by go_num, rfl, rfl, H1', H2⟩
          case measure => simp [intOf]; omega
        · have ho' : 0 ≤ ordR q r := by have := ordR_tri q r; omega
          have H2' : Hid (∀ i a, (lo + hi) / 2 ≤ i → L[i]? = some a → ordR a r ≠ -1) := by
            intro i a hi' ha hneg
            rcases Nat.eq_or_lt_of_le hi' with h | h
            · subst h
              rw [row_at hmid] at ha
              cases ha
              exact ho (by rw [HQ.out]; exact hneg)
            · have hal := HRI.out.1 a (List.mem_of_getElem? ha)
              have hql := HRI.out.1 _ (List.getElem_mem hmid)
              have hlt2 := HRI.out.2 _ i _ a h (row_at hmid) ha
              exact ho (by rw [HQ.out]; exact ordR_trans _ a r hlt2 hneg (by rw [hal, hql]) (by rw [hal, HM.out]))
          clear ho
          generalize ordR q r = oq at *
          go_wp2
          go_roundw
          case rel => exact ⟨lo, (lo + hi) / 2, _, by omega, by omega, rfl, by go_num, rfl, H1, H2'⟩
          case measure => simp [intOf]; omega
      · obtain rfl : lo = hi := by omega
        have HAH : Hid (ahead L r = lo) := ahead_of L r lo (by omega) H1.out (fun a ha => H2.out lo a (Nat.le_refl _) ha)
        have hmem := ahead_mem m L r HRI.out HM.out lo H1.out H2.out
        by_cases hin : lo < L.length
        · have hvm : lo < vs.length := by have := HLE.out; omega
          have c1 := HC.out lo vs[lo] (val_at hvm)
          have hst := HIN.out lo _ _ (val_at hvm) (row_at hin)
          have hml2 : L[lo].length ≤ 140737488355328 := by rw [HRI.out.1 _ (List.getElem_mem hin)]; exact hml
          obtain ⟨x, HX⟩ : ∃ x, Hid (x = vs[lo]) := ⟨vs[lo], rfl⟩
          rw [← HX.out] at c1 hst
          obtain ⟨q, HQ⟩ : ∃ q, Hid (q = L[lo]) := ⟨L[lo], rfl⟩
          rw [← HQ.out] at hst hml2
          have HST : Hid (Strs w x q) := hst
          have HME : Hid (decide (r ∈ L) = (ordR q r == 0)) := by
            show _ = _
            apply Bool.eq_iff_iff.2
            rw [decide_eq_true_iff, hmem, beq_iff_eq]
            constructor
            · rintro ⟨a, ha, h0⟩; rw [row_at hin] at ha; cases ha; rw [HQ.out]; exact h0
            · intro h0; exact ⟨_, row_at hin, by rw [← HQ.out]; exact h0⟩
          clear hmem
          obtain ⟨ax, capx, rfl, _⟩ := hst
          go_wp2_with fail
          refine (order_any _ vr q r _ (HST.out.drewN _) (HR.out.drewN _) hml2 (by rw [HM.out]; exact hml)).mono ?_
          rintro e w2 ⟨rfl, hd2⟩
          obtain ⟨n2, rfl⟩ := hd2
          go_wp2
          go_ret2
          refine ⟨by rw [HAH.out, HME.out]; rfl, ?_⟩
          first | exact ⟨_, rfl⟩ | exact two_draws _ _ _
        · have HME : Hid (decide (r ∈ L) = false) := by
            show _ = _
            rw [decide_eq_false_iff_not, hmem]
            rintro ⟨a, ha, _⟩
            exact absurd (lt_of_some ha) hin
          clear hmem
          go_wp2
          go_ret2
          refine ⟨by rw [HAH.out, HME.out]; rfl, ?_⟩
          first | exact ⟨_, rfl⟩ | exact two_draws _ _ _
end Go.Proofs.YtgllfcoafgphbaaGreatDoor

/-
  The document's put, walked.
-/
namespace Go.Proofs.YtgllfcoafgphbaaGreatDoor
open Go.ChangeShapes Go.WideShapes Go.ChangeAt Go.RowKit
set_option linter.unusedVariables false
theorem own_set {w : World} {base : Nat} {e : TypeId} {g n cap : Nat} {xs : List Value} (h : w.ownsRow base e 1 (.slice (some ⟨g, 0, none⟩) n cap) n xs) (j : Nat) (u : Value) :
    (w.setCell ⟨g, j, none⟩ u).ownsRow base e 1 (.slice (some ⟨g, 0, none⟩) n cap) n (xs.set j u) := by
  refine ⟨by rw [List.length_set]; exact h.1, ?_⟩
  rcases h.2 with ⟨hv, _⟩ | ⟨g', cap', cur, hv, hb, hg, hn, hc, hs, ht⟩
  · cases hv
  · cases hv
    refine Or.inr ⟨g, cap, cur.setIfInBounds j u, rfl, hb, ?_, hn, hc, by simpa using hs, ?_⟩
    · simp only [World.setCell, Array.getElem?_modify, ↓reduceIte, hg, Option.map_some]; rfl
    · rw [Array.toList_setIfInBounds, List.take_set, ht]
theorem own_thaw {w : World} {base : Nat} {e : TypeId} {g n cap : Nat} {xs : List Value} (h : w.ownsRow base e 1 (.slice (some ⟨g, 0, none⟩) n cap) n xs) (j : Nat) : w.frozen? ⟨g, j, none⟩ = false := by
  rcases h.2 with ⟨hv, _⟩ | ⟨g', cap', cur, hv, hb, hg, hn, hc, hs, ht⟩
  · cases hv
  · cases hv
    unfold World.frozen?
    simp only [hg]
    simp
theorem own_vals {w : World} {base : Nat} {e : TypeId} {v : Value} {vs : List Value} {n : Nat} (h : w.ownsRow base e 1 v n vs) : Vals w v vs := by
  have h1 := h.1
  rw [Nat.mul_one] at h1
  subst h1
  rcases h.2 with ⟨rfl, h0⟩ | ⟨g, cap, cur, rfl, hb, hg, hn, hc, hs, ht⟩
  · exact ⟨none, 0, by rw [h0], Or.inl ⟨List.eq_nil_of_length_eq_zero h0, fun _ => rfl⟩⟩
  · refine ⟨some ⟨g, 0, none⟩, cap, rfl, Or.inr ⟨g, 0, rfl, fun i x hx => ?_⟩⟩
    have := h.cells (g := g) rfl i _ hx
    rw [show (⟨g, 0, none⟩ : Addr).add i = ⟨g, i, none⟩ from by unfold Addr.add; split <;> simp_all] at this
    rw [Nat.zero_add]; exact this
theorem infoRow : (Tryz.prog.info? 58).map (fun i => (i.zero, i.size, i.bytes)) = some (some (.slice none 0 0), 1, 24) := by kernel_rfl
theorem own_kept2 {w : World} {base : Nat} {e : TypeId} {size : Nat} {v : Value} {n : Nat} {xs : List Value} (h : w.ownsRow base e size v n xs) (m : Nat) : (w.drewN m).ownsRow base e size v n xs := by
  refine h.kept (row := none) ⟨rfl, rfl, rfl, Nat.le_refl _, fun _ _ _ => rfl⟩ ?_
  cases v.ownBlock with
  | none => exact Or.inl rfl
  | some g => exact Or.inr (by simp)
/-- one block alone may have been written, and blocks may be new -/
theorem grown_draws {w : World} {row : Option Nat} (n : Nat) : w.grownBy (w.drewN n) row := ⟨rfl, rfl, rfl, Nat.le_refl _, fun _ _ _ => rfl⟩
theorem grown_trans {a b c : World} {r s : Option Nat} (h : a.grownBy b r) (k : b.grownBy c s) (hs : ∀ g, s = some g → s = r ∨ a.heap.size ≤ g) : a.grownBy c r :=
  ⟨k.os.trans h.os, k.tape.trans h.tape, k.output.trans h.output, Nat.le_trans h.size k.size, fun i hi hne => by
    rw [k.block i (Nat.lt_of_lt_of_le hi h.size) (fun e => by
      rcases hs i e.symm with e2 | e2
      · exact hne (by rw [e, e2])
      · omega)]
    exact h.block i hi hne⟩
theorem grown_alloc {w : World} (o : Obj) (r : Option Nat) : w.grownBy (w.alloc o) r := ⟨rfl, rfl, rfl, by simp, fun k hk _ => Below.heap_alloc _ _ _ hk⟩
theorem grown_set {w : World} {g j : Nat} (u : Value) : w.grownBy (w.setCell ⟨g, j, none⟩ u) (some g) := ⟨rfl, rfl, rfl, by simp [World.setCell], fun k hk hne => Below.heap_setCell _ _ _ _ (fun e => hne (by rw [e]))⟩
theorem strs_grown {w w' : World} {v : Value} {l : List (List UInt8)} {row : Option Nat} (h : Strs w v l) (hg : w.grownBy w' row) (hne : ∀ b off cap n, v = .slice (some ⟨b, off, none⟩) n cap → some b ≠ row) : Strs w' v l := by
  obtain ⟨a, cap, rfl, hl⟩ := h
  refine ⟨a, cap, rfl, ?_⟩
  rcases hl with hl | ⟨b, off, rfl, hc⟩
  · exact Or.inl hl
  · exact Or.inr ⟨b, off, rfl, fun i x hx => hg.cell (hc i x hx) (hne b off cap _ rfl)⟩
theorem step_list (vs : List Value) (j : Nat) (c : Value) (hj : j < vs.length) : (vs.take (j + 1) ++ c :: vs.drop (j + 1)).set (j + 1) vs[j] = vs.take j ++ vs[j] :: vs.drop j := by
  have h1 : (vs.take (j + 1)).length = j + 1 := by simp; omega
  have h2 : vs.take (j + 1) = vs.take j ++ [vs[j]] := List.take_succ_eq_append_getElem hj
  have h3 : vs.drop j = vs[j] :: vs.drop (j + 1) := List.drop_eq_getElem_cons hj
  rw [List.set_append_right _ _ (by omega), h1, Nat.sub_self, List.set_cons_zero, h2, List.append_assoc]
  congr 1
  show vs[j] :: (vs[j] :: vs.drop (j + 1)) = vs[j] :: vs.drop j
  rw [← h3]
theorem at_gap (vs : List Value) (k : Nat) (c : Value) (hl : k ≤ vs.length) : (vs.take k ++ c :: vs.drop k)[k]? = some c := by
  have h1 : (vs.take k).length = k := by simp; omega
  rw [List.getElem?_append_right (by omega), h1, Nat.sub_self]; rfl
theorem below_gap (vs : List Value) (k j : Nat) (c : Value) (hj : j < k) (hl : k ≤ vs.length) : (vs.take k ++ c :: vs.drop k)[j]? = some (vs[j]'(by omega)) := by
  rw [List.getElem?_append_left (by simp; omega), List.getElem?_take_of_lt hj, List.getElem?_eq_getElem]
/-- a value put where its row belongs -/
def insV (vs : List Value) (L : List (List (List UInt8))) (r : List (List UInt8)) (x : Value) : List Value := if r ∈ L then vs else vs.take (ahead L r) ++ x :: vs.drop (ahead L r)
theorem ahead_le (L : List (List (List UInt8))) (r : List (List UInt8)) : ahead L r ≤ L.length := by
  unfold ahead; exact (List.takeWhile_sublist _).length_le
set_option maxRecDepth 100000 in
set_option maxHeartbeats 2000000 in
theorem put_grown (base : Nat) (v vr : Value) (vs : List Value) (L : List (List (List UInt8))) (r : List (List UInt8)) (m : Nat) (w : World) (hown : w.ownsRow base 58 1 v vs.length vs) (hbase : base ≤ w.heap.size)
    (hin : vs.length = L.length ∧ ∀ (i : Nat) (x : Value) (r : List (List UInt8)), vs[i]? = some x → L[i]? = some r → Strs w x r) (hr : Strs w vr r) (hL : Rises m L) (hm : r.length = m) (hl : L.length ≤ 1073741824) (hml : m ≤ 140737488355328) :
    Calls Tryz.prog 52 #[v, vr] w fun e w' => ∃ v', e = .returned v' ∧ w'.ownsRow base 58 1 v' (insV vs L r vr).length (insV vs L r vr) ∧ w.grownBy w' v.ownBlock := by
  obtain ⟨i0, hi, hz0, hz1, hz2⟩ := info_parts infoRow
  have HO : Hid (w.ownsRow base 58 1 v vs.length vs) := hown
  have HR2 : Hid (Rows2 w v vs L) := ⟨own_vals hown, hin.1, hin.2⟩
  have HR : Hid (Strs w vr r) := hr
  have HRI : Hid (Rises m L) := hL
  have hvl : vs.length ≤ 1073741824 := by rw [hin.1]; exact hl
  have hal : ahead L r ≤ vs.length := by rw [hin.1]; exact ahead_le L r
  have HM : Hid (r.length = m) := hm
  clear hown hin hr hL hm
  by_cases hmem : r ∈ L
  · have HV : Hid (insV vs L r vr = vs) := by show _ = _; rw [insV, if_pos hmem]
    have HD : Hid (decide (r ∈ L) = true) := by show _ = _; simp [hmem]
    clear hmem
    go_enter Tryz.func52, Tryz.ntmps52
    go_wp2_with fail
    refine (place_any v vr vs L r m _ HR2.out HR.out HRI.out HM.out (by omega) hml).mono ?_
    rintro e w1 ⟨rfl, hd1⟩
    obtain ⟨n1, rfl⟩ := hd1
    rw [HD.out]
    go_wp2
    go_ret
    exact ⟨_, rfl, by rw [HV.out]; exact own_kept2 HO.out n1, grown_draws n1⟩
  · have HV : Hid (insV vs L r vr = vs.take (ahead L r) ++ vr :: vs.drop (ahead L r)) := by show _ = _; rw [insV, if_neg hmem]
    have HD : Hid (decide (r ∈ L) = false) := by show _ = _; simp [hmem]
    clear hmem
    obtain ⟨k, HK⟩ : ∃ k, Hid (k = ahead L r) := ⟨ahead L r, rfl⟩
    rw [← HK.out] at hal HV
    have HRS : Hid (Strs w vr r) := HR.out
    obtain ⟨ar, capr, hvr, _⟩ := HR.out
    subst hvr
    go_enter Tryz.func52, Tryz.ntmps52
    go_wp2_with fail
    refine (place_any v _ vs L r m _ HR2.out HRS.out HRI.out HM.out (by omega) hml).mono ?_
    rintro e w1 ⟨rfl, hd1⟩
    obtain ⟨n1, rfl⟩ := hd1
    rw [HD.out, ← HK.out]
    have hown1 := own_kept2 HO.out n1
    go_wp2_with (at_builtin; refine wpList_append_own_at _ rfl _ _ 102 rfl base 58 i0 (.slice none 0 0) 1 24 Tryz.underlying102 hi hz0 hz1 hz2 rfl (by decide) _ _ _ rfl (hown1.alloc _) ⟨w.heap.size, 0, none⟩ 1 1 [.slice ar r.length capr] rfl rfl ?c1 ?c2 ?c3 ?c4 ?c5 ?_)
    case c1 =>
      intro j' u hj'
      match j', hj' with
      | 0, hj' => simp at hj'; subst hj'; exact World.cell?_alloc_at _ _ _ _ rfl
    case c2 => intro u hu; simp at hu; subst hu; rfl
    case c3 => unfold maxLen; omega
    case c4 => omega
    case c5 => simp; omega
    intro v2 w2 hown2 hg2 _ hat
    have HBW : Hid (w.grownBy w2 v.ownBlock) := ((grown_draws n1).trans (grown_alloc _ _)).trans hg2
    clear hg2 hown1
    rcases hown2.2 with ⟨_, h0⟩ | ⟨g, cap2, cur, hv2, hbg, _, _, _, _, _⟩
    · omega
    · subst hv2
      have HGG : Hid (∀ q, some g = some q → some g = v.ownBlock ∨ w.heap.size ≤ q) := by
        intro q hq
        cases hq
        rcases hat with e | e
        · exact Or.inl e
        · right
          have e2 : g = _ := Option.some.inj e
          first | omega | (simp at e2; omega)
      clear hat
      obtain ⟨x0, HX0⟩ : ∃ x0, Hid (x0 = Value.slice ar r.length capr) := ⟨_, rfl⟩
      have HO2 : Hid (w2.ownsRow base 58 1 (.slice (some ⟨g, 0, none⟩) (vs.length + 1) cap2) (vs.length + 1) (vs.take vs.length ++ Value.slice ar r.length capr :: vs.drop vs.length)) := by
        show _
        rw [List.take_length, List.drop_length]; exact hown2
      clear hown2
      go_wp2
      go_loopw [7] (fun kv wr => ∃ (j : Nat) (c : Value), k ≤ j ∧ j ≤ vs.length ∧ kv = .int .i64 j ∧ Hid (wr.ownsRow base 58 1 (.slice (some ⟨g, 0, none⟩) (vs.length + 1) cap2) (vs.length + 1) (vs.take j ++ c :: vs.drop j)) ∧ Hid (w.grownBy wr v.ownBlock)) (fun kv _ => (intOf kv).toNat)
      case atStart => exact ⟨vs.length, .slice ar r.length capr, hal, Nat.le_refl _, by go_num, HO2, HBW⟩
      case round =>
        obtain ⟨j, c, hj1, hj2, rfl, HOJ, HBJ⟩ := hrel
        have cj : wr.cell? ⟨g, j, none⟩ = some c := by
          have := HOJ.out.cells (g := g) rfl j _ (at_gap vs j c hj2)
          rw [show (⟨g, 0, none⟩ : Addr).add j = ⟨g, j, none⟩ from by unfold Addr.add; split <;> simp_all] at this
          exact this
        have fj := own_thaw HOJ.out j
        by_cases hlt : k < j
        · obtain ⟨i, rfl⟩ : ∃ i, j = i + 1 := ⟨j - 1, by omega⟩
          have hiv : i < vs.length := by omega
          have ci : wr.cell? ⟨g, i, none⟩ = some vs[i] := by
            have := HOJ.out.cells (g := g) rfl i _ (below_gap vs (i + 1) i c (by omega) hj2)
            rw [show (⟨g, 0, none⟩ : Addr).add i = ⟨g, i, none⟩ from by unfold Addr.add; split <;> simp_all] at this
            exact this
          have hil : i < L.length := by have := HR2.out.2.1; omega
          obtain ⟨ai, capi, hvi, _⟩ := HR2.out.2.2 i _ _ (val_at hiv) (row_at hil)
          have HO3 := own_set HOJ.out (i + 1) vs[i]
          rw [step_list vs i c hiv, hvi] at HO3
          have HO3H : Hid ((wr.setCell ⟨g, i + 1, none⟩ (.slice ai L[i].length capi)).ownsRow base 58 1 (.slice (some ⟨g, 0, none⟩) (vs.length + 1) cap2) (vs.length + 1) (vs.take i ++ (.slice ai L[i].length capi) :: vs.drop i)) := HO3
          rw [hvi] at ci
          clear HO3 hvi
          go_wp2
          go_roundw
          case rel => exact ⟨i, _, by omega, by omega, by go_num, HO3H, grown_trans HBJ.out (grown_set _) HGG.out⟩
          case measure => simp [intOf]
        · obtain rfl : j = k := by omega
          have HO3 := own_set HOJ.out j (.slice ar r.length capr)
          have hset : (vs.take j ++ c :: vs.drop j).set j (Value.slice ar r.length capr) = vs.take j ++ Value.slice ar r.length capr :: vs.drop j := by
            have h1 : (vs.take j).length = j := by simp; omega
            rw [List.set_append_right _ _ (by omega), h1, Nat.sub_self, List.set_cons_zero]
          rw [hset] at HO3
          have HO3H : Hid ((wr.setCell ⟨g, j, none⟩ (.slice ar r.length capr)).ownsRow base 58 1 (.slice (some ⟨g, 0, none⟩) (vs.length + 1) cap2) (vs.length + 1) (vs.take j ++ (.slice ar r.length capr) :: vs.drop j)) := HO3
          clear HO3 hset
          have HLN : Hid ((vs.take j ++ Value.slice ar r.length capr :: vs.drop j).length = vs.length + 1) := by show _ = _; simp; omega
          go_wp2
          go_ret
          exact ⟨_, rfl, by rw [HV.out, HLN.out]; exact HO3H.out, grown_trans HBJ.out (grown_set _) HGG.out⟩
theorem put_any (base : Nat) (v vr : Value) (vs : List Value) (L : List (List (List UInt8))) (r : List (List UInt8)) (m : Nat) (w : World) (hown : w.ownsRow base 58 1 v vs.length vs) (hbase : base ≤ w.heap.size)
    (hin : vs.length = L.length ∧ ∀ (i : Nat) (x : Value) (r : List (List UInt8)), vs[i]? = some x → L[i]? = some r → Strs w x r) (hr : Strs w vr r) (hL : Rises m L) (hm : r.length = m) (hl : L.length ≤ 1073741824) (hml : m ≤ 140737488355328) :
    Calls Tryz.prog 52 #[v, vr] w fun e w' => ∃ v', e = .returned v' ∧ w'.ownsRow base 58 1 v' (insV vs L r vr).length (insV vs L r vr) ∧ Below base w w' :=
  (put_grown base v vr vs L r m w hown hbase hin hr hL hm hl hml).mono fun e w' ⟨v', he, ho, hg⟩ => ⟨v', he, ho, (Below.refl base w).grown hg hbase (fun k hk => (hown.lt k hk).1)⟩
end Go.Proofs.YtgllfcoafgphbaaGreatDoor

/-
  C1 in plain lists: rows that rise, each but once.
-/
namespace Go.Proofs.YtgllfcoafgphbaaGreatDoor
theorem rises_nil (m : Nat) : Rises m [] := ⟨by simp, by simp⟩
theorem rises_tail {m : Nat} {a : List (List UInt8)} {L : List (List (List UInt8))} (h : Rises m (a :: L)) : Rises m L :=
  ⟨fun r hr => h.1 r (by simp [hr]), fun i j x y hij hx hy => h.2 (i + 1) (j + 1) x y (by omega) (by simpa using hx) (by simpa using hy)⟩
theorem rises_head {m : Nat} {a : List (List UInt8)} {L : List (List (List UInt8))} (h : Rises m (a :: L)) : ∀ x ∈ L, ordR a x = -1 := by
  intro x hx
  obtain ⟨j, hj⟩ := List.mem_iff_getElem?.1 hx
  exact h.2 0 (j + 1) a x (by omega) (by simp) (by simpa using hj)
theorem rises_cons {m : Nat} {a : List (List UInt8)} {L : List (List (List UInt8))} (h : Rises m L) (ha : a.length = m) (hx : ∀ x ∈ L, ordR a x = -1) : Rises m (a :: L) := by
  refine ⟨fun r hr => ?_, fun i j x y hij hx' hy => ?_⟩
  · rcases List.mem_cons.1 hr with rfl | hr
    · exact ha
    · exact h.1 r hr
  · cases j with
    | zero => omega
    | succ j =>
      have hy' : L[j]? = some y := by simpa using hy
      cases i with
      | zero => simp at hx'; subst hx'; exact hx y (List.mem_of_getElem? hy')
      | succ i => exact h.2 i j x y (by omega) (by simpa using hx') hy'
theorem ins_nil (r : List (List UInt8)) : ins [] r = [r] := by simp [ins, ahead]
theorem ahead_cons (a : List (List UInt8)) (L : List (List (List UInt8))) (r : List (List UInt8)) : ahead (a :: L) r = if ordR a r = -1 then ahead L r + 1 else 0 := by
  unfold ahead; rw [List.takeWhile_cons]
  by_cases h : ordR a r = -1 <;> simp [h]
theorem mem_ins (L : List (List (List UInt8))) (r x : List (List UInt8)) : x ∈ ins L r ↔ x = r ∨ x ∈ L := by
  unfold ins
  split
  · rename_i h
    constructor
    · exact Or.inr
    · rintro (rfl | h2)
      · exact h
      · exact h2
  · constructor
    · intro h
      rcases List.mem_append.1 h with h | h
      · exact Or.inr (List.mem_of_mem_take h)
      · rcases List.mem_cons.1 h with h | h
        · exact Or.inl h
        · exact Or.inr (List.mem_of_mem_drop h)
    · intro h
      rcases h with rfl | h
      · simp
      · rw [← List.take_append_drop (ahead L r) L] at h
        rcases List.mem_append.1 h with h | h
        · simp [h]
        · simp [h]
theorem ins_rises (m : Nat) (L : List (List (List UInt8))) (r : List (List UInt8)) (hL : Rises m L) (hr : r.length = m) : Rises m (ins L r) := by
  by_cases hm : r ∈ L
  · unfold ins; rw [if_pos hm]; exact hL
  · unfold ins; rw [if_neg hm]
    induction L with
    | nil => simpa [ahead] using rises_cons (rises_nil m) hr (by simp)
    | cons a L ih =>
      have ht := rises_tail hL
      have hh := rises_head hL
      have ham : a.length = m := hL.1 a (by simp)
      have hnm : r ∉ L := fun h => hm (by simp [h])
      have hne : a ≠ r := fun h => hm (by simp [h])
      rw [ahead_cons]
      by_cases ho : ordR a r = -1
      · rw [if_pos ho]
        simp only [List.take_succ_cons, List.drop_succ_cons, List.cons_append]
        refine rises_cons (ih ht hnm) ham (fun x hx => ?_)
        rcases List.mem_append.1 hx with hx | hx
        · exact hh x (List.mem_of_mem_take hx)
        · rcases List.mem_cons.1 hx with rfl | hx
          · exact ho
          · exact hh x (List.mem_of_mem_drop hx)
      · rw [if_neg ho]
        simp only [List.take_zero, List.drop_zero, List.nil_append]
        have hra : ordR r a = -1 := by
          have h3 := ordR_tri a r
          have h4 := ordR_neg a r
          have h5 : ordR a r ≠ 0 := fun h => hne (ordR_eq a r (by rw [ham, hr]) h)
          omega
        refine rises_cons hL hr (fun x hx => ?_)
        rcases List.mem_cons.1 hx with rfl | hx
        · exact hra
        · exact ordR_trans r a x hra (hh x hx) (by rw [hr, ham]) (by rw [ham, ht.1 x hx])
theorem rises_unique (m : Nat) (L M : List (List (List UInt8))) (hL : Rises m L) (hM : Rises m M) (h : ∀ x, x ∈ L ↔ x ∈ M) : L = M := by
  induction L generalizing M with
  | nil =>
    cases M with
    | nil => rfl
    | cons b M => exact absurd ((h b).2 (by simp)) (by simp)
  | cons a L ih =>
    cases M with
    | nil => exact absurd ((h a).1 (by simp)) (by simp)
    | cons b M =>
      have hab : a = b := by
        rcases List.mem_cons.1 ((h a).1 (by simp)) with e | e
        · exact e
        · rcases List.mem_cons.1 ((h b).2 (by simp)) with f | f
          · exact f.symm
          · have h1 := rises_head hM a e
            have h2 := rises_head hL b f
            have h3 := ordR_neg a b
            omega
      subst hab
      have hna : ∀ {K : List (List (List UInt8))}, Rises m (a :: K) → a ∉ K := fun hK hm => by
        have := rises_head hK a hm
        rw [ordR_self] at this; omega
      rw [ih M (rises_tail hL) (rises_tail hM) (fun x => ?_)]
      constructor
      · intro hx
        rcases List.mem_cons.1 ((h x).1 (by simp [hx])) with e | e
        · subst e; exact absurd hx (hna hL)
        · exact e
      · intro hx
        rcases List.mem_cons.1 ((h x).2 (by simp [hx])) with e | e
        · subst e; exact absurd hx (hna hM)
        · exact e
/-- all rows, rising, each but once -/
def sortU (rows : List (List (List UInt8))) : List (List (List UInt8)) := rows.foldl ins []
theorem foldl_ins (m : Nat) (rows L : List (List (List UInt8))) (hL : Rises m L) (hr : ∀ r ∈ rows, r.length = m) : Rises m (rows.foldl ins L) ∧ ∀ x, x ∈ rows.foldl ins L ↔ x ∈ L ∨ x ∈ rows := by
  induction rows generalizing L with
  | nil => exact ⟨hL, by simp⟩
  | cons r rows ih =>
    have h1 := ih (ins L r) (ins_rises m L r hL (hr r (by simp))) (fun x hx => hr x (by simp [hx]))
    refine ⟨h1.1, fun x => ?_⟩
    rw [List.foldl_cons, h1.2 x, mem_ins]
    simp only [List.mem_cons]
    constructor
    · rintro ((h | h) | h)
      · exact Or.inr (Or.inl h)
      · exact Or.inl h
      · exact Or.inr (Or.inr h)
    · rintro (h | h | h)
      · exact Or.inl (Or.inr h)
      · exact Or.inl (Or.inl h)
      · exact Or.inr h
theorem sortU_rises (m : Nat) (rows : List (List (List UInt8))) (hr : ∀ r ∈ rows, r.length = m) : Rises m (sortU rows) := (foldl_ins m rows [] (rises_nil m) hr).1
theorem mem_sortU (m : Nat) (rows : List (List (List UInt8))) (hr : ∀ r ∈ rows, r.length = m) (x : List (List UInt8)) : x ∈ sortU rows ↔ x ∈ rows := by
  have := (foldl_ins m rows [] (rises_nil m) hr).2 x
  unfold sortU; rw [this]; simp
/-- any rising list with the same rows is it: in whatever order rows come, and however often -/
theorem sortU_is (m : Nat) (rows L : List (List (List UInt8))) (hr : ∀ r ∈ rows, r.length = m) (hL : Rises m L) (h : ∀ x, x ∈ L ↔ x ∈ rows) : sortU rows = L :=
  rises_unique m _ _ (sortU_rises m rows hr) hL (fun x => by rw [mem_sortU m rows hr, h])
theorem sortU_congr (m : Nat) (A B : List (List (List UInt8))) (hA : ∀ r ∈ A, r.length = m) (hB : ∀ r ∈ B, r.length = m) (h : ∀ x, x ∈ A ↔ x ∈ B) : sortU A = sortU B :=
  sortU_is m A _ hA (sortU_rises m B hB) (fun x => by rw [mem_sortU m B hB, h])
theorem sortU_self (m : Nat) (L : List (List (List UInt8))) (h : Rises m L) : sortU L = L := sortU_is m L L h.1 h (fun _ => Iff.rfl)
/-- what is wrong with rows of which each should have m texts, from the i-th on: the error and its place -/
def bad (m : Nat) (i : Nat) : List (List (List UInt8)) → Option (Nat × Nat)
  | [] => none
  | r :: rest => if r.length = m then (if r.all (fun t => decide (t.length ≤ 200)) then bad m (i + 1) rest else some (1, i)) else some (9, i)
/-- C1: an error and its place, or the tidy rows -/
def tidy (name : List UInt8) (arity : Int) (rows : List (List (List UInt8))) : Nat × Nat × List (List (List UInt8)) :=
  if isName name = false then (8, 0, []) else if arity < 0 ∨ 8 < arity then (3, 0, []) else
  match bad arity.toNat 0 rows with
  | some (e, i) => (e, i, [])
  | none => if 2000 < (sortU rows).length then (7, 0, []) else (0, 0, sortU rows)
end Go.Proofs.YtgllfcoafgphbaaGreatDoor
