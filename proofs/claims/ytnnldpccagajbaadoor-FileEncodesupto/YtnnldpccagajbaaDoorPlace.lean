/-
  Rows in memory; the document's place, walked.
-/
import Derived.Test.YtnnldpccagajbaaDoorOrder
namespace Go.Proofs.YtnnldpccagajbaaDoor
open Go.ChangeShapes Go.WideShapes Go.ChangeAt Go.RowKit
set_option linter.unusedVariables false
/-- a slice that holds values -/
def Vals (w : World) (v : Value) (vs : List Value) : Prop :=
  ∃ (a : Option Addr) (cap : Nat), v = .slice a vs.length cap ∧ ((vs = [] ∧ (a = none → cap = 0)) ∨ ∃ b off, a = some ⟨b, off, none⟩ ∧ ∀ (i : Nat) (x : Value), vs[i]? = some x → w.cell? ⟨b, off + i, none⟩ = some x)
/-- a slice of slices that reads as rows -/
def Rows2 (w : World) (v : Value) (vs : List Value) (L : List (List (List UInt8))) : Prop :=
  Vals w v vs ∧ vs.length = L.length ∧ ∀ (i : Nat) (x : Value) (r : List (List UInt8)), vs[i]? = some x → L[i]? = some r → Strs w x r
theorem val_at {vs : List Value} {k : Nat} (h : k < vs.length) : vs[k]? = some vs[k] := List.getElem?_eq_getElem h
theorem row_at {L : List (List (List UInt8))} {k : Nat} (h : k < L.length) : L[k]? = some L[k] := List.getElem?_eq_getElem h
theorem lt_of_some {α : Type} {l : List α} {k : Nat} {x : α} (h : l[k]? = some x) : k < l.length := by
  rcases Nat.lt_or_ge k l.length with h1 | h1
  · exact h1
  · rw [List.getElem?_eq_none h1] at h; cases h
theorem ahead_mem (m : Nat) (L : List (List (List UInt8))) (r : List (List UInt8)) (hL : Rises m L) (hr : r.length = m) (k : Nat) (h1 : ∀ i a, i < k → L[i]? = some a → ordR a r = -1) (h2 : ∀ i a, k ≤ i → L[i]? = some a → ordR a r ≠ -1) :
    (r ∈ L) ↔ ∃ a, L[k]? = some a ∧ ordR a r = 0 := by
  constructor
  · intro hm
    obtain ⟨j, hj⟩ := List.mem_iff_getElem?.1 hm
    have h0 := ordR_self r
    have hjk : k ≤ j := by
      rcases Nat.lt_or_ge j k with h | h
      · have := h1 j r h hj; omega
      · exact h
    rcases Nat.eq_or_lt_of_le hjk with e | e
    · subst e; exact ⟨r, hj, h0⟩
    · have hk : k < L.length := by have := lt_of_some hj; omega
      have := hL.2 k j _ r e (row_at hk) hj
      exact absurd this (h2 k _ (Nat.le_refl _) (row_at hk))
  · rintro ⟨a, ha, h0⟩
    have hma := List.mem_of_getElem? ha
    have := ordR_eq a r (by rw [hL.1 a hma, hr]) h0
    rw [← this]; exact hma
set_option maxRecDepth 100000 in
set_option maxHeartbeats 2000000 in
theorem place_any (v vr : Value) (vs : List Value) (L : List (List (List UInt8))) (r : List (List UInt8)) (m : Nat) (w : World) (h : Rows2 w v vs L) (hr : Strs w vr r) (hL : Rises m L) (hm : r.length = m) (hl : L.length ≤ 1099511627776) (hml : m ≤ 140737488355328) :
    Calls Tryd.prog 54 #[v, vr] w fun e w' => e = .returned (.tuple #[.int .i64 (ahead L r : Nat), .bool (decide (r ∈ L))]) ∧ ∃ n, w' = w.drewN n := by
  obtain ⟨⟨a, cap, rfl, hv⟩, hlen, hin⟩ := h
  have HIN : Hid (∀ (i : Nat) (x : Value) (r : List (List UInt8)), vs[i]? = some x → L[i]? = some r → Strs w x r) := hin
  have HRI : Hid (Rises m L) := hL
  have HR : Hid (Strs w vr r) := hr
  have HM : Hid (r.length = m) := hm
  have HLE : Hid (vs.length = L.length) := hlen
  clear hin hL hr hm
  rcases hv with ⟨rfl, _⟩ | ⟨b, off, rfl, hc⟩
  · have hL0 : L = [] := List.eq_nil_of_length_eq_zero (by simpa using hlen.symm)
    subst hL0
    clear hlen
    go_enter Tryd.func54, Tryd.ntmps54
    go_wp2
    refine wp_loop_rounds 1 ?_
    rw [rounds_succ]
    go_wp2
    go_ret2
    exact ⟨rfl, 0, rfl⟩
  · have HC : Hid (∀ (i : Nat) (x : Value), vs[i]? = some x → w.cell? ⟨b, off + i, none⟩ = some x) := hc
    clear hc
    rw [hlen]
    clear hlen
    go_enter Tryd.func54, Tryd.ntmps54
    go_wp2
    go_loopw [6, 7] (fun lov hiv wr => ∃ lo hi n : Nat, lo ≤ hi ∧ hi ≤ L.length ∧ lov = .int .i64 lo ∧ hiv = .int .i64 hi ∧ wr = w.drewN n ∧ Hid (∀ i a, i < lo → L[i]? = some a → ordR a r = -1) ∧ Hid (∀ i a, hi ≤ i → L[i]? = some a → ordR a r ≠ -1)) (fun lov hiv _ => (intOf hiv).toNat - (intOf lov).toNat)
    case atStart => exact ⟨0, L.length, 0, by omega, by omega, rfl, rfl, rfl, fun i a hi => absurd hi (by omega), fun i a hi ha => absurd (lt_of_some ha) (by omega)⟩
    case round =>
      obtain ⟨lo, hi, n, hlo, hhi, rfl, rfl, rfl, H1, H2⟩ := hrel
      by_cases hlt : lo < hi
      · have hmid : (lo + hi) / 2 < L.length := by omega
        have hvm : (lo + hi) / 2 < vs.length := by have := HLE.out; omega
        have c1 := HC.out ((lo + hi) / 2) vs[(lo + hi) / 2] (val_at hvm)
        have hst := HIN.out ((lo + hi) / 2) _ _ (val_at hvm) (row_at hmid)
        have hml2 : L[(lo + hi) / 2].length ≤ 140737488355328 := by rw [HRI.out.1 _ (List.getElem_mem hmid)]; exact hml
        obtain ⟨x, HX⟩ : ∃ x, Hid (x = vs[(lo + hi) / 2]) := ⟨vs[(lo + hi) / 2], rfl⟩
        rw [← HX.out] at c1 hst
        obtain ⟨q, HQ⟩ : ∃ q, Hid (q = L[(lo + hi) / 2]) := ⟨L[(lo + hi) / 2], rfl⟩
        rw [← HQ.out] at hst hml2
        have HST : Hid (Strs w x q) := hst
        obtain ⟨ax, capx, rfl, _⟩ := hst
        go_wp2_with fail
        refine (order_any _ vr q r _ (HST.out.drewN _) (HR.out.drewN _) hml2 (by rw [HM.out]; exact hml)).mono ?_
        rintro e w2 ⟨rfl, hd2⟩
        obtain ⟨n2, rfl⟩ := hd2
        by_cases ho : ordR q r = -1
        · have ho' : ordR q r < 0 := by omega
          have H1' : Hid (∀ i a, i < (lo + hi) / 2 + 1 → L[i]? = some a → ordR a r = -1) := by
            intro i a hi' ha
            rcases Nat.lt_or_ge i ((lo + hi) / 2) with h | h
            · have hal := HRI.out.1 a (List.mem_of_getElem? ha)
              have hql := HRI.out.1 _ (List.getElem_mem hmid)
              have hlt2 := HRI.out.2 i _ a _ h ha (row_at hmid)
              rw [HQ.out] at ho
              exact ordR_trans a _ r hlt2 ho (by rw [hal, hql]) (by rw [hql, HM.out])
            · obtain rfl : i = (lo + hi) / 2 := by omega
              rw [row_at hmid] at ha
              cases ha
              rw [← HQ.out]; exact ho
          clear ho
          generalize ordR q r = oq at *
          go_wp2
          go_roundw
          case rel => exact ⟨(lo + hi) / 2 + 1, hi, _, by omega, by omega, by go_num, rfl, rfl, H1', H2⟩
          case measure => simp [intOf]; omega
        · have ho' : 0 ≤ ordR q r := by have := ordR_tri q r; omega
          have H2' : Hid (∀ i a, (lo + hi) / 2 ≤ i → L[i]? = some a → ordR a r ≠ -1) := by
            intro i a hi' ha hneg
            rcases Nat.eq_or_lt_of_le hi' with h | h
            · subst h
              rw [row_at hmid] at ha
              cases ha
              exact ho (by rw [HQ.out]; exact hneg)
            · have hal := HRI.out.1 a (List.mem_of_getElem? ha)
              have hql := HRI.out.1 _ (List.getElem_mem hmid)
              have hlt2 := HRI.out.2 _ i _ a h (row_at hmid) ha
              exact ho (by rw [HQ.out]; exact ordR_trans _ a r hlt2 hneg (by rw [hal, hql]) (by rw [hal, HM.out]))
          clear ho
          generalize ordR q r = oq at *
          go_wp2
          go_roundw
          case rel => exact ⟨lo, (lo + hi) / 2, _, by omega, by omega, rfl, by go_num, rfl, H1, H2'⟩
          case measure => simp [intOf]; omega
      · obtain rfl : lo = hi := by omega
        have HAH : Hid (ahead L r = lo) := ahead_of L r lo (by omega) H1.out (fun a ha => H2.out lo a (Nat.le_refl _) ha)
        have hmem := ahead_mem m L r HRI.out HM.out lo H1.out H2.out
        by_cases hin : lo < L.length
        · have hvm : lo < vs.length := by have := HLE.out; omega
          have c1 := HC.out lo vs[lo] (val_at hvm)
          have hst := HIN.out lo _ _ (val_at hvm) (row_at hin)
          have hml2 : L[lo].length ≤ 140737488355328 := by rw [HRI.out.1 _ (List.getElem_mem hin)]; exact hml
          obtain ⟨x, HX⟩ : ∃ x, Hid (x = vs[lo]) := ⟨vs[lo], rfl⟩
          rw [← HX.out] at c1 hst
          obtain ⟨q, HQ⟩ : ∃ q, Hid (q = L[lo]) := ⟨L[lo], rfl⟩
          rw [← HQ.out] at hst hml2
          have HST : Hid (Strs w x q) := hst
          have HME : Hid (decide (r ∈ L) = (ordR q r == 0)) := by
            show _ = _
            apply Bool.eq_iff_iff.2
            rw [decide_eq_true_iff, hmem, beq_iff_eq]
            constructor
            · rintro ⟨a, ha, h0⟩; rw [row_at hin] at ha; cases ha; rw [HQ.out]; exact h0
            · intro h0; exact ⟨_, row_at hin, by rw [← HQ.out]; exact h0⟩
          clear hmem
          obtain ⟨ax, capx, rfl, _⟩ := hst
          go_wp2_with fail
          refine (order_any _ vr q r _ (HST.out.drewN _) (HR.out.drewN _) hml2 (by rw [HM.out]; exact hml)).mono ?_
          rintro e w2 ⟨rfl, hd2⟩
          obtain ⟨n2, rfl⟩ := hd2
          go_wp2
          go_ret2
          refine ⟨by rw [HAH.out, HME.out]; rfl, ?_⟩
          first | exact ⟨_, rfl⟩ | exact two_draws _ _ _
        · have HME : Hid (decide (r ∈ L) = false) := by
            show _ = _
            rw [decide_eq_false_iff_not, hmem]
            rintro ⟨a, ha, _⟩
            exact absurd (lt_of_some ha) hin
          clear hmem
          go_wp2
          go_ret2
          refine ⟨by rw [HAH.out, HME.out]; rfl, ?_⟩
          first | exact ⟨_, rfl⟩ | exact two_draws _ _ _
end Go.Proofs.YtnnldpccagajbaaDoor
