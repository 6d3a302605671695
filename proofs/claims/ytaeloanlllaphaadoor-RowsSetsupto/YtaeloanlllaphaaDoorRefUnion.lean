/-
  The document's Union, in and Minus, walked.
-/
import Derived.Test.YtaeloanlllaphaaDoorRefAdd
namespace Go.Proofs.YtaeloanlllaphaaDoor
open Go.ChangeShapes Go.WideShapes Go.ChangeAt Go.RowKit
set_option linter.unusedVariables false
/-- values that read as rows, one by one -/
def Fits (w : World) (us : List Value) (K : List (List (List UInt8))) : Prop := us.length = K.length ∧ ∀ (i : Nat) (x : Value) (r : List (List UInt8)), us[i]? = some x → K[i]? = some r → Strs w x r
theorem Fits.nil (w : World) : Fits w [] [] := ⟨rfl, fun i x r hx => by simp at hx⟩
theorem Fits.kept {w w' : World} {us : List Value} {K : List (List (List UInt8))} (h : Fits w us K) (hb : Below w.heap.size w w') : Fits w' us K := ⟨h.1, fun i x r hx hr => (h.2 i x r hx hr).kept hb⟩
/-- a list that is gathered: rising rows of w0, in a row of its own -/
def Acc (w0 w : World) (v : Value) (K : List (List (List UInt8))) : Prop :=
  ∃ us, w.ownsRow w0.heap.size 33 1 v us.length us ∧ Fits w0 us K ∧ RisesL K ∧ (∀ q ∈ K, q.length ≤ 140737488355328) ∧ Below w0.heap.size w0 w
theorem Acc.start {w0 w : World} (hb : Below w0.heap.size w0 w) : Acc w0 w (.slice none 0 0) [] := ⟨[], World.ownsRow_nil _ _ _ _, Fits.nil w0, List.Pairwise.nil, fun q hq => by simp at hq, hb⟩
theorem Acc.drewN {w0 w : World} {v : Value} {K : List (List (List UInt8))} (h : Acc w0 w v K) (n : Nat) : Acc w0 (w.drewN n) v K := by
  obtain ⟨us, h1, h2, h3, h4, h5⟩ := h
  exact ⟨us, own_kept2 h1 n, h2, h3, h4, below_drewN h5 n⟩
theorem Acc.shape {w0 w : World} {v : Value} {K : List (List (List UInt8))} (h : Acc w0 w v K) : ∃ a c, v = .slice a K.length c := by
  obtain ⟨us, h1, h2, -⟩ := h
  rcases h1.2 with ⟨rfl, h0⟩ | ⟨g, cap, cur, rfl, _⟩
  · exact ⟨none, 0, by rw [← h2.1, h0]⟩
  · exact ⟨_, cap, by rw [h2.1]⟩
theorem add_acc (w0 w : World) (v vr : Value) (K : List (List (List UInt8))) (r : List (List UInt8)) (h : Acc w0 w v K) (hr : Strs w0 vr r) (hl : K.length ≤ 1099511627776) (hrl : r.length ≤ 140737488355328) :
    Calls Tryd.prog 26 #[v, vr] w fun e w' => ∃ v', e = .returned v' ∧ Acc w0 w' v' (insL K r) := by
  obtain ⟨us, h1, h2, h3, h4, h5⟩ := h
  have hf := h2.kept h5
  refine (add_grown w0.heap.size v vr us K r w h1 h5.size hf (hr.kept h5) h3 hl h4 hrl).mono ?_
  rintro e w' ⟨v', rfl, ho, hg⟩
  refine ⟨v', rfl, insVL us K r vr, ho, insVL_fits h2 hr, insL_rises K r h3, fun q hq => ?_, h5.grown hg h5.size (fun k hk => (h1.lt k hk).1)⟩
  rcases (mem_insL K r q).1 hq with rfl | hq
  · exact hrl
  · exact h4 q hq
theorem rows_cell {w : World} {v : Value} {vs : List Value} {L : List (List (List UInt8))} (h : Rows2 w v vs L) : ∃ a cap, v = .slice a L.length cap ∧ ∀ k (hk : k < L.length), ∃ b off x, a = some ⟨b, off, none⟩ ∧ w.cell? ⟨b, off + k, none⟩ = some x ∧ b < w.heap.size ∧ Strs w x L[k] := by
  obtain ⟨⟨a, cap, rfl, hc⟩, hl, hi⟩ := h
  refine ⟨a, cap, by rw [hl], fun k hk => ?_⟩
  have hkv : k < vs.length := by omega
  rcases hc with ⟨rfl, _⟩ | ⟨b, off, rfl, hc⟩
  · simp at hkv
  · exact ⟨b, off, vs[k], rfl, hc k _ (val_at hkv), World.block_lt_of_cell? w ⟨b, off + k, none⟩ (hc k _ (val_at hkv)), hi k _ _ (val_at hkv) (row_at hk)⟩
theorem foldl_next (L : List (List (List UInt8))) (k : Nat) (h : k < L.length) (K : List (List (List UInt8))) : (L.take (k + 1)).foldl insL K = insL ((L.take k).foldl insL K) L[k] := by
  rw [List.take_succ_eq_append_getElem h, List.foldl_append]; rfl
set_option maxRecDepth 100000 in
set_option maxHeartbeats 1000000 in
theorem runion_any (va vb : Value) (xs ys : List Value) (la lb : List (List (List UInt8))) (w : World) (ha : Rows2 w va xs la) (hb : Rows2 w vb ys lb) (hla : la.length ≤ 536870912) (hlb : lb.length ≤ 536870912)
    (hra : ∀ r ∈ la, r.length ≤ 140737488355328) (hrb : ∀ r ∈ lb, r.length ≤ 140737488355328) :
    Calls Tryd.prog 11 #[va, vb] w fun e w' => ∃ v, e = .returned v ∧ Acc w w' v (sortL (la ++ lb)) := by
  obtain ⟨aa, ca, rfl, hca⟩ := rows_cell ha
  obtain ⟨ab, cb, rfl, hcb⟩ := rows_cell hb
  have HCA : Hid (∀ k (hk : k < la.length), ∃ b off x, aa = some ⟨b, off, none⟩ ∧ w.cell? ⟨b, off + k, none⟩ = some x ∧ b < w.heap.size ∧ Strs w x la[k]) := hca
  have HCB : Hid (∀ k (hk : k < lb.length), ∃ b off x, ab = some ⟨b, off, none⟩ ∧ w.cell? ⟨b, off + k, none⟩ = some x ∧ b < w.heap.size ∧ Strs w x lb[k]) := hcb
  have HRA : Hid (∀ r ∈ la, r.length ≤ 140737488355328) := hra
  have HRB : Hid (∀ r ∈ lb, r.length ≤ 140737488355328) := hrb
  clear ha hb hca hcb hra hrb
  go_enter Tryd.func11, Tryd.ntmps11
  go_wp2
  go_loopw [5, 6] (fun lv iv wr => ∃ (k : Nat) (K : List (List (List UInt8))), k ≤ la.length ∧ iv = .int .i64 k ∧ Hid (Acc w wr lv K) ∧ Hid (K = (la.take k).foldl insL []) ∧ K.length ≤ k) (fun _ iv _ => la.length - (intOf iv).toNat)
  case atStart => exact ⟨0, [], by omega, rfl, Acc.start (Below.refl _ _), rfl, Nat.le_refl _⟩
  case round =>
    obtain ⟨k, K, hk, rfl, HA, HK, hKl⟩ := hrel
    by_cases hlt : k < la.length
    · obtain ⟨b, off, x, rfl, c0, hbw, hst⟩ := HCA.out k hlt
      obtain ⟨us, _, _, _, _, hbl⟩ := HA.out
      have cx := (hbl.cell (p := ⟨b, off + k, none⟩) hbw).trans c0
      have HST : Hid (Strs w x la[k]) := hst
      have HRL : Hid (la[k].length ≤ 140737488355328) := HRA.out _ (List.getElem_mem hlt)
      have HK2 : Hid (insL K la[k] = (la.take (k + 1)).foldl insL []) := by show _ = _; rw [foldl_next la k hlt, HK.out]
      have hKl2 := insL_length K la[k]
      clear c0 hbl hst
      obtain ⟨la1, lc1, hlv⟩ := HA.out.shape
      subst hlv
      go_wp2_with fail
      refine (add_acc w _ _ x K la[k] HA.out HST.out (by omega) HRL.out).mono ?_
      rintro e w1 ⟨v1, rfl, hacc⟩
      have HA1 : Hid (Acc w w1 v1 (insL K la[k])) := hacc
      clear hacc
      go_wp2
      go_roundw
      case rel => exact ⟨k + 1, _, by omega, by go_num, HA1, HK2, by omega⟩
      case measure => simp [intOf]; omega
    · have HE : Hid (K = la.foldl insL []) := by show _ = _; rw [HK.out, List.take_of_length_le (by omega)]
      obtain ⟨la1, lc1, hlv⟩ := HA.out.shape
      subst hlv
      have hKa : K.length ≤ la.length := by omega
      clear HK hKl
      obtain ⟨wm, rfl⟩ : ∃ wm, wm = wr := ⟨_, rfl⟩
      go_wp2
      go_loopw [5, 7] (fun lv iv wr => ∃ (k : Nat) (M : List (List (List UInt8))), k ≤ lb.length ∧ iv = .int .i64 k ∧ Hid (Acc w wr lv M) ∧ Hid (M = (lb.take k).foldl insL K) ∧ M.length ≤ la.length + k) (fun _ iv _ => lb.length - (intOf iv).toNat)
      case atStart => exact ⟨0, K, by omega, rfl, HA, rfl, by omega⟩
      case round =>
        obtain ⟨k2, M, hk2, rfl, HA2, HM, hMl⟩ := hrel
        obtain ⟨la2, lc2, hlv⟩ := HA2.out.shape
        subst hlv
        by_cases hlt2 : k2 < lb.length
        · obtain ⟨b, off, x, rfl, c0, hbw, hst⟩ := HCB.out k2 hlt2
          obtain ⟨us, _, _, _, _, hbl⟩ := HA2.out
          have cx := (hbl.cell (p := ⟨b, off + k2, none⟩) hbw).trans c0
          have HST : Hid (Strs w x lb[k2]) := hst
          have HRL : Hid (lb[k2].length ≤ 140737488355328) := HRB.out _ (List.getElem_mem hlt2)
          have HK2 : Hid (insL M lb[k2] = (lb.take (k2 + 1)).foldl insL K) := by show _ = _; rw [foldl_next lb k2 hlt2, HM.out]
          have hMl2 := insL_length M lb[k2]
          clear c0 hbl hst
          go_wp2_with fail
          refine (add_acc w _ _ x M lb[k2] HA2.out HST.out (by omega) HRL.out).mono ?_
          rintro e w1 ⟨v1, rfl, hacc⟩
          have HA1 : Hid (Acc w w1 v1 (insL M lb[k2])) := hacc
          clear hacc
          go_wp2
          go_roundw
          case rel => exact ⟨k2 + 1, _, by omega, by go_num, HA1, HK2, by omega⟩
          case measure => simp [intOf]; omega
        · have HE2 : Hid (M = sortL (la ++ lb)) := by
            show _ = _
            rw [HM.out, List.take_of_length_le (by omega), HE.out, sortL, List.foldl_append]
          go_wp2
          go_ret
          exact ⟨_, rfl, by rw [← HE2.out]; exact HA2.out⟩
set_option maxRecDepth 100000 in
set_option maxHeartbeats 1000000 in
theorem rin_any (vl vr : Value) (xs : List Value) (L : List (List (List UInt8))) (r : List (List UInt8)) (w : World) (h : Rows2 w vl xs L) (hr : Strs w vr r) (hl : L.length ≤ 1099511627776) (hml : ∀ q ∈ L, q.length ≤ 140737488355328) (hrl : r.length ≤ 140737488355328) :
    Calls Tryd.prog 27 #[vl, vr] w fun e w' => e = .returned (.bool (decide (r ∈ L))) ∧ ∃ n, w' = w.drewN n := by
  obtain ⟨aa, ca, rfl, hca⟩ := rows_cell h
  have HCA : Hid (∀ k (hk : k < L.length), ∃ b off x, aa = some ⟨b, off, none⟩ ∧ w.cell? ⟨b, off + k, none⟩ = some x ∧ b < w.heap.size ∧ Strs w x L[k]) := hca
  have HR : Hid (Strs w vr r) := hr
  have HML : Hid (∀ q ∈ L, q.length ≤ 140737488355328) := hml
  obtain ⟨ar, capr, hvr, -⟩ := hr
  subst hvr
  clear h hca hml
  go_enter Tryd.func27, Tryd.ntmps27
  go_wp2
  go_loopw [5] (fun iv wr => ∃ k n : Nat, k ≤ L.length ∧ iv = .int .i64 k ∧ wr = w.drewN n ∧ Hid (r ∉ L.take k)) (fun iv _ => L.length - (intOf iv).toNat)
  case atStart => exact ⟨0, 0, by omega, rfl, rfl, by simp [Hid]⟩
  case round =>
    obtain ⟨k, n, hk, rfl, rfl, HN⟩ := hrel
    by_cases hlt : k < L.length
    · obtain ⟨b, off, x, rfl, cx, hbw, hst⟩ := HCA.out k hlt
      have HCL : Hid (∀ n, Calls Tryd.prog 42 #[x, .slice ar r.length capr] (w.drewN n) fun e w' => e = .returned (.int .i64 (cmpL L[k] r)) ∧ ∃ m, w' = w.drewN m) := fun n => (rahead_any _ _ L[k] r _ (hst.drewN n) (HR.out.drewN n) (HML.out _ (List.getElem_mem hlt)) hrl).mono fun e w' ⟨he, m, hm⟩ => ⟨he, n + m, by rw [hm, World.drewN_drewN]⟩
      clear hst
      by_cases he : L[k] = r
      · have HE : Hid (decide (r ∈ L) = true) := by show _ = _; rw [decide_eq_true_iff, ← he]; exact List.getElem_mem hlt
        rw [he, cmpL_self] at HCL
        clear he
        go_wp2_with fail
        refine (HCL.out _).mono ?_
        rintro e w2 ⟨rfl, hd2⟩
        obtain ⟨n2, rfl⟩ := hd2
        go_wp2
        go_ret
        exact ⟨ret_bool HE.out.symm, _, rfl⟩
      · have HN2 : Hid (r ∉ L.take (k + 1)) := by
          show ¬ _
          rw [List.take_succ_eq_append_getElem hlt, List.mem_append]
          rintro (h | h)
          · exact HN.out h
          · simp at h; exact he h.symm
        have hne : (cmpL L[k] r == 0) = false := by
          rw [beq_eq_false_iff_ne]; exact fun h => he (cmpL_eq _ _ h)
        have hne2 : ¬ (cmpL L[k] r = 0) := fun h => he (cmpL_eq _ _ h)
        generalize cmpL L[k] r = o at *
        clear he
        go_wp2_with fail
        refine (HCL.out _).mono ?_
        rintro e w2 ⟨rfl, hd2⟩
        obtain ⟨n2, rfl⟩ := hd2
        go_wp2
        go_roundw
        case rel => exact ⟨k + 1, n2, by omega, by go_num, rfl, HN2⟩
        case measure => simp [intOf]; omega
    · have HE : Hid (decide (r ∈ L) = false) := by
        show _ = _
        have := HN.out
        rw [List.take_of_length_le (by omega)] at this
        simpa using this
      go_wp2
      go_ret
      exact ⟨ret_bool HE.out.symm, _, rfl⟩
set_option maxRecDepth 100000 in
set_option maxHeartbeats 1000000 in
theorem rminus_any (va vb : Value) (xs ys : List Value) (la lb : List (List (List UInt8))) (w : World) (ha : Rows2 w va xs la) (hb : Rows2 w vb ys lb) (hla : la.length ≤ 536870912) (hlb : lb.length ≤ 536870912)
    (hra : ∀ r ∈ la, r.length ≤ 140737488355328) (hrb : ∀ r ∈ lb, r.length ≤ 140737488355328) :
    Calls Tryd.prog 12 #[va, vb] w fun e w' => ∃ v, e = .returned v ∧ Acc w w' v (sortL (la.filter fun r => !decide (r ∈ lb))) := by
  have HB : Hid (Rows2 w vb ys lb) := hb
  obtain ⟨aa, ca, rfl, hca⟩ := rows_cell ha
  obtain ⟨ab, cb, rfl, -⟩ := rows_cell hb
  have HCA : Hid (∀ k (hk : k < la.length), ∃ b off x, aa = some ⟨b, off, none⟩ ∧ w.cell? ⟨b, off + k, none⟩ = some x ∧ b < w.heap.size ∧ Strs w x la[k]) := hca
  have HRA : Hid (∀ r ∈ la, r.length ≤ 140737488355328) := hra
  have HRB : Hid (∀ r ∈ lb, r.length ≤ 140737488355328) := hrb
  clear ha hb hca hra hrb
  go_enter Tryd.func12, Tryd.ntmps12
  go_wp2
  go_loopw [5, 6] (fun lv iv wr => ∃ (k : Nat) (K : List (List (List UInt8))), k ≤ la.length ∧ iv = .int .i64 k ∧ Hid (Acc w wr lv K) ∧ Hid (K = ((la.take k).filter fun r => !decide (r ∈ lb)).foldl insL []) ∧ K.length ≤ k) (fun _ iv _ => la.length - (intOf iv).toNat)
  case atStart => exact ⟨0, [], by omega, rfl, Acc.start (Below.refl _ _), rfl, Nat.le_refl _⟩
  case round =>
    obtain ⟨k, K, hk, rfl, HA, HK, hKl⟩ := hrel
    obtain ⟨la1, lc1, hlv⟩ := HA.out.shape
    subst hlv
    by_cases hlt : k < la.length
    · obtain ⟨b, off, x, rfl, c0, hbw, hst⟩ := HCA.out k hlt
      obtain ⟨us, _, _, _, _, hbl⟩ := HA.out
      have cx := (hbl.cell (p := ⟨b, off + k, none⟩) hbw).trans c0
      have HST : Hid (Strs w x la[k]) := hst
      have HRL : Hid (la[k].length ≤ 140737488355328) := HRA.out _ (List.getElem_mem hlt)
      have HIN : Hid (Calls Tryd.prog 27 #[.slice ab lb.length cb, x] wr fun e w' => e = .returned (.bool (decide (la[k] ∈ lb))) ∧ ∃ n, w' = wr.drewN n) := rin_any _ _ ys lb la[k] wr (HB.out.kept hbl) (hst.kept hbl) (by omega) HRB.out HRL.out
      have hKl2 := insL_length K la[k]
      clear c0 hbl hst
      by_cases hm : la[k] ∈ lb
      · have HK2 : Hid (K = ((la.take (k + 1)).filter fun r => !decide (r ∈ lb)).foldl insL []) := by
          show _ = _; rw [List.take_succ_eq_append_getElem hlt, List.filter_append, HK.out]; simp [hm]
        rw [decide_eq_true hm] at HIN
        clear hm
        go_wp2_with fail
        refine HIN.out.mono ?_
        rintro e w1 ⟨rfl, hd⟩
        obtain ⟨n1, rfl⟩ := hd
        go_wp2
        go_roundw
        case rel => exact ⟨k + 1, K, by omega, by go_num, HA.out.drewN n1, HK2, by omega⟩
        case measure => simp [intOf]; omega
      · have HK2 : Hid (insL K la[k] = ((la.take (k + 1)).filter fun r => !decide (r ∈ lb)).foldl insL []) := by
          show _ = _; rw [List.take_succ_eq_append_getElem hlt, List.filter_append, HK.out]; simp [hm]
        rw [decide_eq_false hm] at HIN
        clear hm
        go_wp2_with fail
        refine HIN.out.mono ?_
        rintro e w1 ⟨rfl, hd⟩
        obtain ⟨n1, rfl⟩ := hd
        have cx2 : (wr.drewN n1).cell? ⟨b, off + k, none⟩ = some x := cx
        go_wp2_with fail
        refine (add_acc w _ _ x K la[k] (HA.out.drewN n1) HST.out (by omega) HRL.out).mono ?_
        rintro e w1 ⟨v1, rfl, hacc⟩
        have HA1 : Hid (Acc w w1 v1 (insL K la[k])) := hacc
        clear hacc
        go_wp2
        go_roundw
        case rel => exact ⟨k + 1, _, by omega, by go_num, HA1, HK2, by omega⟩
        case measure => simp [intOf]; omega
    · have HE : Hid (K = sortL (la.filter fun r => !decide (r ∈ lb))) := by show _ = _; rw [HK.out, List.take_of_length_le (by omega), sortL]
      go_wp2
      go_ret
      exact ⟨_, rfl, by rw [← HE.out]; exact HA.out⟩
end Go.Proofs.YtaeloanlllaphaaDoor
