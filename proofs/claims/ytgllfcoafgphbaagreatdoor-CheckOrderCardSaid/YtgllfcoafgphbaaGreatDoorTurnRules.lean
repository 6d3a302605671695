import Derived.Test.YtgllfcoafgphbaaGreatDoorRfPrint
import Derived.Test.YtgllfcoafgphbaaGreatDoorChecksWalk
/-
  The laws' turnedRules, walked.
-/
namespace Go.Proofs.YtgllfcoafgphbaaGreatDoor
open Go.ChangeShapes Go.WideShapes Go.ChangeAt Go.RowKit
set_option linter.unusedVariables false
def turnedR (rs : List PRule) : List UInt8 := if 20000 < (rulesTextF rs.reverse).length then [] else rulesTextF rs.reverse
def turnedF (l : List UInt8) : List UInt8 := match parseF l with
  | .error _ => []
  | .ok rs => turnedR rs
theorem rules_rev (rs : List PRule) (k : Nat) (h : k < rs.length) : rulesTextF (rs.reverse.take (k + 1)) = rulesTextF (rs.reverse.take k) ++ ruleTextF (rs[rs.length - 1 - k]'(by omega)) := by
  have hk : k < rs.reverse.length := by rw [List.length_reverse]; exact h
  rw [rulesTextF_take rs.reverse k hk]
  congr 2
  rw [List.getElem_reverse]
set_option maxRecDepth 100000 in
set_option maxHeartbeats 4000000 in
theorem turned_any (s : ByteArray) (w : World) :
    Calls Tryz.prog 15 #[.string s] w fun en w' => en = .returned (.string (str (turnedF s.data.toList))) ∧ w.grownBy w' none := by
  have HRD := hide (readRules_at s w)
  obtain ⟨Q, HQ⟩ : ∃ Q, Hid (parseF s.data.toList = Q) := ⟨_, (rfl : _ = _)⟩
  obtain ⟨T, HT⟩ : ∃ T, Hid (turnedF s.data.toList = T) := ⟨_, (rfl : _ = _)⟩
  rw [HQ.out] at HRD
  rw [HT.out]
  go_enter Tryz.func15, Tryz.ntmps15
  go_wp2_with fail
  refine HRD.out.mono ?_
  rintro e w1 ⟨hq, hg⟩
  have HG1 := hide hg
  clear hg HRD
  obtain ⟨rs, v, hs, bs2, ec, x, rfl, hra, HTT, hwf, h200⟩ : ∃ (rs : List PRule) (v : Value) (hs bs2 : List Value) (ec x : Nat), e = .returned (.tuple #[v, .int .i64 (ec : Nat), .int .i64 (x : Nat)]) ∧ RulesAt 45 47 43 w.heap.size w1 v rs hs bs2 ∧ Hid (T = turnedR rs) ∧ (∀ r ∈ rs, WfR r) ∧ rs.length ≤ 200 := by
    cases Q with
    | error er =>
      obtain ⟨ec, x⟩ := er
      refine ⟨[], .slice none 0 0, [], [], ec, x, hq, RulesAt.nil _ _ _ _ _, ?_, fun r h => by simp at h, by simp⟩
      show _ = _
      rw [← HT.out]; unfold turnedF; rw [HQ.out]; rfl
    | ok rs =>
      obtain ⟨v, hs, bs2, h1, h2⟩ := hq
      have hwf := parseF_wf _ _ HQ.out
      refine ⟨rs, v, hs, bs2, 0, 0, h1, h2, ?_, hwf.2, hwf.1⟩
      show _ = _
      rw [← HT.out]; unfold turnedF; rw [HQ.out]
  have HRA := hide hra
  obtain ⟨va, vc, hv⟩ := own_form hra.own
  subst hv
  clear hra
  have HWF := hide hwf
  have HLEN : Hid (∀ k, (str (rulesTextF (rs.reverse.take k))).size ≤ 9000000) := fun k => by
    rw [str_size]
    have := rulesTake_len rs.reverse (fun r hr => hwf r (List.mem_reverse.1 hr)) (by rw [List.length_reverse]; exact h200) k
    omega
  clear hwf
  obtain ⟨N, HN⟩ : ∃ N, Hid (rs.length = N) := ⟨_, (rfl : _ = _)⟩
  rw [HN.out] at h200 ⊢
  go_wp2_with fail
  clear hq
  go_loopw [6, 7, 8] (fun o iv tv wr => ∃ (k : Nat) (X : ByteArray), k ≤ N ∧ iv = .int .i64 ((N : Int) - 1 - (k : Int)) ∧ o = .string X ∧ X.size ≤ 9000000 ∧ Hid (str (rulesTextF (rs.reverse.take k)) = X) ∧ Hid (w1.grownBy wr none)) (fun _ iv _ _ => (intOf iv + 1).toNat)
  case atStart => exact ⟨0, { data := #[] }, by omega, by go_num, rfl, by decide, (rfl : _ = _), fr_refl _ _⟩
  case round =>
    obtain ⟨k, X, hk, rfl, rfl, hX, HX, HG⟩ := hrel
    by_cases hlt : k < N
    · have hkr : k < rs.length := by have := HN.out; omega
      obtain ⟨j, hj⟩ : ∃ j : Nat, j = N - 1 - k := ⟨_, rfl⟩
      have hji : (N : Int) - 1 - (k : Int) = (j : Int) := by omega
      have hjr : j < rs.length := by have := HN.out; omega
      have hjN : j < N := by omega
      have hjh : j < hs.length := by have := HRA.out.lh; omega
      have hjb : j < bs2.length := by have := HRA.out.lb; omega
      have hor := HRA.out
      rcases own_rules hor with ⟨h0, h1⟩ | ⟨gr, cr, hvr, -, -, hcr, -⟩
      · rw [h1] at hkr; simp at hkr
      cases hvr
      have HCR := hide (hcr j rs[j] hs[j] bs2[j] (List.getElem?_eq_getElem hjr) (List.getElem?_eq_getElem hjh) (List.getElem?_eq_getElem hjb))
      obtain ⟨us, hbd⟩ := hor.bodies j rs[j] bs2[j] (List.getElem?_eq_getElem hjr) (List.getElem?_eq_getElem hjb)
      have hhd := hor.heads j rs[j] hs[j] (List.getElem?_eq_getElem hjr) (List.getElem?_eq_getElem hjh)
      have HP : Hid (∀ w', w1.grownBy w' none → Calls Tryz.prog 27 #[.agg (ruleV rs[j] hs[j] bs2[j]).toArray] w' fun e w'' => e = .returned (.string (str (ruleTextF rs[j]))) ∧ w'.grownBy w'' none) := by
        intro w' hg
        exact rruleText_any rs[j] hs[j] bs2[j] us w.heap.size w' (own_far hhd hg (by simp)) (hbd.kept hg (fun g e => by cases e)) (HWF.out _ (List.getElem_mem hjr))
      have HST : Hid (str (rulesTextF (rs.reverse.take (k + 1))) = X ++ str (ruleTextF rs[j])) := by
        show _ = _
        rw [rules_rev rs k hkr, ← HX.out, str_app]
        congr 3
        have := HN.out
        simp only [hj, ← this]
      have HLN := hide (HLEN.out (k + 1))
      have HRL := hide (ruleText_len (HWF.out _ (List.getElem_mem hjr)))
      obtain ⟨xa, xc, hxx⟩ := own_form hhd
      obtain ⟨ya, yc, hyy⟩ := own_form hbd.own
      rw [hxx, hyy] at HCR HP
      clear hcr hor hbd hhd hxx hyy
      generalize rs[j] = r at *
      obtain ⟨Y, HY⟩ : ∃ Y, Hid (str (ruleTextF r) = Y) := ⟨_, (rfl : _ = _)⟩
      have hY : Y.size ≤ 50000 := by rw [← HY.out, str_size]; have := HRL.out; omega
      rw [HY.out] at HST HP
      have kp : ∀ (q : Nat) (x : Value), (ruleV r (.slice xa r.head.args.length xc) (.slice ya r.body.length yc))[q]? = some x → wr.cell? ⟨gr, j * 4 + q, none⟩ = some x := fun q x hx => grown_cell HG.out (HCR.out q x hx)
      have d0 := kp 0 _ rfl
      have d1 := kp 1 _ rfl
      have d2 := kp 2 _ rfl
      have d3 := kp 3 _ rfl
      simp only [Nat.add_zero] at d0
      rw [hji]
      have HJI := hide hji
      clear kp hj hji
      go_wp2_with fail
      refine (HP.out _ HG.out).mono ?_
      rintro e w3 ⟨rfl, hg3⟩
      have HGN : Hid (w1.grownBy w3 none) := fr_both HG.out hg3
      clear hg3 d0 d1 d2 d3
      go_wp2
      go_roundw
      case rel => exact ⟨k + 1, _, by omega, by rw [show (N : Int) - 1 - ((k + 1 : Nat) : Int) = (j : Int) - 1 by have := HJI.out; omega], rfl, by have h := HLN.out; rw [HST.out] at h; exact h, HST, HGN⟩
      case measure => simp [intOf]
    · have hkN : (N : Int) - 1 - (k : Int) = -1 := by omega
      have HE : Hid (str (rulesTextF rs.reverse) = X) := by
        have := HX.out
        rwa [List.take_of_length_le (by rw [List.length_reverse]; have := HN.out; omega)] at this
      have HXL : Hid ((rulesTextF rs.reverse).length = X.size) := by show _ = _; rw [← HE.out, str_size]
      rw [hkN]
      by_cases hbig : 20000 < X.size
      · have HR : Hid (T = []) := by show _ = _; rw [HTT.out]; unfold turnedR; rw [HXL.out, if_pos hbig]
        go_wp2
        go_ret
        rw [HR.out]
        exact ⟨rfl, fr_both HG1.out HG.out⟩
      · have HR : Hid (str T = X) := by show _ = _; rw [HTT.out]; unfold turnedR; rw [HXL.out, if_neg hbig]; exact HE.out
        go_wp2
        go_ret
        rw [HR.out]
        exact ⟨rfl, fr_both HG1.out HG.out⟩
end Go.Proofs.YtgllfcoafgphbaaGreatDoor
