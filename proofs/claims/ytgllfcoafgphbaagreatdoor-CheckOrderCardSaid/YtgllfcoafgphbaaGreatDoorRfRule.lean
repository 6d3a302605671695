import Derived.Test.YtgllfcoafgphbaaGreatDoorRfText
import Derived.Test.YtgllfcoafgphbaaGreatDoorM10
/-
  The document's PartText and RuleText, walked.
-/
namespace Go.Proofs.YtgllfcoafgphbaaGreatDoor
open Go.ChangeShapes Go.WideShapes Go.ChangeAt Go.RowKit
set_option linter.unusedVariables false
set_option maxRecDepth 100000 in
set_option maxHeartbeats 4000000 in
theorem rpartText_any (p : PPart) (v : Value) (B : Nat) (w : World) (ha : w.ownsRow B 45 3 v p.atom.args.length (termsV p.atom.args)) (hwf : WfP p) :
    Calls Tryz.prog 54 #[.agg (partV p v).toArray] w fun e w' => e = .returned (.string (str (partTextF p))) ∧ w.grownBy w' none := by
  have HA := hide ha
  obtain ⟨va, vc, hv⟩ := own_form ha
  clear ha
  rcases hwf with ⟨hk, hwa, -, -⟩ | ⟨hk2, hk4, -, hl, hr⟩
  · have HWA := hide hwa
    have HAL := hide (atomText_len hwa)
    obtain ⟨Y, HY⟩ : ∃ Y, Hid (str (atomTextF p.atom) = Y) := ⟨_, (rfl : _ = _)⟩
    have hY : Y.size ≤ 4000 := by rw [← HY.out, str_size]; have := HAL.out; omega
    have hk01 : p.kind = 0 ∨ p.kind = 1 := by omega
    clear hk hwa
    have HTX : Hid (str (partTextF p) = if p.kind = 0 then Y else str [110, 111, 116, 32] ++ Y) := by
      show _ = _
      unfold partTextF
      rcases hk01 with h | h
      · rw [if_pos h, if_pos h, HY.out]
      · rw [if_neg (by omega), if_pos h, if_neg (by omega), ← HY.out, str_app]
    have HRT : Hid (∀ w', w.grownBy w' none → Calls Tryz.prog 53 #[.agg #[.string (str p.atom.name), v, .int .i64 (p.atom.place : Nat)]] w' fun e w'' => e = .returned (.string Y) ∧ w'.grownBy w'' none) := by
      intro w' hg
      have := ratomText_any p.atom v B w' (own_far HA.out hg (by simp)) HWA.out
      rw [HY.out] at this
      exact this
    subst hv
    obtain ⟨Z, HZ⟩ : ∃ Z, Hid (partV p (.slice va p.atom.args.length vc) = Z) := ⟨_, (rfl : _ = _)⟩
    have HKD : Hid (Z[0]? = some (.int .i64 (p.kind : Nat)) ∧ Z.length = 10) := by rw [← HZ.out]; exact ⟨rfl, rfl⟩
    unfold partV
    rcases hk01 with hk | hk
    · rw [if_pos hk] at HTX
      have HKD0 : Hid (Z[0]? = some (.int .i64 0)) := by show _ = _; rw [HKD.out.1, hk]; rfl
      rw [hk]
      clear hk
      go_enter Tryz.func54, Tryz.ntmps54
      go_wp2_with fail
      generalize hw1 : World.alloc _ _ = w1
      have HG1 : Hid (w.grownBy w1 none) := by rw [← hw1]; exact fr_alloc _ _ _
      have HK1 : Hid (w1.cell? ⟨w.heap.size, 0, none⟩ = some (.int .i64 0)) := by show _ = _; rw [← hw1]; simp
      clear hw1
      refine (HRT.out _ HG1.out).mono ?_
      rintro e w2 ⟨rfl, hg2⟩
      have c0 := grown_cell hg2 HK1.out
      have HG2 := hide (fr_both HG1.out hg2)
      clear hg2
      go_wp2
      go_ret
      exact ⟨ret_str HTX.out.symm, HG2.out⟩
    · rw [if_neg (by omega)] at HTX
      rw [hk]
      clear hk
      go_enter Tryz.func54, Tryz.ntmps54
      go_wp2_with fail
      generalize hw1 : World.alloc _ _ = w1
      have HG1 : Hid (w.grownBy w1 none) := by rw [← hw1]; exact fr_alloc _ _ _
      have HK1 : Hid (w1.cell? ⟨w.heap.size, 0, none⟩ = some (.int .i64 1)) := by show _ = _; rw [← hw1]; simp
      clear hw1
      refine (HRT.out _ HG1.out).mono ?_
      rintro e w2 ⟨rfl, hg2⟩
      have c0 := grown_cell hg2 HK1.out
      have HG2 := hide (fr_both HG1.out hg2)
      clear hg2
      go_wp2
      go_ret
      exact ⟨ret_str HTX.out.symm, HG2.out⟩
  · subst hv
    clear HA
    have HL := hide hl
    have HR := hide hr
    obtain ⟨X, HX⟩ : ∃ X, Hid (str (termTextF p.left) = X) := ⟨_, (rfl : _ = _)⟩
    obtain ⟨Y, HY⟩ : ∃ Y, Hid (str (termTextF p.right) = Y) := ⟨_, (rfl : _ = _)⟩
    have hX : X.size ≤ 402 := by rw [← HX.out, str_size]; exact termText_len hl
    have hY : Y.size ≤ 402 := by rw [← HY.out, str_size]; exact termText_len hr
    have HTL : Hid (∀ w', Calls Tryz.prog 85 #[.agg #[.bool p.left.isVar, .string (str p.left.text), .int .i64 (p.left.place : Nat)]] w' fun e w'' => e = .returned (.string X) ∧ w'.grownBy w'' none) := by
      intro w'
      have := rtermText_any p.left w' (wfT_small HL.out)
      rw [HX.out] at this
      exact this
    have HTR : Hid (∀ w', Calls Tryz.prog 85 #[.agg #[.bool p.right.isVar, .string (str p.right.text), .int .i64 (p.right.place : Nat)]] w' fun e w'' => e = .returned (.string Y) ∧ w'.grownBy w'' none) := by
      intro w'
      have := rtermText_any p.right w' (wfT_small HR.out)
      rw [HY.out] at this
      exact this
    obtain ⟨S, HS⟩ : ∃ S, Hid (str ([32] ++ signTextF p.kind ++ [32]) = S) := ⟨_, hide rfl⟩
    have hS : S.size ≤ 4 := by
      rw [← HS.out, str_size]
      have : (signTextF p.kind).length ≤ 2 := by unfold signTextF; split <;> (try split) <;> simp
      simp; omega
    have HTX : Hid (str (partTextF p) = X ++ S ++ Y) := by
      show _ = _
      unfold partTextF
      rw [if_neg (by omega), if_neg (by omega), ← HX.out, ← HY.out, ← HS.out, str_app, str_app]
      simp
    obtain ⟨K, HK⟩ : ∃ K : Nat, Hid (p.kind = 2 + K) := ⟨p.kind - 2, hide (by omega)⟩
    have hK : K < 3 := by have := HK.out; omega
    have HKI : Hid (((p.kind : Nat) : Int) = 2 + (K : Int)) := hide (by have := HK.out; omega)
    have hSK : ∀ (w' : World) (g : Nat), (w'.cell? ⟨g, 0, none⟩ = some (.string { data := #[32, 61, 32] }) ∧ w'.cell? ⟨g, 1, none⟩ = some (.string { data := #[32, 33, 61, 32] }) ∧ w'.cell? ⟨g, 2, none⟩ = some (.string { data := #[32, 60, 32] })) → w'.cell? ⟨g, K, none⟩ = some (.string S) := by
      intro w' g hc
      have : K = 0 ∨ K = 1 ∨ K = 2 := by omega
      rcases this with rfl | rfl | rfl
      · rw [hc.1, ← HS.out, HK.out]; rfl
      · rw [hc.2.1, ← HS.out, HK.out]; rfl
      · rw [hc.2.2, ← HS.out, HK.out]; rfl
    have HSK := hide hSK
    clear hSK hl hr hk2 hk4
    unfold partV
    rw [HKI.out]
    generalize p.atom.args.length = N
    generalize ((p.atom.place : Nat) : Int) = pl
    go_enter Tryz.func54, Tryz.ntmps54
    go_wp2_with fail
    generalize hw1 : World.alloc (World.alloc _ _) _ = w1
    have HG1 : Hid (w.grownBy w1 none) := by rw [← hw1]; exact fr_both (fr_alloc _ _ _) (fr_alloc _ _ _)
    have HB1 : Hid (w1.cell? ⟨w.heap.size, 0, none⟩ = some (.int .i64 (2 + (K : Int))) ∧ w1.cell? ⟨w.heap.size, 7, none⟩ = some (.bool p.right.isVar) ∧ w1.cell? ⟨w.heap.size, 8, none⟩ = some (.string (str p.right.text)) ∧ w1.cell? ⟨w.heap.size, 9, none⟩ = some (.int .i64 (p.right.place : Nat))) := by rw [← hw1]; exact ⟨by simp, by simp, by simp, by simp⟩
    have HS1 : Hid (w1.cell? ⟨w.heap.size + 1, 0, none⟩ = some (.string { data := #[32, 61, 32] }) ∧ w1.cell? ⟨w.heap.size + 1, 1, none⟩ = some (.string { data := #[32, 33, 61, 32] }) ∧ w1.cell? ⟨w.heap.size + 1, 2, none⟩ = some (.string { data := #[32, 60, 32] })) := by rw [← hw1]; exact ⟨by simp, by simp, by simp⟩
    have HZ1 : Hid (w1.heap.size = w.heap.size + 2) := by show _ = _; rw [← hw1]; simp
    clear hw1
    refine (HTL.out _).mono ?_
    rintro e w2 ⟨rfl, hg2⟩
    have c7 := grown_cell hg2 HB1.out.2.1
    have c8 := grown_cell hg2 HB1.out.2.2.1
    have c9 := grown_cell hg2 HB1.out.2.2.2
    have HG2 := hide hg2
    clear hg2
    go_wp2_with fail
    refine (HTR.out _).mono ?_
    rintro e w3 ⟨rfl, hg3⟩
    have hg13 := fr_both HG2.out hg3
    have HG3 := hide (fr_both HG1.out hg13)
    clear c7 c8 c9
    have c0 := grown_cell hg13 HB1.out.1
    have s0 := grown_cell hg13 (HSK.out _ _ HS1.out)
    clear hg3 hg13
    go_wp2
    go_ret
    exact ⟨ret_str HTX.out.symm, HG3.out⟩
set_option maxRecDepth 100000 in
set_option maxHeartbeats 4000000 in
theorem rruleText_any (r : PRule) (vh vb : Value) (us : List Value) (B : Nat) (w : World) (hh : w.ownsRow B 45 3 vh r.head.args.length (termsV r.head.args)) (hb : PartsAt 45 47 B w vb r.body us) (hwf : WfR r) :
    Calls Tryz.prog 27 #[.agg (ruleV r vh vb).toArray] w fun e w' => e = .returned (.string (str (ruleTextF r))) ∧ w.grownBy w' none := by
  have HHD := hide hh
  have HBD := hide hb
  have HWF := hide hwf
  obtain ⟨aa, ca, hva⟩ := own_form hb.own
  subst hva
  have h12 := hwf.2.1
  have HLEN : Hid (∀ k, (str (rulePre r k)).size ≤ 50000) := fun k => by rw [str_size]; have := rulePre_len hwf k; omega
  have HFIN := hide (ruleText_pre r)
  have HAT : Hid (∀ w', w.grownBy w' none → Calls Tryz.prog 53 #[.agg #[.string (str r.head.name), vh, .int .i64 (r.head.place : Nat)]] w' fun e w'' => e = .returned (.string (str (rulePre r 0))) ∧ w'.grownBy w'' none) := by
    intro w' hg
    rw [rulePre_zero]
    exact ratomText_any r.head vh B w' (own_far HHD.out hg (by simp)) HWF.out.1
  have HPT : Hid (∀ (k : Nat) (hk : k < r.body.length) (u : Value), us[k]? = some u → ∀ w', w.grownBy w' none → Calls Tryz.prog 54 #[.agg (partV r.body[k] u).toArray] w' fun e w'' => e = .returned (.string (str (partTextF r.body[k]))) ∧ w'.grownBy w'' none) := by
    intro k hk u hu w' hg
    exact rpartText_any r.body[k] u B w' (own_far (HBD.out.args k r.body[k] u (List.getElem?_eq_getElem hk) hu) hg (by simp)) (HWF.out.2.2 _ (List.getElem_mem hk))
  clear hh hb hwf
  obtain ⟨N, HN⟩ : ∃ N, Hid (r.body.length = N) := ⟨_, (rfl : _ = _)⟩
  obtain ⟨xa, xc, hvx⟩ := own_form HHD.out
  subst hvx
  unfold ruleV
  rw [HN.out] at h12 ⊢
  generalize r.head.args.length = NH at HHD HAT ⊢
  go_enter Tryz.func27, Tryz.ntmps27
  go_wp2_with fail
  generalize hw1 : World.alloc _ _ = w1
  have HC1 : Hid (w1.cell? ⟨w.heap.size, 3, none⟩ = some (.slice aa N ca)) := by show _ = _; rw [← hw1]; simp
  have HG1 : Hid (w.grownBy w1 none) := by rw [← hw1]; exact fr_alloc _ _ _
  have HZ1 : Hid (w1.heap.size = w.heap.size + 1) := by show _ = _; rw [← hw1]; simp
  clear hw1
  refine (HAT.out _ HG1.out).mono ?_
  rintro e w2 ⟨rfl, hg2⟩
  have hx0 := HLEN.out 0
  obtain ⟨X0, HX0⟩ : ∃ X, Hid (str (rulePre r 0) = X) := ⟨_, (rfl : _ = _)⟩
  rw [HX0.out] at hx0 ⊢
  have HC2 := hide (grown_cell hg2 HC1.out)
  have HZ2 : Hid (w.heap.size < w2.heap.size) := hide (by have := HZ1.out; have := hg2.size; omega)
  have HG2 := hide (fr_both HG1.out hg2)
  clear hg2 HAT
  go_wp2_with fail
  go_loopw [3, 4, 5] (fun o iv tv wr => ∃ (k : Nat) (X : ByteArray), k ≤ N ∧ iv = .int .i64 k ∧ o = .string X ∧ X.size ≤ 50000 ∧ Hid (str (rulePre r k) = X) ∧ Hid (w2.grownBy wr none)) (fun _ iv _ _ => N - (intOf iv).toNat)
  case atStart => exact ⟨0, X0, by omega, rfl, rfl, hx0, HX0, fr_refl _ _⟩
  case round =>
    obtain ⟨k, X, hk, rfl, rfl, hX, HX, HG⟩ := hrel
    have hz0 : w.heap.size < w2.heap.size := HZ2.out
    have c1 := grown_cell HG.out HC2.out
    by_cases hlt : k < N
    · have hkb : k < r.body.length := by have := HN.out; omega
      have hku : k < us.length := by have := HBD.out.len; omega
      have hob := HBD.out
      rcases own_parts hob with ⟨h0, h1⟩ | ⟨gb, cb, hvb, -, -, hcb, -⟩
      · rw [h1] at hkb; simp at hkb
      cases hvb
      have HCB := hide (hcb k r.body[k] us[k] (List.getElem?_eq_getElem hkb) (List.getElem?_eq_getElem hku))
      have HP := hide (HPT.out k hkb us[k] (List.getElem?_eq_getElem hku))
      have HST : Hid (str (rulePre r (k + 1)) = if k = 0 then X ++ str [32, 58, 45, 32] ++ str (partTextF r.body[k]) else X ++ str [44, 32] ++ str (partTextF r.body[k])) := by
        show _ = _
        by_cases h0 : k = 0
        · subst h0
          rw [if_pos rfl, ← HX.out, rulePre_one r hkb, str_app, str_app]
        · rw [if_neg h0, ← HX.out, rulePre_step r k h0 hkb, str_app, str_app]
      have HLN := hide (HLEN.out (k + 1))
      have HPL := hide (partText_len (HWF.out.2.2 _ (List.getElem_mem hkb)))
      have HOA := hide (HBD.out.args k r.body[k] us[k] (List.getElem?_eq_getElem hkb) (List.getElem?_eq_getElem hku))
      obtain ⟨ya, yc, hyy⟩ := own_form HOA.out
      rw [hyy] at HCB HP
      clear hcb hob hyy HOA
      generalize r.body[k] = p at *
      obtain ⟨Y, HY⟩ : ∃ Y, Hid (str (partTextF p) = Y) := ⟨_, (rfl : _ = _)⟩
      have hY : Y.size ≤ 4000 := by rw [← HY.out, str_size]; have := HPL.out; omega
      rw [HY.out] at HST HP
      have kp : ∀ (j : Nat) (x : Value), (partV p (.slice ya p.atom.args.length yc))[j]? = some x → wr.cell? ⟨gb, k * 10 + j, none⟩ = some x := fun j x hx => grown_cell (fr_both HG2.out HG.out) (HCB.out j x hx)
      have d0 := kp 0 _ rfl
      have d1 := kp 1 _ rfl
      have d2 := kp 2 _ rfl
      have d3 := kp 3 _ rfl
      have d4 := kp 4 _ rfl
      have d5 := kp 5 _ rfl
      have d6 := kp 6 _ rfl
      have d7 := kp 7 _ rfl
      have d8 := kp 8 _ rfl
      have d9 := kp 9 _ rfl
      simp only [Nat.add_zero] at d0
      clear kp
      go_wp2_with fail
      refine (HP.out _ (fr_both HG2.out HG.out)).mono ?_
      rintro e w3 ⟨rfl, hg3⟩
      have HGN : Hid (w2.grownBy w3 none) := fr_both HG.out hg3
      clear hg3 d0 d1 d2 d3 d4 d5 d6 d7 d8 d9
      by_cases h0 : k = 0
      · rw [if_pos h0] at HST
        have e0 : ((k : Int) == 0) = true := by simp [h0]
        clear h0
        go_wp2
        go_roundw
        case rel => exact ⟨k + 1, _, by omega, by go_num, rfl, by have h := HLN.out; rw [HST.out] at h; exact h, HST, HGN⟩
        case measure => simp [intOf]; omega
      · rw [if_neg h0] at HST
        have e0 : ((k : Int) == 0) = false := by rw [beq_eq_false_iff_ne]; omega
        clear h0
        go_wp2
        go_roundw
        case rel => exact ⟨k + 1, _, by omega, by go_num, rfl, by have h := HLN.out; rw [HST.out] at h; exact h, HST, HGN⟩
        case measure => simp [intOf]; omega
    · have hkN : k = N := by omega
      have HR : Hid (str (ruleTextF r) = X ++ str [46, 10]) := by show _ = _; rw [HFIN.out, ← HX.out, str_app, HN.out, hkN]
      go_wp2
      go_ret
      exact ⟨ret_str HR.out.symm, fr_both HG2.out HG.out⟩
end Go.Proofs.YtgllfcoafgphbaaGreatDoor
