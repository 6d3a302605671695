import Derived.Test.YtgllfcoafgphbaaGreatDoorRfRule
import Derived.Test.YtgllfcoafgphbaaGreatDoorParsesWalk
/-
  The document's PrintRules, walked.
-/
namespace Go.Proofs.YtgllfcoafgphbaaGreatDoor
open Go.ChangeShapes Go.WideShapes Go.ChangeAt Go.RowKit
set_option linter.unusedVariables false
theorem parse_code (l : List UInt8) (e x : Nat) (h : parseF l = .error (e, x)) : Coded e := by
  rw [parseF_is] at h
  split at h
  · cases h; exact Or.inl rfl
  · exact programP_code _ _ _ _ h
def printR : Except PErr (List PRule) → Except PErr (List UInt8)
  | .error e => .error e
  | .ok rs => .ok (rulesTextF rs)
theorem printF_is (l : List UInt8) : printF l = printR (parseF l) := rfl
/-- an answer of a text, or an error and its place -/
def TextQ (r : Except PErr (List UInt8)) (en : Ending) : Prop := match r with
  | .error (e, x) => en = .returned (.tuple #[.string { data := #[] }, .int .i64 (e : Nat), .int .i64 (x : Nat)])
  | .ok t => en = .returned (.tuple #[.string (str t), .int .i64 0, .int .i64 0])
theorem readRules_at (s : ByteArray) (w : World) : Calls Tryz.prog 18 #[.string s] w fun en w' => RulesR 45 47 43 w.heap.size (parseF s.data.toList) en w' ∧ w.grownBy w' none := by
  have := readRules_any s w
  rw [readRules_is] at this
  refine this.mono ?_
  rintro e w' ⟨hq, hb⟩
  exact ⟨hq, fresh_below hb⟩
set_option maxRecDepth 100000 in
set_option maxHeartbeats 4000000 in
theorem rprint_any (s : ByteArray) (w : World) :
    Calls Tryz.prog 16 #[.string s] w fun en w' => TextQ (printF s.data.toList) en ∧ w.grownBy w' none := by
  have HRD := hide (readRules_at s w)
  obtain ⟨Q, HQ⟩ : ∃ Q, Hid (parseF s.data.toList = Q) := ⟨_, (rfl : _ = _)⟩
  have HPF : Hid (printF s.data.toList = printR Q) := by show _ = _; rw [printF_is, HQ.out]
  rw [HQ.out] at HRD
  obtain ⟨T, HT⟩ : ∃ T, Hid (printF s.data.toList = T) := ⟨_, (rfl : _ = _)⟩
  rw [HT.out] at HPF ⊢
  go_enter Tryz.func16, Tryz.ntmps16
  go_wp2_with fail
  refine HRD.out.mono ?_
  rintro e w1 ⟨hq, hg⟩
  have HG1 := hide hg
  clear hg HRD
  cases Q with
  | error er =>
    obtain ⟨ec, x⟩ := er
    have hq' : e = .returned (.tuple #[.slice none 0 0, .int .i64 (ec : Nat), .int .i64 (x : Nat)]) := hq
    subst hq'
    have hne : (((ec : Nat) : Int) != 0) = true := by
      rw [bne_iff_ne]
      rcases parse_code _ _ _ HQ.out with h | h | h <;> omega
    clear hq
    go_wp2
    go_ret3
    rw [HPF.out]
    exact ⟨rfl, HG1.out⟩
  | ok rs =>
    obtain ⟨v, hs, bs2, rfl, hra⟩ := hq
    have HRA := hide hra
    obtain ⟨va, vc, hv⟩ := own_form hra.own
    subst hv
    clear hra
    have hwf := parseF_wf _ _ HQ.out
    have h200 := hwf.1
    have HWF := hide hwf.2
    have HLEN : Hid (∀ k, (str (rulesTextF (rs.take k))).size ≤ 9000000) := fun k => by rw [str_size]; have := rulesTake_len rs HWF.out h200 k; omega
    clear hwf
    obtain ⟨N, HN⟩ : ∃ N, Hid (rs.length = N) := ⟨_, (rfl : _ = _)⟩
    rw [HN.out] at h200 ⊢
    go_wp2_with fail
    go_loopw [8, 9, 10] (fun o iv tv wr => ∃ (k : Nat) (X : ByteArray), k ≤ N ∧ iv = .int .i64 k ∧ o = .string X ∧ X.size ≤ 9000000 ∧ Hid (str (rulesTextF (rs.take k)) = X) ∧ Hid (w1.grownBy wr none)) (fun _ iv _ _ => N - (intOf iv).toNat)
    case atStart => exact ⟨0, { data := #[] }, by omega, rfl, rfl, by decide, (rfl : _ = _), fr_refl _ _⟩
    case round =>
      obtain ⟨k, X, hk, rfl, rfl, hX, HX, HG⟩ := hrel
      by_cases hlt : k < N
      · have hkr : k < rs.length := by have := HN.out; omega
        have hkh : k < hs.length := by have := HRA.out.lh; omega
        have hkb : k < bs2.length := by have := HRA.out.lb; omega
        have hor := HRA.out
        rcases own_rules hor with ⟨h0, h1⟩ | ⟨gr, cr, hvr, -, -, hcr, -⟩
        · rw [h1] at hkr; simp at hkr
        cases hvr
        have HCR := hide (hcr k rs[k] hs[k] bs2[k] (List.getElem?_eq_getElem hkr) (List.getElem?_eq_getElem hkh) (List.getElem?_eq_getElem hkb))
        obtain ⟨us, hbd⟩ := hor.bodies k rs[k] bs2[k] (List.getElem?_eq_getElem hkr) (List.getElem?_eq_getElem hkb)
        have hhd := hor.heads k rs[k] hs[k] (List.getElem?_eq_getElem hkr) (List.getElem?_eq_getElem hkh)
        have HP : Hid (∀ w', w1.grownBy w' none → Calls Tryz.prog 27 #[.agg (ruleV rs[k] hs[k] bs2[k]).toArray] w' fun e w'' => e = .returned (.string (str (ruleTextF rs[k]))) ∧ w'.grownBy w'' none) := by
          intro w' hg
          exact rruleText_any rs[k] hs[k] bs2[k] us w.heap.size w' (own_far hhd hg (by simp)) (hbd.kept hg (fun g e => by cases e)) (HWF.out _ (List.getElem_mem hkr))
        have HST : Hid (str (rulesTextF (rs.take (k + 1))) = X ++ str (ruleTextF rs[k])) := by show _ = _; rw [rulesTextF_take rs k hkr, ← HX.out, str_app]
        have HLN := hide (HLEN.out (k + 1))
        have HRL := hide (ruleText_len (HWF.out _ (List.getElem_mem hkr)))
        obtain ⟨xa, xc, hxx⟩ := own_form hhd
        obtain ⟨ya, yc, hyy⟩ := own_form hbd.own
        rw [hxx, hyy] at HCR HP
        clear hcr hor hbd hhd hxx hyy
        generalize rs[k] = r at *
        obtain ⟨Y, HY⟩ : ∃ Y, Hid (str (ruleTextF r) = Y) := ⟨_, (rfl : _ = _)⟩
        have hY : Y.size ≤ 50000 := by rw [← HY.out, str_size]; have := HRL.out; omega
        rw [HY.out] at HST HP
        have kp : ∀ (j : Nat) (x : Value), (ruleV r (.slice xa r.head.args.length xc) (.slice ya r.body.length yc))[j]? = some x → wr.cell? ⟨gr, k * 4 + j, none⟩ = some x := fun j x hx => grown_cell HG.out (HCR.out j x hx)
        have d0 := kp 0 _ rfl
        have d1 := kp 1 _ rfl
        have d2 := kp 2 _ rfl
        have d3 := kp 3 _ rfl
        simp only [Nat.add_zero] at d0
        clear kp
        go_wp2_with fail
        refine (HP.out _ HG.out).mono ?_
        rintro e w3 ⟨rfl, hg3⟩
        have HGN : Hid (w1.grownBy w3 none) := fr_both HG.out hg3
        clear hg3 d0 d1 d2 d3
        go_wp2
        go_roundw
        case rel => exact ⟨k + 1, _, by omega, by go_num, rfl, by have h := HLN.out; rw [HST.out] at h; exact h, HST, HGN⟩
        case measure => simp [intOf]; omega
      · have HR : Hid (T = .ok (rulesTextF rs)) := HPF.out
        have HE : Hid (X = str (rulesTextF rs)) := by show _ = _; rw [← HX.out, List.take_of_length_le (by have := HN.out; omega)]
        go_wp2
        go_ret3
        rw [HR.out]
        refine ⟨?_, fr_both HG1.out HG.out⟩
        show Ending.returned (.tuple #[.string X, .int .i64 0, .int .i64 0]) = .returned (.tuple #[.string (str (rulesTextF rs)), .int .i64 0, .int .i64 0])
        rw [HE.out]
end Go.Proofs.YtgllfcoafgphbaaGreatDoor
