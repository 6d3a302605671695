/-
  The law's own words on rules: 'sameRules', walked.
-/
import Derived.Test.YtoelacloghkooaaDoorSpoiling
import Derived.Test.YtoelacloghkooaaDoorBounds
namespace Go.Proofs.YtoelacloghkooaaDoor
open Go.ChangeShapes Go.WideShapes Go.ChangeAt Go.RowKit
set_option linter.unusedVariables false
/-- the same rule, with its places or without -/
structure SameR (pl : Bool) (r q : PRule) : Prop where
  head : SameA pl r.head q.head
  body : SamePs pl r.body q.body
theorem SameR.refl (pl : Bool) (r : PRule) : SameR pl r r := ⟨SameA.refl pl _, SamePs.refl pl _⟩
/-- the same rules -/
structure SameRs (pl : Bool) (rs qs : List PRule) : Prop where
  len : rs.length = qs.length
  rules : ∀ (i : Nat) (r q : PRule), rs[i]? = some r → qs[i]? = some q → SameR pl r q
theorem SameRs.refl (pl : Bool) (rs : List PRule) : SameRs pl rs rs := ⟨rfl, fun i r q h1 h2 => by rw [h1] at h2; cases h2; exact SameR.refl pl r⟩
theorem rulesV_at : ∀ (rs : List PRule) (hs bs : List Value) (k j : Nat) (r : PRule) (h b : Value), rs[k]? = some r → hs[k]? = some h → bs[k]? = some b → j < 4 → (rulesV rs hs bs)[k * 4 + j]? = (ruleV r h b)[j]? := by
  intro rs
  induction rs with
  | nil => intro hs bs k j r h b h1; simp at h1
  | cons x rs ih =>
    intro hs bs k j r h b h1 h2 h3 hj
    cases hs with
    | nil => simp at h2
    | cons y hs =>
      cases bs with
      | nil => simp at h3
      | cons z bs =>
        cases k with
        | zero => simp at h1 h2 h3; subst h1 h2 h3; simp only [rulesV, Nat.zero_mul, Nat.zero_add]; rw [List.getElem?_append_left (by simp [ruleV]; exact hj)]
        | succ k =>
          simp only [rulesV]
          rw [List.getElem?_append_right (by simp [ruleV]; omega), ← ih hs bs k j r h b (by simpa using h1) (by simpa using h2) (by simpa using h3) hj]
          congr 1
          simp [ruleV]; omega
theorem rulesV_len : ∀ (rs : List PRule) (hs bs : List Value), hs.length = rs.length → bs.length = rs.length → (rulesV rs hs bs).length = rs.length * 4 := by
  intro rs
  induction rs with
  | nil => intro hs bs h1 h2; cases hs <;> cases bs <;> simp [rulesV] at *
  | cons r rs ih => intro hs bs h1 h2; cases hs with
    | nil => simp at h1
    | cons y hs => cases bs with
      | nil => simp at h2
      | cons z bs => simp only [rulesV, List.length_append, List.length_cons]; rw [ih hs bs (by simpa using h1) (by simpa using h2)]; simp [ruleV]; omega
/-- where rules lie -/
theorem own_rules {tT tP tR : TypeId} {base : Nat} {w : World} {v : Value} {rs : List PRule} {hs bs : List Value} (h : RulesAt tT tP tR base w v rs hs bs) : (v = .slice none 0 0 ∧ rs = []) ∨ ∃ g cap, v = .slice (some ⟨g, 0, none⟩) rs.length cap ∧ base ≤ g ∧ g < w.heap.size ∧ (∀ k r a b, rs[k]? = some r → hs[k]? = some a → bs[k]? = some b → ∀ (j : Nat) (x : Value), (ruleV r a b)[j]? = some x → w.cell? ⟨g, k * 4 + j, none⟩ = some x) ∧ ∀ i, w.frozen? ⟨g, i, none⟩ = false := by
  rcases h.own.2 with ⟨rfl, h0⟩ | ⟨g, cap, cur, rfl, hb, hg, rest⟩
  · exact Or.inl ⟨rfl, List.eq_nil_of_length_eq_zero h0⟩
  · refine Or.inr ⟨g, cap, rfl, hb, (Array.getElem?_eq_some_iff.1 hg).1, fun k r a b hr ha hb j x hx => ?_, fun i => own_soft h.own i⟩
    have hj : j < 4 := by
      rcases Nat.lt_or_ge j 4 with h | h
      · exact h
      · rw [List.getElem?_eq_none (by simp [ruleV]; omega)] at hx; cases hx
    have := h.own.cells rfl (k * 4 + j) x (by rw [rulesV_at rs hs bs k j r a b hr ha hb hj]; exact hx)
    rw [add_zero] at this; exact this
set_option maxRecDepth 100000 in
set_option maxHeartbeats 4000000 in
theorem sameRules_any (pl : Bool) (rs qs : List PRule) (va vb : Value) (ha1 ha2 hb1 hb2 : List Value) (B1 B2 : Nat) (w : World) (h : SameRs pl rs qs) (ha : RulesAt 38 40 36 B1 w va rs ha1 ha2) (hb : RulesAt 76 78 67 B2 w vb qs hb1 hb2) (hl : rs.length ≤ 1073741824) (hsm : ∀ r ∈ rs, Small r) :
    Calls Tryd.prog 7 #[va, vb, .bool pl] w fun e w' => e = .returned (.bool true) ∧ w.grownBy w' none := by
  have HSM := hide hsm
  have HRS := hide h.rules
  have HA := hide ha
  have HB := hide hb
  have hlen := h.len
  obtain ⟨aa, ca, hva⟩ := own_form ha.own
  obtain ⟨ab, cb, hvb⟩ := own_form hb.own
  subst hva hvb
  clear ha hb h hsm
  rw [← hlen]
  have HNB : Hid (qs.length = rs.length) := hlen.symm
  rw [← hlen] at HB
  clear hlen
  go_enter Tryd.func7, Tryd.ntmps7
  go_wp2_with fail
  go_loopw [7] (fun iv wr => ∃ k : Nat, k ≤ rs.length ∧ iv = .int .i64 k ∧ Hid (w.grownBy wr none)) (fun iv _ => rs.length - (intOf iv).toNat)
  case atStart => exact ⟨0, by omega, rfl, fr_refl _ _⟩
  case round =>
    obtain ⟨k, hk, rfl, HH1⟩ := hrel
    by_cases hlt : k < rs.length
    · have hkq : k < qs.length := by have := HNB.out; omega
      have k1 : k < ha1.length := by have := HA.out.lh; omega
      have k2 : k < ha2.length := by have := HA.out.lb; omega
      have k3 : k < hb1.length := by have := HB.out.lh; omega
      have k4 : k < hb2.length := by have := HB.out.lb; omega
      have HT := hide (HRS.out k rs[k] qs[k] (List.getElem?_eq_getElem hlt) (List.getElem?_eq_getElem hkq))
      have HS := hide (HSM.out _ (List.getElem_mem hlt))
      have HOA := hide (HA.out.heads k rs[k] ha1[k] (List.getElem?_eq_getElem hlt) (List.getElem?_eq_getElem k1))
      have HOB := hide (HB.out.heads k qs[k] hb1[k] (List.getElem?_eq_getElem hkq) (List.getElem?_eq_getElem k3))
      obtain ⟨us, hpa⟩ := HA.out.bodies k rs[k] ha2[k] (List.getElem?_eq_getElem hlt) (List.getElem?_eq_getElem k2)
      obtain ⟨vs, hpb⟩ := HB.out.bodies k qs[k] hb2[k] (List.getElem?_eq_getElem hkq) (List.getElem?_eq_getElem k4)
      have HPA := hide hpa
      have HPB := hide hpb
      clear hpa hpb
      rcases own_rules HA.out with ⟨h0, h1⟩ | ⟨ga, ca', hva, -, -, hca, -⟩
      · rw [h1] at hlt; simp at hlt
      have hb' := HB.out
      rw [← HNB.out] at hb'
      rcases own_rules hb' with ⟨h0, h1⟩ | ⟨gb, cb', hvb, -, -, hcb, -⟩
      · rw [h1] at hkq; simp at hkq
      cases hva; cases hvb
      have HCA := hide (hca k rs[k] ha1[k] ha2[k] (List.getElem?_eq_getElem hlt) (List.getElem?_eq_getElem k1) (List.getElem?_eq_getElem k2))
      have HCB := hide (hcb k qs[k] hb1[k] hb2[k] (List.getElem?_eq_getElem hkq) (List.getElem?_eq_getElem k3) (List.getElem?_eq_getElem k4))
      clear hca hcb hb'
      obtain ⟨xa, xc, hxx⟩ := own_form HOA.out
      obtain ⟨ya, yc, hyy⟩ := own_form HOB.out
      obtain ⟨pa, pc, hpx⟩ := own_form HPA.out.own
      obtain ⟨qa, qc, hqx⟩ := own_form HPB.out.own
      rw [hxx] at HOA HCA
      rw [hyy] at HOB HCB
      rw [hpx] at HPA HCA
      rw [hqx] at HPB HCB
      clear hxx hyy hpx hqx
      obtain ⟨r, hr⟩ : ∃ r, r = rs[k] := ⟨_, rfl⟩
      obtain ⟨q, hq⟩ : ∃ q, q = qs[k] := ⟨_, rfl⟩
      rw [← hr] at HT HOA HCA HPA HS
      rw [← hq] at HT HOB HCB HPB
      clear hr hq hkq k1 k2 k3 k4
      have s10 := grown_cell HH1.out (HCA.out 0 _ rfl)
      have s11 := grown_cell HH1.out (HCA.out 1 _ rfl)
      have s12 := grown_cell HH1.out (HCA.out 2 _ rfl)
      have s13 := grown_cell HH1.out (HCB.out 0 _ rfl)
      have s14 := grown_cell HH1.out (HCB.out 1 _ rfl)
      have s15 := grown_cell HH1.out (HCB.out 2 _ rfl)
      simp only [Nat.add_zero] at s10 s13
      have h8 := HS.out.1
      have HC1 : Hid (∀ wx : World, (∃ n, wx = wr.drewN n) → Calls Tryd.prog 21 #[.agg #[.string (str r.head.name), .slice xa r.head.args.length xc, .int .i64 (r.head.place : Nat)], .agg #[.string (str q.head.name), .slice ya q.head.args.length yc, .int .i64 (q.head.place : Nat)], .bool pl] wx fun e w' => e = .returned (.bool true) ∧ Hid (wr.grownBy w' none) ∧ w'.cell? ⟨ga, k * 4, none⟩ = some (.string (str r.head.name)) ∧ w'.cell? ⟨ga, k * 4 + 1, none⟩ = some (.slice xa r.head.args.length xc) ∧ w'.cell? ⟨ga, k * 4 + 2, none⟩ = some (.int .i64 (r.head.place : Nat)) ∧ w'.cell? ⟨gb, k * 4, none⟩ = some (.string (str q.head.name)) ∧ w'.cell? ⟨gb, k * 4 + 1, none⟩ = some (.slice ya q.head.args.length yc) ∧ w'.cell? ⟨gb, k * 4 + 2, none⟩ = some (.int .i64 (q.head.place : Nat))) := by
        rintro wx ⟨n, rfl⟩
        refine (sameAtom_any pl r.head q.head _ _ B1 B2 _ HT.out.head (own_far HOA.out (fr_both HH1.out (fr_draws wr n none)) (by simp)) (own_far HOB.out (fr_both HH1.out (fr_draws wr n none)) (by simp)) (by omega)).mono ?_
        rintro e wz ⟨rfl, hg⟩
        have hg2 : wr.grownBy wz none := fr_both (fr_draws _ n _) hg
        exact ⟨rfl, hg2, grown_cell hg2 s10, grown_cell hg2 s11, grown_cell hg2 s12, grown_cell hg2 s13, grown_cell hg2 s14, grown_cell hg2 s15⟩
      go_wp2_with fail
      go_region_held3 (fun w' => w'.cell? ⟨ga, k * 4, none⟩ = some (.string (str r.head.name)) ∧ w'.cell? ⟨ga, k * 4 + 1, none⟩ = some (.slice xa r.head.args.length xc) ∧ w'.cell? ⟨ga, k * 4 + 2, none⟩ = some (.int .i64 (r.head.place : Nat)) ∧ w'.cell? ⟨gb, k * 4, none⟩ = some (.string (str q.head.name)) ∧ w'.cell? ⟨gb, k * 4 + 1, none⟩ = some (.slice ya q.head.args.length yc) ∧ w'.cell? ⟨gb, k * 4 + 2, none⟩ = some (.int .i64 (q.head.place : Nat))) (go_keep) (first | (go_at_call 21; refine (HC1.out _ ⟨_, rfl⟩).mono ?_; rintro e w2 ⟨rfl, HG2, k0, k1, k2, k3, k4, k5⟩))
      have HH2 : Hid (w.grownBy w2 none) := fr_both HH1.out HG2.out
      clear k0 k1 k2 k3 k4 k5 HC1 HG2 s10 s11 s12 s13 s14 s15
      have s20 := grown_cell HH2.out (HCA.out 3 _ rfl)
      have s21 := grown_cell HH2.out (HCB.out 3 _ rfl)
      have h12 := HS.out.2.1
      have HC2 : Hid (∀ wx : World, (∃ n, wx = w2.drewN n) → Calls Tryd.prog 11 #[.slice pa r.body.length pc, .slice qa q.body.length qc, .bool pl] wx fun e w' => e = .returned (.bool true) ∧ Hid (w2.grownBy w' none) ∧ w'.cell? ⟨ga, k * 4 + 3, none⟩ = some (.slice pa r.body.length pc) ∧ w'.cell? ⟨gb, k * 4 + 3, none⟩ = some (.slice qa q.body.length qc)) := by
        rintro wx ⟨n, rfl⟩
        refine (sameParts_any pl r.body q.body _ _ us vs B1 B2 _ HT.out.body (HPA.out.kept (fr_both HH2.out (fr_draws w2 n none)) (fun g e => by cases e)) (HPB.out.kept (fr_both HH2.out (fr_draws w2 n none)) (fun g e => by cases e)) (by omega) (fun p hp => by have := HS.out.2.2 p hp; omega)).mono ?_
        rintro e wz ⟨rfl, hg⟩
        have hg2 : w2.grownBy wz none := fr_both (fr_draws _ n _) hg
        exact ⟨rfl, hg2, grown_cell hg2 s20, grown_cell hg2 s21⟩
      go_wp2_with fail
      go_region_held3 (fun w' => w'.cell? ⟨ga, k * 4 + 3, none⟩ = some (.slice pa r.body.length pc) ∧ w'.cell? ⟨gb, k * 4 + 3, none⟩ = some (.slice qa q.body.length qc)) (go_keep) (first | (go_at_call 11; refine (HC2.out _ ⟨_, rfl⟩).mono ?_; rintro e w3 ⟨rfl, HG3, k0, k1⟩))
      have HH3 : Hid (w.grownBy w3 none) := fr_both HH2.out HG3.out
      clear k0 k1 HC2 HG3 s20 s21
      go_wp2_with fail
      go_roundw
      case rel => exact ⟨k + 1, by omega, by go_num, HH3⟩
      case measure => simp [intOf]; omega
    · go_wp2
      go_ret
      exact ⟨rfl, HH1.out⟩
end Go.Proofs.YtoelacloghkooaaDoor
