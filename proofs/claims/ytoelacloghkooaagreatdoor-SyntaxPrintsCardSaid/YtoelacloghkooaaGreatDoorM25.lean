import Derived.Test.YtoelacloghkooaaGreatDoorM24
import Derived.Test.YtoelacloghkooaaGreatDoorM19
import Derived.Test.YtoelacloghkooaaGreatDoorM02
import Derived.Test.YtoelacloghkooaaGreatDoorM05
/-
  The law's own words on rules: 'sameRules', walked.
-/
namespace Go.Proofs.YtoelacloghkooaaGreatDoor
open Go.ChangeShapes Go.WideShapes Go.ChangeAt Go.RowKit
set_option linter.unusedVariables false
/-- the same rule, with its places or without -/
structure SameR (pl : Bool) (r q : PRule) : Prop where
  head : SameA pl r.head q.head
  body : SamePs pl r.body q.body
theorem SameR.refl (pl : Bool) (r : PRule) : SameR pl r r := ⟨SameA.refl pl _, SamePs.refl pl _⟩
/-- the same rules -/
structure SameRs (pl : Bool) (rs qs : List PRule) : Prop where
  len : rs.length = qs.length
  rules : ∀ (i : Nat) (r q : PRule), rs[i]? = some r → qs[i]? = some q → SameR pl r q
theorem SameRs.refl (pl : Bool) (rs : List PRule) : SameRs pl rs rs := ⟨rfl, fun i r q h1 h2 => by rw [h1] at h2; cases h2; exact SameR.refl pl r⟩
theorem rulesV_at : ∀ (rs : List PRule) (hs bs : List Value) (k j : Nat) (r : PRule) (h b : Value), rs[k]? = some r → hs[k]? = some h → bs[k]? = some b → j < 4 → (rulesV rs hs bs)[k * 4 + j]? = (ruleV r h b)[j]? := by
  intro rs
  induction rs with
  | nil => intro hs bs k j r h b h1; simp at h1
  | cons x rs ih =>
    intro hs bs k j r h b h1 h2 h3 hj
    cases hs with
    | nil => simp at h2
    | cons y hs =>
      cases bs with
      | nil => simp at h3
      | cons z bs =>
        cases k with
        | zero => simp at h1 h2 h3; subst h1 h2 h3; simp only [rulesV, Nat.zero_mul, Nat.zero_add]; rw [List.getElem?_append_left (by simp [ruleV]; exact hj)]
        | succ k =>
          simp only [rulesV]
          rw [List.getElem?_append_right (by simp [ruleV]; omega), ← ih hs bs k j r h b (by simpa using h1) (by simpa using h2) (by simpa using h3) hj]
          congr 1
          simp [ruleV]; omega
theorem rulesV_len : ∀ (rs : List PRule) (hs bs : List Value), hs.length = rs.length → bs.length = rs.length → (rulesV rs hs bs).length = rs.length * 4 := by
  intro rs
  induction rs with
  | nil => intro hs bs h1 h2; cases hs <;> cases bs <;> simp [rulesV] at *
  | cons r rs ih => intro hs bs h1 h2; cases hs with
    | nil => simp at h1
    | cons y hs => cases bs with
      | nil => simp at h2
      | cons z bs => simp only [rulesV, List.length_append, List.length_cons]; rw [ih hs bs (by simpa using h1) (by simpa using h2)]; simp [ruleV]; omega
/-- where rules lie -/
theorem own_rules {tT tP tR : TypeId} {base : Nat} {w : World} {v : Value} {rs : List PRule} {hs bs : List Value} (h : RulesAt tT tP tR base w v rs hs bs) : (v = .slice none 0 0 ∧ rs = []) ∨ ∃ g cap, v = .slice (some ⟨g, 0, none⟩) rs.length cap ∧ base ≤ g ∧ g < w.heap.size ∧ (∀ k r a b, rs[k]? = some r → hs[k]? = some a → bs[k]? = some b → ∀ (j : Nat) (x : Value), (ruleV r a b)[j]? = some x → w.cell? ⟨g, k * 4 + j, none⟩ = some x) ∧ ∀ i, w.frozen? ⟨g, i, none⟩ = false := by
  rcases h.own.2 with ⟨rfl, h0⟩ | ⟨g, cap, cur, rfl, hb, hg, rest⟩
  · exact Or.inl ⟨rfl, List.eq_nil_of_length_eq_zero h0⟩
  · refine Or.inr ⟨g, cap, rfl, hb, (Array.getElem?_eq_some_iff.1 hg).1, fun k r a b hr ha hb j x hx => ?_, fun i => own_soft h.own i⟩
    have hj : j < 4 := by
      rcases Nat.lt_or_ge j 4 with h | h
      · exact h
      · rw [List.getElem?_eq_none (by simp [ruleV]; omega)] at hx; cases hx
    have := h.own.cells rfl (k * 4 + j) x (by rw [rulesV_at rs hs bs k j r a b hr ha hb hj]; exact hx)
    rw [add_zero] at this; exact this
set_option maxRecDepth 100000 in
set_option maxHeartbeats 4000000 in
theorem sameRules_any (pl : Bool) (rs qs : List PRule) (va vb : Value) (ha1 ha2 hb1 hb2 : List Value) (B1 B2 : Nat) (w : World) (h : SameRs pl rs qs) (ha : RulesAt 44 46 55 B1 w va rs ha1 ha2) (hb : RulesAt 101 103 64 B2 w vb qs hb1 hb2) (hl : rs.length ≤ 1073741824) (hsm : ∀ r ∈ rs, Small r) :
    Calls Tryz.prog 13 #[va, vb, .bool pl] w fun e w' => e = .returned (.bool true) ∧ w.grownBy w' none := by
  have HSM := hide hsm
  have HRS := hide h.rules
  have HA := hide ha
  have HB := hide hb
  have hlen := h.len
  obtain ⟨aa, ca, hva⟩ := own_form ha.own
  obtain ⟨ab, cb, hvb⟩ := own_form hb.own
  subst hva hvb
  clear ha hb h hsm
  rw [← hlen]
  have HNB : Hid (qs.length = rs.length) := hlen.symm
  rw [← hlen] at HB
  clear hlen
  go_enter Tryz.func13, Tryz.ntmps13
  go_wp2_with fail
  go_loopw [7] (fun iv wr => ∃ k : Nat, k ≤ rs.length ∧ iv = .int .i64 k ∧ Hid (w.grownBy wr none)) (fun iv _ => rs.length - (intOf iv).toNat)
  case atStart => exact ⟨0, by omega, rfl, fr_refl _ _⟩
  case round =>
    obtain ⟨k, hk, rfl, HH1⟩ := hrel
    by_cases hlt : k < rs.length
    · have hkq : k < qs.length := by have := HNB.out; omega
      have k1 : k < ha1.length := by have := HA.out.lh; omega
      have k2 : k < ha2.length := by have := HA.out.lb; omega
      have k3 : k < hb1.length := by have := HB.out.lh; omega
      have k4 : k < hb2.length := by have := HB.out.lb; omega
      have HT := hide (HRS.out k rs[k] qs[k] (List.getElem?_eq_getElem hlt) (List.getElem?_eq_getElem hkq))
      have HS := hide (HSM.out _ (List.getElem_mem hlt))
      have HOA := hide (HA.out.heads k rs[k] ha1[k] (List.getElem?_eq_getElem hlt) (List.getElem?_eq_getElem k1))
      have HOB := hide (HB.out.heads k qs[k] hb1[k] (List.getElem?_eq_getElem hkq) (List.getElem?_eq_getElem k3))
      obtain ⟨us, hpa⟩ := HA.out.bodies k rs[k] ha2[k] (List.getElem?_eq_getElem hlt) (List.getElem?_eq_getElem k2)
      obtain ⟨vs, hpb⟩ := HB.out.bodies k qs[k] hb2[k] (List.getElem?_eq_getElem hkq) (List.getElem?_eq_getElem k4)
      have HPA := hide hpa
      have HPB := hide hpb
      clear hpa hpb
      rcases own_rules HA.out with ⟨h0, h1⟩ | ⟨ga, ca', hva, -, -, hca, -⟩
      · rw [h1] at hlt; simp at hlt
      have hb' := HB.out
      rw [← HNB.out] at hb'
      rcases own_rules hb' with ⟨h0, h1⟩ | ⟨gb, cb', hvb, -, -, hcb, -⟩
      · rw [h1] at hkq; simp at hkq
      cases hva; cases hvb
      have HCA := hide (hca k rs[k] ha1[k] ha2[k] (List.getElem?_eq_getElem hlt) (List.getElem?_eq_getElem k1) (List.getElem?_eq_getElem k2))
      have HCB := hide (hcb k qs[k] hb1[k] hb2[k] (List.getElem?_eq_getElem hkq) (List.getElem?_eq_getElem k3) (List.getElem?_eq_getElem k4))
      clear hca hcb hb'
      obtain ⟨xa, xc, hxx⟩ := own_form HOA.out
      obtain ⟨ya, yc, hyy⟩ := own_form HOB.out
      obtain ⟨pa, pc, hpx⟩ := own_form HPA.out.own
      obtain ⟨qa, qc, hqx⟩ := own_form HPB.out.own
      rw [hxx] at HOA HCA
      rw [hyy] at HOB HCB
      rw [hpx] at HPA HCA
      rw [hqx] at HPB HCB
      clear hxx hyy hpx hqx
      obtain ⟨r, hr⟩ : ∃ r, r = rs[k] := ⟨_, rfl⟩
      obtain ⟨q, hq⟩ : ∃ q, q = qs[k] := ⟨_, rfl⟩
      rw [← hr] at HT HOA HCA HPA HS
      rw [← hq] at HT HOB HCB HPB
      clear hr hq hkq k1 k2 k3 k4
      have s10 := grown_cell HH1.out (HCA.out 0 _ rfl)
      have s11 := grown_cell HH1.out (HCA.out 1 _ rfl)
      have s12 := grown_cell HH1.out (HCA.out 2 _ rfl)
      have s13 := grown_cell HH1.out (HCB.out 0 _ rfl)
      have s14 := grown_cell HH1.out (HCB.out 1 _ rfl)
      have s15 := grown_cell HH1.out (HCB.out 2 _ rfl)
      simp only [Nat.add_zero] at s10 s13
      have h8 := HS.out.1
      have HC1 : Hid (∀ wx : World, (∃ n, wx = wr.drewN n) → Calls Tryz.prog 29 #[.agg #[.string (str r.head.name), .slice xa r.head.args.length xc, .int .i64 (r.head.place : Nat)], .agg #[.string (str q.head.name), .slice ya q.head.args.length yc, .int .i64 (q.head.place : Nat)], .bool pl] wx fun e w' => e = .returned (.bool true) ∧ Hid (wr.grownBy w' none) ∧ w'.cell? ⟨ga, k * 4, none⟩ = some (.string (str r.head.name)) ∧ w'.cell? ⟨ga, k * 4 + 1, none⟩ = some (.slice xa r.head.args.length xc) ∧ w'.cell? ⟨ga, k * 4 + 2, none⟩ = some (.int .i64 (r.head.place : Nat)) ∧ w'.cell? ⟨gb, k * 4, none⟩ = some (.string (str q.head.name)) ∧ w'.cell? ⟨gb, k * 4 + 1, none⟩ = some (.slice ya q.head.args.length yc) ∧ w'.cell? ⟨gb, k * 4 + 2, none⟩ = some (.int .i64 (q.head.place : Nat))) := by
        rintro wx ⟨n, rfl⟩
        refine (sameAtom_any pl r.head q.head _ _ B1 B2 _ HT.out.head (own_far HOA.out (fr_both HH1.out (fr_draws wr n none)) (by simp)) (own_far HOB.out (fr_both HH1.out (fr_draws wr n none)) (by simp)) (by omega)).mono ?_
        rintro e wz ⟨rfl, hg⟩
        have hg2 : wr.grownBy wz none := fr_both (fr_draws _ n _) hg
        exact ⟨rfl, hg2, grown_cell hg2 s10, grown_cell hg2 s11, grown_cell hg2 s12, grown_cell hg2 s13, grown_cell hg2 s14, grown_cell hg2 s15⟩
      go_wp2_with fail
      go_region_held3 (fun w' => w'.cell? ⟨ga, k * 4, none⟩ = some (.string (str r.head.name)) ∧ w'.cell? ⟨ga, k * 4 + 1, none⟩ = some (.slice xa r.head.args.length xc) ∧ w'.cell? ⟨ga, k * 4 + 2, none⟩ = some (.int .i64 (r.head.place : Nat)) ∧ w'.cell? ⟨gb, k * 4, none⟩ = some (.string (str q.head.name)) ∧ w'.cell? ⟨gb, k * 4 + 1, none⟩ = some (.slice ya q.head.args.length yc) ∧ w'.cell? ⟨gb, k * 4 + 2, none⟩ = some (.int .i64 (q.head.place : Nat))) (go_keep) (first | (go_at_call 29; refine (HC1.out _ ⟨_, rfl⟩).mono ?_; rintro e w2 ⟨rfl, HG2, k0, k1, k2, k3, k4, k5⟩))
      have HH2 : Hid (w.grownBy w2 none) := fr_both HH1.out HG2.out
      clear k0 k1 k2 k3 k4 k5 HC1 HG2 s10 s11 s12 s13 s14 s15
      have s20 := grown_cell HH2.out (HCA.out 3 _ rfl)
      have s21 := grown_cell HH2.out (HCB.out 3 _ rfl)
      have h12 := HS.out.2.1
      have HC2 : Hid (∀ wx : World, (∃ n, wx = w2.drewN n) → Calls Tryz.prog 30 #[.slice pa r.body.length pc, .slice qa q.body.length qc, .bool pl] wx fun e w' => e = .returned (.bool true) ∧ Hid (w2.grownBy w' none) ∧ w'.cell? ⟨ga, k * 4 + 3, none⟩ = some (.slice pa r.body.length pc) ∧ w'.cell? ⟨gb, k * 4 + 3, none⟩ = some (.slice qa q.body.length qc)) := by
        rintro wx ⟨n, rfl⟩
        refine (sameParts_any pl r.body q.body _ _ us vs B1 B2 _ HT.out.body (HPA.out.kept (fr_both HH2.out (fr_draws w2 n none)) (fun g e => by cases e)) (HPB.out.kept (fr_both HH2.out (fr_draws w2 n none)) (fun g e => by cases e)) (by omega) (fun p hp => by have := HS.out.2.2 p hp; omega)).mono ?_
        rintro e wz ⟨rfl, hg⟩
        have hg2 : w2.grownBy wz none := fr_both (fr_draws _ n _) hg
        exact ⟨rfl, hg2, grown_cell hg2 s20, grown_cell hg2 s21⟩
      go_wp2_with fail
      go_region_held3 (fun w' => w'.cell? ⟨ga, k * 4 + 3, none⟩ = some (.slice pa r.body.length pc) ∧ w'.cell? ⟨gb, k * 4 + 3, none⟩ = some (.slice qa q.body.length qc)) (go_keep) (first | (go_at_call 30; refine (HC2.out _ ⟨_, rfl⟩).mono ?_; rintro e w3 ⟨rfl, HG3, k0, k1⟩))
      have HH3 : Hid (w.grownBy w3 none) := fr_both HH2.out HG3.out
      clear k0 k1 HC2 HG3 s20 s21
      go_wp2_with fail
      go_roundw
      case rel => exact ⟨k + 1, by omega, by go_num, HH3⟩
      case measure => simp [intOf]; omega
    · go_wp2
      go_ret
      exact ⟨rfl, HH1.out⟩
end Go.Proofs.YtoelacloghkooaaGreatDoor

/-
  The program's printer: a rule.
-/
namespace Go.Proofs.YtoelacloghkooaaGreatDoor
open Go.ChangeShapes Go.WideShapes Go.ChangeAt Go.RowKit
set_option linter.unusedVariables false
theorem ruleText_has (r : PRule) (h : 0 < r.body.length) : ruleTextF r = atomTextF r.head ++ [32, 58, 45, 32] ++ commaF partTextF r.body ++ [46, 10] := by
  unfold ruleTextF; rw [if_neg (by omega)]; simp
theorem ruleText_bare (r : PRule) (h : r.body.length = 0) : ruleTextF r = atomTextF r.head ++ [46, 10] := by
  unfold ruleTextF; rw [if_pos h, List.append_nil]
set_option maxRecDepth 100000 in
set_option maxHeartbeats 4000000 in
theorem wrule_any (B b : Nat) (l : List UInt8) (r : PRule) (vh vb : Value) (us : List Value) (BT : Nat) (w : World) (h : PB B b l w) (hS : SignsAt w) (hh : w.ownsRow BT 44 3 vh r.head.args.length (termsV r.head.args)) (hb : PartsAt 44 46 BT w vb r.body us) (hwf : WfR r) (hl : l.length ≤ 34359738368) (hBw : B ≤ w.heap.size) (hgB : gTop ≤ B) :
    Calls Tryz.prog 17 #[.pointer (some ⟨b, 0, none⟩), .agg (ruleV r vh vb).toArray] w fun e w' => e = .returned (.tuple #[]) ∧ PB B b (l ++ ruleTextF r) w' ∧ PF B w w' := by
  have hmf : ∀ (fn : Fn) (first cap : Array Value) (w : World), (Instr.makeFunc fn first cap).run Tryz.prog w = .ok (.func fn first cap) w := fun _ _ _ _ => rfl
  have HPB := hide h
  have HS := hide hS
  have HHD := hide hh
  have HBD := hide hb
  have HWF := hide hwf
  have h12 := hwf.2.1
  obtain ⟨xa, xc, hxv⟩ := own_form hh
  obtain ⟨ya, yc, hyv⟩ := own_form hb.own
  subst hxv hyv
  have HAL := hide (atomText_len hwf.1)
  have HCL : Hid ((commaF partTextF r.body).length ≤ 39240) := hide (by have := comma_len partTextF 3268 r.body (fun x hx => partText_len (HWF.out.2.2 x hx)); omega)
  have HTH := hide (ruleText_has r)
  have HTB := hide (ruleText_bare r)
  clear h hS hh hb hwf
  obtain ⟨N, HN⟩ : ∃ N, Hid (r.body.length = N) := ⟨_, (rfl : _ = _)⟩
  unfold ruleV
  rw [HN.out] at h12 HTH HTB ⊢
  have HAT : Hid (∀ w' : World, PF B w w' → PB B b l w' → Calls Tryz.prog 39 #[.pointer (some ⟨b, 0, none⟩), .agg #[.string (str r.head.name), .slice xa r.head.args.length xc, .int .i64 (r.head.place : Nat)]] w' fun e w'' => e = .returned (.tuple #[]) ∧ PB B b (l ++ atomTextF r.head) w'' ∧ PF B w' w'') := by
    intro w' hp hbb
    exact watom_any B b l r.head _ BT w' hbb (PF.own HHD.out hp (by decide) (by decide)) HWF.out.1 (by omega) (Nat.le_trans hBw hp.below.size)
  go_enter Tryz.func17, Tryz.ntmps17
  go_wp2_with fail
  generalize hw1 : World.alloc _ _ = w1
  have HG1 : Hid (w.grownBy w1 none) := by rw [← hw1]; exact fr_alloc _ _ _
  have HC1 : Hid (w1.cell? ⟨w.heap.size, 3, none⟩ = some (.slice ya N yc)) := by show _ = _; rw [← hw1]; simp
  have HK1 : Hid (Kind w1 w.heap.size 55) := by rw [← hw1]; exact ⟨_, _, heap_alloc_new w _⟩
  clear hw1
  have hB1 : B ≤ w1.heap.size := Nat.le_trans hBw HG1.out.size
  refine (HAT.out w1 (PF.fresh HG1.out hBw) (HPB.out.kept HG1.out)).mono ?_
  rintro e w2 ⟨rfl, h2, hp2⟩
  have H2 := hide h2
  have HP2 := hide hp2
  have hB2 : B ≤ w2.heap.size := Nat.le_trans hB1 hp2.below.size
  have c3 := hp2.cell HK1.out (by decide) (by decide) HC1.out
  have hal := HAL.out
  clear h2 hp2 HAT
  by_cases h0 : N = 0
  · have HE := hide (HTB.out h0)
    have hN0 : decide (0 < N) = false := by simp [h0]
    clear h0
    go_wp2_with fail
    refine (pwrite_any B b (l ++ atomTextF r.head) (str [46, 10]) w2 H2.out (by rw [str_size, List.length_append]; simp; omega) hB2).mono ?_
    rintro e w3 ⟨rfl, h3, hp3⟩
    rw [data_str] at h3
    have H3 : Hid (PB B b (l ++ ruleTextF r) w3) := by rw [HE.out, ← List.append_assoc]; exact h3
    have HP3 := hide (HP2.out.trans hp3)
    clear h3 hp3
    go_wp2
    go_end0
    exact ⟨rfl, H3.out, (PF.fresh HG1.out hBw).trans HP3.out⟩
  · have hpos : 0 < N := by omega
    have HE := hide (HTH.out hpos)
    clear h0
    go_wp2_with fail
    refine (pwrite_any B b (l ++ atomTextF r.head) (str [32, 58, 45, 32]) w2 H2.out (by rw [str_size, List.length_append]; simp; omega) hB2).mono ?_
    rintro e w3 ⟨rfl, h3, hp3⟩
    rw [data_str] at h3
    have H3 := hide h3
    have HP3 := hide (HP2.out.trans hp3)
    have hB3 : B ≤ w3.heap.size := Nat.le_trans hB1 HP3.out.below.size
    clear c3 h3 hp3
    have c3 := HP3.out.cell HK1.out (by decide) (by decide) HC1.out
    have HLS : Hid (Calls Tryz.prog 41 #[.pointer (some ⟨b, 0, none⟩), .slice ya N yc, .func (.func 42) #[.pointer (some ⟨b, 0, none⟩)] #[]] w3 fun e w' => e = .returned (.tuple #[]) ∧ PB B b (l ++ atomTextF r.head ++ [32, 58, 45, 32] ++ commaF partTextF r.body) w' ∧ PF B w3 w') := by
      have hg := (PF.fresh HG1.out hBw).trans HP3.out
      have := wlistP_any B b (l ++ atomTextF r.head ++ [32, 58, 45, 32]) r.body (.slice ya r.body.length yc) us BT w3 H3.out (HS.out.pf hg hgB) (HBD.out.pf hg) HWF.out.2.2 (by rw [HN.out]; exact h12) (by simp only [List.length_append, List.length_cons, List.length_nil]; omega) hB3 hgB
      rw [HN.out] at this
      exact this
    go_wp2_with fail
    refine HLS.out.mono ?_
    rintro e w4 ⟨rfl, h4, hp4⟩
    have H4 := hide h4
    have HP4 := hide (HP3.out.trans hp4)
    have hB4 : B ≤ w4.heap.size := Nat.le_trans hB1 HP4.out.below.size
    have hcl := HCL.out
    clear h4 hp4 HLS c3
    go_wp2_with fail
    refine (pwrite_any B b (l ++ atomTextF r.head ++ [32, 58, 45, 32] ++ commaF partTextF r.body) (str [46, 10]) w4 H4.out (by rw [str_size]; simp only [List.length_append, List.length_cons, List.length_nil]; omega) hB4).mono ?_
    rintro e w5 ⟨rfl, h5, hp5⟩
    rw [data_str] at h5
    have H5 : Hid (PB B b (l ++ ruleTextF r) w5) := by rw [HE.out, ← List.append_assoc, ← List.append_assoc, ← List.append_assoc]; exact h5
    have HP5 := hide (HP4.out.trans hp5)
    clear h5 hp5
    go_wp2
    go_end0
    exact ⟨rfl, H5.out, (PF.fresh HG1.out hBw).trans HP5.out⟩
end Go.Proofs.YtoelacloghkooaaGreatDoor

/-
  The document's Constant, walked.
-/
namespace Go.Proofs.YtoelacloghkooaaGreatDoor
open Go.ChangeShapes Go.WideShapes Go.ChangeAt Go.RowKit
set_option linter.unusedVariables false
theorem dig_nonot {l : List UInt8} (h : isDigB l = true) : l ≠ [110, 111, 116] := by rintro rfl; revert h; decide
theorem kind_dig {l : List UInt8} (h : isName l = false) : decide (wordKindF l = 3) = isDigB l := by
  unfold wordKindF
  cases hd : isDigB l with
  | true => rw [if_neg (dig_nonot hd), h, dig_novar hd]; rfl
  | false => split <;> (try split) <;> (try split) <;> simp_all
theorem app_one {w wr w4 : World} {o v4 : Value} {out : List UInt8} {ob : Obj} {c : UInt8} (HO : wr.ownsRow w.heap.size 5 1 o out.length (bs out)) (HG : w.grownBy wr none)
    (hown : w4.ownsRow w.heap.size 5 1 v4 (out.length + 1) (bs out ++ [.int .u8 (c.toNat : Int)])) (hg : (wr.alloc ob).grownBy w4 o.ownBlock) :
    w4.ownsRow w.heap.size 5 1 v4 (out ++ [c]).length (bs (out ++ [c])) ∧ w.grownBy w4 none := by
  refine ⟨?_, fr_own (fr_both HG (fr_alloc wr ob _)) (HO.alloc ob) (Nat.le_refl _) hg⟩
  rw [bs_snoc] at hown
  rw [List.length_append]; exact hown
theorem esc_step (s : ByteArray) (k : Nat) (h : k < s.size) : escF (s.data.toList.take (k + 1)) = escF (s.data.toList.take k) ++ escB s[k] := by
  rw [List.take_succ_eq_append_getElem (by simpa using h), escF_snoc]; rfl
theorem esc_lim (s : ByteArray) (k : Nat) : (escF (s.data.toList.take k)).length ≤ 2 * s.size := by
  have := escF_len (s.data.toList.take k)
  rw [List.length_take] at this
  have h2 : s.data.toList.length = s.size := by simp
  omega
set_option maxRecDepth 100000 in
set_option maxHeartbeats 4000000 in
/-- the loop's own part, and what is behind it -/
theorem rconst_any (s : ByteArray) (w : World) (hs : s.size ≤ 1073741824) :
    Calls Tryz.prog 16 #[.string s] w fun e w' => e = .returned (.string (str (constF s.data.toList))) ∧ w.grownBy w' none := by
  obtain ⟨i0, hi0, hz0, hz1, hz2⟩ := info_parts info5
  have HCF : Hid (constF s.data.toList = if isName s.data.toList || isDigB s.data.toList then s.data.toList else [34] ++ escF s.data.toList ++ [34]) := (rfl : _ = _)
  obtain ⟨N, HN⟩ : ∃ N, Hid (isName s.data.toList = N) := ⟨_, (rfl : _ = _)⟩
  obtain ⟨D, HD⟩ : ∃ D, Hid (isDigB s.data.toList = D) := ⟨_, (rfl : _ = _)⟩
  rw [HN.out, HD.out] at HCF
  go_enter Tryz.func16, Tryz.ntmps16
  go_wp2_with fail
  refine (risname_any s _ (by omega)).mono ?_
  rintro e w1 ⟨rfl, rfl⟩
  rw [HN.out]
  cases N with
  | true =>
    go_wp2
    go_ret
    exact ⟨ret_str (by rw [HCF.out]; simp [str_data]), fr_refl _ _⟩
  | false =>
    by_cases h0 : s.size = 0
    · have HD0 : Hid (D = false) := by
        have hs0 : s = { data := #[] } := by apply ByteArray.ext; apply Array.eq_empty_of_size_eq_zero; exact h0
        show _ = _; rw [← HD.out, hs0]; rfl
      have hD0 := HD0.out
      subst hD0
      have hne2 : s.toList = [] := by
        rw [toList_of]; apply List.eq_nil_of_length_eq_zero; rw [Array.length_toList]; exact h0
      have h3 : (s.toList != ([] : List UInt8)) = false := by rw [hne2]; rfl
      have hne : s.toList.isEmpty = true := by rw [hne2]; rfl
      clear hne2 HD0
      have HO0 : Hid (w.ownsRow w.heap.size 5 1 (.slice none 0 0) ([] : List UInt8).length (bs [])) := World.ownsRow_nil _ _ _ _
      have HG0 : Hid (w.grownBy w none) := fr_refl _ _
      go_wp2_with (at_builtin; refine wpList_append_own _ rfl _ _ 49 rfl w.heap.size 5 i0 (.int .u8 0) 1 1 Tryz.underlying49 hi0 hz0 hz1 hz2 rfl (by decide) _ _ _ rfl (HO0.out.alloc _) ⟨w.heap.size, 0, none⟩ 1 1 [.int .u8 ((34 : UInt8).toNat : Int)] rfl rfl ?c1 ?c2 ?c3 ?c4 ?c5 ?_)
      case c1 =>
        intro j' u hj'
        match j', hj' with
        | 0, hj' => simp at hj'; subst hj'; exact World.cell?_alloc_at _ _ _ _ rfl
      case c2 => intro u hu; simp at hu; subst hu; rfl
      case c3 => unfold maxLen; simp
      case c4 => simp
      case c5 => have := HG0.out.size; first | omega | (simp; done) | (simp; omega)
      intro v4 w4 hown4 hg4 _
      obtain ⟨a4, p4, rfl⟩ := own_form hown4
      obtain ⟨O4, G4⟩ := app_one (c := 34) HO0.out HG0.out hown4 hg4
      have HO4 := hide O4
      have HG4 := hide G4
      clear O4 G4 hown4 hg4
      simp only [List.nil_append] at HO4 ⊢
      obtain ⟨O, HOO⟩ : ∃ O : Nat → List UInt8, Hid (O = fun k => [34] ++ escF (s.data.toList.take k)) := ⟨fun k => [34] ++ escF (s.data.toList.take k), hide rfl⟩
      have HOL : Hid (∀ k, (O k).length ≤ 1 + 2 * s.size) := fun k => by rw [HOO.out]; have := esc_lim s k; simp only [List.length_append, List.length_cons, List.length_nil]; omega
      have HOS : Hid (∀ k (h : k < s.size), O (k + 1) = O k ++ escB s[k]) := fun k h => by rw [HOO.out]; simp only []; rw [esc_step s k h, List.append_assoc]
      go_wp2_with fail
      go_loopw [4, 5, 6] (fun o iv cv wr => ∃ k : Nat, k ≤ s.size ∧ iv = .int .i64 k ∧ Hid (wr.ownsRow w.heap.size 5 1 o (O k).length (bs (O k))) ∧ Hid (w.grownBy wr none)) (fun _ iv _ _ => s.size - (intOf iv).toNat)
      case atStart => exact ⟨0, by omega, rfl, by rw [HOO.out]; exact HO4.out, HG4⟩
      case round =>
        obtain ⟨k, hk, rfl, HO, HG⟩ := hrel
        obtain ⟨va, vc, rfl⟩ := own_form HO.out
        obtain ⟨ok, HOK⟩ : ∃ ok, Hid (O k = ok) := ⟨_, (rfl : _ = _)⟩
        have hol : ok.length ≤ 1 + 2 * s.size := by rw [← HOK.out]; exact HOL.out k
        rw [HOK.out] at HO ⊢
        clear HO4 HG4
        by_cases hlt : k < s.size
        · exfalso; omega
        · have HE : Hid (str (constF s.data.toList) = str (ok ++ [34])) := by
            show _ = _
            rw [HCF.out, ← HOK.out, HOO.out]
            simp only [Bool.or_self, Bool.false_eq_true, if_false]
            rw [List.take_of_length_le (by simp; omega)]
          go_wp2_with (at_builtin; refine wpList_append_own _ rfl _ _ 49 rfl w.heap.size 5 i0 (.int .u8 0) 1 1 Tryz.underlying49 hi0 hz0 hz1 hz2 rfl (by decide) _ _ _ rfl (HO.out.alloc _) ⟨wr.heap.size, 0, none⟩ 1 1 [.int .u8 ((34 : UInt8).toNat : Int)] rfl rfl ?c1 ?c2 ?c3 ?c4 ?c5 ?_)
          case c1 =>
            intro j' u hj'
            match j', hj' with
            | 0, hj' => simp at hj'; subst hj'; exact World.cell?_alloc_at _ _ _ _ rfl
          case c2 => intro u hu; simp at hu; subst hu; rfl
          case c3 => unfold maxLen; omega
          case c4 => omega
          case c5 => have := HG.out.size; first | omega | (simp; done) | (simp; omega)
          intro v5 w5 hown4 hg4 _
          obtain ⟨a5, p5, rfl⟩ := own_form hown4
          obtain ⟨O4, G4⟩ := app_one (c := 34) HO.out HG.out hown4 hg4
          have HO5 := hide O4
          have HG5 := hide G4
          clear O4 G4 hown4 hg4
          have hcv := own_string HO5.out
          go_wp2
          go_ret
          exact ⟨ret_str HE.out.symm, HG5.out⟩
    · have hpos : 0 < s.size := by omega
      have hne2 : ¬ s.toList = [] := by
        rw [toList_of]; intro g
        have := congrArg List.length g
        rw [List.length_nil, Array.length_toList] at this
        have h2 : s.size = 0 := this
        omega
      have hne : s.toList.isEmpty = false := by
        cases h : s.toList with
        | nil => exact absurd h hne2
        | cons a l => rfl
      have HKD := hide (kind_dig HN.out)
      rw [HD.out] at HKD
      clear h0
      go_wp2_with fail
      refine (rkind_any s _ hpos (by omega)).mono ?_
      rintro e w2 ⟨rfl, rfl⟩
      cases D with
      | true =>
        have hk3 : wordKindF s.data.toList = 3 := of_decide_eq_true HKD.out
        rw [hk3]
        clear hk3
        go_wp2
        go_ret
        exact ⟨ret_str (by rw [HCF.out]; simp [str_data]), fr_refl _ _⟩
      | false =>
        have hk3 : (((wordKindF s.data.toList : Nat) : Int) == 3) = false := by have := of_decide_eq_false HKD.out; rw [beq_eq_false_iff_ne]; omega
        generalize wordKindF s.data.toList = K at *
        clear HKD
        have HO0 : Hid (w.ownsRow w.heap.size 5 1 (.slice none 0 0) ([] : List UInt8).length (bs [])) := World.ownsRow_nil _ _ _ _
        have HG0 : Hid (w.grownBy w none) := fr_refl _ _
        go_wp2_with (at_builtin; refine wpList_append_own _ rfl _ _ 49 rfl w.heap.size 5 i0 (.int .u8 0) 1 1 Tryz.underlying49 hi0 hz0 hz1 hz2 rfl (by decide) _ _ _ rfl (HO0.out.alloc _) ⟨w.heap.size, 0, none⟩ 1 1 [.int .u8 ((34 : UInt8).toNat : Int)] rfl rfl ?c1 ?c2 ?c3 ?c4 ?c5 ?_)
        case c1 =>
          intro j' u hj'
          match j', hj' with
          | 0, hj' => simp at hj'; subst hj'; exact World.cell?_alloc_at _ _ _ _ rfl
        case c2 => intro u hu; simp at hu; subst hu; rfl
        case c3 => unfold maxLen; simp
        case c4 => simp
        case c5 => have := HG0.out.size; first | omega | (simp; done) | (simp; omega)
        intro v4 w4 hown4 hg4 _
        obtain ⟨a4, p4, rfl⟩ := own_form hown4
        obtain ⟨O4, G4⟩ := app_one (c := 34) HO0.out HG0.out hown4 hg4
        have HO4 := hide O4
        have HG4 := hide G4
        clear O4 G4 hown4 hg4
        simp only [List.nil_append] at HO4 ⊢
        obtain ⟨O, HOO⟩ : ∃ O : Nat → List UInt8, Hid (O = fun k => [34] ++ escF (s.data.toList.take k)) := ⟨fun k => [34] ++ escF (s.data.toList.take k), hide rfl⟩
        have HOL : Hid (∀ k, (O k).length ≤ 1 + 2 * s.size) := fun k => by rw [HOO.out]; have := esc_lim s k; simp only [List.length_append, List.length_cons, List.length_nil]; omega
        have HOS : Hid (∀ k (h : k < s.size), O (k + 1) = O k ++ escB s[k]) := fun k h => by rw [HOO.out]; simp only []; rw [esc_step s k h, List.append_assoc]
        go_wp2_with fail
        go_loopw [4, 5, 6] (fun o iv cv wr => ∃ k : Nat, k ≤ s.size ∧ iv = .int .i64 k ∧ Hid (wr.ownsRow w.heap.size 5 1 o (O k).length (bs (O k))) ∧ Hid (w.grownBy wr none)) (fun _ iv _ _ => s.size - (intOf iv).toNat)
        case atStart => exact ⟨0, by omega, rfl, by rw [HOO.out]; exact HO4.out, HG4⟩
        case round =>
          obtain ⟨k, hk, rfl, HO, HG⟩ := hrel
          obtain ⟨va, vc, rfl⟩ := own_form HO.out
          obtain ⟨ok, HOK⟩ : ∃ ok, Hid (O k = ok) := ⟨_, (rfl : _ = _)⟩
          have hol : ok.length ≤ 1 + 2 * s.size := by rw [← HOK.out]; exact HOL.out k
          rw [HOK.out] at HO ⊢
          clear HO4 HG4
          by_cases hlt : k < s.size
          · have hc := byte_le s[k]

            have HSTEP : Hid (O (k + 1) = ok ++ escB s[k]) := by show _ = _; rw [HOS.out k hlt, HOK.out]
            by_cases h34 : s[k].toNat = 34
            · have HE : Hid (O (k + 1) = (ok ++ [92]) ++ [s[k]]) := by
                show _ = _
                rw [HSTEP.out, show s[k] = 34 from UInt8.toNat_inj.1 h34]
                simp [escB]
              have e34 : ((s[k].toNat : Int) == 34) = true := by rw [h34]; rfl
              have e92 : ((s[k].toNat : Int) == 92) = false := by rw [h34]; rfl
              have e10 : ((s[k].toNat : Int) == 10) = false := by rw [h34]; rfl
              clear h34
              go_wp2_with (at_builtin; refine wpList_append_own _ rfl _ _ 49 rfl w.heap.size 5 i0 (.int .u8 0) 1 1 Tryz.underlying49 hi0 hz0 hz1 hz2 rfl (by decide) _ _ _ rfl (HO.out.alloc _) ⟨wr.heap.size, 0, none⟩ 1 1 [.int .u8 ((92 : UInt8).toNat : Int)] rfl rfl ?c1 ?c2 ?c3 ?c4 ?c5 ?_)
              case c1 =>
                intro j' u hj'
                match j', hj' with
                | 0, hj' => simp at hj'; subst hj'; exact World.cell?_alloc_at _ _ _ _ rfl
              case c2 => intro u hu; simp at hu; subst hu; rfl
              case c3 => unfold maxLen; omega
              case c4 => omega
              case c5 => have := HG.out.size; first | omega | (simp; done) | (simp; omega)
              intro v5 w5 hown4 hg4 _
              obtain ⟨a5, p5, rfl⟩ := own_form hown4
              obtain ⟨O4, G4⟩ := app_one (c := 92) HO.out HG.out hown4 hg4
              have HO5 := hide O4
              have HG5 := hide G4
              clear O4 G4 hown4 hg4
              have hol5 : (ok ++ [92]).length ≤ 2 + 2 * s.size := by simp; omega
              generalize ok ++ [92] = ok5 at *
              go_wp2_with (at_builtin; refine wpList_append_own _ rfl _ _ 49 rfl w.heap.size 5 i0 (.int .u8 0) 1 1 Tryz.underlying49 hi0 hz0 hz1 hz2 rfl (by decide) _ _ _ rfl (HO5.out.alloc _) ⟨w5.heap.size, 0, none⟩ 1 1 [.int .u8 ((s[k] : UInt8).toNat : Int)] rfl rfl ?c1 ?c2 ?c3 ?c4 ?c5 ?_)
              case c1 =>
                intro j' u hj'
                match j', hj' with
                | 0, hj' => simp at hj'; subst hj'; exact World.cell?_alloc_at _ _ _ _ rfl
              case c2 => intro u hu; simp at hu; subst hu; rfl
              case c3 => unfold maxLen; omega
              case c4 => omega
              case c5 => have := HG5.out.size; first | omega | (simp; done) | (simp; omega)
              intro v6 w6 hown4 hg4 _
              obtain ⟨a6, p6, rfl⟩ := own_form hown4
              obtain ⟨O4, G4⟩ := app_one (c := s[k]) HO5.out HG5.out hown4 hg4
              have HO6 := hide O4
              have HG6 := hide G4
              clear O4 G4 hown4 hg4
              go_wp2
              go_roundw
              case rel => exact ⟨k + 1, by omega, by go_num, by rw [HE.out]; exact HO6.out, HG6⟩
              case measure => simp [intOf]; omega
            by_cases h92 : s[k].toNat = 92
            · have HE : Hid (O (k + 1) = (ok ++ [92]) ++ [s[k]]) := by
                show _ = _
                rw [HSTEP.out, show s[k] = 92 from UInt8.toNat_inj.1 h92]
                simp [escB]
              have e34 : ((s[k].toNat : Int) == 34) = false := by rw [h92]; rfl
              have e92 : ((s[k].toNat : Int) == 92) = true := by rw [h92]; rfl
              have e10 : ((s[k].toNat : Int) == 10) = false := by rw [h92]; rfl
              clear h92
              go_wp2_with (at_builtin; refine wpList_append_own _ rfl _ _ 49 rfl w.heap.size 5 i0 (.int .u8 0) 1 1 Tryz.underlying49 hi0 hz0 hz1 hz2 rfl (by decide) _ _ _ rfl (HO.out.alloc _) ⟨wr.heap.size, 0, none⟩ 1 1 [.int .u8 ((92 : UInt8).toNat : Int)] rfl rfl ?c1 ?c2 ?c3 ?c4 ?c5 ?_)
              case c1 =>
                intro j' u hj'
                match j', hj' with
                | 0, hj' => simp at hj'; subst hj'; exact World.cell?_alloc_at _ _ _ _ rfl
              case c2 => intro u hu; simp at hu; subst hu; rfl
              case c3 => unfold maxLen; omega
              case c4 => omega
              case c5 => have := HG.out.size; first | omega | (simp; done) | (simp; omega)
              intro v5 w5 hown4 hg4 _
              obtain ⟨a5, p5, rfl⟩ := own_form hown4
              obtain ⟨O4, G4⟩ := app_one (c := 92) HO.out HG.out hown4 hg4
              have HO5 := hide O4
              have HG5 := hide G4
              clear O4 G4 hown4 hg4
              have hol5 : (ok ++ [92]).length ≤ 2 + 2 * s.size := by simp; omega
              generalize ok ++ [92] = ok5 at *
              go_wp2_with (at_builtin; refine wpList_append_own _ rfl _ _ 49 rfl w.heap.size 5 i0 (.int .u8 0) 1 1 Tryz.underlying49 hi0 hz0 hz1 hz2 rfl (by decide) _ _ _ rfl (HO5.out.alloc _) ⟨w5.heap.size, 0, none⟩ 1 1 [.int .u8 ((s[k] : UInt8).toNat : Int)] rfl rfl ?c1 ?c2 ?c3 ?c4 ?c5 ?_)
              case c1 =>
                intro j' u hj'
                match j', hj' with
                | 0, hj' => simp at hj'; subst hj'; exact World.cell?_alloc_at _ _ _ _ rfl
              case c2 => intro u hu; simp at hu; subst hu; rfl
              case c3 => unfold maxLen; omega
              case c4 => omega
              case c5 => have := HG5.out.size; first | omega | (simp; done) | (simp; omega)
              intro v6 w6 hown4 hg4 _
              obtain ⟨a6, p6, rfl⟩ := own_form hown4
              obtain ⟨O4, G4⟩ := app_one (c := s[k]) HO5.out HG5.out hown4 hg4
              have HO6 := hide O4
              have HG6 := hide G4
              clear O4 G4 hown4 hg4
              go_wp2
              go_roundw
              case rel => exact ⟨k + 1, by omega, by go_num, by rw [HE.out]; exact HO6.out, HG6⟩
              case measure => simp [intOf]; omega
            by_cases h10 : s[k].toNat = 10
            · have HE : Hid (O (k + 1) = (ok ++ [92]) ++ [110]) := by
                show _ = _
                rw [HSTEP.out, show s[k] = 10 from UInt8.toNat_inj.1 h10]
                simp [escB]
              have e34 : ((s[k].toNat : Int) == 34) = false := by rw [h10]; rfl
              have e92 : ((s[k].toNat : Int) == 92) = false := by rw [h10]; rfl
              have e10 : ((s[k].toNat : Int) == 10) = true := by rw [h10]; rfl
              clear h10
              go_wp2_with (at_builtin; refine wpList_append_own _ rfl _ _ 49 rfl w.heap.size 5 i0 (.int .u8 0) 1 1 Tryz.underlying49 hi0 hz0 hz1 hz2 rfl (by decide) _ _ _ rfl (HO.out.alloc _) ⟨wr.heap.size, 0, none⟩ 1 1 [.int .u8 ((92 : UInt8).toNat : Int)] rfl rfl ?c1 ?c2 ?c3 ?c4 ?c5 ?_)
              case c1 =>
                intro j' u hj'
                match j', hj' with
                | 0, hj' => simp at hj'; subst hj'; exact World.cell?_alloc_at _ _ _ _ rfl
              case c2 => intro u hu; simp at hu; subst hu; rfl
              case c3 => unfold maxLen; omega
              case c4 => omega
              case c5 => have := HG.out.size; first | omega | (simp; done) | (simp; omega)
              intro v5 w5 hown4 hg4 _
              obtain ⟨a5, p5, rfl⟩ := own_form hown4
              obtain ⟨O4, G4⟩ := app_one (c := 92) HO.out HG.out hown4 hg4
              have HO5 := hide O4
              have HG5 := hide G4
              clear O4 G4 hown4 hg4
              have hol5 : (ok ++ [92]).length ≤ 2 + 2 * s.size := by simp; omega
              generalize ok ++ [92] = ok5 at *
              go_wp2_with (at_builtin; refine wpList_append_own _ rfl _ _ 49 rfl w.heap.size 5 i0 (.int .u8 0) 1 1 Tryz.underlying49 hi0 hz0 hz1 hz2 rfl (by decide) _ _ _ rfl (HO5.out.alloc _) ⟨w5.heap.size, 0, none⟩ 1 1 [.int .u8 ((110 : UInt8).toNat : Int)] rfl rfl ?c1 ?c2 ?c3 ?c4 ?c5 ?_)
              case c1 =>
                intro j' u hj'
                match j', hj' with
                | 0, hj' => simp at hj'; subst hj'; exact World.cell?_alloc_at _ _ _ _ rfl
              case c2 => intro u hu; simp at hu; subst hu; rfl
              case c3 => unfold maxLen; omega
              case c4 => omega
              case c5 => have := HG5.out.size; first | omega | (simp; done) | (simp; omega)
              intro v6 w6 hown4 hg4 _
              obtain ⟨a6, p6, rfl⟩ := own_form hown4
              obtain ⟨O4, G4⟩ := app_one (c := 110) HO5.out HG5.out hown4 hg4
              have HO6 := hide O4
              have HG6 := hide G4
              clear O4 G4 hown4 hg4
              go_wp2
              go_roundw
              case rel => exact ⟨k + 1, by omega, by go_num, by rw [HE.out]; exact HO6.out, HG6⟩
              case measure => simp [intOf]; omega
            have HE : Hid (O (k + 1) = ok ++ [s[k]]) := by
              show _ = _
              rw [HSTEP.out]
              unfold escB
              rw [if_neg (fun h => h34 (by rw [h]; rfl)), if_neg (fun h => h92 (by rw [h]; rfl)), if_neg (fun h => h10 (by rw [h]; rfl))]
            have e34 : ((s[k].toNat : Int) == 34) = false := by rw [beq_eq_false_iff_ne]; omega
            have e92 : ((s[k].toNat : Int) == 92) = false := by rw [beq_eq_false_iff_ne]; omega
            have e10 : ((s[k].toNat : Int) == 10) = false := by rw [beq_eq_false_iff_ne]; omega
            clear h34 h92 h10
            go_wp2_with (at_builtin; refine wpList_append_own _ rfl _ _ 49 rfl w.heap.size 5 i0 (.int .u8 0) 1 1 Tryz.underlying49 hi0 hz0 hz1 hz2 rfl (by decide) _ _ _ rfl (HO.out.alloc _) ⟨wr.heap.size, 0, none⟩ 1 1 [.int .u8 ((s[k] : UInt8).toNat : Int)] rfl rfl ?c1 ?c2 ?c3 ?c4 ?c5 ?_)
            case c1 =>
              intro j' u hj'
              match j', hj' with
              | 0, hj' => simp at hj'; subst hj'; exact World.cell?_alloc_at _ _ _ _ rfl
            case c2 => intro u hu; simp at hu; subst hu; rfl
            case c3 => unfold maxLen; omega
            case c4 => omega
            case c5 => have := HG.out.size; first | omega | (simp; done) | (simp; omega)
            intro v5 w5 hown4 hg4 _
            obtain ⟨a5, p5, rfl⟩ := own_form hown4
            obtain ⟨O4, G4⟩ := app_one (c := s[k]) HO.out HG.out hown4 hg4
            have HO5 := hide O4
            have HG5 := hide G4
            clear O4 G4 hown4 hg4
            go_wp2
            go_roundw
            case rel => exact ⟨k + 1, by omega, by go_num, by rw [HE.out]; exact HO5.out, HG5⟩
            case measure => simp [intOf]; omega
          · have HE : Hid (str (constF s.data.toList) = str (ok ++ [34])) := by
              show _ = _
              rw [HCF.out, ← HOK.out, HOO.out]
              simp only [Bool.or_self, Bool.false_eq_true, if_false]
              rw [List.take_of_length_le (by simp; omega)]
            go_wp2_with (at_builtin; refine wpList_append_own _ rfl _ _ 49 rfl w.heap.size 5 i0 (.int .u8 0) 1 1 Tryz.underlying49 hi0 hz0 hz1 hz2 rfl (by decide) _ _ _ rfl (HO.out.alloc _) ⟨wr.heap.size, 0, none⟩ 1 1 [.int .u8 ((34 : UInt8).toNat : Int)] rfl rfl ?c1 ?c2 ?c3 ?c4 ?c5 ?_)
            case c1 =>
              intro j' u hj'
              match j', hj' with
              | 0, hj' => simp at hj'; subst hj'; exact World.cell?_alloc_at _ _ _ _ rfl
            case c2 => intro u hu; simp at hu; subst hu; rfl
            case c3 => unfold maxLen; omega
            case c4 => omega
            case c5 => have := HG.out.size; first | omega | (simp; done) | (simp; omega)
            intro v5 w5 hown4 hg4 _
            obtain ⟨a5, p5, rfl⟩ := own_form hown4
            obtain ⟨O4, G4⟩ := app_one (c := 34) HO.out HG.out hown4 hg4
            have HO5 := hide O4
            have HG5 := hide G4
            clear O4 G4 hown4 hg4
            have hcv := own_string HO5.out
            go_wp2
            go_ret
            exact ⟨ret_str HE.out.symm, HG5.out⟩
end Go.Proofs.YtoelacloghkooaaGreatDoor
