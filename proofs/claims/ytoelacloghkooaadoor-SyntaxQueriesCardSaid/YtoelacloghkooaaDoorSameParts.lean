/-
  The law's own words on parts: 'sameParts', walked.
-/
import Derived.Test.YtoelacloghkooaaDoorSameAtom
namespace Go.Proofs.YtoelacloghkooaaDoor
open Go.ChangeShapes Go.WideShapes Go.ChangeAt Go.RowKit
set_option linter.unusedVariables false
/-- the same part, with its places or without -/
structure SameP (pl : Bool) (p q : PPart) : Prop where
  kind : p.kind = q.kind
  atom : SameA pl p.atom q.atom
  left : SameT pl p.left q.left
  right : SameT pl p.right q.right
theorem SameP.refl (pl : Bool) (p : PPart) : SameP pl p p := ⟨rfl, SameA.refl pl _, SameT.refl pl _, SameT.refl pl _⟩
/-- the same parts -/
structure SamePs (pl : Bool) (ps qs : List PPart) : Prop where
  len : ps.length = qs.length
  parts : ∀ (i : Nat) (p q : PPart), ps[i]? = some p → qs[i]? = some q → SameP pl p q
theorem SamePs.refl (pl : Bool) (ps : List PPart) : SamePs pl ps ps := ⟨rfl, fun i p q h1 h2 => by rw [h1] at h2; cases h2; exact SameP.refl pl p⟩
theorem partsV_at : ∀ (ps : List PPart) (vs : List Value) (k j : Nat) (p : PPart) (v : Value), ps[k]? = some p → vs[k]? = some v → j < 10 → (partsV ps vs)[k * 10 + j]? = (partV p v)[j]? := by
  intro ps
  induction ps with
  | nil => intro vs k j p v h; simp at h
  | cons x ps ih =>
    intro vs k j p v h1 h2 hj
    cases vs with
    | nil => simp at h2
    | cons y vs =>
      cases k with
      | zero => simp at h1 h2; subst h1 h2; simp only [partsV, Nat.zero_mul, Nat.zero_add]; rw [List.getElem?_append_left (by simp [partV]; exact hj)]
      | succ k =>
        simp only [partsV]
        rw [List.getElem?_append_right (by simp [partV]; omega), ← ih vs k j p v (by simpa using h1) (by simpa using h2) hj]
        congr 1
        simp [partV]; omega
/-- a row of one's own may be written -/
theorem own_soft {w : World} {base : Nat} {e : TypeId} {size g n cap : Nat} {xs : List Value} (h : w.ownsRow base e size (.slice (some ⟨g, 0, none⟩) n cap) n xs) (j : Nat) : w.frozen? ⟨g, j, none⟩ = false := by
  rcases h.2 with ⟨hv, _⟩ | ⟨g', cap', cur, hv, hb, hg, hn, hc, hs, ht⟩
  · cases hv
  · cases hv
    unfold World.frozen?
    simp only [hg]
    simp
/-- where parts lie -/
theorem own_parts {tT tP : TypeId} {base : Nat} {w : World} {v : Value} {ps : List PPart} {vs : List Value} (h : PartsAt tT tP base w v ps vs) : (v = .slice none 0 0 ∧ ps = []) ∨ ∃ g cap, v = .slice (some ⟨g, 0, none⟩) ps.length cap ∧ base ≤ g ∧ g < w.heap.size ∧ (∀ k p u, ps[k]? = some p → vs[k]? = some u → ∀ (j : Nat) (x : Value), (partV p u)[j]? = some x → w.cell? ⟨g, k * 10 + j, none⟩ = some x) ∧ ∀ i, w.frozen? ⟨g, i, none⟩ = false := by
  rcases h.own.2 with ⟨rfl, h0⟩ | ⟨g, cap, cur, rfl, hb, hg, rest⟩
  · exact Or.inl ⟨rfl, List.eq_nil_of_length_eq_zero h0⟩
  · refine Or.inr ⟨g, cap, rfl, hb, (Array.getElem?_eq_some_iff.1 hg).1, fun k p u hp hu j x hx => ?_, fun i => own_soft h.own i⟩
    have hj : j < 10 := by
      rcases Nat.lt_or_ge j 10 with h | h
      · exact h
      · rw [List.getElem?_eq_none (by simp [partV]; omega)] at hx; cases hx
    have := h.own.cells rfl (k * 10 + j) x (by rw [partsV_at ps vs k j p u hp hu hj]; exact hx)
    rw [add_zero] at this; exact this
set_option maxRecDepth 100000 in
set_option maxHeartbeats 4000000 in
theorem sameParts_any (pl : Bool) (ps qs : List PPart) (va vb : Value) (us vs : List Value) (B1 B2 : Nat) (w : World) (h : SamePs pl ps qs) (ha : PartsAt 38 40 B1 w va ps us) (hb : PartsAt 76 78 B2 w vb qs vs) (hl : ps.length ≤ 1073741824) (hla : ∀ p ∈ ps, p.atom.args.length ≤ 1073741824) :
    Calls Tryd.prog 11 #[va, vb, .bool pl] w fun e w' => e = .returned (.bool true) ∧ w.grownBy w' none := by
  have HLA := hide hla
  have HPS := hide h.parts
  have HA := hide ha
  have HB := hide hb
  have hlen := h.len
  obtain ⟨aa, ca, hva⟩ := own_form ha.own
  obtain ⟨ab, cb, hvb⟩ := own_form hb.own
  subst hva hvb
  clear ha hb h hla
  rw [← hlen]
  have HNB : Hid (qs.length = ps.length) := hlen.symm
  rw [← hlen] at HB
  clear hlen
  go_enter Tryd.func11, Tryd.ntmps11
  go_wp2_with fail
  go_loopw [7] (fun iv wr => ∃ k : Nat, k ≤ ps.length ∧ iv = .int .i64 k ∧ Hid (w.grownBy wr none)) (fun iv _ => ps.length - (intOf iv).toNat)
  case atStart => exact ⟨0, by omega, rfl, fr_refl _ _⟩
  case round =>
    obtain ⟨k, hk, rfl, HH1⟩ := hrel
    by_cases hlt : k < ps.length
    · have hka : k < us.length := by have := HA.out.len; omega
      have hkq : k < qs.length := by have := HNB.out; omega
      have hkb : k < vs.length := by have := HB.out.len; omega
      have HT := hide (HPS.out k ps[k] qs[k] (List.getElem?_eq_getElem hlt) (List.getElem?_eq_getElem hkq))
      have HOA := hide (HA.out.args k ps[k] us[k] (List.getElem?_eq_getElem hlt) (List.getElem?_eq_getElem hka))
      have HOB := hide (HB.out.args k qs[k] vs[k] (List.getElem?_eq_getElem hkq) (List.getElem?_eq_getElem hkb))
      have hln := HLA.out _ (List.getElem_mem hlt)
      rcases own_parts HA.out with ⟨h0, h1⟩ | ⟨ga, ca', hva, -, -, hca, -⟩
      · rw [h1] at hlt; simp at hlt
      have hb' := HB.out
      rw [← HNB.out] at hb'
      rcases own_parts hb' with ⟨h0, h1⟩ | ⟨gb, cb', hvb, -, -, hcb, -⟩
      · rw [h1] at hkq; simp at hkq
      cases hva; cases hvb
      have HCA := hide (hca k ps[k] us[k] (List.getElem?_eq_getElem hlt) (List.getElem?_eq_getElem hka))
      have HCB := hide (hcb k qs[k] vs[k] (List.getElem?_eq_getElem hkq) (List.getElem?_eq_getElem hkb))
      clear hca hcb hb'
      obtain ⟨xa, xc, hxx⟩ := own_form HOA.out
      obtain ⟨ya, yc, hyy⟩ := own_form HOB.out
      rw [hxx] at HOA HCA
      rw [hyy] at HOB HCB
      clear hxx hyy
      obtain ⟨p, hp⟩ : ∃ p, p = ps[k] := ⟨_, rfl⟩
      obtain ⟨q, hq⟩ : ∃ q, q = qs[k] := ⟨_, rfl⟩
      rw [← hp] at HT HOA HCA hln
      rw [← hq] at HT HOB HCB
      clear hp hq hka hkq hkb
      have s10 := grown_cell HH1.out (HCA.out 1 _ rfl)
      have s11 := grown_cell HH1.out (HCA.out 2 _ rfl)
      have s12 := grown_cell HH1.out (HCA.out 3 _ rfl)
      have s13 := grown_cell HH1.out (HCB.out 1 _ rfl)
      have s14 := grown_cell HH1.out (HCB.out 2 _ rfl)
      have s15 := grown_cell HH1.out (HCB.out 3 _ rfl)
      have HC1 : Hid (∀ wx : World, (∃ n, wx = wr.drewN n) → Calls Tryd.prog 21 #[.agg #[.string (str p.atom.name), (.slice xa p.atom.args.length xc), .int .i64 (p.atom.place : Nat)], .agg #[.string (str q.atom.name), (.slice ya q.atom.args.length yc), .int .i64 (q.atom.place : Nat)], .bool pl] wx fun e w' => e = .returned (.bool true) ∧ Hid (wr.grownBy w' none) ∧ w'.cell? ⟨ga, k * 10 + 1, none⟩ = some (.string (str p.atom.name)) ∧ w'.cell? ⟨ga, k * 10 + 2, none⟩ = some (.slice xa p.atom.args.length xc) ∧ w'.cell? ⟨ga, k * 10 + 3, none⟩ = some (.int .i64 (p.atom.place : Nat)) ∧ w'.cell? ⟨gb, k * 10 + 1, none⟩ = some (.string (str q.atom.name)) ∧ w'.cell? ⟨gb, k * 10 + 2, none⟩ = some (.slice ya q.atom.args.length yc) ∧ w'.cell? ⟨gb, k * 10 + 3, none⟩ = some (.int .i64 (q.atom.place : Nat))) := by
        rintro wx ⟨n, rfl⟩
        refine (sameAtom_any pl p.atom q.atom _ _ B1 B2 _ HT.out.atom (own_far HOA.out (fr_both HH1.out (fr_draws wr n none)) (by simp)) (own_far HOB.out (fr_both HH1.out (fr_draws wr n none)) (by simp)) hln).mono ?_
        rintro e wz ⟨rfl, hg⟩
        have hg2 : wr.grownBy wz none := fr_both (fr_draws _ n _) hg
        exact ⟨rfl, hg2, grown_cell hg2 s10, grown_cell hg2 s11, grown_cell hg2 s12, grown_cell hg2 s13, grown_cell hg2 s14, grown_cell hg2 s15⟩
      go_wp2_with fail
      go_region_held3 (fun w' => w'.cell? ⟨ga, k * 10 + 1, none⟩ = some (.string (str p.atom.name)) ∧ w'.cell? ⟨ga, k * 10 + 2, none⟩ = some (.slice xa p.atom.args.length xc) ∧ w'.cell? ⟨ga, k * 10 + 3, none⟩ = some (.int .i64 (p.atom.place : Nat)) ∧ w'.cell? ⟨gb, k * 10 + 1, none⟩ = some (.string (str q.atom.name)) ∧ w'.cell? ⟨gb, k * 10 + 2, none⟩ = some (.slice ya q.atom.args.length yc) ∧ w'.cell? ⟨gb, k * 10 + 3, none⟩ = some (.int .i64 (q.atom.place : Nat))) (go_keep) (first | (go_at_call 21; refine (HC1.out _ ⟨_, rfl⟩).mono ?_; rintro e w2 ⟨rfl, HG2, k0, k1, k2, k3, k4, k5⟩))
      have HH2 : Hid (w.grownBy w2 none) := fr_both HH1.out HG2.out
      clear k0 k1 k2 k3 k4 k5 HC1 HG2 s10 s11 s12 s13 s14 s15
      have s20 := grown_cell HH2.out (HCA.out 4 _ rfl)
      have s21 := grown_cell HH2.out (HCA.out 5 _ rfl)
      have s22 := grown_cell HH2.out (HCA.out 6 _ rfl)
      have s23 := grown_cell HH2.out (HCB.out 4 _ rfl)
      have s24 := grown_cell HH2.out (HCB.out 5 _ rfl)
      have s25 := grown_cell HH2.out (HCB.out 6 _ rfl)
      have HC2 : Hid (∀ wx : World, (∃ n, wx = w2.drewN n) → Calls Tryd.prog 24 #[.agg #[.bool p.left.isVar, .string (str p.left.text), .int .i64 (p.left.place : Nat)], .agg #[.bool q.left.isVar, .string (str q.left.text), .int .i64 (q.left.place : Nat)], .bool pl] wx fun e w' => e = .returned (.bool true) ∧ Hid (w2.grownBy w' none) ∧ w'.cell? ⟨ga, k * 10 + 4, none⟩ = some (.bool p.left.isVar) ∧ w'.cell? ⟨ga, k * 10 + 5, none⟩ = some (.string (str p.left.text)) ∧ w'.cell? ⟨ga, k * 10 + 6, none⟩ = some (.int .i64 (p.left.place : Nat)) ∧ w'.cell? ⟨gb, k * 10 + 4, none⟩ = some (.bool q.left.isVar) ∧ w'.cell? ⟨gb, k * 10 + 5, none⟩ = some (.string (str q.left.text)) ∧ w'.cell? ⟨gb, k * 10 + 6, none⟩ = some (.int .i64 (q.left.place : Nat))) := by
        rintro wx ⟨n, rfl⟩
        refine (sameTerm_any pl p.left q.left _ HT.out.left).mono ?_
        rintro e wz ⟨rfl, hg⟩
        have hg2 : w2.grownBy wz none := fr_both (fr_draws _ n _) hg
        exact ⟨rfl, hg2, grown_cell hg2 s20, grown_cell hg2 s21, grown_cell hg2 s22, grown_cell hg2 s23, grown_cell hg2 s24, grown_cell hg2 s25⟩
      go_wp2_with fail
      go_region_held3 (fun w' => w'.cell? ⟨ga, k * 10 + 4, none⟩ = some (.bool p.left.isVar) ∧ w'.cell? ⟨ga, k * 10 + 5, none⟩ = some (.string (str p.left.text)) ∧ w'.cell? ⟨ga, k * 10 + 6, none⟩ = some (.int .i64 (p.left.place : Nat)) ∧ w'.cell? ⟨gb, k * 10 + 4, none⟩ = some (.bool q.left.isVar) ∧ w'.cell? ⟨gb, k * 10 + 5, none⟩ = some (.string (str q.left.text)) ∧ w'.cell? ⟨gb, k * 10 + 6, none⟩ = some (.int .i64 (q.left.place : Nat))) (go_keep) (first | (go_at_call 24; refine (HC2.out _ ⟨_, rfl⟩).mono ?_; rintro e w3 ⟨rfl, HG3, k0, k1, k2, k3, k4, k5⟩))
      have HH3 : Hid (w.grownBy w3 none) := fr_both HH2.out HG3.out
      clear k0 k1 k2 k3 k4 k5 HC2 HG3 s20 s21 s22 s23 s24 s25
      have s30 := grown_cell HH3.out (HCA.out 7 _ rfl)
      have s31 := grown_cell HH3.out (HCA.out 8 _ rfl)
      have s32 := grown_cell HH3.out (HCA.out 9 _ rfl)
      have s33 := grown_cell HH3.out (HCB.out 7 _ rfl)
      have s34 := grown_cell HH3.out (HCB.out 8 _ rfl)
      have s35 := grown_cell HH3.out (HCB.out 9 _ rfl)
      have HC3 : Hid (∀ wx : World, (∃ n, wx = w3.drewN n) → Calls Tryd.prog 24 #[.agg #[.bool p.right.isVar, .string (str p.right.text), .int .i64 (p.right.place : Nat)], .agg #[.bool q.right.isVar, .string (str q.right.text), .int .i64 (q.right.place : Nat)], .bool pl] wx fun e w' => e = .returned (.bool true) ∧ Hid (w3.grownBy w' none) ∧ w'.cell? ⟨ga, k * 10 + 7, none⟩ = some (.bool p.right.isVar) ∧ w'.cell? ⟨ga, k * 10 + 8, none⟩ = some (.string (str p.right.text)) ∧ w'.cell? ⟨ga, k * 10 + 9, none⟩ = some (.int .i64 (p.right.place : Nat)) ∧ w'.cell? ⟨gb, k * 10 + 7, none⟩ = some (.bool q.right.isVar) ∧ w'.cell? ⟨gb, k * 10 + 8, none⟩ = some (.string (str q.right.text)) ∧ w'.cell? ⟨gb, k * 10 + 9, none⟩ = some (.int .i64 (q.right.place : Nat))) := by
        rintro wx ⟨n, rfl⟩
        refine (sameTerm_any pl p.right q.right _ HT.out.right).mono ?_
        rintro e wz ⟨rfl, hg⟩
        have hg2 : w3.grownBy wz none := fr_both (fr_draws _ n _) hg
        exact ⟨rfl, hg2, grown_cell hg2 s30, grown_cell hg2 s31, grown_cell hg2 s32, grown_cell hg2 s33, grown_cell hg2 s34, grown_cell hg2 s35⟩
      go_wp2_with fail
      go_region_held3 (fun w' => w'.cell? ⟨ga, k * 10 + 7, none⟩ = some (.bool p.right.isVar) ∧ w'.cell? ⟨ga, k * 10 + 8, none⟩ = some (.string (str p.right.text)) ∧ w'.cell? ⟨ga, k * 10 + 9, none⟩ = some (.int .i64 (p.right.place : Nat)) ∧ w'.cell? ⟨gb, k * 10 + 7, none⟩ = some (.bool q.right.isVar) ∧ w'.cell? ⟨gb, k * 10 + 8, none⟩ = some (.string (str q.right.text)) ∧ w'.cell? ⟨gb, k * 10 + 9, none⟩ = some (.int .i64 (q.right.place : Nat))) (go_keep) (first | (go_at_call 24; refine (HC3.out _ ⟨_, rfl⟩).mono ?_; rintro e w4 ⟨rfl, HG4, k0, k1, k2, k3, k4, k5⟩))
      have HH4 : Hid (w.grownBy w4 none) := fr_both HH3.out HG4.out
      clear k0 k1 k2 k3 k4 k5 HC3 HG4 s30 s31 s32 s33 s34 s35
      have d0 := grown_cell HH4.out (HCA.out 0 _ rfl)
      have d1 := grown_cell HH4.out (HCB.out 0 _ rfl)
      rw [← HT.out.kind] at d1
      simp only [Nat.add_zero] at d0 d1
      go_wp2_with fail
      go_quiet (fail)
      go_wp2
      go_roundw
      case rel => exact ⟨k + 1, by omega, by go_num, fr_both HH4.out (fr_draws _ _ _)⟩
      case measure => simp [intOf]; omega
    · go_wp2
      go_ret
      exact ⟨rfl, HH1.out⟩
end Go.Proofs.YtoelacloghkooaaDoor
