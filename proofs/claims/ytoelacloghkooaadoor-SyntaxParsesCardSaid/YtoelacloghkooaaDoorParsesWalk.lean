/-
  SyntaxParses' walk.
-/
import Derived.Test.YtoelacloghkooaaDoorPrParse
import Derived.Test.YtoelacloghkooaaDoorQueriesWalk
import Derived.Test.YtoelacloghkooaaDoorSameRules
namespace Go.Proofs.YtoelacloghkooaaDoor
open Go.ChangeShapes Go.WideShapes Go.ChangeAt Go.RowKit
set_option linter.unusedVariables false
def rsOf : Except PErr (List PRule) → List PRule
  | .error _ => []
  | .ok rs => rs
theorem rulesQ_of {base : Nat} {r : Except PErr (List PRule)} {en : Ending} {w : World} (h : RulesQ base r en w) : ∃ v hs bs, en = .returned (.tuple #[v, .int .i64 (eOf r : Nat), .int .i64 (xOf r : Nat)]) ∧ RulesAt 38 40 36 base w v (rsOf r) hs bs := by
  cases r with
  | error er => obtain ⟨e, x⟩ := er; exact ⟨_, _, _, h, RulesAt.nil _ _ _ _ _⟩
  | ok rs => exact h
theorem rulesR_of {tT tP tR : TypeId} {base : Nat} {r : Except PErr (List PRule)} {en : Ending} {w : World} (h : RulesR tT tP tR base r en w) : ∃ v hs bs, en = .returned (.tuple #[v, .int .i64 (eOf r : Nat), .int .i64 (xOf r : Nat)]) ∧ RulesAt tT tP tR base w v (rsOf r) hs bs := by
  cases r with
  | error er => obtain ⟨e, x⟩ := er; exact ⟨_, _, _, h, RulesAt.nil _ _ _ _ _⟩
  | ok rs => exact h
theorem rsOf_len (l : List UInt8) : (rsOf (parseF l)).length ≤ 200 ∧ ∀ r ∈ rsOf (parseF l), Small r := by
  cases h : parseF l with
  | error er => simp [rsOf]
  | ok rs => exact parseF_len l rs h
theorem SoftRow.grown {g base z : Nat} {w1 w : World} {v : Value} (h : SoftRow g base w1.heap.size z w1 v) (hg : w1.grownBy w none) : SoftRow g base w1.heap.size z w v := by
  obtain ⟨xa, xn, xc, he, hn, h0 | ⟨k, rfl, h1, h2, h3, h4, h5⟩⟩ := h
  · exact ⟨xa, xn, xc, he, hn, Or.inl h0⟩
  · refine ⟨_, xn, xc, he, hn, Or.inr ⟨k, rfl, h1, h2, h3, fun m hm => ?_, fun m => ?_⟩⟩
    · obtain ⟨x, hx⟩ := h4 m hm; exact ⟨x, grown_cell hg hx⟩
    · rw [← h5 m]; exact World.frozen?_of_block (w := w1) (hg.block k h2 (by simp))
/-- rules may be spoilt -/
theorem spoilt_rules {w1 w : World} {base g cap : Nat} {tT tP tR : TypeId} {rs : List PRule} {hs bs : List Value} (h : RulesAt tT tP tR base w1 (.slice (some ⟨g, 0, none⟩) rs.length cap) rs hs bs) (h1 : tT ≠ tR) (h2 : tP ≠ tR) (hl : ∀ r ∈ rs, Small r) (hg : w1.grownBy w none) : Spoilt w base w1.heap.size g rs.length 4 [(1, 3), (3, 10)] w := by
  have h' := h.kept hg (fun g e => by cases e)
  have hb := own_blk h.own rfl
  refine ⟨hb.1, hb.2, Mid.refl _ _ _, fun i hi => ?_, fun i => own_soft h'.own i, fun i hi oz ho => ?_⟩
  · have hm2 : i < (rulesV rs hs bs).length := by rw [rulesV_len rs hs bs h.lh h.lb]; exact hi
    have := h'.own.cells rfl i _ (List.getElem?_eq_getElem hm2)
    rw [add_zero] at this
    exact ⟨_, this⟩
  · have hi1 : i < hs.length := by rw [h.lh]; exact hi
    have hi2 : i < bs.length := by rw [h.lb]; exact hi
    have hsm := hl _ (List.getElem_mem hi)
    simp at ho
    rcases ho with rfl | rfl
    · have hc := h'.own.cells rfl (i * 4 + 1) hs[i] (by rw [rulesV_at rs hs bs i 1 rs[i] hs[i] bs[i] (List.getElem?_eq_getElem hi) (List.getElem?_eq_getElem hi1) (List.getElem?_eq_getElem hi2) (by omega)]; rfl)
      rw [add_zero] at hc
      exact ⟨_, hc, (soft_terms (h.heads i rs[i] hs[i] (List.getElem?_eq_getElem hi) (List.getElem?_eq_getElem hi1)) h.own h1 rfl (by have := hsm.1; omega) (Nat.le_refl _)).grown hg⟩
    · have hc := h'.own.cells rfl (i * 4 + 3) bs[i] (by rw [rulesV_at rs hs bs i 3 rs[i] hs[i] bs[i] (List.getElem?_eq_getElem hi) (List.getElem?_eq_getElem hi1) (List.getElem?_eq_getElem hi2) (by omega)]; rfl)
      rw [add_zero] at hc
      obtain ⟨us, hu⟩ := h.bodies i rs[i] bs[i] (List.getElem?_eq_getElem hi) (List.getElem?_eq_getElem hi2)
      exact ⟨_, hc, (soft_parts hu h.own h2 rfl (by have := hsm.2.1; omega) (Nat.le_refl _)).grown hg⟩
set_option maxRecDepth 100000 in
set_option maxHeartbeats 8000000 in
theorem parses_walk (s : ByteArray) (L T M : Addr) (w : World) (hE : Errs w L T M) (hB : ErrB w L T M) (hgt : gTop ≤ w.heap.size) :
    Calls Tryd.prog 3 #[.string s] w fun e w' => e = .returned (.bool true) ∧ Below w.heap.size w w' := by
  have HE := hide hE
  have HB := hide hB
  have HQ1 := hide (pParse_any s L T M w hE hB hgt)
  have HPL := hide (rsOf_len s.data.toList)
  clear hE hB
  obtain ⟨Q, HQ⟩ : ∃ Q, Hid (parseF s.data.toList = Q) := ⟨_, (rfl : _ = _)⟩
  rw [HQ.out] at HQ1 HPL
  go_enter Tryd.func3, Tryd.ntmps3
  go_wp2_with fail
  refine HQ1.out.mono ?_
  rintro e w1 ⟨hq, hg⟩
  obtain ⟨v, h1, b1, rfl, hra⟩ := rulesQ_of hq
  have HRA := hide hra
  have HG1 := hide hg
  clear hq hg HQ1
  obtain ⟨va, vc, hv⟩ := own_form hra.own
  subst hv
  clear hra
  obtain ⟨ec, HEC⟩ : ∃ ec, Hid (eOf Q = ec) := ⟨_, (rfl : _ = _)⟩
  obtain ⟨xc, HXC⟩ : ∃ xc, Hid (xOf Q = xc) := ⟨_, (rfl : _ = _)⟩
  obtain ⟨rs, HRS⟩ : ∃ rs, Hid (rsOf Q = rs) := ⟨_, (rfl : _ = _)⟩
  rw [HEC.out, HXC.out]
  rw [HRS.out] at HRA HPL ⊢
  have HE1 := hide (HE.out.fresh HG1.out)
  have HB1 := hide (HB.out.fresh HG1.out)
  have hgt1 : gTop ≤ w1.heap.size := Nat.le_trans hgt HG1.out.size
  go_wp2_with fail
  refine (pParse_any _ L T M w1 HE1.out HB1.out hgt1).mono ?_
  rintro e w2 ⟨hq, hg12⟩
  obtain ⟨v2, h2, b2, rfl, -⟩ := rulesQ_of hq
  have HG12 := hide hg12
  clear hq hg12
  have HRQ : Hid (∀ w1, Calls Tryd.prog 6 #[.string s] w1 fun en w' => RulesR 76 78 67 w1.heap.size Q en w' ∧ Below w1.heap.size w1 w') := by
    intro w1
    have := readRules_any s w1
    rw [readRules_is, HQ.out] at this
    exact this
  generalize Value.tuple _ = tv
  go_wp2_with fail
  refine (HRQ.out _).mono ?_
  rintro e w3 ⟨hq, hbl⟩
  obtain ⟨v3, h3, b3, rfl, hrb⟩ := rulesR_of hq
  have hg3 := fresh_below hbl
  rw [HRS.out] at hrb
  have HG13 := hide (fr_both HG12.out hg3)
  have HRB := hide (hrb.lower HG12.out.size)
  clear hq hbl hg3 HRQ
  obtain ⟨vb, vd, hv⟩ := own_form hrb.own
  subst hv
  clear hrb
  rw [HEC.out, HXC.out]
  have hn200 := HPL.out.1
  have hn : rs.length ≤ 1073741824 := by omega
  have HSM := hide HPL.out.2
  have HRA3 := hide (HRA.out.kept HG13.out (fun g e => by cases e))
  go_wp2_with fail
  refine (sameRules_any true rs rs _ _ h1 b1 h3 b3 w.heap.size w1.heap.size _ (SameRs.refl _ _) HRA3.out HRB.out hn HSM.out).mono ?_
  rintro e w4 ⟨rfl, hg4⟩
  have HRB4 := hide (HRB.out.kept hg4 (fun g e => by cases e))
  have HG14 := hide (fr_both HG13.out hg4)
  have HG4 := hide (fr_both HG1.out (fr_both HG13.out hg4))
  clear hg4 HRA3 HRB HG13 HG12 HE1 HB1
  have HZ : Hid (rs = [] ∨ ∃ g, va = some ⟨g, 0, none⟩ ∧ Spoilt w4 w.heap.size w1.heap.size g rs.length 4 [(1, 3), (3, 10)] w4) := by
    rcases own_rules HRA.out with ⟨-, h1⟩ | ⟨g, cap, hv, -, -, -, -⟩
    · exact Or.inl h1
    · cases hv
      exact Or.inr ⟨g, rfl, spoilt_rules HRA.out (by decide) (by decide) HSM.out HG14.out⟩
  obtain ⟨n, HN⟩ : ∃ n, Hid (rs.length = n) := ⟨_, (rfl : _ = _)⟩
  rw [HN.out] at hn hn200 HZ ⊢
  go_wp2_with fail
  refine (num_at _ _).mono ?_
  rintro e w5 ⟨rfl, rfl⟩
  go_wp2_with fail
  go_loopw [10] (fun iv wr => ∃ k : Nat, k ≤ n ∧ iv = .int .i64 k ∧ Hid (Mid w.heap.size w1.heap.size w4 wr) ∧ Hid (n = 0 ∨ ∃ g, va = some ⟨g, 0, none⟩ ∧ Spoilt w4 w.heap.size w1.heap.size g n 4 [(1, 3), (3, 10)] wr)) (fun iv _ => n - (intOf iv).toNat)
  case atStart => exact ⟨0, by omega, rfl, Mid.refl _ _ _, by rcases HZ.out with h | h; exact Or.inl (by have := HN.out; rw [h] at this; exact this.symm); exact Or.inr h⟩
  case round =>
    obtain ⟨k, hk, rfl, HM, HS⟩ := hrel
    by_cases hlt : k < n
    · obtain ⟨g, hvg, hsp⟩ : ∃ g, va = some ⟨g, 0, none⟩ ∧ Spoilt w4 w.heap.size w1.heap.size g n 4 [(1, 3), (3, 10)] wr := by
        rcases HS.out with h | h
        · omega
        · exact h
      subst hvg
      have HSP := hide hsp
      obtain ⟨x, hx, hsx⟩ := hsp.rows k hlt (3, 10) (by simp)
      obtain ⟨ya, yn, yc, rfl, hyn, -⟩ := hsx
      have HCY := hide hx
      clear hx HS hsp
      simp only [] at HCY
      go_wp2_with fail
      go_loopw [11] (fun jv wz => ∃ j : Nat, j ≤ yn ∧ jv = .int .i64 j ∧ Hid (wz.cell? ⟨g, k * 4 + 3, none⟩ = some (.slice ya yn yc)) ∧ Hid (Spoilt w4 w.heap.size w1.heap.size g n 4 [(1, 3), (3, 10)] wz)) (fun jv _ => yn - (intOf jv).toNat)
      case atStart => exact ⟨0, by omega, rfl, HCY, HSP⟩
      case round =>
        obtain ⟨j, hj, rfl, HC2, HS2⟩ := hrel
        have cx := HC2.out
        by_cases hjn : j < yn
        · obtain ⟨x', hx', hs'⟩ := HS2.out.rows k hlt (3, 10) (by simp)
          simp only [] at hx'
          rw [cx] at hx'
          cases hx'
          obtain ⟨a', n', c', he, -, h0 | ⟨h, hah, hlo, hhi, hne, hcs, hfz⟩⟩ := hs'
          · cases he; omega
          · cases he
            subst hah
            obtain ⟨t0, d0⟩ := hcs (j * 10) (by omega)
            obtain ⟨t1, d1⟩ := hcs (j * 10 + 1) (by omega)
            obtain ⟨t2, d2⟩ := hcs (j * 10 + 2) (by omega)
            obtain ⟨t3, d3⟩ := hcs (j * 10 + 3) (by omega)
            obtain ⟨t4, d4⟩ := hcs (j * 10 + 4) (by omega)
            obtain ⟨t5, d5⟩ := hcs (j * 10 + 5) (by omega)
            obtain ⟨t6, d6⟩ := hcs (j * 10 + 6) (by omega)
            obtain ⟨t7, d7⟩ := hcs (j * 10 + 7) (by omega)
            obtain ⟨t8, d8⟩ := hcs (j * 10 + 8) (by omega)
            obtain ⟨t9, d9⟩ := hcs (j * 10 + 9) (by omega)
            have f0 := hfz (j * 10)
            have f1 := hfz (j * 10 + 1)
            have f2 := hfz (j * 10 + 2)
            have f3 := hfz (j * 10 + 3)
            have f4 := hfz (j * 10 + 4)
            have f5 := hfz (j * 10 + 5)
            have f6 := hfz (j * 10 + 6)
            have f7 := hfz (j * 10 + 7)
            have f8 := hfz (j * 10 + 8)
            have f9 := hfz (j * 10 + 9)
            clear hcs hfz
            go_wp2
            go_roundw
            case rel =>
              refine ⟨j + 1, by omega, by go_num, ?_, ((((((((((HS2.out.set hlo hhi _ _ (fun e => absurd e hne)).set hlo hhi _ _ (fun e => absurd e hne)).set hlo hhi _ _ (fun e => absurd e hne)).set hlo hhi _ _ (fun e => absurd e hne)).set hlo hhi _ _ (fun e => absurd e hne)).set hlo hhi _ _ (fun e => absurd e hne)).set hlo hhi _ _ (fun e => absurd e hne)).set hlo hhi _ _ (fun e => absurd e hne)).set hlo hhi _ _ (fun e => absurd e hne)).set hlo hhi _ _ (fun e => absurd e hne))⟩
              show _ = _
              rw [World.cell?_setCell_other _ _ _ _ (fun e => hne (congrArg Addr.block e)), World.cell?_setCell_other _ _ _ _ (fun e => hne (congrArg Addr.block e)), World.cell?_setCell_other _ _ _ _ (fun e => hne (congrArg Addr.block e)), World.cell?_setCell_other _ _ _ _ (fun e => hne (congrArg Addr.block e)), World.cell?_setCell_other _ _ _ _ (fun e => hne (congrArg Addr.block e)), World.cell?_setCell_other _ _ _ _ (fun e => hne (congrArg Addr.block e)), World.cell?_setCell_other _ _ _ _ (fun e => hne (congrArg Addr.block e)), World.cell?_setCell_other _ _ _ _ (fun e => hne (congrArg Addr.block e)), World.cell?_setCell_other _ _ _ _ (fun e => hne (congrArg Addr.block e)), World.cell?_setCell_other _ _ _ _ (fun e => hne (congrArg Addr.block e))]
              exact HC2.out
            case measure => simp [intOf]; omega
        · clear cx
          obtain ⟨x, hx, hsx⟩ := HS2.out.rows k hlt (1, 3) (by simp)
          obtain ⟨xa, xn, xcc, rfl, hxn, -⟩ := hsx
          have HCX := hide hx
          have HD := HC2
          clear hx
          simp only [] at HCX
          have cy := HC2.out
          go_wp2_with fail
          clear cy
          go_loopw [12] (fun jv wz => ∃ m : Nat, m ≤ xn ∧ jv = .int .i64 m ∧ Hid (wz.cell? ⟨g, k * 4 + 1, none⟩ = some (.slice xa xn xcc)) ∧ Hid (Spoilt w4 w.heap.size w1.heap.size g n 4 [(1, 3), (3, 10)] wz)) (fun jv _ => xn - (intOf jv).toNat)
          case atStart => exact ⟨0, by omega, rfl, HCX, HS2⟩
          case round =>
            obtain ⟨m, hm, rfl, HC3, HS3⟩ := hrel
            have cx := HC3.out
            by_cases hmn : m < xn
            · obtain ⟨x', hx', hs'⟩ := HS3.out.rows k hlt (1, 3) (by simp)
              simp only [] at hx'
              rw [cx] at hx'
              cases hx'
              obtain ⟨a', n', c', he, -, h0 | ⟨h, hah, hlo, hhi, hne, hcs, hfz⟩⟩ := hs'
              · cases he; omega
              · cases he
                subst hah
                obtain ⟨t0, d0⟩ := hcs (m * 3) (by omega)
                obtain ⟨t1, d1⟩ := hcs (m * 3 + 1) (by omega)
                obtain ⟨t2, d2⟩ := hcs (m * 3 + 2) (by omega)
                have f0 := hfz (m * 3)
                have f1 := hfz (m * 3 + 1)
                have f2 := hfz (m * 3 + 2)
                clear hcs hfz
                go_wp2
                go_roundw
                case rel =>
                  refine ⟨m + 1, by omega, by go_num, ?_, ((HS3.out.set hlo hhi _ _ (fun e => absurd e hne)).set hlo hhi _ _ (fun e => absurd e hne)).set hlo hhi _ _ (fun e => absurd e hne)⟩
                  show _ = _
                  rw [World.cell?_setCell_other _ _ _ _ (fun e => hne (congrArg Addr.block e)), World.cell?_setCell_other _ _ _ _ (fun e => hne (congrArg Addr.block e)), World.cell?_setCell_other _ _ _ _ (fun e => hne (congrArg Addr.block e))]
                  exact HC3.out
                case measure => simp [intOf]; omega
            · obtain ⟨t0, d0⟩ := HS3.out.cells (k * 4) (by omega)
              obtain ⟨t2, d2⟩ := HS3.out.cells (k * 4 + 2) (by omega)
              obtain ⟨t3, d3⟩ := HS3.out.cells (k * 4 + 3) (by omega)
              have f0 := HS3.out.thaw (k * 4)
              have f1 := HS3.out.thaw (k * 4 + 1)
              have f2 := HS3.out.thaw (k * 4 + 2)
              have f3 := HS3.out.thaw (k * 4 + 3)
              have glo := HS3.out.lo
              have ghi := HS3.out.hi
              have HPC : Hid (∀ (c : Nat) (u : Value), c < 4 → c ≠ 1 → c ≠ 3 → g = g → (∃ oz ∈ [((1, 3) : Nat × Nat), (3, 10)], ∃ i, k * 4 + c = i * 4 + oz.1) → u = .slice none 0 0) := by
                rintro c u hc h1 h3 - ⟨oz, ho, i, hi⟩
                simp at ho
                rcases ho with rfl | rfl <;> (simp only [] at hi; omega)
              go_wp2
              go_roundw
              case rel =>
                have hf := ((((HS3.out.set glo ghi (k * 4) (.string { data := #[] }) (HPC.out 0 _ (by omega) (by omega) (by omega))).set glo ghi (k * 4 + 1) (.slice none 0 0) (fun _ _ => rfl)).set glo ghi (k * 4 + 2) (.int .i64 0) (HPC.out 2 _ (by omega) (by omega) (by omega))).set glo ghi (k * 4 + 3) (.slice none 0 0) (fun _ _ => rfl))
                exact ⟨k + 1, by omega, by go_num, hf.mid, Or.inr ⟨g, rfl, hf⟩⟩
              case measure => simp [intOf]; omega
    · have HBW : Hid (Below w.heap.size w wr) := HM.out.below (below_fresh HG4.out)
      have HER := hide (HE.out.below HBW.out hgt)
      have HEB := hide (HB.out.below HBW.out (Nat.le_refl _))
      have hgw : gTop ≤ wr.heap.size := Nat.le_trans hgt HBW.out.size
      have HRBr := hide (HRB4.out.mid HM.out)
      have HQ2 := hide (pParse_any s L T M wr HER.out HEB.out hgw)
      rw [HQ.out] at HQ2
      go_wp2_with fail
      refine HQ2.out.mono ?_
      rintro e w6 ⟨hq, hg⟩
      obtain ⟨v6, h6, b6, rfl, hra⟩ := rulesQ_of hq
      rw [HRS.out] at hra
      have HRA6 := hide hra
      have HRB6 := hide (HRBr.out.kept hg (fun g e => by cases e))
      have HB6 : Hid (Below w.heap.size w w6) := HBW.out.trans ((below_fresh hg).mono HBW.out.size)
      clear hq hg HQ2
      obtain ⟨va6, vc6, hv⟩ := own_form hra.own
      subst hv
      clear hra
      rw [HEC.out, HXC.out]
      rw [HN.out] at HRA6 HRB6 ⊢
      have hn6 : rs.length ≤ 1073741824 := by have := HN.out; omega
      have HSR := hide (sameRules_any true rs rs _ _ h6 b6 h3 b3 wr.heap.size w1.heap.size _ (SameRs.refl _ _) HRA6.out HRB6.out hn6 HSM.out)
      go_wp2_with fail
      refine HSR.out.mono ?_
      rintro e w7 ⟨rfl, hg7⟩
      have HB7 : Hid (Below w.heap.size w w7) := HB6.out.trans ((below_fresh hg7).mono HB6.out.size)
      clear hg7
      go_wp2
      go_ret
      exact ⟨rfl, HB7.out⟩
end Go.Proofs.YtoelacloghkooaaDoor
