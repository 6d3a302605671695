import Derived.Test.YtgllfcoafgphbaaGreatDoorM25
import Derived.Maps.AppendAt
/-
  The document's wrongArity, walked.
-/
namespace Go.Proofs.YtgllfcoafgphbaaGreatDoor
open Go.ChangeShapes Go.WideShapes Go.ChangeAt Go.RowKit
set_option linter.unusedVariables false
theorem AtomsAt.other {tT tA : TypeId} (ht : tT ≠ tA) {b1 bT b2 s2 n2 : Nat} {w w' : World} {v v2 : Value} {ys : List Value} {ps : List PAtom} {vs : List Value} (h : AtomsAt tT tA b1 bT w v ps vs) (ho : w.ownsRow b2 tA s2 v2 n2 ys) (hg : w.grownBy w' v2.ownBlock) (hne : ∀ g, v.ownBlock = some g → v2.ownBlock ≠ some g) : AtomsAt tT tA b1 bT w' v ps vs :=
  ⟨own_far h.own hg hne, h.len, fun i p u hp hu => own_far (h.args i p u hp hu) hg (kinds_ne (h.args i p u hp hu) ho ht)⟩
theorem AtomsAt.lower {tT tA : TypeId} {b b' bT : Nat} {w : World} {v : Value} {ps : List PAtom} {vs : List Value} (h : AtomsAt tT tA b bT w v ps vs) (hb : b' ≤ b) : AtomsAt tT tA b' bT w v ps vs := ⟨own_lower h.own hb, h.len, h.args⟩
/-- a place, or -1 -/
def arityI (o : Option PAtom) : Int := match o with
  | some t => (t.place : Nat)
  | none => -1
def mis (a b : PAtom) : Bool := b.name == a.name && b.args.length != a.args.length
theorem arity_hit (S : List PAtom) (a : PAtom) (T : List PAtom) (h : S.any (mis a) = true) : arityGo S (a :: T) = some a := by
  have : misfit S a = true := h
  simp [arityGo, this]
theorem arity_on (S : List PAtom) (a : PAtom) (T : List PAtom) (h : S.any (mis a) = false) : arityGo S (a :: T) = arityGo (S ++ [a]) T := by
  have : misfit S a = false := h
  simp [arityGo, this]
theorem atomsAll_drop (rs : List PRule) (k : Nat) (hk : k < rs.length) : atomsAll (rs.drop k) = atomsR rs[k] ++ atomsAll (rs.drop (k + 1)) := by
  rw [List.drop_eq_getElem_cons hk]; rfl
theorem atomsR_len {r : PRule} (h : r.body.length ≤ 12) : (atomsR r).length ≤ 13 := by
  unfold atomsR bodyAtoms
  have h1 := List.length_filter_le (fun p : PPart => decide (p.kind < 2)) r.body
  simp only [List.length_cons, List.length_map]; omega
set_option maxRecDepth 100000 in
set_option maxHeartbeats 4000000 in
theorem rwrongArity_any (rs : List PRule) (v : Value) (hs bs2 : List Value) (B : Nat) (w : World) (h : RulesAt 45 47 43 B w v rs hs bs2) (hl : rs.length ≤ 200) (hwf : ∀ r ∈ rs, WfR r) :
    Calls Tryz.prog 19 #[v] w fun e w' => e = .returned (.int .i64 (arityI (arityF rs))) ∧ w.grownBy w' none := by
  obtain ⟨i0, hi0, hz0, hz1, hz2⟩ := info_parts infoAtom3
  have HWF := hide hwf
  have HRA := hide h
  obtain ⟨va, vc, hv⟩ := own_form h.own
  subst hv
  clear h hwf
  obtain ⟨N, HN⟩ : ∃ N, Hid (rs.length = N) := ⟨_, (rfl : _ = _)⟩
  rw [HN.out] at hl ⊢
  go_enter Tryz.func19, Tryz.ntmps19
  go_wp2_with fail
  go_loopw [3, 4, 5, 6, 7] (fun sv iv lv kv jv wr => ∃ (k : Nat) (S : List PAtom) (us : List Value), k ≤ N ∧ iv = .int .i64 k ∧ S.length ≤ k * 13 ∧ Hid (arityF rs = arityGo S (atomsAll (rs.drop k))) ∧ Hid (AtomsAt 45 40 w.heap.size B wr sv S us) ∧ Hid (w.grownBy wr none)) (fun _ iv _ _ _ _ => N - (intOf iv).toNat)
  case atStart => exact ⟨0, [], [], by omega, rfl, by simp, (rfl : _ = _), AtomsAt.nil _ _ _ _ _, fr_refl _ _⟩
  case round =>
    obtain ⟨k, S, us, hk, rfl, hS, HAR, HO, HG⟩ := hrel
    obtain ⟨sa, sc, hsv⟩ := own_form HO.out.own
    subst hsv
    by_cases hlt : k < N
    · have hkr : k < rs.length := by have := HN.out; omega
      have hkh : k < hs.length := by have := HRA.out.lh; omega
      have hkb : k < bs2.length := by have := HRA.out.lb; omega
      have hor := HRA.out
      rcases own_rules hor with ⟨h0, h1⟩ | ⟨gr, cr, hvr, -, -, hcr, -⟩
      · rw [h1] at hkr; simp at hkr
      cases hvr
      have HCR := hide (hcr k rs[k] hs[k] bs2[k] (List.getElem?_eq_getElem hkr) (List.getElem?_eq_getElem hkh) (List.getElem?_eq_getElem hkb))
      obtain ⟨xs, hbd⟩ := hor.bodies k rs[k] bs2[k] (List.getElem?_eq_getElem hkr) (List.getElem?_eq_getElem hkb)
      have hhd := hor.heads k rs[k] hs[k] (List.getElem?_eq_getElem hkr) (List.getElem?_eq_getElem hkh)
      have HW := hide (HWF.out _ (List.getElem_mem hkr))
      have HST : Hid (arityF rs = arityGo S (atomsR rs[k] ++ atomsAll (rs.drop (k + 1)))) := by show _ = _; rw [HAR.out, atomsAll_drop rs k hkr]
      obtain ⟨xa, xc, hxx⟩ := own_form hhd
      obtain ⟨ya, yc, hyy⟩ := own_form hbd.own
      rw [hxx, hyy] at HCR
      rw [hxx] at hhd
      rw [hyy] at hbd
      have HHD := hide hhd
      have HBD := hide hbd
      clear hcr hor hbd hhd hxx hyy HAR
      generalize rs[k] = r at *
      obtain ⟨T, HTT⟩ : ∃ T, Hid (atomsAll (rs.drop (k + 1)) = T) := ⟨_, (rfl : _ = _)⟩
      rw [HTT.out] at HST
      have HC1 : Hid (Calls Tryz.prog 41 #[.agg (ruleV r (.slice xa r.head.args.length xc) (.slice ya r.body.length yc)).toArray] wr fun e w' => (∃ v vs, e = .returned v ∧ AtomsAt 45 40 wr.heap.size B w' v (atomsR r) vs) ∧ wr.grownBy w' none) := ratomsOf_any r _ _ xs B wr (own_far HHD.out HG.out (by simp)) (HBD.out.kept HG.out (fun g e => by cases e)) HW.out.2.1
      have hAL := atomsR_len HW.out.2.1
      have kp : ∀ (j : Nat) (x : Value), (ruleV r (.slice xa r.head.args.length xc) (.slice ya r.body.length yc))[j]? = some x → wr.cell? ⟨gr, k * 4 + j, none⟩ = some x := fun j x hx => grown_cell HG.out (HCR.out j x hx)
      have d0 := kp 0 _ rfl
      have d1 := kp 1 _ rfl
      have d2 := kp 2 _ rfl
      have d3 := kp 3 _ rfl
      simp only [Nat.add_zero] at d0
      clear kp HCR HHD HBD
      go_wp2_with fail
      refine HC1.out.mono ?_
      rintro e w2 ⟨⟨lv, vl, rfl, hla⟩, hg2⟩
      have HG2 := hide (fr_both HG.out hg2)
      have HO2 := hide (HO.out.far hg2)
      have HLA := hide (hla.lower HG.out.size)
      have HAP : Hid (∀ g, lv.ownBlock = some g → (Value.slice sa S.length sc).ownBlock ≠ some g) := fun g hg he => by
        have h1 := (own_blk hla.own hg).1
        have h2 := (own_blk HO.out.own he).2
        omega
      obtain ⟨la, lc, hlv⟩ := own_form hla.own
      subst hlv
      clear hla hg2 HC1 d0 d1 d2 d3 HO HG HW
      generalize atomsR r = A at *
      obtain ⟨L, HL⟩ : ∃ L, Hid (A.length = L) := ⟨_, (rfl : _ = _)⟩
      rw [HL.out] at hAL ⊢
      rw [HL.out] at HAP HLA
      go_wp2_with fail
      go_loopw [3, 6, 7] (fun sv kv jv wm => ∃ (m : Nat) (S' : List PAtom) (us' : List Value), m ≤ L ∧ kv = .int .i64 m ∧ S'.length ≤ k * 13 + m ∧ Hid (arityF rs = arityGo S' (A.drop m ++ T)) ∧ Hid (AtomsAt 45 40 w.heap.size B wm sv S' us') ∧ Hid (AtomsAt 45 40 w.heap.size B wm (.slice la L lc) A vl) ∧ Hid (∀ g, (Value.slice la L lc).ownBlock = some g → sv.ownBlock ≠ some g) ∧ Hid (w.grownBy wm none)) (fun _ kv _ _ => L - (intOf kv).toNat)
      case atStart => exact ⟨0, S, us, by omega, rfl, by omega, hide (by rw [List.drop_zero]; exact HST.out), HO2, HLA, HAP, HG2⟩
      case round =>
        clear HO2 HLA HAP HG2 HST
        obtain ⟨m, S', us', hm, rfl, hS', HAR, HO, HLA, HAP, HG⟩ := hrel
        obtain ⟨wm, rfl⟩ : ∃ wm, wm = wr := ⟨_, rfl⟩
        obtain ⟨sb, sd, hsv⟩ := own_form HO.out.own
        subst hsv
        by_cases hmt : m < L
        · have hmr : m < A.length := by have := HL.out; omega
          have hmv : m < vl.length := by have := HLA.out.len; omega
          have hoa := HLA.out
          rw [← HL.out] at hoa
          rcases own_atoms hoa with ⟨h0, h1⟩ | ⟨gl, cl, hvl, -, -, hcl⟩
          · rw [h1] at hmr; simp at hmr
          have HCL := hide (hcl m A[m] vl[m] (List.getElem?_eq_getElem hmr) (List.getElem?_eq_getElem hmv))
          have HAG := hide (hoa.args m A[m] vl[m] (List.getElem?_eq_getElem hmr) (List.getElem?_eq_getElem hmv))
          cases hvl
          have HDR : Hid (arityF rs = arityGo S' (A[m] :: (A.drop (m + 1) ++ T))) := by show _ = _; rw [HAR.out, List.drop_eq_getElem_cons hmr]; rfl
          clear hcl hoa HAR
          generalize A[m] = a at *
          obtain ⟨ya, yc, hyy⟩ := own_form HAG.out
          rw [hyy] at HCL HAG
          have hvm : vl[m] = .slice ya a.args.length yc := hyy
          clear hyy
          obtain ⟨NS, HNS⟩ : ∃ NS, Hid (S'.length = NS) := ⟨_, (rfl : _ = _)⟩
          obtain ⟨na, HNA⟩ : ∃ na, Hid (a.args.length = na) := ⟨_, (rfl : _ = _)⟩
          obtain ⟨sn, HSN⟩ : ∃ sn, Hid (str a.name = sn) := ⟨_, (rfl : _ = _)⟩
          rw [HNA.out] at HCL HAG hvm
          have HCL2 : Hid (∀ (q : Nat) (x : Value), (atomV a (.slice ya na yc))[q]? = some x → wm.cell? ⟨gl, m * 3 + q, none⟩ = some x) := HCL.out
          have HOS : Hid (AtomsAt 45 40 w.heap.size B wm (.slice sb S'.length sd) S' us') := HO.out
          rw [HNS.out] at hS' HO HAP ⊢
          have HVM := hide hvm
          clear HCL hvm
          go_wp2_with fail
          go_loopw [7] (fun jv wi => ∃ j : Nat, j ≤ NS ∧ jv = .int .i64 j ∧ Hid ((S'.take j).any (mis a) = false) ∧ Hid (wm.grownBy wi none)) (fun jv _ => NS - (intOf jv).toNat)
          case atStart => exact ⟨0, by omega, rfl, hide rfl, fr_refl _ _⟩
          case round =>
            obtain ⟨j, hj, rfl, HJ, HGI⟩ := hrel
            obtain ⟨wi, rfl⟩ : ∃ wi, wi = wr := ⟨_, rfl⟩
            have e0 := grown_cell HGI.out (HCL2.out 0 _ rfl)
            have e1 := grown_cell HGI.out (HCL2.out 1 _ rfl)
            have e2 := grown_cell HGI.out (HCL2.out 2 _ rfl)
            simp only [Nat.add_zero] at e0
            rw [HSN.out] at e0
            by_cases hjt : j < NS
            · have hjr : j < S'.length := by have := HNS.out; omega
              have hjv : j < us'.length := by have := HOS.out.len; omega
              rcases own_atoms HOS.out with ⟨h0, h1⟩ | ⟨gs, cs, hvs, -, -, hcs⟩
              · rw [h1] at hjr; simp at hjr
              have hcj := hcs j S'[j] us'[j] (List.getElem?_eq_getElem hjr) (List.getElem?_eq_getElem hjv)
              have hbg := HOS.out.args j S'[j] us'[j] (List.getElem?_eq_getElem hjr) (List.getElem?_eq_getElem hjv)
              obtain ⟨za, zc, hzz⟩ := own_form hbg
              rw [hzz] at hcj
              have s0 := grown_cell HGI.out (hcj 0 _ rfl)
              have s1 := grown_cell HGI.out (hcj 1 _ rfl)
              simp only [Nat.add_zero] at s0
              cases hvs
              have HNT := hide (any_take (mis a) S' j hjr)
              have HYT : Hid (mis a S'[j] = true → arityF rs = some a) := fun h => by rw [HDR.out]; exact arity_hit _ _ _ (List.any_eq_true.2 ⟨_, List.getElem_mem hjr, h⟩)
              clear hcs hcj hbg hzz
              generalize S'[j] = b at *
              obtain ⟨nb, HNB⟩ : ∃ nb, Hid (b.args.length = nb) := ⟨_, (rfl : _ = _)⟩
              obtain ⟨sbn, HSB⟩ : ∃ sbn, Hid (str b.name = sbn) := ⟨_, (rfl : _ = _)⟩
              rw [HSB.out] at s0
              rw [HNB.out] at s1
              have HMIS : Hid (mis a b = (b.name == a.name && nb != na)) := by show _ = _; unfold mis; rw [HNB.out, HNA.out]
              by_cases hn : b.name = a.name
              · have hq : (sbn.toList == sn.toList) = true := by rw [← HSB.out, ← HSN.out, str_beq, hn]; simp
                by_cases hc : nb = na
                · have hd : (((nb : Nat) : Int) != (na : Nat)) = false := by simp [hc]
                  have HNX : Hid ((S'.take (j + 1)).any (mis a) = false) := by show _ = _; rw [HNT.out, HJ.out, HMIS.out]; simp [hc]
                  clear HNT HYT HMIS hn hc
                  go_wp2
                  go_quiet (fail)
                  go_wp2
                  go_roundw
                  case rel => exact ⟨j + 1, by omega, by go_num, HNX, fr_both HGI.out (fr_draws _ _ _)⟩
                  case measure => simp [intOf]; omega
                · have hd : (((nb : Nat) : Int) != (na : Nat)) = true := by rw [bne_iff_ne]; omega
                  have HR : Hid (((a.place : Nat) : Int) = arityI (arityF rs)) := by show _ = _; rw [HYT.out (by rw [HMIS.out, hn]; simp [hc])]; rfl
                  clear HNT HYT HMIS hn hc
                  go_wp2
                  go_quiet (fail)
                  go_wp2
                  go_ret
                  exact ⟨ret_i64 HR.out, fr_both (fr_both HG.out HGI.out) (fr_draws _ _ _)⟩
              · have hq : (sbn.toList == sn.toList) = false := by rw [← HSB.out, ← HSN.out, str_beq]; simp [hn]
                have HNX : Hid ((S'.take (j + 1)).any (mis a) = false) := by show _ = _; rw [HNT.out, HJ.out, HMIS.out]; simp [hn]
                clear HNT HYT HMIS hn
                go_wp2
                go_quiet (fail)
                go_wp2
                go_roundw
                case rel => exact ⟨j + 1, by omega, by go_num, HNX, fr_both HGI.out (fr_draws _ _ _)⟩
                case measure => simp [intOf]; omega
            · have HAL : Hid (arityF rs = arityGo (S' ++ [a]) (A.drop (m + 1) ++ T)) := by
                show _ = _
                have := HJ.out
                rw [List.take_of_length_le (by have := HNS.out; omega)] at this
                rw [HDR.out, arity_on _ _ _ this]
              have hwl : w.heap.size ≤ wi.heap.size := (fr_both HG.out HGI.out).size
              have HOI := hide (HOS.out.far HGI.out)
              have HLI := hide (HLA.out.far HGI.out)
              go_wp2_with (at_builtin; refine wpList_append_own_at _ rfl _ _ 92 rfl w.heap.size 40 i0 (.agg atomZ3.toArray) 3 48 Tryz.underlying92 hi0 hz0 hz1 hz2 rfl (by decide) _ _ _ rfl ((show wi.ownsRow w.heap.size 40 3 (.slice sb NS sd) NS (atomsV S' us') by have h := HOI.out.own; rw [HNS.out] at h; exact h).alloc _) ⟨wi.heap.size, 0, none⟩ 1 1 [.string sn, .slice ya na yc, .int .i64 (a.place : Nat)] rfl rfl ?c1 ?c2 ?c3 ?c4 ?c5 ?_)
              case c1 =>
                intro j' u hj'
                have e : (⟨wi.heap.size, 0, none⟩ : Addr).add j' = ⟨wi.heap.size, j', none⟩ := by unfold Addr.add; split <;> simp_all
                rw [e]
                rw [World.cell?_alloc_at _ _ _ _ (by simp)]
                simpa using hj'
              case c2 => intro u hu; simp at hu; rcases hu with rfl | rfl | rfl <;> rfl
              case c3 => unfold maxLen; omega
              case c4 => omega
              case c5 => simp; omega
              intro v4 w4 hown4 hg4 _ hat4
              obtain ⟨a4, p4, rfl⟩ := own_form hown4
              generalize hwa : World.alloc wi _ = wa at hg4 hat4
              have hga : wi.grownBy wa none := by rw [← hwa]; exact fr_alloc _ _ _
              have hza : wi.heap.size < wa.heap.size := by rw [← hwa]; simp
              clear hwa
              have HOI2 : Hid (wi.ownsRow w.heap.size 40 3 (.slice sb NS sd) NS (atomsV S' us')) := by have h := HOI.out.own; rw [HNS.out] at h; exact h
              have HG4 : Hid (w.grownBy w4 none) := fr_own (fr_both (fr_both HG.out HGI.out) hga) (own_far HOI2.out hga (by simp)) (Nat.le_refl _) hg4
              have HO4 : Hid (AtomsAt 45 40 w.heap.size B w4 (.slice a4 (NS + 1) p4) (S' ++ [a]) (us' ++ [.slice ya na yc])) := by
                refine (HOI.out.far hga).push (by decide) (by rw [HNA.out]; exact own_far HAG.out (fr_both HGI.out hga) (by simp)) (by rw [HNS.out]; exact hg4) ?_
                unfold atomV
                rw [HSN.out, HNS.out]
                exact hown4
              have HL4 : Hid (AtomsAt 45 40 w.heap.size B w4 (.slice (some ⟨gl, 0, none⟩) L lc) A vl) := (HLI.out.far hga).other (by decide) (own_far HOI2.out hga (by simp)) hg4 HAP.out
              have HAP4 : Hid (∀ g, (Value.slice (some ⟨gl, 0, none⟩) L lc).ownBlock = some g → (Value.slice a4 (NS + 1) p4).ownBlock ≠ some g) := by
                intro g hg he
                rcases hat4 with h4 | h4
                · exact HAP.out g hg (h4.symm.trans he)
                · rw [h4] at he
                  have := (own_blk HLI.out.own hg).2
                  simp at he; omega
              have HLN : Hid ((S' ++ [a]).length = NS + 1) := by show _ = _; rw [List.length_append, HNS.out]; rfl
              clear hown4 hg4 hat4 hga hza HO HG HAP HLA e0 e1 e2 HOI HOI2 HLI HOS HCL2 HAG
              go_wp2
              go_roundw
              case rel => exact ⟨m + 1, S' ++ [a], us' ++ [.slice ya na yc], by omega, by go_num, by have := HLN.out; omega, HAL, HO4, HL4, HAP4, HG4⟩
              case measure => simp [intOf]; omega
        · have HE : Hid (arityF rs = arityGo S' T) := by show _ = _; rw [HAR.out, List.drop_eq_nil_of_le (by have := HL.out; omega)]; rfl
          have HE2 : Hid (arityF rs = arityGo S' (atomsAll (rs.drop (k + 1)))) := by show _ = _; rw [HE.out, HTT.out]
          have hmL : m ≤ 13 := by omega
          clear HE HAR HLA HAP
          go_wp2
          go_roundw
          case rel => exact ⟨k + 1, S', us', by omega, by go_num, by omega, HE2, HO, HG⟩
          case measure => simp [intOf]; omega
    · have HE : Hid (arityI (arityF rs) = -1) := by
        show _ = _
        rw [HAR.out, List.drop_eq_nil_of_le (by have := HN.out; omega)]; rfl
      go_wp2
      go_ret
      exact ⟨ret_i64 HE.out.symm, HG.out⟩
end Go.Proofs.YtgllfcoafgphbaaGreatDoor

/-
  The document's has and below, walked.
-/
namespace Go.Proofs.YtgllfcoafgphbaaGreatDoor
open Go.ChangeShapes Go.WideShapes Go.ChangeAt Go.RowKit
set_option linter.unusedVariables false
theorem find_mem (l : List (List UInt8)) (s : List UInt8) : decide (0 ≤ find l s) = decide (s ∈ l) := by
  unfold find
  cases h : l.findIdx? (· == s) with
  | none =>
    have hn := List.findIdx?_eq_none_iff.1 h
    have : s ∉ l := fun hm => by have := hn s hm; simp at this
    simp [this]
  | some i =>
    obtain ⟨hi, h1, -⟩ := List.findIdx?_eq_some_iff_getElem.1 h
    have : s ∈ l := by
      have h2 : l[i] = s := by simpa using h1
      rw [← h2]; exact List.getElem_mem hi
    simp [this]
theorem find_small (l : List (List UInt8)) (s : List UInt8) : -1 ≤ find l s ∧ find l s ≤ l.length := by
  unfold find
  cases h : l.findIdx? (· == s) with
  | none => simp
  | some i =>
    obtain ⟨hi, -, -⟩ := List.findIdx?_eq_some_iff_getElem.1 h
    constructor
    · show (-1 : Int) ≤ (i : Nat); omega
    · show ((i : Nat) : Int) ≤ _; omega
set_option maxRecDepth 100000 in
set_option maxHeartbeats 4000000 in
theorem rhas_any (v : Value) (l : List (List UInt8)) (s : List UInt8) (w : World) (h : Strs w v l) (hl : l.length ≤ 1073741824) :
    Calls Tryz.prog 45 #[v, .string (str s)] w fun e w' => e = .returned (.bool (decide (s ∈ l))) ∧ w' = w := by
  have HF := hide (rfind_any v l (str s) w h (by omega))
  rw [data_str] at HF
  have HM := hide (find_mem l s)
  have hb := find_small l s
  generalize find l s = z at *
  clear h
  go_enter Tryz.func45, Tryz.ntmps45
  go_wp2_with fail
  refine HF.out.mono ?_
  rintro e w2 ⟨rfl, rfl⟩
  go_wp2
  go_ret
  refine ⟨?_, rfl⟩
  rw [← HM.out]
  exact ret_bool rfl
/-- names of a rule's body, in their order -/
def namesB (r : PRule) : List (List UInt8) := (bodyAtoms r).map (·.atom.name)
theorem under_take (rs : List PRule) (nw : List UInt8) (i : Nat) (hi : i < rs.length) : under (rs.take (i + 1)) nw = under (rs.take i) nw ++ (if rs[i].head.name = nw then namesB rs[i] else []) := by
  unfold under namesB
  rw [List.take_succ_eq_append_getElem hi, List.filter_append, List.flatMap_append]
  by_cases h : rs[i].head.name = nw <;> simp [h]
theorem adds_append (X a b : List (List UInt8)) : adds X (a ++ b) = adds (adds X a) b := by unfold adds; rw [List.foldl_append]
theorem adds_take (X a : List (List UInt8)) (k : Nat) (hk : k < a.length) : adds X (a.take (k + 1)) = add1 (adds X (a.take k)) a[k] := by
  rw [List.take_succ_eq_append_getElem hk, adds_append]; rfl
theorem adds_len : ∀ (a X : List (List UInt8)), (adds X a).length ≤ X.length + a.length
  | [], X => by simp [adds]
  | x :: a, X => by
    have h1 := adds_len a (add1 X x)
    have h2 : (add1 X x).length ≤ X.length + 1 := by unfold add1; split <;> simp
    simp only [adds, List.foldl_cons, List.length_cons] at h1 ⊢; omega
theorem bodyNames_len : ∀ (rs : List PRule), (∀ r ∈ rs, WfR r) → (bodyNames rs).length ≤ rs.length * 12
  | [], _ => by simp [bodyNames]
  | r :: rs, h => by
    have h1 := bodyNames_len rs (fun x hx => h x (List.mem_cons_of_mem _ hx))
    have h2 := (h r List.mem_cons_self).2.1
    simp only [bodyNames, List.flatMap_cons, List.length_append, List.length_map, List.length_cons] at h1 ⊢; omega
theorem namesB_in {rs : List PRule} {r : PRule} (hr : r ∈ rs) {x : List UInt8} (hx : x ∈ namesB r) : x ∈ bodyNames rs := by
  obtain ⟨p, hp, rfl⟩ := List.mem_map.1 hx
  exact List.mem_flatMap.2 ⟨r, hr, List.mem_map.2 ⟨p, (List.mem_filter.1 hp).1, rfl⟩⟩
theorem under_in {rs : List PRule} {i : Nat} {nw x : List UInt8} (hx : x ∈ under (rs.take i) nw) : x ∈ bodyNames rs := by
  obtain ⟨r, hr, hx⟩ := List.mem_flatMap.1 hx
  exact namesB_in (List.mem_of_mem_take (List.mem_filter.1 hr).1) hx
theorem BInv.len {rs : List PRule} {name : List UInt8} {j : Nat} {X : List (List UInt8)} (h : BInv rs name j X) (zs : List (List UInt8)) (hz : ∀ x ∈ zs, x ∈ bodyNames rs) : (adds X zs).length ≤ (bodyNames rs).length :=
  nodup_length _ _ (adds_nodup zs X h.nodup) fun x hx => ((mem_adds zs X x).1 hx).elim (fun hx => hangs_bodyNames (h.hang x hx)) (hz x)
theorem atomsR_at (r : PRule) (k : Nat) (h : k + 1 < (atomsR r).length) : ∃ h2 : k < (namesB r).length, (atomsR r)[k + 1].name = (namesB r)[k] := by
  have h2 : k < (namesB r).length := by simp [atomsR, namesB] at h ⊢; omega
  exact ⟨h2, by simp [atomsR, namesB]⟩
theorem atomsR_names (r : PRule) : (atomsR r).length = (namesB r).length + 1 := by simp [atomsR, namesB]
set_option maxRecDepth 100000 in
set_option maxHeartbeats 4000000 in
theorem rbelow_any (rs : List PRule) (v : Value) (hs bs2 : List Value) (B : Nat) (name : List UInt8) (w : World) (h : RulesAt 45 47 43 B w v rs hs bs2) (hl : rs.length ≤ 200) (hwf : ∀ r ∈ rs, WfR r) :
    Calls Tryz.prog 44 #[v, .string (str name)] w fun e w' => (∃ u, e = .returned u ∧ ∃ l, w'.ownsRow w.heap.size 9 1 u l.length (ts l) ∧ l.length ≤ 2600 ∧ ∀ x, x ∈ l ↔ Hangs rs name x) ∧ w.grownBy w' none := by
  obtain ⟨i0, hi0, hz0, hz1, hz2⟩ := info_parts info9
  have HWF := hide hwf
  have HRA := hide h
  obtain ⟨va, vc, hv⟩ := own_form h.own
  subst hv
  clear h hwf
  obtain ⟨N, HN⟩ : ∃ N, Hid (rs.length = N) := ⟨_, (rfl : _ = _)⟩
  have HBN : Hid ((bodyNames rs).length ≤ 2600) := by
    show _ ≤ _
    exact Nat.le_trans (bodyNames_len rs HWF.out) (by omega)
  rw [HN.out] at hl ⊢
  obtain ⟨sn, HSN⟩ : ∃ sn, Hid (str name = sn) := ⟨_, (rfl : _ = _)⟩
  rw [HSN.out]
  go_enter Tryz.func44, Tryz.ntmps44
  go_wp2_with fail
  go_loopw [5, 6, 7, 8, 9, 10, 11] (fun lv av nv iv rv kv bv wr => ∃ (j : Nat) (z : Int) (X : List (List UInt8)), av = .int .i64 z ∧ -1 ≤ z ∧ z ≤ 2600 ∧ X.length ≤ 2600 ∧ Hid (z = (j : Int) - 1) ∧ Hid (j ≤ X.length + 1) ∧ Hid (BInv rs name j X) ∧ Hid (j = 0 → X = []) ∧ Hid (wr.ownsRow w.heap.size 9 1 lv X.length (ts X)) ∧ Hid (w.grownBy wr none)) (fun _ av _ _ _ _ _ _ => 2700 - (intOf av + 1).toNat)
  case atStart => exact ⟨0, -1, [], rfl, by omega, by omega, by simp, hide rfl, hide (by simp), BInv.start _ _, fun _ => rfl, World.ownsRow_nil _ _ _ _, fr_refl _ _⟩
  case round =>
    obtain ⟨j, z, X, rfl, hz1', hz2', hX, HZ, HJ, HB, HJ0, HO, HG⟩ := hrel
    obtain ⟨la, lc, hlv⟩ := own_form HO.out
    subst hlv
    by_cases hlt : z < X.length
    · have hTS := HO.out
      go_upto_if 18 with fail
      go_cut [7] (fun nv wc => ∃ nw : List UInt8, nv = .string (str nw) ∧ Hid (BInv rs name (j + 1) (adds X (under rs nw))) ∧ Hid (wr.grownBy wc none))
      case first =>
        by_cases h0 : 0 ≤ z
        · obtain ⟨m, rfl⟩ : ∃ m : Nat, z = m := ⟨z.toNat, by omega⟩
          have hm : m < X.length := by omega
          have hj : j = m + 1 := by have := HZ.out; omega
          obtain ⟨g, hg⟩ : ∃ g, la = some ⟨g, 0, none⟩ := by
            rcases hTS.2 with ⟨hq, hn⟩ | ⟨g, cap, cur, hq, -⟩
            · omega
            · cases hq; exact ⟨g, rfl⟩
          subst hg
          have c := hTS.cells rfl m _ (ts_at (List.getElem?_eq_getElem hm))
          rw [add_zero] at c
          have HNX : Hid (BInv rs name (j + 1) (adds X (under rs X[m]))) := by
            have hb := HB.out
            rw [hj] at hb ⊢
            exact hb.next (List.getElem?_eq_getElem hm)
          clear hj hTS
          go_wp2_with fail
          go_meet
          case rel => exact ⟨X[m], rfl, HNX, fr_refl _ _⟩
        · have hz : z = -1 := by omega
          have hj : j = 0 := by have := HZ.out; omega
          have HNX : Hid (BInv rs name (j + 1) (adds X (under rs name))) := by
            have hb := HB.out
            have hx := HJ0.out hj
            rw [hj, hx] at hb ⊢
            exact hb.first
          subst hz
          clear hj hTS h0
          go_wp2_with fail
          go_meet
          case rel => exact ⟨name, (by rw [HSN.out]), HNX, fr_refl _ _⟩
      case rest =>
        obtain ⟨nw, rfl, HBX, HGc⟩ := hcut
        have HGw := hide (fr_both HG.out HGc.out)
        have HOc := hide (own_far HO.out HGc.out (by simp))
        have HBO := hide HB.out
        clear HG HGc HO HB hTS
        obtain ⟨snw, HSW⟩ : ∃ snw, Hid (str nw = snw) := ⟨_, (rfl : _ = _)⟩
        rw [HSW.out]
        have HLEN : Hid (∀ zs : List (List UInt8), (∀ x ∈ zs, x ∈ bodyNames rs) → (adds X zs).length ≤ 2600) := fun zs hz => Nat.le_trans (HBO.out.len zs hz) HBN.out
        go_wp2_with fail
        go_loopw [5, 8, 9, 10, 11] (fun lv iv rv kv bv wm => ∃ (i : Nat) (Y : List (List UInt8)), i ≤ N ∧ iv = .int .i64 i ∧ Y.length ≤ 2600 ∧ Hid (Y = adds X (under (rs.take i) nw)) ∧ Hid (wm.ownsRow w.heap.size 9 1 lv Y.length (ts Y)) ∧ Hid (w.grownBy wm none)) (fun _ iv _ _ _ _ => N - (intOf iv).toNat)
        case atStart => exact ⟨0, X, by omega, rfl, hX, hide rfl, HOc, HGw⟩
        case round =>
          clear HOc HGw
          obtain ⟨i, Y, hi, rfl, hY, HY, HO, HG⟩ := hrel
          obtain ⟨wm, rfl⟩ : ∃ wm, wm = wr := ⟨_, rfl⟩
          obtain ⟨lb, ld, hlv⟩ := own_form HO.out
          subst hlv
          by_cases hit : i < N
          · have hkr : i < rs.length := by have := HN.out; omega
            have hkh : i < hs.length := by have := HRA.out.lh; omega
            have hkb : i < bs2.length := by have := HRA.out.lb; omega
            have hor := HRA.out
            rcases own_rules hor with ⟨h0, h1⟩ | ⟨gr, cr, hvr, -, -, hcr, -⟩
            · rw [h1] at hkr; simp at hkr
            cases hvr
            have HCR := hide (hcr i rs[i] hs[i] bs2[i] (List.getElem?_eq_getElem hkr) (List.getElem?_eq_getElem hkh) (List.getElem?_eq_getElem hkb))
            obtain ⟨xs, hbd⟩ := hor.bodies i rs[i] bs2[i] (List.getElem?_eq_getElem hkr) (List.getElem?_eq_getElem hkb)
            have hhd := hor.heads i rs[i] hs[i] (List.getElem?_eq_getElem hkr) (List.getElem?_eq_getElem hkh)
            have HW := hide (HWF.out _ (List.getElem_mem hkr))
            have HST := hide (under_take rs nw i hkr)
            have HIN := hide (fun x => namesB_in (rs := rs) (r := rs[i]) (List.getElem_mem hkr) (x := x))
            obtain ⟨xa, xc, hxx⟩ := own_form hhd
            obtain ⟨ya, yc, hyy⟩ := own_form hbd.own
            rw [hxx, hyy] at HCR
            rw [hxx] at hhd
            rw [hyy] at hbd
            have HHD := hide hhd
            have HBD := hide hbd
            clear hcr hor hbd hhd hxx hyy
            generalize rs[i] = r at *
            have HC1 : Hid (Calls Tryz.prog 41 #[.agg (ruleV r (.slice xa r.head.args.length xc) (.slice ya r.body.length yc)).toArray] wm fun e w' => (∃ v vs, e = .returned v ∧ AtomsAt 45 40 wm.heap.size B w' v (atomsR r) vs) ∧ wm.grownBy w' none) := ratomsOf_any r _ _ xs B wm (own_far HHD.out HG.out (by simp)) (HBD.out.kept HG.out (fun g e => by cases e)) HW.out.2.1
            have hAL := atomsR_len HW.out.2.1
            have kp : ∀ (j : Nat) (x : Value), (ruleV r (.slice xa r.head.args.length xc) (.slice ya r.body.length yc))[j]? = some x → wm.cell? ⟨gr, i * 4 + j, none⟩ = some x := fun j x hx => grown_cell HG.out (HCR.out j x hx)
            have d0 := kp 0 _ rfl
            have d1 := kp 1 _ rfl
            have d2 := kp 2 _ rfl
            have d3 := kp 3 _ rfl
            simp only [Nat.add_zero] at d0
            clear kp HCR HHD HBD
            by_cases hn : r.head.name = nw
            · have hq : ((str r.head.name).toList == snw.toList) = true := by rw [← HSW.out, str_beq, hn]; simp
              have hq2 : ((str r.head.name).toList != snw.toList) = false := by rw [bne, hq]; rfl
              have HST2 : Hid (adds X (under (rs.take (i + 1)) nw) = adds Y (namesB r)) := by show _ = _; rw [HST.out, if_pos hn, adds_append, ← HY.out]
              have HLZ : Hid (∀ q, (adds Y ((namesB r).take q)).length ≤ 2600) := by
                intro q
                rw [HY.out, ← adds_append]
                refine HLEN.out _ fun x hx => ?_
                rcases List.mem_append.1 hx with hx | hx
                · exact under_in hx
                · exact HIN.out x (List.mem_of_mem_take hx)
              clear hn HST
              go_wp2_with fail
              refine HC1.out.mono ?_
              rintro e w2 ⟨⟨av, vl, rfl, hla⟩, hg2⟩
              have HG2 := hide (fr_both HG.out hg2)
              have HO2 := hide (own_far HO.out hg2 (by simp))
              have HLA := hide (hla.lower HG.out.size)
              obtain ⟨ga, gc, hlv⟩ := own_form hla.own
              subst hlv
              have HNM := hide (atomsR_at r)
              have HNL := hide (atomsR_names r)
              clear hla hg2 HC1 d0 d1 d2 d3 HO HG HW hq hq2
              generalize atomsR r = A at *
              generalize namesB r = M at *
              obtain ⟨L, HL⟩ : ∃ L, Hid (A.length = L) := ⟨_, (rfl : _ = _)⟩
              have hL1 : 1 ≤ L := by have h1 := HL.out; have h2 := HNL.out; omega
              have HLM : Hid (M.length + 1 = L) := by have h1 := HL.out; have h2 := HNL.out; show _ = _; omega
              have HLA2 : Hid (AtomsAt 45 40 w.heap.size B w2 (.slice ga A.length gc) A vl) := HLA.out
              rw [HL.out] at hAL ⊢
              go_wp2_with fail
              go_loopw [5, 10, 11] (fun lv kv bv wi => ∃ (κ : Nat) (Z : List (List UInt8)), κ + 1 ≤ L ∧ kv = .int .i64 ((κ + 1 : Nat) : Int) ∧ Z.length ≤ 2600 ∧ Hid (Z = adds Y (M.take κ)) ∧ Hid (wi.ownsRow w.heap.size 9 1 lv Z.length (ts Z)) ∧ Hid (AtomsAt 45 40 w.heap.size B wi (.slice ga A.length gc) A vl) ∧ Hid (w.grownBy wi none)) (fun _ kv _ _ => L - (intOf kv).toNat)
              case atStart => exact ⟨0, Y, by omega, rfl, hY, hide rfl, HO2, HLA2, HG2⟩
              case round =>
                clear HO2 HLA HLA2 HG2
                obtain ⟨κ, Z, hκ, rfl, hZ, HZZ, HO, HLA, HG⟩ := hrel
                obtain ⟨wi, rfl⟩ : ∃ wi, wi = wr := ⟨_, rfl⟩
                obtain ⟨lb, ld, hlv⟩ := own_form HO.out
                subst hlv
                obtain ⟨μ, HMU⟩ : ∃ μ : Nat, Hid (κ + 1 = μ) := ⟨_, (rfl : _ = _)⟩
                rw [HMU.out] at hκ ⊢
                have HLN : Hid (A.length = L) := HL.out
                by_cases hkt : μ < L
                · have hka : κ + 1 < A.length := by have h1 := HL.out; have h2 := HMU.out; omega
                  obtain ⟨hkm, hnm⟩ := HNM.out κ hka
                  have hkv : κ + 1 < vl.length := by have := HLA.out.len; omega
                  rcases own_atoms HLA.out with ⟨h0, h1⟩ | ⟨gl, cl, hvl, -, -, hcl⟩
                  · rw [h1] at hka; simp at hka
                  have hc0 : wi.cell? ⟨gl, (κ + 1) * 3, none⟩ = some (.string (str M[κ])) := by
                    have := hcl (κ + 1) A[κ + 1] vl[κ + 1] (List.getElem?_eq_getElem hka) (List.getElem?_eq_getElem hkv) 0 _ rfl
                    rw [hnm] at this
                    exact this
                  cases hvl
                  have HTK := hide (adds_take Y M κ hkm)
                  rw [HMU.out] at hc0
                  have HLQ := hide (HLZ.out (κ + 1))
                  clear hcl hnm
                  generalize M[κ] = x at *
                  have HCH := hide (rhas_any _ Z x wi (own_strs HO.out) (by omega))
                  obtain ⟨sx, HSX⟩ : ∃ sx, Hid (str x = sx) := ⟨_, (rfl : _ = _)⟩
                  rw [HSX.out] at hc0 HCH
                  rw [HL.out] at HLA
                  obtain ⟨nz, HNZ⟩ : ∃ nz, Hid (Z.length = nz) := ⟨_, (rfl : _ = _)⟩
                  rw [HNZ.out] at HCH hZ HO ⊢
                  go_wp2_with fail
                  refine HCH.out.mono ?_
                  rintro e w3 ⟨rfl, h3⟩
                  obtain rfl : w3 = wi := h3
                  clear HCH
                  by_cases hin : x ∈ Z
                  · have hd : decide (x ∈ Z) = true := decide_eq_true hin
                    have HZN : Hid (Z = adds Y (M.take (κ + 1))) := by show _ = _; rw [HTK.out, ← HZZ.out]; unfold add1; rw [if_pos hin]
                    rw [hd]
                    clear hd hin HTK
                    go_wp2
                    go_roundw
                    case rel => exact ⟨κ + 1, Z, by have := HMU.out; omega, by rw [HMU.out]; go_num, by have := HNZ.out; omega, HZN, (by rw [HNZ.out]; exact HO), (by rw [HL.out]; exact HLA), HG⟩
                    case measure => simp [intOf]; omega
                  · have hd : decide (x ∈ Z) = false := decide_eq_false hin
                    have HZN : Hid (Z ++ [x] = adds Y (M.take (κ + 1))) := by show _ = _; rw [HTK.out, ← HZZ.out]; unfold add1; rw [if_neg hin]
                    have hZ2 : nz + 1 ≤ 2600 := by
                      have h1 := HLQ.out
                      rw [← HZN.out, List.length_append, HNZ.out] at h1
                      simpa using h1
                    rw [hd]
                    clear hd hin HTK
                    have hwl : w.heap.size ≤ w3.heap.size := HG.out.size
                    go_wp2_with (at_builtin; refine wpList_append_own _ rfl _ _ 58 rfl w.heap.size 9 i0 (.string { data := #[] }) 1 16 Tryz.underlying58 hi0 hz0 hz1 hz2 rfl (by decide) _ _ _ rfl (HO.out.alloc _) ⟨w3.heap.size, 0, none⟩ 1 1 [.string sx] rfl rfl ?c1 ?c2 ?c3 ?c4 ?c5 ?_)
                    case c1 => exact cell_one_new _ _ _
                    case c2 => intro u hu; simp at hu; rcases hu with rfl; rfl
                    case c3 => unfold maxLen; omega
                    case c4 => omega
                    case c5 => simp; omega
                    intro v4 w4 hown4 hg4 _
                    obtain ⟨a4, p4, rfl⟩ := own_form hown4
                    generalize hwa : World.alloc w3 _ = wa at hg4
                    have hga : w3.grownBy wa none := by rw [← hwa]; exact fr_alloc _ _ _
                    clear hwa
                    have hoa := own_far HO.out hga (by simp)
                    have HG4 : Hid (w.grownBy w4 none) := fr_own (fr_both HG.out hga) hoa (Nat.le_refl _) hg4
                    have HO4 : Hid (w4.ownsRow w.heap.size 9 1 (.slice a4 (nz + 1) p4) (Z ++ [x]).length (ts (Z ++ [x]))) := by
                      have h := hown4
                      rw [← HSX.out, ts_snoc] at h
                      have e : (Z ++ [x]).length = nz + 1 := by rw [List.length_append, HNZ.out]; rfl
                      rw [e]
                      exact h
                    have HL4 : Hid (AtomsAt 45 40 w.heap.size B w4 (.slice (some ⟨gl, 0, none⟩) L gc) A vl) := by
                      have h := HLA.out.far hga
                      exact ⟨own_far h.own hg4 (kinds_ne h.own hoa (by decide)), h.len, fun i p u hp hu => own_far (h.args i p u hp hu) hg4 (kinds_ne (h.args i p u hp hu) hoa (by decide))⟩
                    have HLZN : Hid ((Z ++ [x]).length = nz + 1) := by show _ = _; rw [List.length_append, HNZ.out]; rfl
                    clear hown4 hg4 hga hoa HO HG HLA hc0
                    go_wp2
                    go_roundw
                    case rel => exact ⟨κ + 1, Z ++ [x], by have := HMU.out; omega, by rw [HMU.out]; go_num, by have := HLZN.out; omega, HZN, (by rw [HLZN.out] at HO4 ⊢; exact HO4), (by rw [HL.out]; exact HL4), HG4⟩
                    case measure => simp [intOf]; omega
                · have HYN : Hid (Z = adds X (under (rs.take (i + 1)) nw)) := by
                    show _ = _
                    rw [HST2.out, HZZ.out, List.take_of_length_le (by have h1 := HLM.out; have h2 := HMU.out; omega)]
                  rw [HL.out] at HLA
                  go_wp2
                  go_roundw
                  case rel => exact ⟨i + 1, Z, by omega, by go_num, hZ, HYN, HO, HG⟩
                  case measure => simp [intOf]; omega
            · have hq : ((str r.head.name).toList == snw.toList) = false := by rw [← HSW.out, str_beq]; simp [hn]
              have hq2 : ((str r.head.name).toList != snw.toList) = true := by rw [bne, hq]; rfl
              have HST2 : Hid (Y = adds X (under (rs.take (i + 1)) nw)) := by show _ = _; rw [HST.out, if_neg hn, List.append_nil, ← HY.out]
              clear hn HST
              generalize str r.head.name = sh at *
              go_wp2
              go_roundw
              case rel => exact ⟨i + 1, Y, by omega, by go_num, hY, HST2, HO, HG⟩
              case measure => simp [intOf]; omega
          · have HE : Hid (BInv rs name (j + 1) Y) := by
              have h1 := HY.out
              rw [List.take_of_length_le (by have := HN.out; omega)] at h1
              rw [h1]
              exact HBX.out
            have HZN : Hid (z + 1 = ((j + 1 : Nat) : Int) - 1) := by have := HZ.out; show _ = _; omega
            have HJN : Hid (j + 1 ≤ Y.length + 1) := by
              have h1 : X.length ≤ Y.length := by
                obtain ⟨t, ht⟩ := adds_pre (under (rs.take i) nw) X
                rw [HY.out, ht, List.length_append]; omega
              have h2 := HZ.out
              show _ ≤ _
              omega
            clear HY HZ HJ HBX HLEN
            go_wp2
            go_roundw
            case rel => exact ⟨j + 1, z + 1, Y, by go_num, by omega, by omega, hY, HZN, HJN, HE, fun h => by omega, HO, HG⟩
            case measure => simp [intOf]; omega
    · have HJE : Hid (j = X.length + 1) := by have h1 := HZ.out; have h2 := HJ.out; show _ = _; omega
      have HE : Hid (∀ x, x ∈ X ↔ Hangs rs name x) := by
        have := HB.out
        rw [HJE.out] at this
        exact fun x => this.done x
      clear HJE HZ HJ
      go_wp2
      go_ret
      exact ⟨⟨_, rfl, X, HO.out, hX, HE.out⟩, HG.out⟩
end Go.Proofs.YtgllfcoafgphbaaGreatDoor
