import Derived.Test.YtgllfcoafgphbaaGreatDoorM26
import Derived.Test.YtgllfcoafgphbaaGreatDoorM08
/-
  The document's ringed and Checked, walked.
-/
namespace Go.Proofs.YtgllfcoafgphbaaGreatDoor
open Go.ChangeShapes Go.WideShapes Go.ChangeAt Go.RowKit
set_option linter.unusedVariables false
/-- a place, or -1 -/
def ringI (o : Option PPart) : Int := match o with
  | some t => (t.atom.place : Nat)
  | none => -1
open Classical in
noncomputable def ringB (rs : List PRule) (r : PRule) (p : PPart) : Bool := decide (p.kind = 1 ∧ Hangs rs p.atom.name r.head.name)
theorem ringR_is (rs : List PRule) (r : PRule) : ringR rs r = r.body.find? (ringB rs r) := rfl
open Classical in
theorem ringB_yes {rs : List PRule} {r : PRule} {p : PPart} (h : p.kind = 1) (k : Hangs rs p.atom.name r.head.name) : ringB rs r p = true := by unfold ringB; exact decide_eq_true ⟨h, k⟩
open Classical in
theorem ringB_no {rs : List PRule} {r : PRule} {p : PPart} (h : ¬ (p.kind = 1 ∧ Hangs rs p.atom.name r.head.name)) : ringB rs r p = false := by unfold ringB; exact decide_eq_false h
theorem find_take {α : Type} (f : α → Bool) (l : List α) (k : Nat) (hk : k < l.length) (h0 : (l.take k).find? f = none) (h1 : f l[k] = false) : (l.take (k + 1)).find? f = none := by
  rw [List.take_succ_eq_append_getElem hk, List.find?_append, h0]; simp [h1]
theorem find_hit {α : Type} (f : α → Bool) (l : List α) (k : Nat) (hk : k < l.length) (h0 : (l.take k).find? f = none) (h1 : f l[k] = true) : l.find? f = some l[k] := by
  have e : l.find? f = (l.take (k + 1) ++ l.drop (k + 1)).find? f := by rw [List.take_append_drop]
  rw [e, List.find?_append, List.take_succ_eq_append_getElem hk, List.find?_append, h0]; simp [h1]
theorem ring_take (rs : List PRule) (k : Nat) (hk : k < rs.length) (h0 : (rs.take k).findSome? (ringR rs) = none) (h1 : ringR rs rs[k] = none) : (rs.take (k + 1)).findSome? (ringR rs) = none := by
  rw [List.take_succ_eq_append_getElem hk, List.findSome?_append, h0]; simp [h1]
theorem ring_hit (rs : List PRule) (k : Nat) (hk : k < rs.length) (h0 : (rs.take k).findSome? (ringR rs) = none) (p : PPart) (h1 : ringR rs rs[k] = some p) : ringF rs = some p := by
  have e : ringF rs = (rs.take (k + 1) ++ rs.drop (k + 1)).findSome? (ringR rs) := by rw [List.take_append_drop]; rfl
  rw [e, List.findSome?_append, List.take_succ_eq_append_getElem hk, List.findSome?_append, h0]; simp [h1]
set_option maxRecDepth 100000 in
set_option maxHeartbeats 4000000 in
theorem rringed_any (rs : List PRule) (v : Value) (hs bs2 : List Value) (B : Nat) (w : World) (h : RulesAt 45 47 43 B w v rs hs bs2) (hl : rs.length ≤ 200) (hwf : ∀ r ∈ rs, WfR r) :
    Calls Tryz.prog 21 #[v] w fun e w' => e = .returned (.int .i64 (ringI (ringF rs))) ∧ w.grownBy w' none := by
  have HWF := hide hwf
  have HRA := hide h
  obtain ⟨va, vc, hv⟩ := own_form h.own
  subst hv
  clear h hwf
  obtain ⟨N, HN⟩ : ∃ N, Hid (rs.length = N) := ⟨_, (rfl : _ = _)⟩
  have HBE : Hid (∀ (x : List UInt8) (w' : World), w.grownBy w' none → Calls Tryz.prog 44 #[.slice va N vc, .string (str x)] w' fun e w'' => (∃ u, e = .returned u ∧ ∃ l, w''.ownsRow w'.heap.size 9 1 u l.length (ts l) ∧ l.length ≤ 2600 ∧ ∀ y, y ∈ l ↔ Hangs rs x y) ∧ w'.grownBy w'' none) := by
    intro x w' hg
    have := rbelow_any rs _ hs bs2 B x w' (HRA.out.kept hg (fun g e => by cases e)) (by have := HN.out; omega) HWF.out
    rw [HN.out] at this
    exact this
  rw [HN.out] at hl ⊢
  go_enter Tryz.func21, Tryz.ntmps21
  go_wp2_with fail
  go_loopw [3, 4, 5, 6, 7] (fun iv kv pv lv bv wr => ∃ i : Nat, i ≤ N ∧ iv = .int .i64 i ∧ Hid ((rs.take i).findSome? (ringR rs) = none) ∧ Hid (w.grownBy wr none)) (fun iv _ _ _ _ _ => N - (intOf iv).toNat)
  case atStart => exact ⟨0, by omega, rfl, hide rfl, fr_refl _ _⟩
  case round =>
    obtain ⟨i, hi, rfl, HR, HG⟩ := hrel
    obtain ⟨wm, rfl⟩ : ∃ wm, wm = wr := ⟨_, rfl⟩
    by_cases hit : i < N
    · have hkr : i < rs.length := by have := HN.out; omega
      have hkh : i < hs.length := by have := HRA.out.lh; omega
      have hkb : i < bs2.length := by have := HRA.out.lb; omega
      have hor := HRA.out
      rcases own_rules hor with ⟨h0, h1⟩ | ⟨gr, cr, hvr, -, -, hcr, -⟩
      · rw [h1] at hkr; simp at hkr
      cases hvr
      have HCR := hide (hcr i rs[i] hs[i] bs2[i] (List.getElem?_eq_getElem hkr) (List.getElem?_eq_getElem hkh) (List.getElem?_eq_getElem hkb))
      obtain ⟨us, hbd⟩ := hor.bodies i rs[i] bs2[i] (List.getElem?_eq_getElem hkr) (List.getElem?_eq_getElem hkb)
      have hhd := hor.heads i rs[i] hs[i] (List.getElem?_eq_getElem hkr) (List.getElem?_eq_getElem hkh)
      have HW := hide (HWF.out _ (List.getElem_mem hkr))
      have HNX := hide (ring_take rs i hkr HR.out)
      have HIT := hide (ring_hit rs i hkr HR.out)
      have HRM := hide (List.getElem_mem hkr)
      obtain ⟨xa, xc, hxx⟩ := own_form hhd
      obtain ⟨ya, yc, hyy⟩ := own_form hbd.own
      rw [hxx, hyy] at HCR
      rw [hyy] at hbd
      have HBD := hide hbd
      clear hcr hor hbd hhd hxx hyy
      generalize rs[i] = r at *
      obtain ⟨L, HL⟩ : ∃ L, Hid (r.body.length = L) := ⟨_, (rfl : _ = _)⟩
      have hL : L ≤ 12 := by have h1 := HL.out; have h2 := HW.out.2.1; omega
      have HKP : Hid (∀ (w' : World), w.grownBy w' none → ∀ (j : Nat) (x : Value), (ruleV r (.slice xa r.head.args.length xc) (.slice ya L yc))[j]? = some x → w'.cell? ⟨gr, i * 4 + j, none⟩ = some x) := by
        intro w' hg j x hx
        rw [← HL.out] at hx
        exact grown_cell hg (HCR.out j x hx)
      clear HCR
      obtain ⟨sh, HSH⟩ : ∃ sh, Hid (str r.head.name = sh) := ⟨_, (rfl : _ = _)⟩
      go_wp2_with fail
      go_loopw [4, 5, 6, 7] (fun kv pv lv bv wi => ∃ k : Nat, k ≤ L ∧ kv = .int .i64 k ∧ Hid ((r.body.take k).find? (ringB rs r) = none) ∧ Hid (w.grownBy wi none)) (fun kv _ _ _ _ => L - (intOf kv).toNat)
      case atStart => exact ⟨0, by omega, rfl, hide rfl, HG⟩
      case round =>
        clear HG
        obtain ⟨k, hk, rfl, HF, HG⟩ := hrel
        obtain ⟨wi, rfl⟩ : ∃ wi, wi = wr := ⟨_, rfl⟩
        have d3 := HKP.out wi HG.out 3 _ rfl
        by_cases hkt : k < L
        · have hkr : k < r.body.length := by have := HL.out; omega
          have hkv : k < us.length := by have := HBD.out.len; omega
          rcases own_parts HBD.out with ⟨h0, h1⟩ | ⟨gb, cb, hvb, -, -, hcb, -⟩
          · rw [h1] at hkr; simp at hkr
          have hcp := hcb k r.body[k] us[k] (List.getElem?_eq_getElem hkr) (List.getElem?_eq_getElem hkv)
          have har := HBD.out.args k r.body[k] us[k] (List.getElem?_eq_getElem hkr) (List.getElem?_eq_getElem hkv)
          cases hvb
          have HNF := hide (find_take (ringB rs r) r.body k hkr HF.out)
          have HFH := hide (find_hit (ringB rs r) r.body k hkr HF.out)
          have HOW := hide (fun (h1 : r.body[k].kind = 1) => own_hangs (rs := rs) HRM.out (List.getElem_mem hkr) h1)
          obtain ⟨za, zc, hzz⟩ := own_form har
          rw [hzz] at hcp
          generalize r.body[k] = p at *
          have kp : ∀ (j : Nat) (x : Value), (partV p (.slice za p.atom.args.length zc))[j]? = some x → wi.cell? ⟨gb, k * 10 + j, none⟩ = some x := fun j x hx => grown_cell HG.out (hcp j x hx)
          have e0 := kp 0 _ rfl
          have e1 := kp 1 _ rfl
          have e2 := kp 2 _ rfl
          have e3 := kp 3 _ rfl
          have e4 := kp 4 _ rfl
          have e5 := kp 5 _ rfl
          have e6 := kp 6 _ rfl
          have e7 := kp 7 _ rfl
          have e8 := kp 8 _ rfl
          have e9 := kp 9 _ rfl
          simp only [Nat.add_zero] at e0
          clear kp hcp hcb har hzz
          obtain ⟨sp, HSP⟩ : ∃ sp, Hid (str p.atom.name = sp) := ⟨_, (rfl : _ = _)⟩
          rw [HSP.out] at e1
          by_cases h1 : p.kind = 1
          · have hb : (((p.kind : Nat) : Int) != 1) = false := by simp [h1]
            have HK1 := hide h1
            clear h1
            go_wp2_with fail
            generalize hw1 : World.alloc wi _ = w1
            have HG1 : Hid (w.grownBy w1 none) := by rw [← hw1]; exact fr_both HG.out (fr_alloc _ _ _)
            obtain ⟨bx, HBX⟩ : ∃ bx, Hid (wi.heap.size = bx) := ⟨_, (rfl : _ = _)⟩
            have HP1 : Hid (w1.cell? ⟨bx, 1, none⟩ = some (.string sp) ∧ w1.cell? ⟨bx, 3, none⟩ = some (.int .i64 (p.atom.place : Nat))) := by rw [← hw1, ← HBX.out]; exact ⟨by simp, by simp⟩
            rw [HBX.out]
            clear hw1 e0 e1 e2 e3 e4 e5 e6 e7 e8 e9 d3 hb
            have HC2 := hide (HBE.out p.atom.name w1 HG1.out)
            rw [HSP.out] at HC2
            refine HC2.out.mono ?_
            rintro e w2 ⟨⟨u, rfl, l, hlo, hll, hlm⟩, hg2⟩
            have HG2 := hide (fr_both HG1.out hg2)
            have HLO := hide hlo
            have HLM := hide (hlm r.head.name)
            obtain ⟨ua, uc, huu⟩ := own_form hlo
            subst huu
            have c1 := grown_cell hg2 HP1.out.1
            have c3 := grown_cell hg2 HP1.out.2
            have d0 := HKP.out w2 HG2.out 0 _ rfl
            simp only [Nat.add_zero] at d0
            rw [HSH.out] at d0
            have HCH := hide (rhas_any _ l r.head.name w2 (own_strs HLO.out) (by omega))
            rw [HSH.out] at HCH
            obtain ⟨nl, HNL⟩ : ∃ nl, Hid (l.length = nl) := ⟨_, (rfl : _ = _)⟩
            rw [HNL.out] at HCH HLO ⊢
            clear hlo hlm hg2 HC2
            go_wp2_with fail
            refine HCH.out.mono ?_
            rintro e w3 ⟨rfl, h3⟩
            obtain rfl : w3 = w2 := h3
            clear HCH
            by_cases hin : r.head.name ∈ l
            · have hd : decide (r.head.name ∈ l) = true := decide_eq_true hin
              have HRT : Hid (((p.atom.place : Nat) : Int) = ringI (ringF rs)) := by
                show _ = _
                rw [HIT.out p (by rw [ringR_is]; exact HFH.out (ringB_yes HK1.out (HLM.out.1 hin)))]; rfl
              rw [hd]
              clear hd hin HNF HFH HOW HNX HIT
              generalize p.atom.place = pl at *
              go_wp2
              go_quiet (fail)
              go_wp2
              go_ret
              exact ⟨ret_i64 HRT.out, fr_both HG2.out (fr_draws _ _ _)⟩
            · have hd : decide (r.head.name ∈ l) = false := decide_eq_false hin
              have HHN : Hid (¬ Hangs rs p.atom.name r.head.name) := fun h => hin (HLM.out.2 h)
              have hq : (sp.toList == sh.toList) = false := by
                rw [← HSP.out, ← HSH.out, str_beq]
                simp only [beq_eq_false_iff_ne, ne_eq]
                exact fun he => HHN.out ((HOW.out HK1.out).1 (.inl he))
              have HN2 := hide (HNF.out (ringB_no (fun h => HHN.out h.2)))
              rw [hd]
              clear hd hin HNF HFH HOW HNX HIT HHN
              go_wp2
              go_quiet (fail)
              go_wp2
              go_roundw
              case rel => exact ⟨k + 1, by omega, by go_num, HN2, fr_both HG2.out (fr_draws _ _ _)⟩
              case measure => simp [intOf]; omega
          · have hb : (((p.kind : Nat) : Int) != 1) = true := by rw [bne_iff_ne]; omega
            have HN2 := hide (HNF.out (ringB_no (fun h => h1 h.1)))
            clear h1 HNF HFH HOW
            go_wp2
            go_roundw
            case rel => exact ⟨k + 1, by omega, by go_num, HN2, fr_both HG.out (fr_alloc _ _ _)⟩
            case measure => simp [intOf]; omega
        · have HE : Hid (ringR rs r = none) := by
            show _ = _
            have := HF.out
            rw [List.take_of_length_le (by have := HL.out; omega)] at this
            exact this
          have HN2 := hide (HNX.out HE.out)
          clear HNX HIT
          go_wp2
          go_roundw
          case rel => exact ⟨i + 1, by omega, by go_num, HN2, HG⟩
          case measure => simp [intOf]; omega
    · have HE : Hid (ringI (ringF rs) = -1) := by
        show _ = _
        have := HR.out
        rw [List.take_of_length_le (by have := HN.out; omega)] at this
        unfold ringF
        rw [this]; rfl
      go_wp2
      go_ret
      exact ⟨ret_i64 HE.out.symm, HG.out⟩
end Go.Proofs.YtgllfcoafgphbaaGreatDoor

/-
  The document's Reader: parts.
-/
namespace Go.Proofs.YtgllfcoafgphbaaGreatDoor
open Go.ChangeShapes Go.WideShapes Go.ChangeAt Go.RowKit
set_option linter.unusedVariables false
theorem infoPart : (Tryz.prog.info? 47).map (fun i => (i.zero, i.size, i.bytes)) = some (some (.agg partZ.toArray), 10, 120) := by kernel_rfl
theorem pbodyS_step (s : ByteArray) (n : Nat) (acc : List PPart) {st : RSt} (h : st.e = 0) : pbodyS s (n + 1) acc st =
    if isS [44] (partS s (if 12 ≤ acc.length then manyS true st else st)).2 then pbodyS s n (acc ++ [(partS s (if 12 ≤ acc.length then manyS true st else st)).1]) (nextS s (partS s (if 12 ≤ acc.length then manyS true st else st)).2)
    else (acc ++ [(partS s (if 12 ≤ acc.length then manyS true st else st)).1], (partS s (if 12 ≤ acc.length then manyS true st else st)).2) := by
  rw [pbodyS, if_pos h]
/-- behind too many parts no other one is read -/
theorem manyP_stops (s : ByteArray) (st : RSt) (h : Fit s st) (sg : List UInt8) : isS sg (partS s (manyS true st)).2 = false := by
  by_cases he : st.e = 0
  · unfold manyS
    split
    · have hd : (failS 7 st.a st).e ≠ 0 := by unfold failS; rw [if_pos he]; simp
      apply isS_dead
      rw [(partS_dead s hd).1]; exact hd
    · rename_i hn
      simp only [Bool.or_eq_true, decide_eq_true_eq, Bool.true_and, not_or] at hn
      have hq : quotS s st = st := by unfold quotS; rw [if_neg hn.2]
      have hk : termKind st.kd = false := by
        have := h.2.2 he
        simp [termKind, hn.1.1.1.1, hn.1.1.1.2, hn.1.1.2, this]
      have ht := termS_no hq hk
      have hd : (failS 2 st.a st).e ≠ 0 := by unfold failS; rw [if_pos he]; simp
      apply isS_dead
      rw [partS_end s st hn.1.2 (fun j _ => by rw [ht]; exact isS_dead hd _), ht, if_neg hn.1.1.1.1]
      simp only [failS_dead hd]
      rw [if_neg hd]; exact hd
  · rw [manyS_dead he]; apply isS_dead; rw [(partS_dead s he).1]; exact he
theorem pbodyS_fit (s : ByteArray) : ∀ (n : Nat) (acc : List PPart) (st : RSt), Fit s st → Fit s (pbodyS s n acc st).2 := by
  intro n
  induction n with
  | zero => intro acc st h; exact h
  | succ n ih =>
    intro acc st h
    by_cases he : st.e = 0
    · rw [pbodyS_step s n acc he]
      have h1 : Fit s (if 12 ≤ acc.length then manyS true st else st) := by
        split
        · exact manyS_fit s _ h
        · exact h
      have h2 := partS_fit s _ h1
      generalize (if 12 ≤ acc.length then manyS true st else st) = q at h2 ⊢
      split
      · exact ih _ _ (nextS_fit s _ h2.1)
      · exact h2
    · rw [pbodyS_dead s _ _ he]; exact h
theorem partsS_fit (s : ByteArray) (st : RSt) (h : Fit s st) : Fit s (partsS s st).2 := mustS_fit s _ _ (pbodyS_fit s _ _ _ h)
def lenOf (v : Value) : Nat := match v with
  | .slice _ n _ => n
  | _ => 0
set_option maxRecDepth 100000 in
set_option maxHeartbeats 4000000 in
theorem rparts_any (b : Nat) (s : ByteArray) (st : RSt) (w : World) (h : RP w b s st) (hf : Fit s st) (hs : s.size ≤ 1073741824) :
    Calls Tryz.prog 39 #[.pointer (some ⟨b, 0, none⟩)] w fun en w' => (∃ v vs, en = .returned v ∧ PartsAt 45 47 w.heap.size w' v (partsS s st).1 vs) ∧ RP w' b s (partsS s st).2 ∧ w.grownBy w' (some b) := by
  obtain ⟨i0, hi0, hz0, hz1, hz2⟩ := info_parts infoPart
  have HS : Hid (RP w b s st) := h
  have HF : Hid (Fit s st) := hf
  have hbw : b < w.heap.size := RS.lt h
  clear h hf
  go_enter Tryz.func39, Tryz.ntmps39
  go_wp2_with fail
  go_loopw [3, 4, 5] (fun l m t wr => ∃ (mb : Bool) (ps : List PPart) (q : RSt) (vs : List Value), m = .bool mb ∧ ps.length ≤ 13 ∧ Hid (mb = true → q.e = 0 → ps.length ≤ 12) ∧ Hid (RP wr b s q) ∧ Hid (Fit s q) ∧ Hid (PartsAt 45 47 w.heap.size wr l ps vs) ∧ Hid (w.grownBy wr (some b)) ∧ Hid (pbodyS s 14 [] st = if mb then pbodyS s (14 - ps.length) ps q else (ps, q))) (fun l _ _ wr => 14 - lenOf l)
  case atStart => exact ⟨true, [], st, [], rfl, by simp, fun _ _ => by simp, HS, HF, PartsAt.nil _ _ _ _, fr_refl _ _, (rfl : _ = _)⟩
  case round =>
    obtain ⟨mb, ps, q, vs, rfl, hal, HLE, HR, HFQ, HO, HG, HARG⟩ := hrel
    obtain ⟨va, vc, hv⟩ := own_form HO.out.own
    subst hv
    clear HS HF
    obtain ⟨c0, c1, c2, c3, c4, c5, c6, f1, f2, f3, f4, f5, f6⟩ := HR.out
    have hex : (mb = true ∧ ((q.e : Int) == 0) = true ∧ ps.length ≤ 12 ∧ Hid (q.e = 0)) ∨ ((mb = false ∨ (mb = true ∧ ((q.e : Int) == 0) = false)) ∧ Hid (pbodyS s 14 [] st = (ps, q))) := by
      cases mb with
      | false => exact Or.inr ⟨Or.inl rfl, HARG.out⟩
      | true =>
        by_cases he : q.e = 0
        · exact Or.inl ⟨rfl, by simp [he], HLE.out rfl he, he⟩
        · refine Or.inr ⟨Or.inr ⟨rfl, by rw [beq_eq_false_iff_ne]; omega⟩, ?_⟩
          have := HARG.out
          rw [if_pos rfl, pbodyS_dead s _ _ he] at this
          exact this
    rcases hex with ⟨rfl, he, hl8, HE0⟩ | ⟨hex, HEND⟩
    · have HSTEP : Hid (pbodyS s 14 [] st = pbodyS s (13 - ps.length + 1) ps q) := by
        have := HARG.out
        rw [if_pos rfl] at this
        show _ = _
        rw [this, show 14 - ps.length = 13 - ps.length + 1 from by omega]
      clear HARG HLE
      have hT := pbodyS_step s (13 - ps.length) ps HE0.out
      have HFM : Hid (Fit s (if 12 ≤ ps.length then manyS true q else q)) := by
        show Fit _ _
        split
        · exact manyS_fit s _ HFQ.out
        · exact HFQ.out
      have HST8 : Hid (12 ≤ ps.length → isS [44] (partS s (if 12 ≤ ps.length then manyS true q else q)).2 = false) := by
        intro h8; rw [if_pos h8]; exact manyP_stops s q HFQ.out _
      have HSTEP2 := hide (HSTEP.out.trans hT)
      clear hT HSTEP
      go_upto_if 16 with fail
      go_cut [] (fun wc => Hid (RP wc b s (if 12 ≤ ps.length then manyS true q else q)) ∧ Hid (RFx wr wc b))
      case first =>
        by_cases h8 : 12 ≤ ps.length
        · go_wp2_with fail
          refine (rmany_any b s q true _ HR.out).mono ?_
          rintro en w2 ⟨rfl, HN, HFR⟩
          have HN2 : Hid (RP w2 b s (if 12 ≤ ps.length then manyS true q else q)) := by rw [if_pos h8]; exact HN
          have HF2 : Hid (RFx wr w2 b) := HFR
          clear HN HFR
          go_wp2_with fail
          go_meet
          case rel => exact ⟨HN2, HF2⟩
        · have h8' : ps.length < 12 := by omega
          have HN2 : Hid (RP wr b s (if 12 ≤ ps.length then manyS true q else q)) := by rw [if_neg h8]; exact HR.out
          clear h8
          go_wp2_with fail
          go_meet
          case rel => exact ⟨HN2, RFx.refl _ _⟩
      case rest =>
        obtain ⟨HRc, HFc⟩ := hcut
        obtain ⟨q1, HQ1⟩ : ∃ q1, Hid ((if 12 ≤ ps.length then manyS true q else q) = q1) := ⟨_, (rfl : _ = _)⟩
        rw [HQ1.out] at HRc HFM HST8 HSTEP2
        have HOc : Hid (PartsAt 45 47 w.heap.size wc (.slice va ps.length vc) ps vs) := HO.out.kept HFc.out.g (fun g hg => by cases hg; omega)
        have HGc : Hid (w.grownBy wc (some b)) := fr_both HG.out HFc.out.g
        clear HO HG HR HFQ HFc c0 c1 c2 c3 c4 c5 c6 f1 f2 f3 f4 f5 f6
        go_wp2_with fail
        refine (rpart_any b s q1 _ HRc.out HFM.out hs).mono ?_
        rintro en w2 ⟨⟨pv, rfl, hpo⟩, HN, HFR⟩
        have HO2 : Hid (PartsAt 45 47 w.heap.size w2 (.slice va ps.length vc) ps vs) := HOc.out.kept HFR (fun g hg => by cases hg; omega)
        have HG2 : Hid (w.grownBy w2 (some b)) := fr_both HGc.out HFR
        have HFT : Hid (Fit s (partS s q1).2) := partS_fit s q1 HFM.out
        have hwc : w.heap.size ≤ wc.heap.size := HGc.out.size
        obtain ⟨tq, HTQ⟩ : ∃ tq, Hid (partS s q1 = tq) := ⟨_, (rfl : _ = _)⟩
        rw [HTQ.out] at HN HFT HST8 HSTEP2 hpo ⊢
        obtain ⟨p1, q2⟩ := tq
        have HN2 : Hid (RP w2 b s q2) := HN
        have HPO : Hid (w2.ownsRow w.heap.size 45 3 pv p1.atom.args.length (termsV p1.atom.args)) := own_lower hpo hwc
        clear HN HFR HOc HGc HRc HFM hpo
        simp only [] at HST8 HSTEP2 HFT
        obtain ⟨pa, pc, hpv⟩ := own_form HPO.out
        subst hpv
        obtain ⟨n1, HN1⟩ : ∃ n1, Hid (str p1.atom.name = n1) := ⟨_, (rfl : _ = _)⟩
        obtain ⟨l1, HL1⟩ : ∃ l1, Hid (str p1.left.text = l1) := ⟨_, (rfl : _ = _)⟩
        obtain ⟨r1, HR1⟩ : ∃ r1, Hid (str p1.right.text = r1) := ⟨_, (rfl : _ = _)⟩
        obtain ⟨na, HNA⟩ : ∃ na, Hid (p1.atom.args.length = na) := ⟨_, (rfl : _ = _)⟩
        have HPV : Hid (partV p1 (.slice pa na pc) = [.int .i64 (p1.kind : Nat), .string n1, .slice pa na pc, .int .i64 (p1.atom.place : Nat), .bool p1.left.isVar, .string l1, .int .i64 (p1.left.place : Nat), .bool p1.right.isVar, .string r1, .int .i64 (p1.right.place : Nat)]) := by show _ = _; unfold partV; rw [HN1.out, HL1.out, HR1.out]
        rw [HNA.out] at HPO ⊢
        rw [show (partV (p1, q2).1 (.slice pa na pc)).toArray = #[.int .i64 (p1.kind : Nat), .string n1, .slice pa na pc, .int .i64 (p1.atom.place : Nat), .bool p1.left.isVar, .string l1, .int .i64 (p1.left.place : Nat), .bool p1.right.isVar, .string r1, .int .i64 (p1.right.place : Nat)] from by show (partV p1 _).toArray = _; rw [HPV.out]]
        have hwl : w.heap.size ≤ w2.heap.size := HG2.out.size
        go_wp2_with (at_builtin; refine wpList_append_own _ rfl _ _ 41 rfl w.heap.size 47 i0 (.agg partZ.toArray) 10 120 Tryz.underlying41 hi0 hz0 hz1 hz2 rfl (by decide) _ _ _ rfl ((HO2.out.own.alloc _).alloc _) ⟨w2.heap.size + 1, 0, none⟩ 1 1 [.int .i64 (p1.kind : Nat), .string n1, .slice pa na pc, .int .i64 (p1.atom.place : Nat), .bool p1.left.isVar, .string l1, .int .i64 (p1.left.place : Nat), .bool p1.right.isVar, .string r1, .int .i64 (p1.right.place : Nat)] rfl rfl ?c1 ?c2 ?c3 ?c4 ?c5 ?_)
        case c1 =>
          intro j' u hj'
          have e : (⟨w2.heap.size + 1, 0, none⟩ : Addr).add j' = ⟨w2.heap.size + 1, j', none⟩ := by unfold Addr.add; split <;> simp_all
          rw [e]
          rw [World.cell?_alloc_at _ _ _ _ (by simp)]
          simpa using hj'
        case c2 => intro u hu; simp at hu; rcases hu with rfl | rfl | rfl | rfl | rfl | rfl | rfl | rfl | rfl | rfl <;> rfl
        case c3 => unfold maxLen; omega
        case c4 => omega
        case c5 => simp; omega
        intro v4 w4 hown4 hg4 _
        obtain ⟨a4, p4, rfl⟩ := own_form hown4
        have HN4 : Hid (RP w4 b s q2) := RS.far HN2.out (app_block hg4 (by omega) (own_ne HO2.out.own (by omega)))
        have HG4 : Hid (w.grownBy w4 (some b)) := app_grown HG2.out HO2.out.own (Nat.le_refl _) hg4
        have HO4 : Hid (PartsAt 45 47 w.heap.size w4 (.slice a4 (ps.length + 1) p4) (ps ++ [p1]) (vs ++ [.slice pa na pc])) := by
          refine HO2.out.push (by decide) (by rw [HNA.out]; exact HPO.out) hg4 ?_
          rw [HPV.out]; exact hown4
        clear hown4 hg4 HN2 HG2 HO2 HPO
        go_wp2_with fail
        refine (rgot_any b s (str [44]) q2 _ HN4.out HFT.out.1 hs).mono ?_
        rintro en w6 ⟨rfl, HN, HFR⟩
        rw [data_str] at HN ⊢
        have HG6 : Hid (w.grownBy w6 (some b)) := fr_both HG4.out HFR.g
        have HO6 : Hid (PartsAt 45 47 w.heap.size w6 (.slice a4 (ps.length + 1) p4) (ps ++ [p1]) (vs ++ [.slice pa na pc])) := HO4.out.kept HFR.g (fun g hg => by cases hg; omega)
        have HN6 : Hid (RP w6 b s (gotS s [44] q2)) := HN
        have HF6 : Hid (Fit s (gotS s [44] q2)) := gotS_fit s _ q2 HFT.out
        have HL6 : Hid (isS [44] q2 = true → (gotS s [44] q2).e = 0 → (ps ++ [p1]).length ≤ 12) := by
          intro h1 _
          rw [List.length_append]
          by_cases h8 : 12 ≤ ps.length
          · rw [HST8.out h8] at h1; cases h1
          · simp; omega
        have HE6 : Hid (pbodyS s 14 [] st = if isS [44] q2 then pbodyS s (14 - (ps ++ [p1]).length) (ps ++ [p1]) (gotS s [44] q2) else (ps ++ [p1], gotS s [44] q2)) := by
          show _ = _
          rw [HSTEP2.out]
          unfold gotS
          rw [List.length_append, show 14 - (ps.length + [p1].length) = 13 - ps.length from by simp]
          cases isS [44] q2 <;> rfl
        clear HN HFR HG4 HO4 HN4
        go_wp2_with fail
        go_roundw
        case rel => exact ⟨isS [44] q2, ps ++ [p1], gotS s [44] q2, vs ++ [.slice pa na pc], rfl, by simp; omega, HL6, HN6, HF6, HO6, HG6, HE6⟩
        case measure => simp [lenOf]; omega
    · have HA' : Hid (partsS s st = (ps, mustS s [46] q)) := by show _ = _; unfold partsS; rw [HEND.out]
      clear HARG HLE
      rcases hex with rfl | ⟨rfl, he⟩
      all_goals
        go_wp2_with fail
        refine (rmust_any b s (str [46]) q _ HR.out HFQ.out.1 hs).mono ?_
        rintro en w5 ⟨rfl, HN, HFR⟩
        rw [data_str] at HN
        have HG5 : Hid (w.grownBy w5 (some b)) := fr_both HG.out HFR.g
        have HO5 : Hid (PartsAt 45 47 w.heap.size w5 (.slice va ps.length vc) ps vs) := HO.out.kept HFR.g (fun g hg => by cases hg; omega)
        have HN5 : Hid (RP w5 b s (mustS s [46] q)) := HN
        clear HN HFR c0 c1 c2 c3 c4 c5 c6 f1 f2 f3 f4 f5 f6
        go_wp2
        go_ret
        rw [HA'.out]
        exact ⟨⟨_, vs, rfl, HO5.out⟩, HN5.out, HG5.out⟩
end Go.Proofs.YtgllfcoafgphbaaGreatDoor

/-
  The document's ReadRules, walked.
-/
namespace Go.Proofs.YtgllfcoafgphbaaGreatDoor
open Go.ChangeShapes Go.WideShapes Go.ChangeAt Go.RowKit
set_option linter.unusedVariables false
def ruleZ : List Value := [.string { data := #[] }, .slice none 0 0, .int .i64 0, .slice none 0 0]
theorem infoRule : (Tryz.prog.info? 43).map (fun i => (i.zero, i.size, i.bytes)) = some (some (.agg ruleZ.toArray), 4, 72) := by kernel_rfl
/-- an answer of rules, or an error and its place -/
def RulesR (tT tP tR : TypeId) (base : Nat) (r : Except PErr (List PRule)) (en : Ending) (w : World) : Prop := match r with
  | .error (e, x) => en = .returned (.tuple #[.slice none 0 0, .int .i64 (e : Nat), .int .i64 (x : Nat)])
  | .ok rs => ∃ v hs bs, en = .returned (.tuple #[v, .int .i64 0, .int .i64 0]) ∧ RulesAt tT tP tR base w v rs hs bs
theorem ruleS_many (s : ByteArray) (n : Nat) (st : RSt) (hn : 200 ≤ n) : (ruleS s n st).2.e ≠ 0 := by
  have h1 : (if 200 ≤ n ∧ st.kd = 1 then failS 7 st.a st else st).e ≠ 0 ∨ ¬ (if 200 ≤ n ∧ st.kd = 1 then failS 7 st.a st else st).kd = 1 := by
    by_cases hk : st.kd = 1
    · left
      rw [if_pos ⟨hn, hk⟩]
      unfold failS; split
      · simp
      · assumption
    · right
      rw [if_neg (fun g => hk g.2)]; exact hk
  unfold ruleS
  generalize (if 200 ≤ n ∧ st.kd = 1 then failS 7 st.a st else st) = q at h1 ⊢
  have hd : (namedS s q).2.e ≠ 0 := by
    have hn2 : (nameS q).e ≠ 0 := by
      rcases h1 with h | h
      · rw [nameS_dead h]; exact h
      · unfold nameS; rw [if_neg h]
        unfold failS; split
        · simp
        · assumption
    unfold namedS; rw [if_neg hn2]; exact hn2
  simp only [isS_dead hd, mustS_dead s hd]
  exact hd
theorem ruleS_fit (s : ByteArray) (n : Nat) (st : RSt) (h : Fit s st) : Fit s (ruleS s n st).2 := by
  have h1 : Fit s (if 200 ≤ n ∧ st.kd = 1 then failS 7 st.a st else st) := by
    split
    · exact failS_fit s _ _ h (by decide)
    · exact h
  unfold ruleS
  generalize (if 200 ≤ n ∧ st.kd = 1 then failS 7 st.a st else st) = q at h1 ⊢
  have h2 := namedS_fit s q h1
  simp only []
  split
  · exact partsS_fit s _ (nextS_fit s _ h2.1)
  · exact mustS_fit s _ _ h2
/-- the reader that is begun with -/
theorem start_rp (w : World) (s : ByteArray) : RP (w.alloc (.cells #[.string s, .int .i64 0, .int .i64 0, .string { data := #[] }, .int .i64 0, .int .i64 0, .int .i64 0] 87)) w.heap.size s startS := by
  have h := Box.new w [.string s, .int .i64 0, .int .i64 0, .string { data := #[] }, .int .i64 0, .int .i64 0, .int .i64 0] 87
  exact ⟨h.c 0 _ rfl, h.c 1 _ rfl, h.c 2 _ rfl, h.c 3 _ rfl, h.c 4 _ rfl, h.c 5 _ rfl, h.c 6 _ rfl, h.f 1 _ rfl, h.f 2 _ rfl, h.f 3 _ rfl, h.f 4 _ rfl, h.f 5 _ rfl, h.f 6 _ rfl⟩
theorem below_of {w w0 w' : World} {o : Obj} (h0 : w0 = w.alloc o) (h : w0.grownBy w' (some w.heap.size)) : Below w.heap.size w w' := by
  subst h0
  exact ⟨h.os, h.tape, h.output, by have := h.size; simp at this; omega, fun k hk => by rw [h.block k (by simp; omega) (by simp; omega), Below.heap_alloc _ _ _ hk]⟩
theorem rulesS_go (s : ByteArray) (n : Nat) (acc : List PRule) (st : RSt) (h : st.e = 0) (h0 : ¬ st.kd = 0) : rulesS s (n + 1) acc st = rulesS s n (acc ++ [(ruleS s acc.length st).1]) (ruleS s acc.length st).2 := rulesS_step s n acc st h h0
set_option maxRecDepth 100000 in
set_option maxHeartbeats 4000000 in
theorem readRules_any (s : ByteArray) (w : World) :
    Calls Tryz.prog 18 #[.string s] w fun en w' => RulesR 45 47 43 w.heap.size (readRulesS s) en w' ∧ Below w.heap.size w w' := by
  obtain ⟨i0, hi0, hz0, hz1, hz2⟩ := info_parts infoRule
  go_enter Tryz.func18, Tryz.ntmps18
  by_cases hl : 20000 < s.size
  · have HF : Hid (readRulesS s = .error (1, 0)) := by show _ = _; unfold readRulesS; rw [if_pos hl]
    go_wp2
    go_ret3
    rw [HF.out]
    exact ⟨rfl, Below.refl _ _⟩
  · have HF : Hid (readRulesS s = if (rulesS s 202 [] (nextS s startS)).2.e = 0 then .ok (rulesS s 202 [] (nextS s startS)).1 else .error ((rulesS s 202 [] (nextS s startS)).2.e, (rulesS s 202 [] (nextS s startS)).2.x)) := by show _ = _; unfold readRulesS; rw [if_neg hl]
    have hl2 : s.size ≤ 20000 := by omega
    have hs : s.size ≤ 1073741824 := by omega
    clear hl
    go_wp2_with fail
    generalize hw0 : World.alloc _ _ = w0
    have HW0 := hide hw0.symm
    have HS0 : Hid (RP w0 w.heap.size s startS) := by rw [← hw0]; exact start_rp w s
    have HZ0 : Hid (w0.heap.size = w.heap.size + 1) := by show _ = _; rw [← hw0]; simp
    clear hw0
    refine (rnext_any w.heap.size s startS _ HS0.out (Nat.zero_le _) hs).mono ?_
    rintro en w1 ⟨rfl, HN, HFR⟩
    have HN1 : Hid (RP w1 w.heap.size s (nextS s startS)) := HN
    have HG1 : Hid (w0.grownBy w1 (some w.heap.size)) := HFR.g
    have HF1 : Hid (Fit s (nextS s startS)) := nextS_fit s startS (Nat.zero_le _)
    clear HN HFR HS0
    go_wp2_with fail
    go_loopw [6, 7] (fun l t wr => ∃ (rs : List PRule) (q : RSt) (hds bds : List Value), rs.length ≤ 201 ∧ Hid (q.e = 0 → rs.length ≤ 200) ∧ Hid (RP wr w.heap.size s q) ∧ Hid (Fit s q) ∧ Hid (RulesAt 45 47 43 (w.heap.size + 1) wr l rs hds bds) ∧ Hid (w0.grownBy wr (some w.heap.size)) ∧ Hid (rulesS s 202 [] (nextS s startS) = rulesS s (202 - rs.length) rs q)) (fun l _ wr => 202 - lenOf l)
    case atStart => exact ⟨[], nextS s startS, [], [], by simp, fun _ => by simp, HN1, HF1, RulesAt.nil _ _ _ _ _, HG1, (rfl : _ = _)⟩
    case round =>
      obtain ⟨rs, q, hds, bds, hal, HLE, HR, HFQ, HO, HG, HARG⟩ := hrel
      obtain ⟨va, vc, hv⟩ := own_form HO.out.own
      subst hv
      clear HN1 HG1 HF1
      obtain ⟨c0, c1, c2, c3, c4, c5, c6, f1, f2, f3, f4, f5, f6⟩ := HR.out
      by_cases he : q.e = 0
      · have he1 : ((q.e : Int) == 0) = true := by simp [he]
        have he2 : ((q.e : Int) != 0) = false := by simp [he]
        by_cases hk : q.kd = 0
        · have hk1 : ((q.kd : Int) != 0) = false := by simp [hk]
          have HEND : Hid (readRulesS s = .ok rs) := by
            have := HARG.out
            rw [rulesS_stop s _ _ _ hk] at this
            show _ = _
            rw [HF.out, this, if_pos he]
          clear he hk
          go_wp2
          go_ret3
          rw [HEND.out]
          exact ⟨⟨_, hds, bds, rfl, HO.out.lower (by omega)⟩, below_of HW0.out HG.out⟩
        · have hk1 : ((q.kd : Int) != 0) = true := by rw [bne_iff_ne]; omega
          have hl8 := HLE.out he
          have HSTEP : Hid (rulesS s 202 [] (nextS s startS) = rulesS s (201 - rs.length) (rs ++ [(ruleS s rs.length q).1]) (ruleS s rs.length q).2) := by
            show _ = _
            rw [HARG.out, show 202 - rs.length = 201 - rs.length + 1 from by omega, rulesS_go s _ rs q he hk]
          clear HARG HLE he hk
          have HRE : Hid (200 ≤ rs.length → (ruleS s rs.length q).2.e ≠ 0) := fun h => ruleS_many s _ _ h
          have HFR8 : Hid (Fit s (ruleS s rs.length q).2) := ruleS_fit s _ _ HFQ.out
          have HRU : Hid (ruleS s rs.length q = (if isS [58, 45] (namedS s (if 200 ≤ rs.length ∧ q.kd = 1 then failS 7 q.a q else q)).2 then (⟨(namedS s (if 200 ≤ rs.length ∧ q.kd = 1 then failS 7 q.a q else q)).1, (partsS s (nextS s (namedS s (if 200 ≤ rs.length ∧ q.kd = 1 then failS 7 q.a q else q)).2)).1⟩, (partsS s (nextS s (namedS s (if 200 ≤ rs.length ∧ q.kd = 1 then failS 7 q.a q else q)).2)).2) else (⟨(namedS s (if 200 ≤ rs.length ∧ q.kd = 1 then failS 7 q.a q else q)).1, []⟩, mustS s [46] (namedS s (if 200 ≤ rs.length ∧ q.kd = 1 then failS 7 q.a q else q)).2))) := (rfl : _ = _)
          obtain ⟨ru, HRUX⟩ : ∃ ru, Hid (ruleS s rs.length q = ru) := ⟨_, (rfl : _ = _)⟩
          rw [HRUX.out] at HSTEP HRE HFR8 HRU
          obtain ⟨r1, q9⟩ := ru
          simp only [] at HSTEP HRE HFR8
          have HF1 : Hid (Fit s (if 200 ≤ rs.length ∧ q.kd = 1 then failS 7 q.a q else q)) := by
            show Fit _ _
            split
            · exact failS_fit s _ _ HFQ.out (by decide)
            · exact HFQ.out
          go_upto_region 7 with fail
          go_cut [39] (fun c wx => Hid (c = .bool (decide (200 ≤ rs.length ∧ q.kd = 1))) ∧ wr = wx)
          case first =>
            by_cases h8 : 200 ≤ rs.length
            · by_cases hk : q.kd = 1
              · have hk2 : ((q.kd : Int) == 1) = true := by simp [hk]
                have HD : Hid (decide (200 ≤ rs.length ∧ q.kd = 1) = true) := by show _ = _; simp [h8, hk]
                clear hk
                go_wp2_with fail
                go_meet
                case rel => exact ⟨by show _ = _; rw [HD.out], rfl⟩
              · have hk2 : ((q.kd : Int) == 1) = false := by rw [beq_eq_false_iff_ne]; omega
                have HD : Hid (decide (200 ≤ rs.length ∧ q.kd = 1) = false) := by show _ = _; simp [hk]
                clear hk
                go_wp2_with fail
                go_meet
                case rel => exact ⟨by show _ = _; rw [HD.out], rfl⟩
            · have h8' : rs.length < 200 := by omega
              have HD : Hid (decide (200 ≤ rs.length ∧ q.kd = 1) = false) := by show _ = _; simp [h8]
              clear h8
              go_wp2_with fail
              go_meet
              case rel => exact ⟨by show _ = _; rw [HD.out], rfl⟩
          case rest =>
          obtain ⟨HCC, hwc⟩ := hcut
          have hcc := HCC.out
          subst hcc
          subst hwc
          obtain ⟨B, HB⟩ : ∃ B, Hid (decide (200 ≤ rs.length ∧ q.kd = 1) = B) := ⟨_, (rfl : _ = _)⟩
          rw [HB.out]
          go_upto_if 39 with fail
          go_cut [] (fun wc => Hid (RP wc w.heap.size s (if 200 ≤ rs.length ∧ q.kd = 1 then failS 7 q.a q else q)) ∧ Hid (RFx wr wc w.heap.size))
          case first =>
            cases B with
            | true =>
              have HX : Hid (200 ≤ rs.length ∧ q.kd = 1) := by show _ ∧ _; exact of_decide_eq_true HB.out
              go_wp2_with fail
              refine (rfailS_any w.heap.size s q 7 q.a _ HR.out).mono ?_
              rintro en w2 ⟨rfl, HN, HFR⟩
              have HN2 : Hid (RP w2 w.heap.size s (if 200 ≤ rs.length ∧ q.kd = 1 then failS 7 q.a q else q)) := by rw [if_pos HX.out]; exact HN
              have HF2 : Hid (RFx wr w2 w.heap.size) := HFR
              clear HN HFR
              go_wp2_with fail
              go_meet
              case rel => exact ⟨HN2, HF2⟩
            | false =>
              have HX : Hid (¬ (200 ≤ rs.length ∧ q.kd = 1)) := by show ¬ _; exact of_decide_eq_false HB.out
              have HN2 : Hid (RP wr w.heap.size s (if 200 ≤ rs.length ∧ q.kd = 1 then failS 7 q.a q else q)) := by rw [if_neg HX.out]; exact HR.out
              go_wp2_with fail
              go_meet
              case rel => exact ⟨HN2, RFx.refl _ _⟩
          case rest =>
            obtain ⟨HRc, HFc⟩ := hcut
            obtain ⟨q1, HQ1⟩ : ∃ q1, Hid ((if 200 ≤ rs.length ∧ q.kd = 1 then failS 7 q.a q else q) = q1) := ⟨_, (rfl : _ = _)⟩
            rw [HQ1.out] at HRc HF1 HRU
            have HOc : Hid (RulesAt 45 47 43 (w.heap.size + 1) wc (.slice va rs.length vc) rs hds bds) := HO.out.kept HFc.out.g (fun g hg => by cases hg; omega)
            have HGc : Hid (w0.grownBy wc (some w.heap.size)) := fr_both HG.out HFc.out.g
            have hwc : w.heap.size + 1 ≤ wc.heap.size := by have := HGc.out.size; have := HZ0.out; omega
            clear HO HG HR HFQ HFc c0 c1 c2 c3 c4 c5 c6 f1 f2 f3 f4 f5 f6
            go_wp2_with fail
            generalize hw1 : World.alloc _ _ = w1
            have HX1 : Hid (Box w1 wc.heap.size ruleZ) := by rw [← hw1]; exact Box.new _ _ _
            have HR1 : Hid (RP w1 w.heap.size s q1) := by rw [← hw1]; exact HRc.out.alloc _
            have HC1 : Hid (wc.grownBy w1 (some w.heap.size)) := by rw [← hw1]; exact fr_alloc _ _ _
            have HG1 : Hid (w0.grownBy w1 (some w.heap.size)) := by rw [← hw1]; exact fr_both HGc.out (fr_alloc _ _ _)
            have HZ1 : Hid (w1.heap.size = wc.heap.size + 1) := by show _ = _; rw [← hw1]; simp
            clear hw1 HRc HGc
            have hwX : wc.heap.size ≤ wc.heap.size := Nat.le_refl _
            generalize hX : wc.heap.size = X at hwX HX1 HZ1 hwc ⊢
            rw [← hX] at hwX
            have HXE := hide hX
            have hXl : wc.heap.size ≤ X := by omega
            clear hX hwX
            refine (rnamed_any w.heap.size s q1 _ HR1.out HF1.out hs).mono ?_
            rintro en w2 ⟨⟨hv, rfl, hown⟩, HN, HFR⟩
            obtain ⟨ha, hc, rfl⟩ := own_form hown
            have HX2 : Hid (Box w2 X ruleZ) := HX1.out.grown (by simp [ruleZ]) HFR (by simp; omega)
            have HC2 : Hid (wc.grownBy w2 (some w.heap.size)) := fr_both HC1.out HFR
            have HG2 : Hid (w0.grownBy w2 (some w.heap.size)) := fr_both HG1.out HFR
            have HFN : Hid (Fit s (namedS s q1).2) := namedS_fit s q1 HF1.out
            obtain ⟨nq, HNQ⟩ : ∃ nq, Hid (namedS s q1 = nq) := ⟨_, (rfl : _ = _)⟩
            rw [HNQ.out] at hown HN HRU HFN ⊢
            obtain ⟨A, q2⟩ := nq
            simp only [] at hown HN HRU HFN ⊢
            have hX1 : X < w1.heap.size := by have := HZ1.out; omega
            have HH2 : Hid (w2.ownsRow (X + 1) 45 3 (.slice ha A.args.length hc) A.args.length (termsV A.args)) := own_lower hown (by omega)
            have HN2 : Hid (RP w2 w.heap.size s q2) := HN
            clear HN HFR hown HX1 HC1 HG1 HR1 HF1
            obtain ⟨SN, HSN⟩ : ∃ SN, Hid (str A.name = SN) := ⟨_, (rfl : _ = _)⟩
            obtain ⟨na, HNA⟩ : ∃ na, Hid (A.args.length = na) := ⟨_, (rfl : _ = _)⟩
            rw [HSN.out]
            rw [HNA.out] at HH2 ⊢
            have x0 := HX2.out.c 0 _ rfl
            have x1 := HX2.out.c 1 _ rfl
            have x2 := HX2.out.c 2 _ rfl
            have x3 := HX2.out.c 3 _ rfl
            have y0 := HX2.out.f 0 _ rfl
            have y1 := HX2.out.f 1 _ rfl
            have y2 := HX2.out.f 2 _ rfl
            have y3 := HX2.out.f 3 _ rfl
            go_wp2_with fail
            generalize hw3 : World.setCell _ _ _ = w3
            have hsw : sets w2 X 0 [.string SN, .slice ha na hc, .int .i64 (A.place : Nat)] = w3 := by simp only [sets, Nat.zero_add, Nat.reduceAdd]; exact hw3
            clear hw3
            have HX3 : Hid (Box w3 X [.string SN, .slice ha na hc, .int .i64 (A.place : Nat), .slice none 0 0]) := by
              rw [← hsw]
              exact ((HX2.out.set 0 _ (.string SN) rfl).set 1 _ (.slice ha na hc) rfl).set 2 _ (.int .i64 (A.place : Nat)) rfl
            have HR3 : Hid (RP w3 w.heap.size s q2) := by rw [← hsw]; exact RP.sets (by omega) _ 0 w2 HN2.out
            have HH3 : Hid (w3.ownsRow (X + 1) 45 3 (.slice ha na hc) na (termsV A.args)) := by rw [← hsw]; exact own_sets (by omega) _ 0 w2 HH2.out
            have HC3 : Hid (wc.grownBy w3 (some w.heap.size)) := by rw [← hsw]; exact fr_sets hXl _ 0 w2 HC2.out
            have HG3 : Hid (w0.grownBy w3 (some w.heap.size)) := by rw [← hsw]; exact fr_sets (by have := HZ0.out; omega) _ 0 w2 HG2.out
            clear hsw HX2 HN2 HH2 HC2 HG2 x0 x1 x2 x3 y0 y1 y2 y3
            refine (rgot_any w.heap.size s (str [58, 45]) q2 _ HR3.out HFN.out.1 hs).mono ?_
            rintro en w4 ⟨rfl, HN, HFR⟩
            rw [data_str] at HN ⊢
            have HX4 : Hid (Box w4 X [.string SN, .slice ha na hc, .int .i64 (A.place : Nat), .slice none 0 0]) := HX3.out.grown (by simp) HFR.g (by simp; omega)
            have HH4 : Hid (w4.ownsRow (X + 1) 45 3 (.slice ha na hc) na (termsV A.args)) := own_far HH3.out HFR.g (fun g hg => by have := (own_blk HH3.out hg).1; simp; omega)
            have HC4 : Hid (wc.grownBy w4 (some w.heap.size)) := fr_both HC3.out HFR.g
            have HG4 : Hid (w0.grownBy w4 (some w.heap.size)) := fr_both HG3.out HFR.g
            obtain ⟨B2, HB2⟩ : ∃ B2, Hid (isS [58, 45] q2 = B2) := ⟨_, (rfl : _ = _)⟩
            have HN4 : Hid (RP w4 w.heap.size s (if B2 then nextS s q2 else q2)) := by have := HN; unfold gotS at this; rw [HB2.out] at this; exact this
            rw [HB2.out] at HRU ⊢
            clear HN HFR HX3 HR3 HH3 HC3 HG3
            have hX4 : X < w4.heap.size := HX4.out.lt (by simp)
            go_upto_if 52 with fail
            go_cut [] (fun wd => ∃ bv us, Hid (RP wd w.heap.size s q9) ∧ Hid (Box wd X [.string SN, .slice ha na hc, .int .i64 (A.place : Nat), bv]) ∧ Hid (wd.ownsRow (X + 1) 45 3 (.slice ha na hc) na (termsV A.args)) ∧ Hid (PartsAt 45 47 (X + 1) wd bv r1.body us) ∧ Hid (wc.grownBy wd (some w.heap.size)) ∧ Hid (w0.grownBy wd (some w.heap.size)) ∧ Hid (r1.head = A))
            case first =>
              cases B2 with
              | true =>
                have HRU2 : Hid (r1 = ⟨A, (partsS s (nextS s q2)).1⟩ ∧ q9 = (partsS s (nextS s q2)).2) := by
                  have := HRU.out; rw [if_pos rfl] at this; cases this; exact ⟨rfl, rfl⟩
                go_wp2_with fail
                refine (rparts_any w.heap.size s (nextS s q2) _ HN4.out (nextS_fit s q2 HFN.out.1) hs).mono ?_
                rintro en w5 ⟨⟨bv, us, rfl, hpa⟩, HN, HFR⟩
                obtain ⟨ba, bc, hbv⟩ := own_form hpa.own
                subst hbv
                have HX5 : Hid (Box w5 X [.string SN, .slice ha na hc, .int .i64 (A.place : Nat), .slice none 0 0]) := HX4.out.grown (by simp) HFR (by simp; omega)
                have HH5 : Hid (w5.ownsRow (X + 1) 45 3 (.slice ha na hc) na (termsV A.args)) := own_far HH4.out HFR (fun g hg => by have := (own_blk HH4.out hg).1; simp; omega)
                have HC5 : Hid (wc.grownBy w5 (some w.heap.size)) := fr_both HC4.out HFR
                have HG5 : Hid (w0.grownBy w5 (some w.heap.size)) := fr_both HG4.out HFR
                have HN5 : Hid (RP w5 w.heap.size s q9) := by rw [HRU2.out.2]; exact HN
                have HP5 := hide hpa
                obtain ⟨nb, HNB⟩ : ∃ nb, Hid ((partsS s (nextS s q2)).1.length = nb) := ⟨_, (rfl : _ = _)⟩
                rw [HNB.out] at HP5 ⊢
                clear HN HFR hpa
                have x3 := HX5.out.c 3 _ rfl
                have y3 := HX5.out.f 3 _ rfl
                go_wp2_with fail
                go_meet
                case rel =>
                  refine ⟨.slice ba nb bc, us, HN5.out.other (by omega) _ _, HX5.out.set 3 _ _ rfl, own_other HH5.out (by omega) _ _, ?_, fr_new HC5.out hXl _ _, fr_new HG5.out (by have := HZ0.out; omega) _ _, ?_⟩
                  · show PartsAt 45 47 (X + 1) _ _ r1.body us
                    have hb : r1.body = (partsS s (nextS s q2)).1 := by rw [HRU2.out.1]
                    rw [hb]
                    exact ((HP5.out.kept (fr_set _ _ _ _) (fun g hg => by cases hg; exact Or.inl hX4)).lower (by omega))
                  · show _ = _
                    rw [HRU2.out.1]
              | false =>
                have HRU2 : Hid (r1 = ⟨A, []⟩ ∧ q9 = mustS s [46] q2) := by
                  have := HRU.out; rw [if_neg (by simp)] at this; cases this; exact ⟨rfl, rfl⟩
                go_wp2_with fail
                refine (rmust_any w.heap.size s (str [46]) q2 _ HN4.out HFN.out.1 hs).mono ?_
                rintro en w5 ⟨rfl, HN, HFR⟩
                rw [data_str] at HN
                have HX5 : Hid (Box w5 X [.string SN, .slice ha na hc, .int .i64 (A.place : Nat), .slice none 0 0]) := HX4.out.grown (by simp) HFR.g (by simp; omega)
                have HH5 : Hid (w5.ownsRow (X + 1) 45 3 (.slice ha na hc) na (termsV A.args)) := own_far HH4.out HFR.g (fun g hg => by have := (own_blk HH4.out hg).1; simp; omega)
                have HC5 : Hid (wc.grownBy w5 (some w.heap.size)) := fr_both HC4.out HFR.g
                have HG5 : Hid (w0.grownBy w5 (some w.heap.size)) := fr_both HG4.out HFR.g
                have HN5 : Hid (RP w5 w.heap.size s q9) := by rw [HRU2.out.2]; exact HN
                clear HN HFR
                go_wp2_with fail
                go_meet
                case rel =>
                  refine ⟨.slice none 0 0, [], HN5, HX5, HH5, ?_, HC5, HG5, ?_⟩
                  · show PartsAt 45 47 (X + 1) _ _ r1.body []
                    have hb : r1.body = [] := by rw [HRU2.out.1]
                    rw [hb]; exact PartsAt.nil _ _ _ _
                  · show _ = _
                    rw [HRU2.out.1]
            case rest =>
              obtain ⟨bv, us, HRd, HXd, HHd, HPd, HCd, HGd, HHE⟩ := hcut
              obtain ⟨ba, bc, hbv⟩ := own_form HPd.out.own
              subst hbv
              obtain ⟨nb, HNB⟩ : ∃ nb, Hid (r1.body.length = nb) := ⟨_, (rfl : _ = _)⟩
              rw [HNB.out] at HXd HPd
              clear HX4 HH4 HC4 HG4 HN4 HRU
              have HOd : Hid (RulesAt 45 47 43 (w.heap.size + 1) wc (.slice va rs.length vc) rs hds bds) := HOc.out.kept HCd.out (fun g hg => by cases hg; omega)
              have HHf : Hid (wc.ownsRow (w.heap.size + 1) 45 3 (.slice ha na hc) r1.head.args.length (termsV r1.head.args)) := by rw [HHE.out, HNA.out]; exact own_lower HHd.out (by omega)
              have HPf : Hid (PartsAt 45 47 (w.heap.size + 1) wc (.slice ba nb bc) r1.body us) := HPd.out.lower (by omega)
              have HRV : Hid (ruleV r1 (.slice ha na hc) (.slice ba nb bc) = [.string SN, .slice ha na hc, .int .i64 (A.place : Nat), .slice ba nb bc]) := by show _ = _; unfold ruleV; rw [HHE.out, HSN.out]
              have hwd : w.heap.size + 1 ≤ wc.heap.size := by have := HXd.out.lt (by simp); omega
              clear HOc HHd HPd HCd
              have x0 := HXd.out.c 0 _ rfl
              have x1 := HXd.out.c 1 _ rfl
              have x2 := HXd.out.c 2 _ rfl
              have x3 := HXd.out.c 3 _ rfl
              go_wp2_with (at_builtin; refine wpList_append_own _ rfl _ _ 25 rfl (w.heap.size + 1) 43 i0 (.agg ruleZ.toArray) 4 72 Tryz.underlying25 hi0 hz0 hz1 hz2 rfl (by decide) _ _ _ rfl (HOd.out.own.alloc _) ⟨wc.heap.size, 0, none⟩ 1 1 [.string SN, .slice ha na hc, .int .i64 (A.place : Nat), .slice ba nb bc] rfl rfl ?c1 ?c2 ?c3 ?c4 ?c5 ?_)
              case c1 =>
                intro j' u hj'
                have e : (⟨wc.heap.size, 0, none⟩ : Addr).add j' = ⟨wc.heap.size, j', none⟩ := by unfold Addr.add; split <;> simp_all
                rw [e]
                rw [World.cell?_alloc_at _ _ _ _ rfl]
                simpa using hj'
              case c2 => intro u hu; simp at hu; rcases hu with rfl | rfl | rfl | rfl <;> rfl
              case c3 => unfold maxLen; omega
              case c4 => omega
              case c5 => simp; omega
              intro v4 w8 hown4 hg4 _
              obtain ⟨a4, p4, rfl⟩ := own_form hown4
              have HN8 : Hid (RP w8 w.heap.size s q9) := RS.far HRd.out (by rw [hg4.block w.heap.size (by simp; omega) (own_ne HOd.out.own (by omega)), Below.heap_alloc _ _ _ (by omega)])
              have HG8 : Hid (w0.grownBy w8 (some w.heap.size)) := fr_own (fr_both HGd.out (fr_alloc _ _ _)) (HOd.out.own.alloc _) (by have := HZ0.out; omega) hg4
              have HO8 : Hid (RulesAt 45 47 43 (w.heap.size + 1) w8 (.slice a4 (rs.length + 1) p4) (rs ++ [r1]) (hds ++ [.slice ha na hc]) (bds ++ [.slice ba nb bc])) := by
                refine HOd.out.push (by decide) (by decide) HHf.out HPf.out hg4 ?_
                rw [HRV.out]; exact hown4
              have HL8 : Hid (q9.e = 0 → (rs ++ [r1]).length ≤ 200) := by
                intro h0
                rw [List.length_append]
                by_cases h8 : 200 ≤ rs.length
                · exact absurd h0 (HRE.out h8)
                · simp; omega
              have HE8 : Hid (rulesS s 202 [] (nextS s startS) = rulesS s (202 - (rs ++ [r1]).length) (rs ++ [r1]) q9) := by
                show _ = _
                rw [HSTEP.out, List.length_append, show 202 - (rs.length + [r1].length) = 201 - rs.length from by simp]
              clear hown4 hg4 HRd HGd HOd HHf HPf x0 x1 x2 x3
              go_wp2_with fail
              go_roundw
              case rel => exact ⟨rs ++ [r1], q9, hds ++ [.slice ha na hc], bds ++ [.slice ba nb bc], by simp; omega, HL8, HN8, HFR8, HO8, HG8, HE8⟩
              case measure => simp [lenOf]; omega
      · have he1 : ((q.e : Int) == 0) = false := by rw [beq_eq_false_iff_ne]; omega
        have he2 : ((q.e : Int) != 0) = true := by rw [bne_iff_ne]; omega
        have HEND : Hid (readRulesS s = .error (q.e, q.x)) := by
          have := HARG.out
          rw [rulesS_dead s _ _ he] at this
          show _ = _
          rw [HF.out, this, if_neg he]
        clear he
        go_wp2_with fail
        go_quiet (fail)
        go_wp2
        go_ret3
        rw [HEND.out]
        exact ⟨rfl, below_of HW0.out (fr_both HG.out (fr_draws _ _ _))⟩
end Go.Proofs.YtgllfcoafgphbaaGreatDoor
