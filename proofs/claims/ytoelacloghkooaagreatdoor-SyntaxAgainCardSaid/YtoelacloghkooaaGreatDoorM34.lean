import Derived.Test.YtoelacloghkooaaGreatDoorM33
/-
  The program's parser: one or more rules; a program.
-/
namespace Go.Proofs.YtoelacloghkooaaGreatDoor
open Go.ChangeShapes Go.WideShapes Go.ChangeAt Go.RowKit
set_option linter.unusedVariables false
theorem infoRuleP : (Tryz.prog.info? 55).map (fun i => (i.zero, i.size, i.bytes)) = some (some (.agg ruleZP.toArray), 4, 72) := by kernel_rfl
/-- a rule follows where the text has not ended -/
def moreF (l : List UInt8) (p : Nat) : Option Nat := if p = l.length then none else some p
theorem pruleF_le (s : ByteArray) (p : Nat) (hp : p ≤ s.size) (t : PRule) (r : Nat) (h : ruleF s.data.toList p = .ok (t, r)) : r ≤ s.size := by
  rw [ruleF_is] at h
  split at h
  · cases h
  · split at h
    · cases h
    · split at h
      · cases h
      · rename_i heq; cases h; exact signF_le s [46] _ r heq (by simp)
def ListR (L T M : Addr) (base b : Nat) (s : ByteArray) (r : Except PErr (List PRule × Nat)) (en : Ending) (w' : World) : Prop := match r with
  | .error (e, x) => en = .returned (.tuple #[.slice none 0 0, errV L T M e x])
  | .ok (rs, q) => ∃ v hs bs, en = .returned (.tuple #[v, .nilIface]) ∧ RulesAt 44 46 55 base w' v rs hs bs ∧ Rd w' b s (q : Nat)
theorem method_left (b : Nat) (w : World) : (Go.method 395 80 (.pointer (some ⟨b, 0, none⟩)) "deduce/syntax.left").run Tryz.prog w = .ok (56, .pointer (some ⟨b, 0, none⟩)) w := by kernel_rfl
set_option maxRecDepth 100000 in
set_option maxHeartbeats 4000000 in
theorem plistR_any (b : Nat) (s : ByteArray) (p most : Nat) (L T M : Addr) (w : World) (h : Rd w b s p) (hE : Errs w L T M) (hb : gTop ≤ b) (hp : p ≤ s.size) (hs : s.size ≤ 1073741824) (hm : most ≤ 1000) :
    Calls Tryz.prog 53 #[.pointer (some ⟨b, 0, none⟩), .int .i64 (most : Nat), .func (.func 54) #[] #[], .func (.func 55) #[] #[], .func (.methodOf 80 "deduce/syntax.left") #[] #[]] w fun en w' =>
      ListR L T M w.heap.size b s (listF (atNameB s.data.toList) (ruleF s.data.toList) (moreF s.data.toList) most p) en w' ∧ w.grownBy w' (some b) := by
  have E1 : ∀ args w, (callFunc 54 args).run Tryz.prog w = .ok (.enter 54 args) w := enters_of Tryz.func54 (by kernel_rfl) rfl
  have E2 : ∀ args w, (callFunc 55 args).run Tryz.prog w = .ok (.enter 55 args) w := enters_of Tryz.func55 (by kernel_rfl) rfl
  obtain ⟨i0, hi0, hz0, hz1, hz2⟩ := info_parts infoRuleP
  have hbw := h.lt
  have HR := hide h
  have HE := hide hE
  obtain ⟨RES, HRES⟩ : ∃ RES, Hid (listF (atNameB s.data.toList) (ruleF s.data.toList) (moreF s.data.toList) most p = RES) := ⟨_, (rfl : _ = _)⟩
  rw [HRES.out]
  clear h hE
  go_enter Tryz.func53, Tryz.ntmps53
  go_wp2_with fail
  go_loopw [12, 13, 14] (fun l t e wr => ∃ (acc : List PRule) (hs bs : List Value) (q : Nat), acc.length ≤ most ∧ q ≤ s.size ∧ Hid (Rd wr b s (q : Nat)) ∧ Hid (RulesAt 44 46 55 w.heap.size wr l acc hs bs) ∧ Hid (w.grownBy wr (some b)) ∧ Hid (RES = preL acc (listF (atNameB s.data.toList) (ruleF s.data.toList) (moreF s.data.toList) (most - acc.length) q))) (fun l _ _ _ => most + 1 - lenV l)
  case atStart => exact ⟨[], [], [], p, by simp, hp, HR, RulesAt.nil _ _ _ _ _, fr_refl _ _, by show _ = _; rw [preL_nil]; exact HRES.out.symm⟩
  case round =>
    obtain ⟨acc, hs', bs, q, hal, hq, HQ, HO, HG, HX⟩ := hrel
    obtain ⟨va, vc, hv⟩ := own_form HO.out.own
    subst hv
    have HEr : Hid (Errs wr L T M) := HE.out.grown HG.out hb
    go_wp2_with fail
    refine (patName_any b s q _ HQ.out hq hs).mono ?_
    rintro e w1 ⟨rfl, n1, rfl⟩
    have HQ1 : Hid (Rd (wr.drewN n1) b s q) := HQ.out.drewN _
    have HE1 : Hid (Errs (wr.drewN n1) L T M) := HEr.out.drewN _
    have HG1 : Hid (w.grownBy (wr.drewN n1) (some b)) := fr_both HG.out (fr_draws _ _ _)
    have HO1 : Hid (RulesAt 44 46 55 w.heap.size (wr.drewN n1) (.slice va acc.length vc) acc hs' bs) := HO.out.kept (fr_draws _ _ none) (fun g hg => by cases hg)
    generalize wr.drewN n1 = w1 at *
    clear HQ HEr HG HO
    have g1 := HE1.out.gt
    have g2 := HE1.out.gm
    obtain ⟨B, HB⟩ : ∃ B, Hid (atNameB s.data.toList q = B) := ⟨_, (rfl : _ = _)⟩
    rw [HB.out]
    cases B with
    | false =>
      have HRS : Hid (RES = .error (2, q)) := by show _ = _; rw [HX.out]; exact listF_no _ _ _ _ _ HB.out _
      clear g2
      have HFL : Hid (∀ wx : World, (∃ n, wx = w1.drewN n) → Calls Tryz.prog 68 #[.pointer (some ⟨b, 0, none⟩), .iface 246 (.pointer (some T))] wx fun e w' => e = .returned (.iface 119 (.agg #[.iface 246 (.pointer (some T)), .int .i64 (q : Nat)])) ∧ Hid (w.grownBy w' (some b)) ∧ w'.cell? ⟨1, 0, none⟩ = some (.iface 246 (.pointer (some T)))) := by
        rintro wx ⟨n, rfl⟩
        refine (pfail_any b s q T _ (HQ1.out.drewN n)).mono ?_
        rintro e w2 ⟨rfl, rfl⟩
        exact ⟨rfl, fr_both HG1.out (fr_draws _ _ _), g1⟩
      go_wp2_with fail
      go_region_held3 (fun w' => w'.cell? ⟨1, 0, none⟩ = some (.iface 246 (.pointer (some T)))) (go_keep) (first | (go_at_call 68; refine (HFL.out _ ⟨_, rfl⟩).mono ?_; rintro e w9 ⟨rfl, HG9, k9⟩))
      all_goals go_wp2
      all_goals go_ret2
      all_goals rw [HRS.out]
      all_goals exact ⟨rfl, HG9.out⟩
    | true =>
      by_cases hlm : acc.length = most
      · have HRS : Hid (RES = .error (7, q)) := by show _ = _; rw [HX.out, hlm, Nat.sub_self]; exact listF_many _ _ _ _ HB.out _
        have hbq : ((acc.length : Int) == (most : Int)) = true := by simp [hlm]
        clear g1 hlm
        have HFL : Hid (∀ wx : World, (∃ n, wx = w1.drewN n) → Calls Tryz.prog 68 #[.pointer (some ⟨b, 0, none⟩), .iface 246 (.pointer (some M))] wx fun e w' => e = .returned (.iface 119 (.agg #[.iface 246 (.pointer (some M)), .int .i64 (q : Nat)])) ∧ Hid (w.grownBy w' (some b)) ∧ w'.cell? ⟨2, 0, none⟩ = some (.iface 246 (.pointer (some M)))) := by
          rintro wx ⟨n, rfl⟩
          refine (pfail_any b s q M _ (HQ1.out.drewN n)).mono ?_
          rintro e w2 ⟨rfl, rfl⟩
          exact ⟨rfl, fr_both HG1.out (fr_draws _ _ _), g2⟩
        go_wp2_with fail
        go_region_held3 (fun w' => w'.cell? ⟨2, 0, none⟩ = some (.iface 246 (.pointer (some M)))) (go_keep) (first | (go_at_call 68; refine (HFL.out _ ⟨_, rfl⟩).mono ?_; rintro e w9 ⟨rfl, HG9, k9⟩))
        all_goals go_wp2
        all_goals go_ret2
        all_goals rw [HRS.out]
        all_goals exact ⟨rfl, HG9.out⟩
      · have hbq : ((acc.length : Int) == (most : Int)) = false := by rw [beq_eq_false_iff_ne]; omega
        have hlt : acc.length < most := by omega
        obtain ⟨r, HRR⟩ : ∃ r, Hid (most - acc.length = r + 1) := ⟨most - acc.length - 1, by show _ = _; omega⟩
        have hr : r = most - (acc.length + 1) := by have := HRR.out; omega
        have HRE := hide hr
        rw [HRR.out] at HX
        clear g1 g2 hlm hr
        go_wp2_with fail
        refine (prule_any b s q L T M _ HQ1.out HE1.out hb hq hs).mono ?_
        rintro e w2 ⟨ht, HFR⟩
        have HG2 : Hid (w.grownBy w2 (some b)) := fr_both HG1.out HFR
        have HO2 : Hid (RulesAt 44 46 55 w.heap.size w2 (.slice va acc.length vc) acc hs' bs) := HO1.out.kept HFR (fun g hg => by cases hg; omega)
        have hw1 : w.heap.size ≤ w1.heap.size := HG1.out.size
        clear HFR HG1 HO1 HE1 HQ1
        obtain ⟨F, HF⟩ : ∃ F, Hid (ruleF s.data.toList q = F) := ⟨_, (rfl : _ = _)⟩
        rw [HF.out] at ht
        cases F with
        | error er =>
          obtain ⟨ec, x⟩ := er
          have HRS : Hid (RES = .error (ec, x)) := by show _ = _; rw [HX.out]; exact listF_bad _ _ _ _ _ HB.out _ _ HF.out
          obtain ⟨nm, pa, pn, pc, pl, ba, bn, bc, rfl⟩ := ht
          unfold errV
          go_wp2
          go_ret2
          rw [HRS.out]
          exact ⟨rfl, fr_both HG2.out (fr_alloc _ _ _)⟩
        | ok tq =>
          obtain ⟨t1, q1⟩ := tq
          obtain ⟨hv, bv, us, rfl, hho, hpo, hrd⟩ := ht
          obtain ⟨ha, hc, hhv⟩ := own_form hho
          subst hhv
          obtain ⟨ba, bc, hbv⟩ := own_form hpo.own
          subst hbv
          have HQ2 := hide hrd
          have hq1 := pruleF_le s q hq t1 q1 HF.out
          have HHO : Hid (w2.ownsRow w.heap.size 44 3 (.slice ha t1.head.args.length hc) t1.head.args.length (termsV t1.head.args)) := own_lower hho hw1
          have HPO : Hid (PartsAt 44 46 w.heap.size w2 (.slice ba t1.body.length bc) t1.body us) := hpo.lower hw1
          clear hrd hpo hho
          obtain ⟨n1, HN1⟩ : ∃ n1, Hid (str t1.head.name = n1) := ⟨_, (rfl : _ = _)⟩
          obtain ⟨nh, HNH⟩ : ∃ nh, Hid (t1.head.args.length = nh) := ⟨_, (rfl : _ = _)⟩
          obtain ⟨nb, HNB⟩ : ∃ nb, Hid (t1.body.length = nb) := ⟨_, (rfl : _ = _)⟩
          rw [HN1.out, HNH.out, HNB.out]
          rw [HNH.out] at HHO
          rw [HNB.out] at HPO
          have HTV : Hid (ruleV t1 (.slice ha nh hc) (.slice ba nb bc) = [.string n1, .slice ha nh hc, .int .i64 (t1.head.place : Nat), .slice ba nb bc]) := by show _ = _; unfold ruleV; rw [HN1.out]
          have hwl : w.heap.size ≤ w2.heap.size := HG2.out.size
          go_wp2_with (at_builtin; refine wpList_append_own _ rfl _ _ 32 rfl w.heap.size 55 i0 (.agg ruleZP.toArray) 4 72 Tryz.underlying32 hi0 hz0 hz1 hz2 rfl (by decide) _ _ _ rfl ((HO2.out.own.alloc _).alloc _) ⟨w2.heap.size + 1, 0, none⟩ 1 1 [.string n1, .slice ha nh hc, .int .i64 (t1.head.place : Nat), .slice ba nb bc] rfl rfl ?c1 ?c2 ?c3 ?c4 ?c5 ?_)
          case c1 =>
            intro j' u hj'
            have e : (⟨w2.heap.size + 1, 0, none⟩ : Addr).add j' = ⟨w2.heap.size + 1, j', none⟩ := by unfold Addr.add; split <;> simp_all
            rw [e]
            rw [World.cell?_alloc_at _ _ _ _ (by simp)]
            simpa using hj'
          case c2 => intro u hu; simp at hu; rcases hu with rfl | rfl | rfl | rfl <;> rfl
          case c3 => unfold maxLen; omega
          case c4 => omega
          case c5 => simp; omega
          intro v4 w4 hown4 hg4 _
          obtain ⟨a4, p4, rfl⟩ := own_form hown4
          have HQ4 : Hid (Rd w4 b s q1) := HQ2.out.far (app_block hg4 (by omega) (own_ne HO2.out.own (by omega)))
          have HG4 : Hid (w.grownBy w4 (some b)) := app_grown HG2.out HO2.out.own (Nat.le_refl _) hg4
          have HO4 : Hid (RulesAt 44 46 55 w.heap.size w4 (.slice a4 (acc.length + 1) p4) (acc ++ [t1]) (hs' ++ [.slice ha nh hc]) (bs ++ [.slice ba nb bc])) := by
            refine RulesAt.push (by decide) (by decide) (HO2.out.kept (fr_alloc w2 (.cells #[.string n1, .slice ha nh hc, .int .i64 (t1.head.place : Nat), .slice ba nb bc] 55) none) (fun g e => by cases e)) (by rw [HNH.out]; exact HHO.out.alloc _) (HPO.out.kept (fr_alloc w2 _ none) (fun g e => by cases e)) hg4 ?_
            rw [HTV.out]; exact hown4
          clear hown4 hg4 HQ2 HG2 HO2
          go_wp2_with fail
          refine (pleft_any b s q1 _ HQ4.out).mono ?_
          rintro e w6 ⟨rfl, n6, rfl⟩
          have HG6 : Hid (w.grownBy (w4.drewN n6) (some b)) := fr_both HG4.out (fr_draws _ _ _)
          have HO6 : Hid (RulesAt 44 46 55 w.heap.size (w4.drewN n6) (.slice a4 (acc.length + 1) p4) (acc ++ [t1]) (hs' ++ [.slice ha nh hc]) (bs ++ [.slice ba nb bc])) := HO4.out.kept (fr_draws _ _ none) (fun g e => by cases e)
          have HQ6 : Hid (Rd (w4.drewN n6) b s q1) := HQ4.out.drewN _
          generalize w4.drewN n6 = w6 at *
          clear HG4 HO4 HQ4
          have HLN := hide (show s.data.toList.length = s.size by simp)
          by_cases hrs : q1 = s.size
          · have HS : Hid (moreF s.data.toList q1 = none) := by show _ = _; unfold moreF; rw [HLN.out, if_pos hrs]
            have HRS : Hid (RES = .ok (acc ++ [t1], q1)) := by show _ = _; rw [HX.out]; exact listF_last _ _ _ _ _ HB.out _ _ _ HF.out HS.out
            rw [show decide (q1 = s.size) = true from by simp [hrs]]
            clear hrs
            go_wp2
            go_ret2
            rw [HRS.out]
            exact ⟨⟨.slice a4 (acc.length + 1) p4, _, _, rfl, HO6.out, HQ6.out⟩, HG6.out⟩
          · have HS : Hid (moreF s.data.toList q1 = some q1) := by show _ = _; unfold moreF; rw [HLN.out, if_neg hrs]
            have HRS : Hid (RES = preL (acc ++ [t1]) (listF (atNameB s.data.toList) (ruleF s.data.toList) (moreF s.data.toList) (most - (acc ++ [t1]).length) q1)) := by
              show _ = _
              rw [HX.out, listF_more _ _ _ _ _ HB.out _ _ _ _ HF.out HS.out, HRE.out, List.length_append]; rfl
            rw [show decide (q1 = s.size) = false from by simp [hrs]]
            clear hrs
            go_wp2_with fail
            go_roundw
            case rel => exact ⟨acc ++ [t1], _, _, q1, by simp; omega, hq1, HQ6, HO6, HG6, HRS⟩
            case measure => simp [lenV]; omega
end Go.Proofs.YtoelacloghkooaaGreatDoor
