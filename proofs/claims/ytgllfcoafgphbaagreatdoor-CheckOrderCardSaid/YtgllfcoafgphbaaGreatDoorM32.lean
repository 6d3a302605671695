import Derived.Test.YtgllfcoafgphbaaGreatDoorM31
import Derived.LaidEql
import Derived.Stop.Asserts
import Derived.RowKitTokens
/-
  The program's parser: one or more rules; a program.
-/
namespace Go.Proofs.YtgllfcoafgphbaaGreatDoor
open Go.ChangeShapes Go.WideShapes Go.ChangeAt Go.RowKit
set_option linter.unusedVariables false
theorem infoRuleP : (Tryz.prog.info? 112).map (fun i => (i.zero, i.size, i.bytes)) = some (some (.agg ruleZP.toArray), 4, 72) := by kernel_rfl
/-- a rule follows where the text has not ended -/
def moreF (l : List UInt8) (p : Nat) : Option Nat := if p = l.length then none else some p
theorem pruleF_le (s : ByteArray) (p : Nat) (hp : p ≤ s.size) (t : PRule) (r : Nat) (h : ruleF s.data.toList p = .ok (t, r)) : r ≤ s.size := by
  rw [ruleF_is] at h
  split at h
  · cases h
  · split at h
    · cases h
    · split at h
      · cases h
      · rename_i heq; cases h; exact signF_le s [46] _ r heq (by simp)
def ListR (L T M : Addr) (base b : Nat) (s : ByteArray) (r : Except PErr (List PRule × Nat)) (en : Ending) (w' : World) : Prop := match r with
  | .error (e, x) => en = .returned (.tuple #[.slice none 0 0, errV L T M e x])
  | .ok (rs, q) => ∃ v hs bs, en = .returned (.tuple #[v, .nilIface]) ∧ RulesAt 76 164 112 base w' v rs hs bs ∧ Rd w' b s (q : Nat)
theorem method_left (b : Nat) (w : World) : (Go.method 381 115 (.pointer (some ⟨b, 0, none⟩)) "deduce/syntax.left").run Tryz.prog w = .ok (91, .pointer (some ⟨b, 0, none⟩)) w := by kernel_rfl
set_option maxRecDepth 100000 in
set_option maxHeartbeats 4000000 in
theorem plistR_any (b : Nat) (s : ByteArray) (p most : Nat) (L T M : Addr) (w : World) (h : Rd w b s p) (hE : Errs w L T M) (hb : gTop ≤ b) (hp : p ≤ s.size) (hs : s.size ≤ 1073741824) (hm : most ≤ 1000) :
    Calls Tryz.prog 88 #[.pointer (some ⟨b, 0, none⟩), .int .i64 (most : Nat), .func (.func 89) #[] #[], .func (.func 90) #[] #[], .func (.methodOf 115 "deduce/syntax.left") #[] #[]] w fun en w' =>
      ListR L T M w.heap.size b s (listF (atNameB s.data.toList) (ruleF s.data.toList) (moreF s.data.toList) most p) en w' ∧ w.grownBy w' (some b) := by
  have E1 : ∀ args w, (callFunc 89 args).run Tryz.prog w = .ok (.enter 89 args) w := enters_of Tryz.func89 (by kernel_rfl) rfl
  have E2 : ∀ args w, (callFunc 90 args).run Tryz.prog w = .ok (.enter 90 args) w := enters_of Tryz.func90 (by kernel_rfl) rfl
  obtain ⟨i0, hi0, hz0, hz1, hz2⟩ := info_parts infoRuleP
  have hbw := h.lt
  have HR := hide h
  have HE := hide hE
  obtain ⟨RES, HRES⟩ : ∃ RES, Hid (listF (atNameB s.data.toList) (ruleF s.data.toList) (moreF s.data.toList) most p = RES) := ⟨_, (rfl : _ = _)⟩
  rw [HRES.out]
  clear h hE
  go_enter Tryz.func88, Tryz.ntmps88
  go_wp2_with fail
  go_loopw [12, 13, 14] (fun l t e wr => ∃ (acc : List PRule) (hs bs : List Value) (q : Nat), acc.length ≤ most ∧ q ≤ s.size ∧ Hid (Rd wr b s (q : Nat)) ∧ Hid (RulesAt 76 164 112 w.heap.size wr l acc hs bs) ∧ Hid (w.grownBy wr (some b)) ∧ Hid (RES = preL acc (listF (atNameB s.data.toList) (ruleF s.data.toList) (moreF s.data.toList) (most - acc.length) q))) (fun l _ _ _ => most + 1 - lenV l)
  case atStart => exact ⟨[], [], [], p, by simp, hp, HR, RulesAt.nil _ _ _ _ _, fr_refl _ _, by show _ = _; rw [preL_nil]; exact HRES.out.symm⟩
  case round =>
    obtain ⟨acc, hs', bs, q, hal, hq, HQ, HO, HG, HX⟩ := hrel
    obtain ⟨va, vc, hv⟩ := own_form HO.out.own
    subst hv
    have HEr : Hid (Errs wr L T M) := HE.out.grown HG.out hb
    go_wp2_with fail
    refine (patName_any b s q _ HQ.out hq hs).mono ?_
    rintro e w1 ⟨rfl, n1, rfl⟩
    have HQ1 : Hid (Rd (wr.drewN n1) b s q) := HQ.out.drewN _
    have HE1 : Hid (Errs (wr.drewN n1) L T M) := HEr.out.drewN _
    have HG1 : Hid (w.grownBy (wr.drewN n1) (some b)) := fr_both HG.out (fr_draws _ _ _)
    have HO1 : Hid (RulesAt 76 164 112 w.heap.size (wr.drewN n1) (.slice va acc.length vc) acc hs' bs) := HO.out.kept (fr_draws _ _ none) (fun g hg => by cases hg)
    generalize wr.drewN n1 = w1 at *
    clear HQ HEr HG HO
    have g1 := HE1.out.gt
    have g2 := HE1.out.gm
    obtain ⟨B, HB⟩ : ∃ B, Hid (atNameB s.data.toList q = B) := ⟨_, (rfl : _ = _)⟩
    rw [HB.out]
    cases B with
    | false =>
      have HRS : Hid (RES = .error (2, q)) := by show _ = _; rw [HX.out]; exact listF_no _ _ _ _ _ HB.out _
      clear g2
      have HFL : Hid (∀ wx : World, (∃ n, wx = w1.drewN n) → Calls Tryz.prog 115 #[.pointer (some ⟨b, 0, none⟩), .iface 250 (.pointer (some T))] wx fun e w' => e = .returned (.iface 158 (.agg #[.iface 250 (.pointer (some T)), .int .i64 (q : Nat)])) ∧ Hid (w.grownBy w' (some b)) ∧ w'.cell? ⟨1, 0, none⟩ = some (.iface 250 (.pointer (some T)))) := by
        rintro wx ⟨n, rfl⟩
        refine (pfail_any b s q T _ (HQ1.out.drewN n)).mono ?_
        rintro e w2 ⟨rfl, rfl⟩
        exact ⟨rfl, fr_both HG1.out (fr_draws _ _ _), g1⟩
      go_wp2_with fail
      go_region_held3 (fun w' => w'.cell? ⟨1, 0, none⟩ = some (.iface 250 (.pointer (some T)))) (go_keep) (first | (go_at_call 115; refine (HFL.out _ ⟨_, rfl⟩).mono ?_; rintro e w9 ⟨rfl, HG9, k9⟩))
      all_goals go_wp2
      all_goals go_ret2
      all_goals rw [HRS.out]
      all_goals exact ⟨rfl, HG9.out⟩
    | true =>
      by_cases hlm : acc.length = most
      · have HRS : Hid (RES = .error (7, q)) := by show _ = _; rw [HX.out, hlm, Nat.sub_self]; exact listF_many _ _ _ _ HB.out _
        have hbq : ((acc.length : Int) == (most : Int)) = true := by simp [hlm]
        clear g1 hlm
        have HFL : Hid (∀ wx : World, (∃ n, wx = w1.drewN n) → Calls Tryz.prog 115 #[.pointer (some ⟨b, 0, none⟩), .iface 250 (.pointer (some M))] wx fun e w' => e = .returned (.iface 158 (.agg #[.iface 250 (.pointer (some M)), .int .i64 (q : Nat)])) ∧ Hid (w.grownBy w' (some b)) ∧ w'.cell? ⟨2, 0, none⟩ = some (.iface 250 (.pointer (some M)))) := by
          rintro wx ⟨n, rfl⟩
          refine (pfail_any b s q M _ (HQ1.out.drewN n)).mono ?_
          rintro e w2 ⟨rfl, rfl⟩
          exact ⟨rfl, fr_both HG1.out (fr_draws _ _ _), g2⟩
        go_wp2_with fail
        go_region_held3 (fun w' => w'.cell? ⟨2, 0, none⟩ = some (.iface 250 (.pointer (some M)))) (go_keep) (first | (go_at_call 115; refine (HFL.out _ ⟨_, rfl⟩).mono ?_; rintro e w9 ⟨rfl, HG9, k9⟩))
        all_goals go_wp2
        all_goals go_ret2
        all_goals rw [HRS.out]
        all_goals exact ⟨rfl, HG9.out⟩
      · have hbq : ((acc.length : Int) == (most : Int)) = false := by rw [beq_eq_false_iff_ne]; omega
        have hlt : acc.length < most := by omega
        obtain ⟨r, HRR⟩ : ∃ r, Hid (most - acc.length = r + 1) := ⟨most - acc.length - 1, by show _ = _; omega⟩
        have hr : r = most - (acc.length + 1) := by have := HRR.out; omega
        have HRE := hide hr
        rw [HRR.out] at HX
        clear g1 g2 hlm hr
        go_wp2_with fail
        refine (prule_any b s q L T M _ HQ1.out HE1.out hb hq hs).mono ?_
        rintro e w2 ⟨ht, HFR⟩
        have HG2 : Hid (w.grownBy w2 (some b)) := fr_both HG1.out HFR
        have HO2 : Hid (RulesAt 76 164 112 w.heap.size w2 (.slice va acc.length vc) acc hs' bs) := HO1.out.kept HFR (fun g hg => by cases hg; omega)
        have hw1 : w.heap.size ≤ w1.heap.size := HG1.out.size
        clear HFR HG1 HO1 HE1 HQ1
        obtain ⟨F, HF⟩ : ∃ F, Hid (ruleF s.data.toList q = F) := ⟨_, (rfl : _ = _)⟩
        rw [HF.out] at ht
        cases F with
        | error er =>
          obtain ⟨ec, x⟩ := er
          have HRS : Hid (RES = .error (ec, x)) := by show _ = _; rw [HX.out]; exact listF_bad _ _ _ _ _ HB.out _ _ HF.out
          obtain ⟨nm, pa, pn, pc, pl, ba, bn, bc, rfl⟩ := ht
          unfold errV
          go_wp2
          go_ret2
          rw [HRS.out]
          exact ⟨rfl, fr_both HG2.out (fr_alloc _ _ _)⟩
        | ok tq =>
          obtain ⟨t1, q1⟩ := tq
          obtain ⟨hv, bv, us, rfl, hho, hpo, hrd⟩ := ht
          obtain ⟨ha, hc, hhv⟩ := own_form hho
          subst hhv
          obtain ⟨ba, bc, hbv⟩ := own_form hpo.own
          subst hbv
          have HQ2 := hide hrd
          have hq1 := pruleF_le s q hq t1 q1 HF.out
          have HHO : Hid (w2.ownsRow w.heap.size 76 3 (.slice ha t1.head.args.length hc) t1.head.args.length (termsV t1.head.args)) := own_lower hho hw1
          have HPO : Hid (PartsAt 76 164 w.heap.size w2 (.slice ba t1.body.length bc) t1.body us) := hpo.lower hw1
          clear hrd hpo hho
          obtain ⟨n1, HN1⟩ : ∃ n1, Hid (str t1.head.name = n1) := ⟨_, (rfl : _ = _)⟩
          obtain ⟨nh, HNH⟩ : ∃ nh, Hid (t1.head.args.length = nh) := ⟨_, (rfl : _ = _)⟩
          obtain ⟨nb, HNB⟩ : ∃ nb, Hid (t1.body.length = nb) := ⟨_, (rfl : _ = _)⟩
          rw [HN1.out, HNH.out, HNB.out]
          rw [HNH.out] at HHO
          rw [HNB.out] at HPO
          have HTV : Hid (ruleV t1 (.slice ha nh hc) (.slice ba nb bc) = [.string n1, .slice ha nh hc, .int .i64 (t1.head.place : Nat), .slice ba nb bc]) := by show _ = _; unfold ruleV; rw [HN1.out]
          have hwl : w.heap.size ≤ w2.heap.size := HG2.out.size
          go_wp2_with (at_builtin; refine wpList_append_own _ rfl _ _ 52 rfl w.heap.size 112 i0 (.agg ruleZP.toArray) 4 72 Tryz.underlying52 hi0 hz0 hz1 hz2 rfl (by decide) _ _ _ rfl ((HO2.out.own.alloc _).alloc _) ⟨w2.heap.size + 1, 0, none⟩ 1 1 [.string n1, .slice ha nh hc, .int .i64 (t1.head.place : Nat), .slice ba nb bc] rfl rfl ?c1 ?c2 ?c3 ?c4 ?c5 ?_)
          case c1 =>
            intro j' u hj'
            have e : (⟨w2.heap.size + 1, 0, none⟩ : Addr).add j' = ⟨w2.heap.size + 1, j', none⟩ := by unfold Addr.add; split <;> simp_all
            rw [e]
            rw [World.cell?_alloc_at _ _ _ _ (by simp)]
            simpa using hj'
          case c2 => intro u hu; simp at hu; rcases hu with rfl | rfl | rfl | rfl <;> rfl
          case c3 => unfold maxLen; omega
          case c4 => omega
          case c5 => simp; omega
          intro v4 w4 hown4 hg4 _
          obtain ⟨a4, p4, rfl⟩ := own_form hown4
          have HQ4 : Hid (Rd w4 b s q1) := HQ2.out.far (app_block hg4 (by omega) (own_ne HO2.out.own (by omega)))
          have HG4 : Hid (w.grownBy w4 (some b)) := app_grown HG2.out HO2.out.own (Nat.le_refl _) hg4
          have HO4 : Hid (RulesAt 76 164 112 w.heap.size w4 (.slice a4 (acc.length + 1) p4) (acc ++ [t1]) (hs' ++ [.slice ha nh hc]) (bs ++ [.slice ba nb bc])) := by
            refine RulesAt.push (by decide) (by decide) (HO2.out.kept (fr_alloc w2 (.cells #[.string n1, .slice ha nh hc, .int .i64 (t1.head.place : Nat), .slice ba nb bc] 112) none) (fun g e => by cases e)) (by rw [HNH.out]; exact HHO.out.alloc _) (HPO.out.kept (fr_alloc w2 _ none) (fun g e => by cases e)) hg4 ?_
            rw [HTV.out]; exact hown4
          clear hown4 hg4 HQ2 HG2 HO2
          go_wp2_with fail
          refine (pleft_any b s q1 _ HQ4.out).mono ?_
          rintro e w6 ⟨rfl, n6, rfl⟩
          have HG6 : Hid (w.grownBy (w4.drewN n6) (some b)) := fr_both HG4.out (fr_draws _ _ _)
          have HO6 : Hid (RulesAt 76 164 112 w.heap.size (w4.drewN n6) (.slice a4 (acc.length + 1) p4) (acc ++ [t1]) (hs' ++ [.slice ha nh hc]) (bs ++ [.slice ba nb bc])) := HO4.out.kept (fr_draws _ _ none) (fun g e => by cases e)
          have HQ6 : Hid (Rd (w4.drewN n6) b s q1) := HQ4.out.drewN _
          generalize w4.drewN n6 = w6 at *
          clear HG4 HO4 HQ4
          have HLN := hide (show s.data.toList.length = s.size by simp)
          by_cases hrs : q1 = s.size
          · have HS : Hid (moreF s.data.toList q1 = none) := by show _ = _; unfold moreF; rw [HLN.out, if_pos hrs]
            have HRS : Hid (RES = .ok (acc ++ [t1], q1)) := by show _ = _; rw [HX.out]; exact listF_last _ _ _ _ _ HB.out _ _ _ HF.out HS.out
            rw [show decide (q1 = s.size) = true from by simp [hrs]]
            clear hrs
            go_wp2
            go_ret2
            rw [HRS.out]
            exact ⟨⟨.slice a4 (acc.length + 1) p4, _, _, rfl, HO6.out, HQ6.out⟩, HG6.out⟩
          · have HS : Hid (moreF s.data.toList q1 = some q1) := by show _ = _; unfold moreF; rw [HLN.out, if_neg hrs]
            have HRS : Hid (RES = preL (acc ++ [t1]) (listF (atNameB s.data.toList) (ruleF s.data.toList) (moreF s.data.toList) (most - (acc ++ [t1]).length) q1)) := by
              show _ = _
              rw [HX.out, listF_more _ _ _ _ _ HB.out _ _ _ _ HF.out HS.out, HRE.out, List.length_append]; rfl
            rw [show decide (q1 = s.size) = false from by simp [hrs]]
            clear hrs
            go_wp2_with fail
            go_roundw
            case rel => exact ⟨acc ++ [t1], _, _, q1, by simp; omega, hq1, HQ6, HO6, HG6, HRS⟩
            case measure => simp [lenV]; omega
end Go.Proofs.YtgllfcoafgphbaaGreatDoor

/-
  errors.Is over the program's errors, by its contracts (after the worked example of the guide).
-/
namespace Go.Proofs.YtgllfcoafgphbaaGreatDoor
open Go.RowKit Go.Extern.Stop Go.Stop Go.Extern
set_option linter.unusedVariables false
theorem is_typeOf (v : Value) (w : World) : (Extern.ReflectliteType.typeOf #[.iface 250 v]).run Tryz.prog w = .ok (.iface 223 (.agg #[.pointer (some ⟨5, 250, none⟩)])) w := by kernel_rfl
/-- the model's entry -/
noncomputable def cmpX : Array Value → Sem Value := (Extern.find Tryz.f186).getD (fun _ => pure .nilIface)
theorem is_comparable (w : World) : (cmpX #[.agg #[.pointer (some ⟨5, 250, none⟩)]]).run Tryz.prog w = .ok (.bool true) w := by kernel_rfl
theorem is_methodComparable (v : Value) (w : World) : (Go.method 381 223 v "Comparable").run Tryz.prog w = .ok (186, v) w := by kernel_rfl
theorem is_comp : (Tryz.prog.info? 250).map (·.comparable) = some true := by kernel_rfl
theorem is_size : (Tryz.prog.info? 270).map (·.size) = some 1 := by kernel_rfl
theorem no_isE (v : Value) (xT : TypeId) (w : World) : (Instr.typeAssert (.iface 250 v) xT 235 true).run Tryz.prog w = .ok (.tuple #[.nilIface, .bool false]) w := run_typeAssert_lacksB Tryz.underlying235 (by kernel_rfl) (by kernel_rfl) v xT w
theorem no_unwrapE (v : Value) (xT : TypeId) (w : World) : (Instr.typeAssert (.iface 250 v) xT 230 true).run Tryz.prog w = .ok (.tuple #[.nilIface, .bool false]) w := run_typeAssert_lacksB Tryz.underlying230 (by kernel_rfl) (by kernel_rfl) v xT w
theorem no_unwrapsE (v : Value) (xT : TypeId) (w : World) : (Instr.typeAssert (.iface 250 v) xT 232 true).run Tryz.prog w = .ok (.tuple #[.nilIface, .bool false]) w := run_typeAssert_lacksB Tryz.underlying232 (by kernel_rfl) (by kernel_rfl) v xT w
theorem no_isP (v : Value) (xT : TypeId) (w : World) : (Instr.typeAssert (.iface 158 v) xT 235 true).run Tryz.prog w = .ok (.tuple #[.nilIface, .bool false]) w := run_typeAssert_lacksB Tryz.underlying235 (by kernel_rfl) (by kernel_rfl) v xT w
theorem has_unwrapP (v : Value) (xT : TypeId) (w : World) : (Instr.typeAssert (.iface 158 v) xT 230 true).run Tryz.prog w = .ok (.tuple #[.iface 158 v, .bool true]) w := run_typeAssert_hasB Tryz.underlying230 (by kernel_rfl) v xT w
theorem method_unwrapP (a b : Value) (w : World) : (Go.method 381 158 (.agg #[a, b]) "Unwrap").run Tryz.prog w = .ok (180, .agg #[a, b]) w := by kernel_rfl
set_option maxRecDepth 100000 in
theorem is_nil (b : Addr) (w : World) :
    Calls Tryz.prog 93 #[.nilIface, .iface 250 (.pointer (some b))] w fun e w' => e = .returned (.bool false) ∧ w = w' := by
  have hn := run_eql_iface_nil_left (P := Tryz.prog) w 250 (.pointer (some b)) Tryz.underlying107
  go_enter Tryz.func93, Tryz.ntmps93
  go_wp2
  go_ret
  exact ⟨rfl, rfl⟩
set_option maxRecDepth 100000 in
theorem is_same (a : Addr) (w : World) :
    Calls Tryz.prog 93 #[.iface 250 (.pointer (some a)), .iface 250 (.pointer (some a))] w fun e w' => e = .returned (.bool true) ∧ w = w' := by
  obtain ⟨i, hi, hcmp⟩ := Option.map_eq_some_iff.1 is_comp
  obtain ⟨j, hj, hjs⟩ := Option.map_eq_some_iff.1 is_size
  have h8 := @run_callFunc_extern Tryz.prog 126 _ Extern.ReflectliteType.typeOf Tryz.func126 (by kernel_rfl) (by kernel_rfl) (by kernel_rfl) (by kernel_rfl)
  have h32 := @run_callFunc_extern Tryz.prog 186 _ cmpX Tryz.func186 (by kernel_rfl) (by kernel_rfl) (by kernel_rfl) (by kernel_rfl)
  have tT := is_typeOf
  have cT := is_comparable
  have mR := is_methodComparable
  have heq := run_eql_iface_ptr_same (P := Tryz.prog) w a Tryz.underlying107 Tryz.underlying250 hi hcmp hj
  go_enter Tryz.func93, Tryz.ntmps93
  go_wp2
  refine wp_loop_rounds 1 ?_
  rw [rounds_succ]
  go_wp2
  go_ret
  exact ⟨rfl, rfl⟩
set_option maxRecDepth 100000 in
theorem is_other (a b : Addr) (ca cb : Array Value) (ta tb : TypeId) (w : World) (hne : a ≠ b) (ha : w.heap[a.block]? = some (.cells ca ta (0, 0))) (hb : w.heap[b.block]? = some (.cells cb tb (0, 0))) :
    Calls Tryz.prog 93 #[.iface 250 (.pointer (some a)), .iface 250 (.pointer (some b))] w fun e w' => e = .returned (.bool false) ∧ w = w' := by
  obtain ⟨i, hi, hcmp⟩ := Option.map_eq_some_iff.1 is_comp
  obtain ⟨j, hj, hjs⟩ := Option.map_eq_some_iff.1 is_size
  have h8 := @run_callFunc_extern Tryz.prog 126 _ Extern.ReflectliteType.typeOf Tryz.func126 (by kernel_rfl) (by kernel_rfl) (by kernel_rfl) (by kernel_rfl)
  have h32 := @run_callFunc_extern Tryz.prog 186 _ cmpX Tryz.func186 (by kernel_rfl) (by kernel_rfl) (by kernel_rfl) (by kernel_rfl)
  have tT := is_typeOf
  have cT := is_comparable
  have mR := is_methodComparable
  have nE := no_isE
  have uE := no_unwrapE
  have vE := no_unwrapsE
  have heq := run_eql_iface_ptr_other (P := Tryz.prog) w Tryz.underlying107 Tryz.underlying250 hi hcmp hj (by rw [hjs]; decide) hne ha hb
  go_enter Tryz.func93, Tryz.ntmps93
  go_wp2
  refine wp_loop_rounds 1 ?_
  rw [rounds_succ]
  go_wp2
  go_ret
  exact ⟨rfl, rfl⟩
set_option maxRecDepth 100000 in
theorem unwrap_any (a b : Value) (w : World) : Calls Tryz.prog 180 #[.agg #[a, b]] w fun e w' => e = .returned a ∧ w' = w.alloc (.cells #[a, b] 158) := by
  go_enter Tryz.func180, Tryz.ntmps180
  go_wp2
  go_ret
  exact ⟨rfl, rfl⟩
set_option maxRecDepth 100000 in
set_option maxHeartbeats 1000000 in
theorem is_placed_same (b : Addr) (x : Int) (w : World) :
    Calls Tryz.prog 93 #[.iface 158 (.agg #[.iface 250 (.pointer (some b)), .int .i64 x]), .iface 250 (.pointer (some b))] w fun e w' => e = .returned (.bool true) ∧ w.grownBy w' none := by
  obtain ⟨i, hi, hcmp⟩ := Option.map_eq_some_iff.1 is_comp
  obtain ⟨j, hj, hjs⟩ := Option.map_eq_some_iff.1 is_size
  have h8 := @run_callFunc_extern Tryz.prog 126 _ Extern.ReflectliteType.typeOf Tryz.func126 (by kernel_rfl) (by kernel_rfl) (by kernel_rfl) (by kernel_rfl)
  have h32 := @run_callFunc_extern Tryz.prog 186 _ cmpX Tryz.func186 (by kernel_rfl) (by kernel_rfl) (by kernel_rfl) (by kernel_rfl)
  have tT := is_typeOf
  have cT := is_comparable
  have mR := is_methodComparable
  have nE := no_isE
  have uE := no_unwrapE
  have vE := no_unwrapsE
  have nP := no_isP
  have uP := has_unwrapP
  have mU := method_unwrapP
  have hty := run_eql_iface_types (P := Tryz.prog) 158 250 (.agg #[.iface 250 (.pointer (some b)), .int .i64 x]) (.pointer (some b)) Tryz.underlying107 (by decide) w
  have heq := run_eql_iface_ptr_same (P := Tryz.prog) (w.alloc (.cells #[.iface 250 (.pointer (some b)), .int .i64 x] 158)) b Tryz.underlying107 Tryz.underlying250 hi hcmp hj
  go_enter Tryz.func93, Tryz.ntmps93
  go_wp2
  refine wp_loop_rounds 2 ?_
  rw [rounds_succ]
  go_wp2_with (go_at_call 180; refine (unwrap_any _ _ _).mono ?_; rintro e w1 ⟨rfl, rfl⟩)
  rw [rounds_succ]
  go_wp2
  go_ret
  exact ⟨rfl, fr_alloc _ _ _⟩
set_option maxRecDepth 100000 in
set_option maxHeartbeats 1000000 in
theorem is_placed_other (a b : Addr) (x : Int) (ca cb : Array Value) (ta tb : TypeId) (w : World) (hne : a ≠ b) (ha : w.heap[a.block]? = some (.cells ca ta (0, 0))) (hb : w.heap[b.block]? = some (.cells cb tb (0, 0))) :
    Calls Tryz.prog 93 #[.iface 158 (.agg #[.iface 250 (.pointer (some a)), .int .i64 x]), .iface 250 (.pointer (some b))] w fun e w' => e = .returned (.bool false) ∧ w.grownBy w' none := by
  obtain ⟨i, hi, hcmp⟩ := Option.map_eq_some_iff.1 is_comp
  obtain ⟨j, hj, hjs⟩ := Option.map_eq_some_iff.1 is_size
  have h8 := @run_callFunc_extern Tryz.prog 126 _ Extern.ReflectliteType.typeOf Tryz.func126 (by kernel_rfl) (by kernel_rfl) (by kernel_rfl) (by kernel_rfl)
  have h32 := @run_callFunc_extern Tryz.prog 186 _ cmpX Tryz.func186 (by kernel_rfl) (by kernel_rfl) (by kernel_rfl) (by kernel_rfl)
  have tT := is_typeOf
  have cT := is_comparable
  have mR := is_methodComparable
  have nE := no_isE
  have uE := no_unwrapE
  have vE := no_unwrapsE
  have nP := no_isP
  have uP := has_unwrapP
  have mU := method_unwrapP
  have hty := run_eql_iface_types (P := Tryz.prog) 158 250 (.agg #[.iface 250 (.pointer (some a)), .int .i64 x]) (.pointer (some b)) Tryz.underlying107 (by decide) w
  have ha2 : (w.alloc (.cells #[.iface 250 (.pointer (some a)), .int .i64 x] 158)).heap[a.block]? = some (.cells ca ta (0, 0)) := by rw [Below.heap_alloc _ _ _ (Array.getElem?_eq_some_iff.1 ha).1]; exact ha
  have hb2 : (w.alloc (.cells #[.iface 250 (.pointer (some a)), .int .i64 x] 158)).heap[b.block]? = some (.cells cb tb (0, 0)) := by rw [Below.heap_alloc _ _ _ (Array.getElem?_eq_some_iff.1 hb).1]; exact hb
  have heq := run_eql_iface_ptr_other (P := Tryz.prog) (w.alloc (.cells #[.iface 250 (.pointer (some a)), .int .i64 x] 158)) Tryz.underlying107 Tryz.underlying250 hi hcmp hj (by rw [hjs]; decide) hne ha2 hb2
  clear ha hb ha2 hb2 hne
  go_enter Tryz.func93, Tryz.ntmps93
  go_wp2
  refine wp_loop_rounds 2 ?_
  rw [rounds_succ]
  go_wp2_with (go_at_call 180; refine (unwrap_any _ _ _).mono ?_; rintro e w1 ⟨rfl, rfl⟩)
  rw [rounds_succ]
  go_wp2
  go_ret
  exact ⟨rfl, fr_alloc _ _ _⟩
end Go.Proofs.YtgllfcoafgphbaaGreatDoor

/-
  Closed facts on the model's entries that errors.As comes to.
-/
namespace Go.Proofs.YtgllfcoafgphbaaGreatDoor
open Go.RowKit Go.Extern.Stop Go.Stop Go.Extern
set_option linter.unusedVariables false
set_option maxRecDepth 100000 in
theorem as_nil (t : Value) (w : World) :
    Calls Tryz.prog 92 #[.nilIface, t] w fun e w' => e = .returned (.bool false) ∧ w = w' := by
  go_enter Tryz.func92, Tryz.ntmps92
  go_wp2
  go_ret
  exact ⟨rfl, rfl⟩
theorem as_valueOf (t : Addr) (w : World) : (ReflectliteValue.unpack (.iface 160 (.pointer (some t)))).run Tryz.prog w
    = .ok (.agg #[.pointer (some ⟨5, 160, none⟩), .pointer (some ⟨w.heap.size, 0, none⟩), .int .u64 150]) (w.alloc (.cells #[.pointer (some t)] 160)) := by kernel_rfl
theorem as_type (a : Addr) (w : World) : (ReflectliteValue.methodAny (ReflectliteValue.valueError "reflectlite.Value.Type" 0) (fun t _ _ _ => ReflectliteType.toType t) #[.agg #[.pointer (some ⟨5, 160, none⟩), .pointer (some a), .int .u64 150]]).run Tryz.prog w
    = .ok (.iface 223 (.agg #[.pointer (some ⟨5, 160, none⟩)])) w := by kernel_rfl
theorem as_methodKind (h : Value) (w : World) : (Go.method 381 223 (.agg #[h]) "Kind").run Tryz.prog w = .ok (176, h) w := by kernel_rfl
noncomputable def kindX : Array Value → Sem Value := (Extern.find Tryz.f176).getD (fun _ => pure .nilIface)
theorem as_kindP (w : World) : (kindX #[.pointer (some ⟨5, 160, none⟩)]).run Tryz.prog w = .ok (.int .u8 22) w := by kernel_rfl
theorem as_kindS (w : World) : (kindX #[.pointer (some ⟨5, 158, none⟩)]).run Tryz.prog w = .ok (.int .u8 25) w := by kernel_rfl
theorem as_partsP (a : Addr) (w : World) : (ReflectliteValue.parts (.agg #[.pointer (some ⟨5, 160, none⟩), .pointer (some a), .int .u64 150])).run Tryz.prog w = .ok (some (160, a, 150)) w := by kernel_rfl
theorem as_methodElem (h : Value) (w : World) : (Go.method 381 223 (.agg #[h]) "Elem").run Tryz.prog w = .ok (187, .agg #[h]) w := by kernel_rfl
theorem as_methodImplements (h : Value) (w : World) : (Go.method 381 223 (.agg #[h]) "Implements").run Tryz.prog w = .ok (188, .agg #[h]) w := by kernel_rfl
theorem as_methodAssignable (h : Value) (w : World) : (Go.method 381 223 (.agg #[h]) "AssignableTo").run Tryz.prog w = .ok (185, .agg #[h]) w := by kernel_rfl
theorem as_elem (w : World) : (ReflectliteType.method ReflectliteType.elem #[.agg #[.pointer (some ⟨5, 160, none⟩)]]).run Tryz.prog w = .ok (.iface 223 (.agg #[.pointer (some ⟨5, 158, none⟩)])) w := by kernel_rfl
theorem as_implements (w : World) : (ReflectliteType.relation "Implements" ReflectliteType.implements_ #[.agg #[.pointer (some ⟨5, 158, none⟩)], .iface 223 (.agg #[.pointer (some ⟨5, 107, none⟩)])]).run Tryz.prog w = .ok (.bool true) w := by kernel_rfl
theorem as_typeOfP (v : Value) (w : World) : (ReflectliteType.typeOf #[.iface 158 v]).run Tryz.prog w = .ok (.iface 223 (.agg #[.pointer (some ⟨5, 158, none⟩)])) w := by kernel_rfl
theorem as_assignP (w : World) : (ReflectliteType.relation "AssignableTo" ReflectliteType.assignableTo #[.agg #[.pointer (some ⟨5, 158, none⟩)], .iface 223 (.agg #[.pointer (some ⟨5, 158, none⟩)])]).run Tryz.prog w = .ok (.bool true) w := by kernel_rfl
theorem as_assignE (w : World) : (ReflectliteType.relation "AssignableTo" ReflectliteType.assignableTo #[.agg #[.pointer (some ⟨5, 250, none⟩)], .iface 223 (.agg #[.pointer (some ⟨5, 158, none⟩)])]).run Tryz.prog w = .ok (.bool false) w := by kernel_rfl
theorem as_valueOfP (a : Addr) (x : Int) (w : World) : (ReflectliteValue.unpack (.iface 158 (.agg #[.iface 250 (.pointer (some a)), .int .i64 x]))).run Tryz.prog w
    = .ok (.agg #[.pointer (some ⟨5, 158, none⟩), .pointer (some ⟨w.heap.size, 0, none⟩), .int .u64 153]) (w.alloc (.cells #[.iface 250 (.pointer (some a)), .int .i64 x] 158)) := by kernel_rfl
theorem as_elemOf (w : World) : (Rtype.elem? 160).run Tryz.prog w = .ok (some 158) w := by kernel_rfl
theorem as_mk (p : Addr) (w : World) : (ReflectliteValue.mk 158 p ReflectliteValue.flagAddr).run Tryz.prog w = .ok (.agg #[.pointer (some ⟨5, 158, none⟩), .pointer (some p), .int .u64 409]) w := by kernel_rfl
theorem as_partsA (a : Addr) (w : World) : (ReflectliteValue.parts (.agg #[.pointer (some ⟨5, 158, none⟩), .pointer (some a), .int .u64 409])).run Tryz.prog w = .ok (some (158, a, 409)) w := by kernel_rfl
theorem as_partsB (a : Addr) (w : World) : (ReflectliteValue.parts (.agg #[.pointer (some ⟨5, 158, none⟩), .pointer (some a), .int .u64 153])).run Tryz.prog w = .ok (some (158, a, 153)) w := by kernel_rfl
theorem as_direct (w : World) : (Rtype.directlyAssignable 158 158).run Tryz.prog w = .ok true w := by kernel_rfl
theorem as_size (w : World) : (sizeOf 158).run Tryz.prog w = .ok 2 w := by kernel_rfl
end Go.Proofs.YtgllfcoafgphbaaGreatDoor

/-
  errors.As over the program's errors, by its contracts (after the worked example of the guide).
-/
namespace Go.Proofs.YtgllfcoafgphbaaGreatDoor
open Go.RowKit Go.Extern.Stop Go.Stop Go.Extern
set_option linter.unusedVariables false
theorem no_asE (v : Value) (xT : TypeId) (w : World) : (Instr.typeAssert (.iface 250 v) xT 227 true).run Tryz.prog w = .ok (.tuple #[.nilIface, .bool false]) w := run_typeAssert_lacksB Tryz.underlying227 (by kernel_rfl) (by kernel_rfl) v xT w
theorem as_isNil (a p : Addr) (W : World) (ha : W.cell? a = some (.pointer (some p))) :
    (ReflectliteValue.method (ReflectliteValue.valueError "reflectlite.Value.IsNil" 0) ReflectliteValue.isNil #[.agg #[.pointer (some ⟨5, 160, none⟩), .pointer (some a), .int .u64 150]]).run Tryz.prog W = .ok (.bool false) W := by
  delta ReflectliteValue.method ReflectliteValue.method.match_2
  simp [Array.getLit, as_partsP, ReflectliteValue.isNil, loadVar, isAgg, underlying, Tryz.underlying160, ha, Result.andThen]
theorem as_elemV (a p : Addr) (W : World) (ha : W.cell? a = some (.pointer (some p))) :
    (ReflectliteValue.method (ReflectliteValue.valueError "reflectlite.Value.Elem" 0) ReflectliteValue.elem #[.agg #[.pointer (some ⟨5, 160, none⟩), .pointer (some a), .int .u64 150]]).run Tryz.prog W
      = .ok (.agg #[.pointer (some ⟨5, 158, none⟩), .pointer (some p), .int .u64 409]) W := by
  delta ReflectliteValue.method ReflectliteValue.method.match_2
  simp [Array.getLit, as_partsP, ReflectliteValue.elem, loadVar, isAgg, underlying, Tryz.underlying160, ha, Result.andThen, as_elemOf, as_mk]
theorem as_set (tb bb : Nat) (a : Addr) (x : Int) (o0 o1 : Value) (W : World) (hb0 : W.cell? ⟨bb, 0, none⟩ = some (.iface 250 (.pointer (some a)))) (hb1 : W.cell? ⟨bb, 1, none⟩ = some (.int .i64 x)) (ht0 : W.cell? ⟨tb, 0, none⟩ = some o0) (ht1 : W.cell? ⟨tb, 1, none⟩ = some o1) (hf0 : W.frozen? ⟨tb, 0, none⟩ = false) (hf1 : W.frozen? ⟨tb, 1, none⟩ = false) :
    (ReflectliteValue.set #[.agg #[.pointer (some ⟨5, 158, none⟩), .pointer (some ⟨tb, 0, none⟩), .int .u64 409], .agg #[.pointer (some ⟨5, 158, none⟩), .pointer (some ⟨bb, 0, none⟩), .int .u64 153]]).run Tryz.prog W
      = .ok (.tuple #[]) ((W.setCell ⟨tb, 0, none⟩ (.iface 250 (.pointer (some a)))).setCell ⟨tb, 1, none⟩ (.int .i64 x)) := by
  delta ReflectliteValue.set ReflectliteValue.set.match_3
  simp [Array.getLit, as_partsA, as_partsB, ReflectliteValue.flagAddr, loadVar, isAgg, underlying, Tryz.underlying158, Result.andThen, as_direct, loadCells, loadCellsFrom, hb0, hb1, storeVar, Value.cells, storeCells, Addr.add]
  rw [run_store Tryz.prog W ⟨tb, 0, none⟩ _ _ (by rfl)]
  simp only [ht0, hf0]
  have ht1' : (W.setCell ⟨tb, 0, none⟩ (.iface 250 (.pointer (some a)))).cell? ⟨tb, 1, none⟩ = some o1 := by rw [World.cell?_setCell_other _ _ _ _ (by simp)]; exact ht1
  have hf1' : (W.setCell ⟨tb, 0, none⟩ (.iface 250 (.pointer (some a)))).frozen? ⟨tb, 1, none⟩ = false := by rw [World.frozen?_setCell]; exact hf1
  simp only [Bool.false_eq_true, if_false]
  rw [run_store Tryz.prog (W.setCell ⟨tb, 0, none⟩ (.iface 250 (.pointer (some a)))) ⟨tb, 1, none⟩ _ _ (by rfl)]
  simp [ht1', hf1']
set_option maxRecDepth 100000 in
set_option maxHeartbeats 4000000 in
theorem as_miss (a : Addr) (tb : Nat) (w : World) (hg : w.cell? ⟨3, 0, none⟩ = some (.iface 223 (.agg #[typeHandle Tryz.prog 107]))) :
    Calls Tryz.prog 92 #[.iface 250 (.pointer (some a)), .iface 160 (.pointer (some ⟨tb, 0, none⟩))] w fun e w' => e = .returned (.bool false) ∧ w.grownBy w' none := by
  have h6 := @run_callFunc_extern Tryz.prog 122 _ (fun args => ReflectliteValue.unpack (args.getD 0 (.tuple #[]))) Tryz.func122 (by kernel_rfl) (by kernel_rfl) (by kernel_rfl) (by kernel_rfl)
  have h7 := @run_callFunc_extern Tryz.prog 123 _ (ReflectliteValue.methodAny (ReflectliteValue.valueError "reflectlite.Value.Type" 0) (fun t _ _ _ => ReflectliteType.toType t)) Tryz.func123 (by kernel_rfl) (by kernel_rfl) (by kernel_rfl) (by kernel_rfl)
  have h8 := @run_callFunc_extern Tryz.prog 124 _ (ReflectliteValue.method (ReflectliteValue.valueError "reflectlite.Value.IsNil" 0) ReflectliteValue.isNil) Tryz.func124 (by kernel_rfl) (by kernel_rfl) (by kernel_rfl) (by kernel_rfl)
  have h27 := @run_callFunc_extern Tryz.prog 176 _ kindX Tryz.func176 (by kernel_rfl) (by kernel_rfl) (by kernel_rfl) (by kernel_rfl)
  have h37 := @run_callFunc_extern Tryz.prog 187 _ (ReflectliteType.method ReflectliteType.elem) Tryz.func187 (by kernel_rfl) (by kernel_rfl) (by kernel_rfl) (by kernel_rfl)
  have h38 := @run_callFunc_extern Tryz.prog 188 _ (ReflectliteType.relation "Implements" ReflectliteType.implements_) Tryz.func188 (by kernel_rfl) (by kernel_rfl) (by kernel_rfl) (by kernel_rfl)
  have h10 := @run_callFunc_extern Tryz.prog 126 _ ReflectliteType.typeOf Tryz.func126 (by kernel_rfl) (by kernel_rfl) (by kernel_rfl) (by kernel_rfl)
  have h35 := @run_callFunc_extern Tryz.prog 185 _ (ReflectliteType.relation "AssignableTo" ReflectliteType.assignableTo) Tryz.func185 (by kernel_rfl) (by kernel_rfl) (by kernel_rfl) (by kernel_rfl)
  have h11 := @run_callFunc_extern Tryz.prog 148 _ (ReflectliteValue.method (ReflectliteValue.valueError "reflectlite.Value.Elem" 0) ReflectliteValue.elem) Tryz.func148 (by kernel_rfl) (by kernel_rfl) (by kernel_rfl) (by kernel_rfl)
  have h12 := @run_callFunc_extern Tryz.prog 149 _ ReflectliteValue.set Tryz.func149 (by kernel_rfl) (by kernel_rfl) (by kernel_rfl) (by kernel_rfl)
  have f6 := as_valueOf
  have f7 := as_type
  have mK := as_methodKind
  have mE := as_methodElem
  have mI := as_methodImplements
  have mA := as_methodAssignable
  have k27 := as_kindP
  have k25 := as_kindS
  have e27 := as_elem
  have i25 := as_implements
  have hh : typeHandle Tryz.prog 107 = .pointer (some ⟨5, 107, none⟩) := by kernel_rfl
  rw [hh] at hg
  have n8 := as_isNil ⟨w.heap.size, 0, none⟩ ⟨tb, 0, none⟩ ((w.alloc (.cells #[.pointer (some ⟨tb, 0, none⟩)] 160)).alloc (.cells #[.pointer (some ⟨5, 160, none⟩), .pointer (some ⟨w.heap.size, 0, none⟩), .int .u64 150] 195)) (by simp)
  have hlt : 3 < w.heap.size := glob_lt hg
  have hg2 : ((w.alloc (.cells #[.pointer (some ⟨tb, 0, none⟩)] 160)).alloc (.cells #[.pointer (some ⟨5, 160, none⟩), .pointer (some ⟨w.heap.size, 0, none⟩), .int .u64 150] 195)).cell? ⟨3, 0, none⟩ = some (.iface 223 (.agg #[.pointer (some ⟨5, 107, none⟩)])) := by
    rw [World.cell?_alloc_lt _ _ ⟨3, 0, none⟩ (by simp; omega), World.cell?_alloc_lt _ _ ⟨3, 0, none⟩ hlt]; exact hg
  have tO := is_typeOf
  have aE := as_assignE
  have nA := no_asE
  have uE := no_unwrapE
  have vE := no_unwrapsE
  go_enter Tryz.func92, Tryz.ntmps92
  go_wp2
  refine wp_loop_rounds 1 ?_
  rw [rounds_succ]
  go_wp2
  go_ret
  exact ⟨rfl, fr_both (fr_both (fr_alloc _ _ _) (fr_alloc _ _ _)) (fr_alloc _ _ _)⟩
set_option maxRecDepth 100000 in
set_option maxHeartbeats 4000000 in
theorem as_hit (a : Addr) (x : Int) (tb : Nat) (o0 o1 : Value) (w : World) (hg : w.cell? ⟨3, 0, none⟩ = some (.iface 223 (.agg #[typeHandle Tryz.prog 107]))) (ht0 : w.cell? ⟨tb, 0, none⟩ = some o0) (ht1 : w.cell? ⟨tb, 1, none⟩ = some o1) (hf0 : w.frozen? ⟨tb, 0, none⟩ = false) (hf1 : w.frozen? ⟨tb, 1, none⟩ = false) :
    Calls Tryz.prog 92 #[.iface 158 (.agg #[.iface 250 (.pointer (some a)), .int .i64 x]), .iface 160 (.pointer (some ⟨tb, 0, none⟩))] w fun e w' => e = .returned (.bool true) ∧ w.grownBy w' (some tb) ∧ w'.cell? ⟨tb, 1, none⟩ = some (.int .i64 x) := by
  have h6 := @run_callFunc_extern Tryz.prog 122 _ (fun args => ReflectliteValue.unpack (args.getD 0 (.tuple #[]))) Tryz.func122 (by kernel_rfl) (by kernel_rfl) (by kernel_rfl) (by kernel_rfl)
  have h7 := @run_callFunc_extern Tryz.prog 123 _ (ReflectliteValue.methodAny (ReflectliteValue.valueError "reflectlite.Value.Type" 0) (fun t _ _ _ => ReflectliteType.toType t)) Tryz.func123 (by kernel_rfl) (by kernel_rfl) (by kernel_rfl) (by kernel_rfl)
  have h8 := @run_callFunc_extern Tryz.prog 124 _ (ReflectliteValue.method (ReflectliteValue.valueError "reflectlite.Value.IsNil" 0) ReflectliteValue.isNil) Tryz.func124 (by kernel_rfl) (by kernel_rfl) (by kernel_rfl) (by kernel_rfl)
  have h27 := @run_callFunc_extern Tryz.prog 176 _ kindX Tryz.func176 (by kernel_rfl) (by kernel_rfl) (by kernel_rfl) (by kernel_rfl)
  have h37 := @run_callFunc_extern Tryz.prog 187 _ (ReflectliteType.method ReflectliteType.elem) Tryz.func187 (by kernel_rfl) (by kernel_rfl) (by kernel_rfl) (by kernel_rfl)
  have h38 := @run_callFunc_extern Tryz.prog 188 _ (ReflectliteType.relation "Implements" ReflectliteType.implements_) Tryz.func188 (by kernel_rfl) (by kernel_rfl) (by kernel_rfl) (by kernel_rfl)
  have h10 := @run_callFunc_extern Tryz.prog 126 _ ReflectliteType.typeOf Tryz.func126 (by kernel_rfl) (by kernel_rfl) (by kernel_rfl) (by kernel_rfl)
  have h35 := @run_callFunc_extern Tryz.prog 185 _ (ReflectliteType.relation "AssignableTo" ReflectliteType.assignableTo) Tryz.func185 (by kernel_rfl) (by kernel_rfl) (by kernel_rfl) (by kernel_rfl)
  have h11 := @run_callFunc_extern Tryz.prog 148 _ (ReflectliteValue.method (ReflectliteValue.valueError "reflectlite.Value.Elem" 0) ReflectliteValue.elem) Tryz.func148 (by kernel_rfl) (by kernel_rfl) (by kernel_rfl) (by kernel_rfl)
  have h12 := @run_callFunc_extern Tryz.prog 149 _ ReflectliteValue.set Tryz.func149 (by kernel_rfl) (by kernel_rfl) (by kernel_rfl) (by kernel_rfl)
  have f6 := as_valueOf
  have f7 := as_type
  have mK := as_methodKind
  have mE := as_methodElem
  have mI := as_methodImplements
  have mA := as_methodAssignable
  have k27 := as_kindP
  have k25 := as_kindS
  have e27 := as_elem
  have i25 := as_implements
  have hh : typeHandle Tryz.prog 107 = .pointer (some ⟨5, 107, none⟩) := by kernel_rfl
  rw [hh] at hg
  have n8 := as_isNil ⟨w.heap.size, 0, none⟩ ⟨tb, 0, none⟩ ((w.alloc (.cells #[.pointer (some ⟨tb, 0, none⟩)] 160)).alloc (.cells #[.pointer (some ⟨5, 160, none⟩), .pointer (some ⟨w.heap.size, 0, none⟩), .int .u64 150] 195)) (by simp)
  have hlt : 3 < w.heap.size := glob_lt hg
  have hg2 : ((w.alloc (.cells #[.pointer (some ⟨tb, 0, none⟩)] 160)).alloc (.cells #[.pointer (some ⟨5, 160, none⟩), .pointer (some ⟨w.heap.size, 0, none⟩), .int .u64 150] 195)).cell? ⟨3, 0, none⟩ = some (.iface 223 (.agg #[.pointer (some ⟨5, 107, none⟩)])) := by
    rw [World.cell?_alloc_lt _ _ ⟨3, 0, none⟩ (by simp; omega), World.cell?_alloc_lt _ _ ⟨3, 0, none⟩ hlt]; exact hg
  have tO := as_typeOfP
  have aP := as_assignP
  have vP := as_valueOfP
  have htl : tb < w.heap.size := glob_lt ht0
  have el := as_elemV ⟨w.heap.size, 0, none⟩ ⟨tb, 0, none⟩ (((w.alloc (.cells #[.pointer (some ⟨tb, 0, none⟩)] 160)).alloc (.cells #[.pointer (some ⟨5, 160, none⟩), .pointer (some ⟨w.heap.size, 0, none⟩), .int .u64 150] 195)).alloc (.cells #[.pointer (some ⟨5, 160, none⟩), .pointer (some ⟨w.heap.size, 0, none⟩), .int .u64 150] 195)) (by rw [World.cell?_alloc_lt _ _ ⟨w.heap.size, 0, none⟩ (by simp; omega)]; simp)
  have up : ∀ j o, w.cell? ⟨tb, j, none⟩ = some o → ((((w.alloc (.cells #[.pointer (some ⟨tb, 0, none⟩)] 160)).alloc (.cells #[.pointer (some ⟨5, 160, none⟩), .pointer (some ⟨w.heap.size, 0, none⟩), .int .u64 150] 195)).alloc (.cells #[.pointer (some ⟨5, 160, none⟩), .pointer (some ⟨w.heap.size, 0, none⟩), .int .u64 150] 195)).alloc (.cells #[.iface 250 (.pointer (some a)), .int .i64 x] 158)).cell? ⟨tb, j, none⟩ = some o := fun j o h => by
    rw [World.cell?_alloc_lt _ _ ⟨tb, j, none⟩ (by simp; omega), World.cell?_alloc_lt _ _ ⟨tb, j, none⟩ (by simp; omega), World.cell?_alloc_lt _ _ ⟨tb, j, none⟩ (by simp; omega), World.cell?_alloc_lt _ _ ⟨tb, j, none⟩ htl]; exact h
  have uf : ∀ j, w.frozen? ⟨tb, j, none⟩ = false → ((((w.alloc (.cells #[.pointer (some ⟨tb, 0, none⟩)] 160)).alloc (.cells #[.pointer (some ⟨5, 160, none⟩), .pointer (some ⟨w.heap.size, 0, none⟩), .int .u64 150] 195)).alloc (.cells #[.pointer (some ⟨5, 160, none⟩), .pointer (some ⟨w.heap.size, 0, none⟩), .int .u64 150] 195)).alloc (.cells #[.iface 250 (.pointer (some a)), .int .i64 x] 158)).frozen? ⟨tb, j, none⟩ = false := fun j h => by
    rw [World.frozen?_alloc_old _ _ ⟨tb, j, none⟩ (by simp; omega), World.frozen?_alloc_old _ _ ⟨tb, j, none⟩ (by simp; omega), World.frozen?_alloc_old _ _ ⟨tb, j, none⟩ (by simp; omega), World.frozen?_alloc_old _ _ ⟨tb, j, none⟩ (Nat.ne_of_lt htl)]; exact h
  have st := as_set tb (w.heap.size + 1 + 1 + 1) a x o0 o1 ((((w.alloc (.cells #[.pointer (some ⟨tb, 0, none⟩)] 160)).alloc (.cells #[.pointer (some ⟨5, 160, none⟩), .pointer (some ⟨w.heap.size, 0, none⟩), .int .u64 150] 195)).alloc (.cells #[.pointer (some ⟨5, 160, none⟩), .pointer (some ⟨w.heap.size, 0, none⟩), .int .u64 150] 195)).alloc (.cells #[.iface 250 (.pointer (some a)), .int .i64 x] 158))
    (by rw [World.cell?_alloc_at _ _ _ _ (by simp)]; rfl) (by rw [World.cell?_alloc_at _ _ _ _ (by simp)]; rfl) (up 0 o0 ht0) (up 1 o1 ht1) (uf 0 hf0) (uf 1 hf1)
  have HT1 := hide (up 1 o1 ht1)
  clear up uf
  go_enter Tryz.func92, Tryz.ntmps92
  go_wp2
  refine wp_loop_rounds 1 ?_
  rw [rounds_succ]
  go_wp2
  go_ret
  refine ⟨rfl, ?_, ?_⟩
  · exact fr_both (fr_both (fr_both (fr_both (fr_both (fr_both (fr_alloc _ _ _) (fr_alloc _ _ _)) (fr_alloc _ _ _)) (fr_alloc _ _ _)) (fr_set _ _ _ _)) (fr_set _ _ _ _)) (fr_refl _ _)
  · exact World.cell?_setCell_same _ _ _ (by rw [World.cell?_setCell_other _ _ _ _ (by simp)]; exact HT1.out)
end Go.Proofs.YtgllfcoafgphbaaGreatDoor
