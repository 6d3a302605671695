import Derived.Test.YtdfbjnachakkhaaGreatDoorM40
namespace Go.Proofs.YtdfbjnachakkhaaGreatDoor
open Go.ChangeShapes Go.WideShapes Go.ChangeAt Go.RowKit
set_option linter.unusedVariables false
theorem infoPartP : (Tryz.prog.info? 67).map (fun i => (i.zero, i.size, i.bytes)) = some (some (.agg partZ.toArray), 10, 120) := by kernel_rfl
theorem restF_le (s : ByteArray) (name : List UInt8) (x q : Nat) (hq : q ≤ s.size) (a : PAtom) (r : Nat) (h : restF s.data.toList name x q = .ok (a, r)) : r ≤ s.size := by
  unfold restF at h
  cases h1 : signF s.data.toList [40] q with
  | none => rw [h1] at h; cases h; exact hq
  | some q2 =>
    rw [h1] at h
    have hq2 := signF_le s [40] q q2 h1 (by simp)
    simp only [] at h
    cases h2 : listF (atTermB s.data.toList) (termF s.data.toList) (signF s.data.toList [44]) 8 q2 with
    | error e => rw [h2] at h; cases h
    | ok v =>
      obtain ⟨xs, r2⟩ := v
      rw [h2] at h
      simp only [] at h
      cases h3 : signF s.data.toList [41] r2 with
      | none => rw [h3] at h; cases h
      | some r3 => rw [h3] at h; cases h; exact signF_le s [41] r2 r h3 (by simp)
theorem atomF_le (s : ByteArray) (p : Nat) (hp : p ≤ s.size) (a : PAtom) (r : Nat) (h : atomF s.data.toList p = .ok (a, r)) : r ≤ s.size := by
  rw [atomF_is] at h
  split at h
  · exact restF_le s _ _ _ (skip_le s _ (word_le s p hp)) a r h
  · cases h
theorem compP_le (s : ByteArray) (p : Nat) (hp : p ≤ s.size) (t : PPart) (r : Nat) (h : compP s.data.toList p = .ok (t, r)) : r ≤ s.size := by
  unfold compP at h
  cases h1 : termF s.data.toList p with
  | error e => rw [h1] at h; cases h
  | ok v =>
    obtain ⟨t1, q1⟩ := v
    rw [h1] at h
    simp only [] at h
    cases h2 : compF s.data.toList q1 with
    | none => rw [h2] at h; cases h
    | some kq =>
      obtain ⟨k, q2⟩ := kq
      rw [h2] at h
      simp only [] at h
      cases h3 : termF s.data.toList q2 with
      | error e => rw [h3] at h; cases h
      | ok v2 =>
        obtain ⟨u, q3⟩ := v2
        rw [h3] at h
        cases h
        exact termF_le s q2 (compF_le s q1 k q2 h2) u r h3
theorem partF_le (s : ByteArray) (p : Nat) (hp : p ≤ s.size) (t : PPart) (r : Nat) (h : partF s.data.toList p = .ok (t, r)) : r ≤ s.size := by
  by_cases h1 : wordAt s.data.toList p = [110, 111, 116]
  · rw [partF_nots _ _ h1] at h
    have hw := word_le s p hp
    rw [h1] at hw
    have hw3 : p + 3 ≤ s.size := hw
    cases h2 : atomF s.data.toList (skipTo s.data.toList (p + 3)) with
    | error e => rw [h2] at h; cases h
    | ok v =>
      obtain ⟨a, q⟩ := v
      rw [h2] at h; cases h
      exact atomF_le s _ (skip_le s _ hw3) a r h2
  · cases h3 : (atNameB s.data.toList p && (compF s.data.toList (skipTo s.data.toList (p + (wordAt s.data.toList p).length))).isNone) with
    | true =>
      rw [partF_atom _ _ h1 h3] at h
      cases h2 : atomF s.data.toList p with
      | error e => rw [h2] at h; cases h
      | ok v =>
        obtain ⟨a, q⟩ := v
        rw [h2] at h; cases h
        exact atomF_le s _ hp a r h2
    | false => rw [partF_cmp _ _ h1 h3] at h; exact compP_le s p hp t r h
def ListP (L T M : Addr) (base b : Nat) (s : ByteArray) (r : Except PErr (List PPart × Nat)) (en : Ending) (w' : World) : Prop := match r with
  | .error (e, x) => en = .returned (.tuple #[.slice none 0 0, errV L T M e x])
  | .ok (ps, q) => ∃ v vs, en = .returned (.tuple #[v, .nilIface]) ∧ PartsAt 65 67 base w' v ps vs ∧ Rd w' b s (q : Nat)
set_option maxRecDepth 100000 in
set_option maxHeartbeats 4000000 in
theorem plistP_any (b : Nat) (s : ByteArray) (p most : Nat) (L T M : Addr) (w : World) (h : Rd w b s p) (hE : Errs w L T M) (hb : gTop ≤ b) (hp : p ≤ s.size) (hs : s.size ≤ 1073741824) (hm : most ≤ 1000) :
    Calls Tryz.prog 79 #[.pointer (some ⟨b, 0, none⟩), .int .i64 (most : Nat), .func (.func 80) #[] #[], .func (.func 81) #[] #[], .func (.func 82) #[] #[]] w fun en w' =>
      ListP L T M w.heap.size b s (listF (atPartB s.data.toList) (partF s.data.toList) (signF s.data.toList [44]) most p) en w' ∧ w.grownBy w' (some b) := by
  have E1 : ∀ args w, (callFunc 80 args).run Tryz.prog w = .ok (.enter 80 args) w := enters_of Tryz.func80 (by kernel_rfl) rfl
  have E2 : ∀ args w, (callFunc 81 args).run Tryz.prog w = .ok (.enter 81 args) w := enters_of Tryz.func81 (by kernel_rfl) rfl
  have E3 : ∀ args w, (callFunc 82 args).run Tryz.prog w = .ok (.enter 82 args) w := enters_of Tryz.func82 (by kernel_rfl) rfl
  obtain ⟨i0, hi0, hz0, hz1, hz2⟩ := info_parts infoPartP
  have hbw := h.lt
  have HR := hide h
  have HE := hide hE
  obtain ⟨RES, HRES⟩ : ∃ RES, Hid (listF (atPartB s.data.toList) (partF s.data.toList) (signF s.data.toList [44]) most p = RES) := ⟨_, (rfl : _ = _)⟩
  rw [HRES.out]
  clear h hE
  go_enter Tryz.func79, Tryz.ntmps79
  go_wp2_with fail
  go_loopw [12, 13, 14] (fun l t e wr => ∃ (acc : List PPart) (us : List Value) (q : Nat), acc.length ≤ most ∧ q ≤ s.size ∧ Hid (Rd wr b s (q : Nat)) ∧ Hid (PartsAt 65 67 w.heap.size wr l acc us) ∧ Hid (w.grownBy wr (some b)) ∧ Hid (RES = preL acc (listF (atPartB s.data.toList) (partF s.data.toList) (signF s.data.toList [44]) (most - acc.length) q))) (fun l _ _ _ => most + 1 - lenV l)
  case atStart => exact ⟨[], [], p, by simp, hp, HR, PartsAt.nil _ _ _ _, fr_refl _ _, by show _ = _; rw [preL_nil]; exact HRES.out.symm⟩
  case round =>
    obtain ⟨acc, us, q, hal, hq, HQ, HO, HG, HX⟩ := hrel
    obtain ⟨va, vc, hv⟩ := own_form HO.out.own
    subst hv
    have HEr : Hid (Errs wr L T M) := HE.out.grown HG.out hb
    go_wp2_with fail
    refine (patPart_any b s q _ HQ.out hq hs).mono ?_
    rintro e w1 ⟨rfl, n1, rfl⟩
    have HQ1 : Hid (Rd (wr.drewN n1) b s q) := HQ.out.drewN _
    have HE1 : Hid (Errs (wr.drewN n1) L T M) := HEr.out.drewN _
    have HG1 : Hid (w.grownBy (wr.drewN n1) (some b)) := fr_both HG.out (fr_draws _ _ _)
    have HO1 : Hid (PartsAt 65 67 w.heap.size (wr.drewN n1) (.slice va acc.length vc) acc us) := HO.out.kept (fr_draws _ _ none) (fun g hg => by cases hg)
    generalize wr.drewN n1 = w1 at *
    clear HQ HEr HG HO
    have g1 := HE1.out.gt
    have g2 := HE1.out.gm
    obtain ⟨B, HB⟩ : ∃ B, Hid (atPartB s.data.toList q = B) := ⟨_, (rfl : _ = _)⟩
    rw [HB.out]
    cases B with
    | false =>
      have HRS : Hid (RES = .error (2, q)) := by show _ = _; rw [HX.out]; exact listF_no _ _ _ _ _ HB.out _
      clear g2
      have HFL : Hid (∀ wx : World, (∃ n, wx = w1.drewN n) → Calls Tryz.prog 44 #[.pointer (some ⟨b, 0, none⟩), .iface 338 (.pointer (some T))] wx fun e w' => e = .returned (.iface 115 (.agg #[.iface 338 (.pointer (some T)), .int .i64 (q : Nat)])) ∧ Hid (w.grownBy w' (some b)) ∧ w'.cell? ⟨1, 0, none⟩ = some (.iface 338 (.pointer (some T)))) := by
        rintro wx ⟨n, rfl⟩
        refine (pfail_any b s q T _ (HQ1.out.drewN n)).mono ?_
        rintro e w2 ⟨rfl, rfl⟩
        exact ⟨rfl, fr_both HG1.out (fr_draws _ _ _), g1⟩
      go_wp2_with fail
      go_region_held3 (fun w' => w'.cell? ⟨1, 0, none⟩ = some (.iface 338 (.pointer (some T)))) (go_keep) (first | (go_at_call 44; refine (HFL.out _ ⟨_, rfl⟩).mono ?_; rintro e w9 ⟨rfl, HG9, k9⟩))
      all_goals go_wp2
      all_goals go_ret2
      all_goals rw [HRS.out]
      all_goals exact ⟨rfl, HG9.out⟩
    | true =>
      by_cases hlm : acc.length = most
      · have HRS : Hid (RES = .error (7, q)) := by show _ = _; rw [HX.out, hlm, Nat.sub_self]; exact listF_many _ _ _ _ HB.out _
        have hbq : ((acc.length : Int) == (most : Int)) = true := by simp [hlm]
        clear g1 hlm
        have HFL : Hid (∀ wx : World, (∃ n, wx = w1.drewN n) → Calls Tryz.prog 44 #[.pointer (some ⟨b, 0, none⟩), .iface 338 (.pointer (some M))] wx fun e w' => e = .returned (.iface 115 (.agg #[.iface 338 (.pointer (some M)), .int .i64 (q : Nat)])) ∧ Hid (w.grownBy w' (some b)) ∧ w'.cell? ⟨2, 0, none⟩ = some (.iface 338 (.pointer (some M)))) := by
          rintro wx ⟨n, rfl⟩
          refine (pfail_any b s q M _ (HQ1.out.drewN n)).mono ?_
          rintro e w2 ⟨rfl, rfl⟩
          exact ⟨rfl, fr_both HG1.out (fr_draws _ _ _), g2⟩
        go_wp2_with fail
        go_region_held3 (fun w' => w'.cell? ⟨2, 0, none⟩ = some (.iface 338 (.pointer (some M)))) (go_keep) (first | (go_at_call 44; refine (HFL.out _ ⟨_, rfl⟩).mono ?_; rintro e w9 ⟨rfl, HG9, k9⟩))
        all_goals go_wp2
        all_goals go_ret2
        all_goals rw [HRS.out]
        all_goals exact ⟨rfl, HG9.out⟩
      · have hbq : ((acc.length : Int) == (most : Int)) = false := by rw [beq_eq_false_iff_ne]; omega
        have hlt : acc.length < most := by omega
        obtain ⟨r, HRR⟩ : ∃ r, Hid (most - acc.length = r + 1) := ⟨most - acc.length - 1, by show _ = _; omega⟩
        have hr : r = most - (acc.length + 1) := by have := HRR.out; omega
        have HRE := hide hr
        rw [HRR.out] at HX
        clear g1 g2 hlm hr
        go_wp2_with fail
        refine (ppart_any b s q L T M _ HQ1.out HE1.out hb hq hs).mono ?_
        rintro e w2 ⟨ht, HFR⟩
        have HG2 : Hid (w.grownBy w2 (some b)) := fr_both HG1.out HFR
        have HO2 : Hid (PartsAt 65 67 w.heap.size w2 (.slice va acc.length vc) acc us) := HO1.out.kept HFR (fun g hg => by cases hg; omega)
        have hw1 : w.heap.size ≤ w1.heap.size := HG1.out.size
        clear HFR HG1 HO1 HE1 HQ1
        obtain ⟨F, HF⟩ : ∃ F, Hid (partF s.data.toList q = F) := ⟨_, (rfl : _ = _)⟩
        rw [HF.out] at ht
        cases F with
        | error er =>
          obtain ⟨ec, x⟩ := er
          have HRS : Hid (RES = .error (ec, x)) := by show _ = _; rw [HX.out]; exact listF_bad _ _ _ _ _ HB.out _ _ HF.out
          obtain ⟨k0, nm, pa, pn, pc, pl, b1, t1, i1, b2, t2, i2, rfl⟩ := ht
          unfold errV
          go_wp2
          go_ret2
          rw [HRS.out]
          exact ⟨rfl, fr_both HG2.out (fr_alloc _ _ _)⟩
        | ok tq =>
          obtain ⟨t1, q1⟩ := tq
          obtain ⟨pv, rfl, hpo, hrd⟩ := ht
          obtain ⟨pa, pc, hpv⟩ := own_form hpo
          subst hpv
          have HQ2 := hide hrd
          have hq1 := partF_le s q hq t1 q1 HF.out
          have HPO : Hid (w2.ownsRow w.heap.size 65 3 (.slice pa t1.atom.args.length pc) t1.atom.args.length (termsV t1.atom.args)) := own_lower hpo hw1
          clear hrd hpo
          obtain ⟨n1, HN1⟩ : ∃ n1, Hid (str t1.atom.name = n1) := ⟨_, (rfl : _ = _)⟩
          obtain ⟨l1, HL1⟩ : ∃ l1, Hid (str t1.left.text = l1) := ⟨_, (rfl : _ = _)⟩
          obtain ⟨r1, HR1⟩ : ∃ r1, Hid (str t1.right.text = r1) := ⟨_, (rfl : _ = _)⟩
          obtain ⟨na, HNA⟩ : ∃ na, Hid (t1.atom.args.length = na) := ⟨_, (rfl : _ = _)⟩
          rw [HNA.out] at HPO ⊢
          have HTV : Hid (partV t1 (.slice pa na pc) = [.int .i64 (t1.kind : Nat), .string n1, .slice pa na pc, .int .i64 (t1.atom.place : Nat), .bool t1.left.isVar, .string l1, .int .i64 (t1.left.place : Nat), .bool t1.right.isVar, .string r1, .int .i64 (t1.right.place : Nat)]) := by show _ = _; unfold partV; rw [HN1.out, HL1.out, HR1.out]
          rw [show (partV t1 (.slice pa na pc)).toArray = #[.int .i64 (t1.kind : Nat), .string n1, .slice pa na pc, .int .i64 (t1.atom.place : Nat), .bool t1.left.isVar, .string l1, .int .i64 (t1.left.place : Nat), .bool t1.right.isVar, .string r1, .int .i64 (t1.right.place : Nat)] from by rw [HTV.out]]
          have hwl : w.heap.size ≤ w2.heap.size := HG2.out.size
          go_wp2_with (at_builtin; refine wpList_append_own _ rfl _ _ 41 rfl w.heap.size 67 i0 (.agg partZ.toArray) 10 120 Tryz.underlying41 hi0 hz0 hz1 hz2 rfl (by decide) _ _ _ rfl ((HO2.out.own.alloc _).alloc _) ⟨w2.heap.size + 1, 0, none⟩ 1 1 [.int .i64 (t1.kind : Nat), .string n1, .slice pa na pc, .int .i64 (t1.atom.place : Nat), .bool t1.left.isVar, .string l1, .int .i64 (t1.left.place : Nat), .bool t1.right.isVar, .string r1, .int .i64 (t1.right.place : Nat)] rfl rfl ?c1 ?c2 ?c3 ?c4 ?c5 ?_)
          case c1 =>
            intro j' u hj'
            have e : (⟨w2.heap.size + 1, 0, none⟩ : Addr).add j' = ⟨w2.heap.size + 1, j', none⟩ := by unfold Addr.add; split <;> simp_all
            rw [e]
            rw [World.cell?_alloc_at _ _ _ _ (by simp)]
            simpa using hj'
          case c2 => intro u hu; simp at hu; rcases hu with rfl | rfl | rfl | rfl | rfl | rfl | rfl | rfl | rfl | rfl <;> rfl
          case c3 => unfold maxLen; omega
          case c4 => omega
          case c5 => simp; omega
          intro v4 w4 hown4 hg4 _
          obtain ⟨a4, p4, rfl⟩ := own_form hown4
          have HQ4 : Hid (Rd w4 b s q1) := HQ2.out.far (app_block hg4 (by omega) (own_ne HO2.out.own (by omega)))
          have HG4 : Hid (w.grownBy w4 (some b)) := app_grown HG2.out HO2.out.own (Nat.le_refl _) hg4
          have HO4 : Hid (PartsAt 65 67 w.heap.size w4 (.slice a4 (acc.length + 1) p4) (acc ++ [t1]) (us ++ [.slice pa na pc])) := by
            refine HO2.out.push (by decide) (by rw [HNA.out]; exact HPO.out) hg4 ?_
            rw [HTV.out]; exact hown4
          clear hown4 hg4 HQ2 HG2 HO2
          go_wp2_with fail
          refine (pcomma_any b s q1 _ HQ4.out hq1 hs).mono ?_
          rintro e w6 ⟨rfl, hrd, HFR⟩
          have HG6 : Hid (w.grownBy w6 (some b)) := fr_both HG4.out HFR.g
          have HO6 : Hid (PartsAt 65 67 w.heap.size w6 (.slice a4 (acc.length + 1) p4) (acc ++ [t1]) (us ++ [.slice pa na pc])) := HO4.out.kept HFR.g (fun g hg => by cases hg; omega)
          obtain ⟨S, HS⟩ : ∃ S, Hid (signF s.data.toList [44] q1 = S) := ⟨_, (rfl : _ = _)⟩
          rw [HS.out] at hrd ⊢
          have HQ6 := hide hrd
          clear hrd HFR HG4 HO4 HQ4
          cases S with
          | none =>
            have HRS : Hid (RES = .ok (acc ++ [t1], q1)) := by show _ = _; rw [HX.out]; exact listF_last _ _ _ _ _ HB.out _ _ _ HF.out HS.out
            go_wp2
            go_ret2
            rw [HRS.out]
            exact ⟨⟨.slice a4 (acc.length + 1) p4, us ++ [.slice pa na pc], rfl, HO6.out, HQ6.out⟩, HG6.out⟩
          | some q2 =>
            have HRS : Hid (RES = preL (acc ++ [t1]) (listF (atPartB s.data.toList) (partF s.data.toList) (signF s.data.toList [44]) (most - (acc ++ [t1]).length) q2)) := by
              show _ = _
              rw [HX.out, listF_more _ _ _ _ _ HB.out _ _ _ _ HF.out HS.out, HRE.out, List.length_append]; rfl
            have hq2 := signF_le s [44] q1 q2 HS.out (by simp)
            go_wp2_with fail
            go_roundw
            case rel => exact ⟨acc ++ [t1], us ++ [.slice pa na pc], q2, by simp; omega, hq2, HQ6, HO6, HG6, HRS⟩
            case measure => simp [lenV]; omega
set_option maxRecDepth 100000 in
theorem pparts_any (b : Nat) (s : ByteArray) (p : Nat) (L T M : Addr) (w : World) (h : Rd w b s p) (hE : Errs w L T M) (hb : gTop ≤ b) (hp : p ≤ s.size) (hs : s.size ≤ 1073741824) :
    Calls Tryz.prog 41 #[.pointer (some ⟨b, 0, none⟩)] w fun en w' => ListP L T M w.heap.size b s (partsF s.data.toList p) en w' ∧ w.grownBy w' (some b) := by
  have HL := hide (plistP_any b s p 12 L T M w h hE hb hp hs (by omega))
  clear h hE
  obtain ⟨F, HF⟩ : ∃ F, Hid (partsF s.data.toList p = F) := ⟨_, (rfl : _ = _)⟩
  rw [HF.out]
  have HF' : Hid (listF (atPartB s.data.toList) (partF s.data.toList) (signF s.data.toList [44]) 12 p = F) := HF.out
  rw [HF'.out] at HL
  go_enter Tryz.func41, Tryz.ntmps41
  go_wp2_with fail
  refine HL.out.mono ?_
  rintro e w1 ⟨hl, HFR⟩
  have HG := hide HFR
  clear HFR HL
  cases F with
  | error er =>
    obtain ⟨ec, x⟩ := er
    have hl' : e = .returned (.tuple #[.slice none 0 0, errV L T M ec x]) := hl
    subst hl'
    unfold errV
    go_wp2
    go_ret2
    exact ⟨rfl, HG.out⟩
  | ok v =>
    obtain ⟨ps, q⟩ := v
    obtain ⟨v, vs, rfl, hpa, hrd⟩ := hl
    have HP := hide hpa
    have HR := hide hrd
    clear hpa hrd
    go_wp2
    go_ret2
    exact ⟨⟨v, vs, rfl, HP.out, HR.out⟩, HG.out⟩
end Go.Proofs.YtdfbjnachakkhaaGreatDoor
