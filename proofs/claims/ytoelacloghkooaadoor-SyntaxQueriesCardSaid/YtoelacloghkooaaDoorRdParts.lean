/-
  The document's Reader: parts.
-/
import Derived.Test.YtoelacloghkooaaDoorShapes
namespace Go.Proofs.YtoelacloghkooaaDoor
open Go.ChangeShapes Go.WideShapes Go.ChangeAt Go.RowKit
set_option linter.unusedVariables false
theorem infoPart : (Tryd.prog.info? 78).map (fun i => (i.zero, i.size, i.bytes)) = some (some (.agg partZ.toArray), 10, 120) := by kernel_rfl
theorem pbodyS_step (s : ByteArray) (n : Nat) (acc : List PPart) {st : RSt} (h : st.e = 0) : pbodyS s (n + 1) acc st =
    if isS [44] (partS s (if 12 ≤ acc.length then manyS true st else st)).2 then pbodyS s n (acc ++ [(partS s (if 12 ≤ acc.length then manyS true st else st)).1]) (nextS s (partS s (if 12 ≤ acc.length then manyS true st else st)).2)
    else (acc ++ [(partS s (if 12 ≤ acc.length then manyS true st else st)).1], (partS s (if 12 ≤ acc.length then manyS true st else st)).2) := by
  rw [pbodyS, if_pos h]
/-- behind too many parts no other one is read -/
theorem manyP_stops (s : ByteArray) (st : RSt) (h : Fit s st) (sg : List UInt8) : isS sg (partS s (manyS true st)).2 = false := by
  by_cases he : st.e = 0
  · unfold manyS
    split
    · have hd : (failS 7 st.a st).e ≠ 0 := by unfold failS; rw [if_pos he]; simp
      apply isS_dead
      rw [(partS_dead s hd).1]; exact hd
    · rename_i hn
      simp only [Bool.or_eq_true, decide_eq_true_eq, Bool.true_and, not_or] at hn
      have hq : quotS s st = st := by unfold quotS; rw [if_neg hn.2]
      have hk : termKind st.kd = false := by
        have := h.2.2 he
        simp [termKind, hn.1.1.1.1, hn.1.1.1.2, hn.1.1.2, this]
      have ht := termS_no hq hk
      have hd : (failS 2 st.a st).e ≠ 0 := by unfold failS; rw [if_pos he]; simp
      apply isS_dead
      rw [partS_end s st hn.1.2 (fun j _ => by rw [ht]; exact isS_dead hd _), ht, if_neg hn.1.1.1.1]
      simp only [failS_dead hd]
      rw [if_neg hd]; exact hd
  · rw [manyS_dead he]; apply isS_dead; rw [(partS_dead s he).1]; exact he
theorem pbodyS_fit (s : ByteArray) : ∀ (n : Nat) (acc : List PPart) (st : RSt), Fit s st → Fit s (pbodyS s n acc st).2 := by
  intro n
  induction n with
  | zero => intro acc st h; exact h
  | succ n ih =>
    intro acc st h
    by_cases he : st.e = 0
    · rw [pbodyS_step s n acc he]
      have h1 : Fit s (if 12 ≤ acc.length then manyS true st else st) := by
        split
        · exact manyS_fit s _ h
        · exact h
      have h2 := partS_fit s _ h1
      generalize (if 12 ≤ acc.length then manyS true st else st) = q at h2 ⊢
      split
      · exact ih _ _ (nextS_fit s _ h2.1)
      · exact h2
    · rw [pbodyS_dead s _ _ he]; exact h
theorem partsS_fit (s : ByteArray) (st : RSt) (h : Fit s st) : Fit s (partsS s st).2 := mustS_fit s _ _ (pbodyS_fit s _ _ _ h)
def lenOf (v : Value) : Nat := match v with
  | .slice _ n _ => n
  | _ => 0
set_option maxRecDepth 100000 in
set_option maxHeartbeats 4000000 in
theorem rparts_any (b : Nat) (s : ByteArray) (st : RSt) (w : World) (h : RP w b s st) (hf : Fit s st) (hs : s.size ≤ 1073741824) :
    Calls Tryd.prog 19 #[.pointer (some ⟨b, 0, none⟩)] w fun en w' => (∃ v vs, en = .returned v ∧ PartsAt 76 78 w.heap.size w' v (partsS s st).1 vs) ∧ RP w' b s (partsS s st).2 ∧ w.grownBy w' (some b) := by
  obtain ⟨i0, hi0, hz0, hz1, hz2⟩ := info_parts infoPart
  have HS : Hid (RP w b s st) := h
  have HF : Hid (Fit s st) := hf
  have hbw : b < w.heap.size := RS.lt h
  clear h hf
  go_enter Tryd.func19, Tryd.ntmps19
  go_wp2_with fail
  go_loopw [3, 4, 5] (fun l m t wr => ∃ (mb : Bool) (ps : List PPart) (q : RSt) (vs : List Value), m = .bool mb ∧ ps.length ≤ 13 ∧ Hid (mb = true → q.e = 0 → ps.length ≤ 12) ∧ Hid (RP wr b s q) ∧ Hid (Fit s q) ∧ Hid (PartsAt 76 78 w.heap.size wr l ps vs) ∧ Hid (w.grownBy wr (some b)) ∧ Hid (pbodyS s 14 [] st = if mb then pbodyS s (14 - ps.length) ps q else (ps, q))) (fun l _ _ wr => 14 - lenOf l)
  case atStart => exact ⟨true, [], st, [], rfl, by simp, fun _ _ => by simp, HS, HF, PartsAt.nil _ _ _ _, fr_refl _ _, (rfl : _ = _)⟩
  case round =>
    obtain ⟨mb, ps, q, vs, rfl, hal, HLE, HR, HFQ, HO, HG, HARG⟩ := hrel
    obtain ⟨va, vc, hv⟩ := own_form HO.out.own
    subst hv
    clear HS HF
    obtain ⟨c0, c1, c2, c3, c4, c5, c6, f1, f2, f3, f4, f5, f6⟩ := HR.out
    have hex : (mb = true ∧ ((q.e : Int) == 0) = true ∧ ps.length ≤ 12 ∧ Hid (q.e = 0)) ∨ ((mb = false ∨ (mb = true ∧ ((q.e : Int) == 0) = false)) ∧ Hid (pbodyS s 14 [] st = (ps, q))) := by
      cases mb with
      | false => exact Or.inr ⟨Or.inl rfl, HARG.out⟩
      | true =>
        by_cases he : q.e = 0
        · exact Or.inl ⟨rfl, by simp [he], HLE.out rfl he, he⟩
        · refine Or.inr ⟨Or.inr ⟨rfl, by rw [beq_eq_false_iff_ne]; omega⟩, ?_⟩
          have := HARG.out
          rw [if_pos rfl, pbodyS_dead s _ _ he] at this
          exact this
    rcases hex with ⟨rfl, he, hl8, HE0⟩ | ⟨hex, HEND⟩
    · have HSTEP : Hid (pbodyS s 14 [] st = pbodyS s (13 - ps.length + 1) ps q) := by
        have := HARG.out
        rw [if_pos rfl] at this
        show _ = _
        rw [this, show 14 - ps.length = 13 - ps.length + 1 from by omega]
      clear HARG HLE
      have hT := pbodyS_step s (13 - ps.length) ps HE0.out
      have HFM : Hid (Fit s (if 12 ≤ ps.length then manyS true q else q)) := by
        show Fit _ _
        split
        · exact manyS_fit s _ HFQ.out
        · exact HFQ.out
      have HST8 : Hid (12 ≤ ps.length → isS [44] (partS s (if 12 ≤ ps.length then manyS true q else q)).2 = false) := by
        intro h8; rw [if_pos h8]; exact manyP_stops s q HFQ.out _
      have HSTEP2 := hide (HSTEP.out.trans hT)
      clear hT HSTEP
      go_upto_if 16 with fail
      go_cut [] (fun wc => Hid (RP wc b s (if 12 ≤ ps.length then manyS true q else q)) ∧ Hid (RFx wr wc b))
      case first =>
        by_cases h8 : 12 ≤ ps.length
        · go_wp2_with fail
          refine (rmany_any b s q true _ HR.out).mono ?_
          rintro en w2 ⟨rfl, HN, HFR⟩
          have HN2 : Hid (RP w2 b s (if 12 ≤ ps.length then manyS true q else q)) := by rw [if_pos h8]; exact HN
          have HF2 : Hid (RFx wr w2 b) := HFR
          clear HN HFR
          go_wp2_with fail
          go_meet
          case rel => exact ⟨HN2, HF2⟩
        · have h8' : ps.length < 12 := by omega
          have HN2 : Hid (RP wr b s (if 12 ≤ ps.length then manyS true q else q)) := by rw [if_neg h8]; exact HR.out
          clear h8
          go_wp2_with fail
          go_meet
          case rel => exact ⟨HN2, RFx.refl _ _⟩
      case rest =>
        obtain ⟨HRc, HFc⟩ := hcut
        obtain ⟨q1, HQ1⟩ : ∃ q1, Hid ((if 12 ≤ ps.length then manyS true q else q) = q1) := ⟨_, (rfl : _ = _)⟩
        rw [HQ1.out] at HRc HFM HST8 HSTEP2
        have HOc : Hid (PartsAt 76 78 w.heap.size wc (.slice va ps.length vc) ps vs) := HO.out.kept HFc.out.g (fun g hg => by cases hg; omega)
        have HGc : Hid (w.grownBy wc (some b)) := fr_both HG.out HFc.out.g
        clear HO HG HR HFQ HFc c0 c1 c2 c3 c4 c5 c6 f1 f2 f3 f4 f5 f6
        go_wp2_with fail
        refine (rpart_any b s q1 _ HRc.out HFM.out hs).mono ?_
        rintro en w2 ⟨⟨pv, rfl, hpo⟩, HN, HFR⟩
        have HO2 : Hid (PartsAt 76 78 w.heap.size w2 (.slice va ps.length vc) ps vs) := HOc.out.kept HFR (fun g hg => by cases hg; omega)
        have HG2 : Hid (w.grownBy w2 (some b)) := fr_both HGc.out HFR
        have HFT : Hid (Fit s (partS s q1).2) := partS_fit s q1 HFM.out
        have hwc : w.heap.size ≤ wc.heap.size := HGc.out.size
        obtain ⟨tq, HTQ⟩ : ∃ tq, Hid (partS s q1 = tq) := ⟨_, (rfl : _ = _)⟩
        rw [HTQ.out] at HN HFT HST8 HSTEP2 hpo ⊢
        obtain ⟨p1, q2⟩ := tq
        have HN2 : Hid (RP w2 b s q2) := HN
        have HPO : Hid (w2.ownsRow w.heap.size 76 3 pv p1.atom.args.length (termsV p1.atom.args)) := own_lower hpo hwc
        clear HN HFR HOc HGc HRc HFM hpo
        simp only [] at HST8 HSTEP2 HFT
        obtain ⟨pa, pc, hpv⟩ := own_form HPO.out
        subst hpv
        obtain ⟨n1, HN1⟩ : ∃ n1, Hid (str p1.atom.name = n1) := ⟨_, (rfl : _ = _)⟩
        obtain ⟨l1, HL1⟩ : ∃ l1, Hid (str p1.left.text = l1) := ⟨_, (rfl : _ = _)⟩
        obtain ⟨r1, HR1⟩ : ∃ r1, Hid (str p1.right.text = r1) := ⟨_, (rfl : _ = _)⟩
        obtain ⟨na, HNA⟩ : ∃ na, Hid (p1.atom.args.length = na) := ⟨_, (rfl : _ = _)⟩
        have HPV : Hid (partV p1 (.slice pa na pc) = [.int .i64 (p1.kind : Nat), .string n1, .slice pa na pc, .int .i64 (p1.atom.place : Nat), .bool p1.left.isVar, .string l1, .int .i64 (p1.left.place : Nat), .bool p1.right.isVar, .string r1, .int .i64 (p1.right.place : Nat)]) := by show _ = _; unfold partV; rw [HN1.out, HL1.out, HR1.out]
        rw [HNA.out] at HPO ⊢
        rw [show (partV (p1, q2).1 (.slice pa na pc)).toArray = #[.int .i64 (p1.kind : Nat), .string n1, .slice pa na pc, .int .i64 (p1.atom.place : Nat), .bool p1.left.isVar, .string l1, .int .i64 (p1.left.place : Nat), .bool p1.right.isVar, .string r1, .int .i64 (p1.right.place : Nat)] from by show (partV p1 _).toArray = _; rw [HPV.out]]
        have hwl : w.heap.size ≤ w2.heap.size := HG2.out.size
        go_wp2_with (at_builtin; refine wpList_append_own _ rfl _ _ 44 rfl w.heap.size 78 i0 (.agg partZ.toArray) 10 120 Tryd.underlying44 hi0 hz0 hz1 hz2 rfl (by decide) _ _ _ rfl ((HO2.out.own.alloc _).alloc _) ⟨w2.heap.size + 1, 0, none⟩ 1 1 [.int .i64 (p1.kind : Nat), .string n1, .slice pa na pc, .int .i64 (p1.atom.place : Nat), .bool p1.left.isVar, .string l1, .int .i64 (p1.left.place : Nat), .bool p1.right.isVar, .string r1, .int .i64 (p1.right.place : Nat)] rfl rfl ?c1 ?c2 ?c3 ?c4 ?c5 ?_)
        case c1 =>
          intro j' u hj'
          have e : (⟨w2.heap.size + 1, 0, none⟩ : Addr).add j' = ⟨w2.heap.size + 1, j', none⟩ := by unfold Addr.add; split <;> simp_all
          rw [e]
          rw [World.cell?_alloc_at _ _ _ _ (by simp)]
          simpa using hj'
        case c2 => intro u hu; simp at hu; rcases hu with rfl | rfl | rfl | rfl | rfl | rfl | rfl | rfl | rfl | rfl <;> rfl
        case c3 => unfold maxLen; omega
        case c4 => omega
        case c5 => simp; omega
        intro v4 w4 hown4 hg4 _
        obtain ⟨a4, p4, rfl⟩ := own_form hown4
        have HN4 : Hid (RP w4 b s q2) := RS.far HN2.out (app_block hg4 (by omega) (own_ne HO2.out.own (by omega)))
        have HG4 : Hid (w.grownBy w4 (some b)) := app_grown HG2.out HO2.out.own (Nat.le_refl _) hg4
        have HO4 : Hid (PartsAt 76 78 w.heap.size w4 (.slice a4 (ps.length + 1) p4) (ps ++ [p1]) (vs ++ [.slice pa na pc])) := by
          refine HO2.out.push (by decide) (by rw [HNA.out]; exact HPO.out) hg4 ?_
          rw [HPV.out]; exact hown4
        clear hown4 hg4 HN2 HG2 HO2 HPO
        go_wp2_with fail
        refine (rgot_any b s (str [44]) q2 _ HN4.out HFT.out.1 hs).mono ?_
        rintro en w6 ⟨rfl, HN, HFR⟩
        rw [data_str] at HN ⊢
        have HG6 : Hid (w.grownBy w6 (some b)) := fr_both HG4.out HFR.g
        have HO6 : Hid (PartsAt 76 78 w.heap.size w6 (.slice a4 (ps.length + 1) p4) (ps ++ [p1]) (vs ++ [.slice pa na pc])) := HO4.out.kept HFR.g (fun g hg => by cases hg; omega)
        have HN6 : Hid (RP w6 b s (gotS s [44] q2)) := HN
        have HF6 : Hid (Fit s (gotS s [44] q2)) := gotS_fit s _ q2 HFT.out
        have HL6 : Hid (isS [44] q2 = true → (gotS s [44] q2).e = 0 → (ps ++ [p1]).length ≤ 12) := by
          intro h1 _
          rw [List.length_append]
          by_cases h8 : 12 ≤ ps.length
          · rw [HST8.out h8] at h1; cases h1
          · simp; omega
        have HE6 : Hid (pbodyS s 14 [] st = if isS [44] q2 then pbodyS s (14 - (ps ++ [p1]).length) (ps ++ [p1]) (gotS s [44] q2) else (ps ++ [p1], gotS s [44] q2)) := by
          show _ = _
          rw [HSTEP2.out]
          unfold gotS
          rw [List.length_append, show 14 - (ps.length + [p1].length) = 13 - ps.length from by simp]
          cases isS [44] q2 <;> rfl
        clear HN HFR HG4 HO4 HN4
        go_wp2_with fail
        go_roundw
        case rel => exact ⟨isS [44] q2, ps ++ [p1], gotS s [44] q2, vs ++ [.slice pa na pc], rfl, by simp; omega, HL6, HN6, HF6, HO6, HG6, HE6⟩
        case measure => simp [lenOf]; omega
    · have HA' : Hid (partsS s st = (ps, mustS s [46] q)) := by show _ = _; unfold partsS; rw [HEND.out]
      clear HARG HLE
      rcases hex with rfl | ⟨rfl, he⟩
      all_goals
        go_wp2_with fail
        refine (rmust_any b s (str [46]) q _ HR.out HFQ.out.1 hs).mono ?_
        rintro en w5 ⟨rfl, HN, HFR⟩
        rw [data_str] at HN
        have HG5 : Hid (w.grownBy w5 (some b)) := fr_both HG.out HFR.g
        have HO5 : Hid (PartsAt 76 78 w.heap.size w5 (.slice va ps.length vc) ps vs) := HO.out.kept HFR.g (fun g hg => by cases hg; omega)
        have HN5 : Hid (RP w5 b s (mustS s [46] q)) := HN
        clear HN HFR c0 c1 c2 c3 c4 c5 c6 f1 f2 f3 f4 f5 f6
        go_wp2
        go_ret
        rw [HA'.out]
        exact ⟨⟨_, vs, rfl, HO5.out⟩, HN5.out, HG5.out⟩
end Go.Proofs.YtoelacloghkooaaDoor
