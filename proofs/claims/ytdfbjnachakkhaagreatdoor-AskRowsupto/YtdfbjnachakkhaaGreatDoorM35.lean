import Derived.Test.YtdfbjnachakkhaaGreatDoorM34
import Derived.Test.YtdfbjnachakkhaaGreatDoorM04
import Derived.Lib.SliceRun
import Derived.Laws.AppendOwnNone
namespace Go.Proofs.YtdfbjnachakkhaaGreatDoor
open Go.ChangeShapes Go.WideShapes Go.ChangeAt Go.RowKit
set_option linter.unusedVariables false
theorem infoTermP : (Tryz.prog.info? 65).map (fun i => (i.zero, i.size, i.bytes)) = some (some (.agg #[.bool false, .string { data := #[] }, .int .i64 0]), 3, 32) := by kernel_rfl
/-- what has been read, ahead of the rest -/
def preL {α : Type} (acc : List α) (r : Except PErr (List α × Nat)) : Except PErr (List α × Nat) := match r with
  | .error e => .error e
  | .ok (xs, q) => .ok (acc ++ xs, q)
theorem preL_nil {α : Type} (r : Except PErr (List α × Nat)) : preL [] r = r := by cases r with
  | error e => rfl
  | ok v => obtain ⟨xs, q⟩ := v; rfl
theorem listF_no {α : Type} (bg : Nat → Bool) (one : Nat → Except PErr (α × Nat)) (go : Nat → Option Nat) (n p : Nat) (h : bg p = false) (acc : List α) : preL acc (listF bg one go n p) = .error (2, p) := by
  cases n with
  | zero => unfold listF; rw [h]; rfl
  | succ n => unfold listF; rw [h]; rfl
theorem listF_many {α : Type} (bg : Nat → Bool) (one : Nat → Except PErr (α × Nat)) (go : Nat → Option Nat) (p : Nat) (h : bg p = true) (acc : List α) : preL acc (listF bg one go 0 p) = .error (7, p) := by
  unfold listF; rw [h]; rfl
theorem listF_bad {α : Type} (bg : Nat → Bool) (one : Nat → Except PErr (α × Nat)) (go : Nat → Option Nat) (n p : Nat) (h : bg p = true) (acc : List α) (e : PErr) (h1 : one p = .error e) : preL acc (listF bg one go (n + 1) p) = .error e := by
  unfold listF; rw [h, h1]; rfl
theorem listF_last {α : Type} (bg : Nat → Bool) (one : Nat → Except PErr (α × Nat)) (go : Nat → Option Nat) (n p : Nat) (h : bg p = true) (acc : List α) (x : α) (q : Nat) (h1 : one p = .ok (x, q)) (h2 : go q = none) : preL acc (listF bg one go (n + 1) p) = .ok (acc ++ [x], q) := by
  unfold listF; rw [h, h1]; simp only [h2]; rfl
theorem listF_more {α : Type} (bg : Nat → Bool) (one : Nat → Except PErr (α × Nat)) (go : Nat → Option Nat) (n p : Nat) (h : bg p = true) (acc : List α) (x : α) (q r : Nat) (h1 : one p = .ok (x, q)) (h2 : go q = some r) : preL acc (listF bg one go (n + 1) p) = preL (acc ++ [x]) (listF bg one go n r) := by
  rw [listF, if_pos h, h1]
  simp only [h2]
  cases listF bg one go n r with
  | error e => rfl
  | ok v => obtain ⟨xs, r2⟩ := v; simp [preL]
theorem strGo_ok_le (s : ByteArray) (p : Nat) (hp : p < s.size) (o : List UInt8) (q : Nat) (h : strGo (s.data.toList.drop (p + 1)) (p + 1) [] = .ok (o, q)) : q ≤ s.size := by
  have := (strGo_le _ _ _ _ (Nat.le_refl _)).2 o q h
  have hl : (s.data.toList.drop (p + 1)).length = s.size - (p + 1) := by simp
  omega
theorem termF_le (s : ByteArray) (p : Nat) (hp : p ≤ s.size) (t : PTerm) (q : Nat) (h : termF s.data.toList p = .ok (t, q)) : q ≤ s.size := by
  unfold termF at h
  split at h
  · rename_i hst
    rw [starts_one] at hst
    have hlt := (of_decide_eq_true hst).1
    cases hg : strGo (s.data.toList.drop (p + 1)) (p + 1) [] with
    | error e => rw [hg] at h; cases h
    | ok oq =>
      obtain ⟨o, q2⟩ := oq
      rw [hg] at h
      simp only [] at h
      split at h
      · cases h
      · cases h; exact skip_le s _ (strGo_ok_le s p hlt o q2 hg)
  · split at h
    · cases h; exact skip_le s _ (word_le s p hp)
    · cases h
theorem signF_le (s : ByteArray) (sg : List UInt8) (p q : Nat) (h : signF s.data.toList sg p = some q) (h0 : 0 < sg.length) : q ≤ s.size := by
  have := sign_le _ _ _ _ h h0
  simpa using this
def lenV (v : Value) : Nat := match v with
  | .slice _ n _ => n
  | _ => 0
def ListT (L T M : Addr) (base b : Nat) (s : ByteArray) (r : Except PErr (List PTerm × Nat)) (en : Ending) (w' : World) : Prop := match r with
  | .error (e, x) => en = .returned (.tuple #[.slice none 0 0, errV L T M e x])
  | .ok (ts, q) => ∃ v, en = .returned (.tuple #[v, .nilIface]) ∧ w'.ownsRow base 65 3 v ts.length (termsV ts) ∧ Rd w' b s (q : Nat)
theorem Rd.other {w : World} {b : Nat} {s : ByteArray} {i : Int} (h : Rd w b s i) {w' : World} {row : Option Nat} (hg : w.grownBy w' row) (hne : some b ≠ row) : Rd w' b s i := h.far (hg.block b h.lt hne)
set_option maxRecDepth 100000 in
set_option maxHeartbeats 4000000 in
theorem plistT_any (b : Nat) (s : ByteArray) (p most : Nat) (L T M : Addr) (w : World) (h : Rd w b s p) (hE : Errs w L T M) (hb : gTop ≤ b) (hp : p ≤ s.size) (hs : s.size ≤ 1073741824) (hm : most ≤ 1000) :
    Calls Tryz.prog 166 #[.pointer (some ⟨b, 0, none⟩), .int .i64 (most : Nat), .func (.func 118) #[] #[], .func (.func 167) #[] #[], .func (.func 82) #[] #[]] w fun en w' =>
      ListT L T M w.heap.size b s (listF (atTermB s.data.toList) (termF s.data.toList) (signF s.data.toList [44]) most p) en w' ∧ w.grownBy w' (some b) := by
  have E1 : ∀ args w, (callFunc 118 args).run Tryz.prog w = .ok (.enter 118 args) w := enters_of Tryz.func118 (by kernel_rfl) rfl
  have E2 : ∀ args w, (callFunc 167 args).run Tryz.prog w = .ok (.enter 167 args) w := enters_of Tryz.func167 (by kernel_rfl) rfl
  have E3 : ∀ args w, (callFunc 82 args).run Tryz.prog w = .ok (.enter 82 args) w := enters_of Tryz.func82 (by kernel_rfl) rfl
  obtain ⟨i0, hi0, hz0, hz1, hz2⟩ := info_parts infoTermP
  have hbw := h.lt
  have HR := hide h
  have HE := hide hE
  obtain ⟨RES, HRES⟩ : ∃ RES, Hid (listF (atTermB s.data.toList) (termF s.data.toList) (signF s.data.toList [44]) most p = RES) := ⟨_, (rfl : _ = _)⟩
  rw [HRES.out]
  clear h hE
  go_enter Tryz.func166, Tryz.ntmps166
  go_wp2_with fail
  go_loopw [12, 13, 14] (fun l t e wr => ∃ (acc : List PTerm) (q : Nat), acc.length ≤ most ∧ q ≤ s.size ∧ Hid (Rd wr b s (q : Nat)) ∧ Hid (wr.ownsRow w.heap.size 65 3 l acc.length (termsV acc)) ∧ Hid (w.grownBy wr (some b)) ∧ Hid (RES = preL acc (listF (atTermB s.data.toList) (termF s.data.toList) (signF s.data.toList [44]) (most - acc.length) q))) (fun l _ _ _ => most + 1 - lenV l)
  case atStart => exact ⟨[], p, by simp, hp, HR, World.ownsRow_nil _ _ _ _, fr_refl _ _, by show _ = _; rw [preL_nil]; exact HRES.out.symm⟩
  case round =>
    obtain ⟨acc, q, hal, hq, HQ, HO, HG, HX⟩ := hrel
    obtain ⟨va, vc, rfl⟩ := own_form HO.out
    have HEr : Hid (Errs wr L T M) := HE.out.grown HG.out hb
    go_wp2_with fail
    refine (patTerm_any b s q _ HQ.out hq hs).mono ?_
    rintro e w1 ⟨rfl, n1, rfl⟩
    have HQ1 : Hid (Rd (wr.drewN n1) b s q) := HQ.out.drewN _
    have HE1 : Hid (Errs (wr.drewN n1) L T M) := HEr.out.drewN _
    have HG1 : Hid (w.grownBy (wr.drewN n1) (some b)) := fr_both HG.out (fr_draws _ _ _)
    have HO1 : Hid ((wr.drewN n1).ownsRow w.heap.size 65 3 (.slice va acc.length vc) acc.length (termsV acc)) := own_far HO.out (fr_draws _ _ none) (fun _ _ => by simp)
    generalize wr.drewN n1 = w1 at *
    clear HQ HEr HG HO
    have g1 := HE1.out.gt
    have g2 := HE1.out.gm
    obtain ⟨B, HB⟩ : ∃ B, Hid (atTermB s.data.toList q = B) := ⟨_, (rfl : _ = _)⟩
    rw [HB.out]
    cases B with
    | false =>
      have HRS : Hid (RES = .error (2, q)) := by show _ = _; rw [HX.out]; exact listF_no _ _ _ _ _ HB.out _
      clear g2
      have HFL : Hid (∀ wx : World, (∃ n, wx = w1.drewN n) → Calls Tryz.prog 44 #[.pointer (some ⟨b, 0, none⟩), .iface 338 (.pointer (some T))] wx fun e w' => e = .returned (.iface 115 (.agg #[.iface 338 (.pointer (some T)), .int .i64 (q : Nat)])) ∧ Hid (w.grownBy w' (some b)) ∧ w'.cell? ⟨1, 0, none⟩ = some (.iface 338 (.pointer (some T)))) := by
        rintro wx ⟨n, rfl⟩
        refine (pfail_any b s q T _ (HQ1.out.drewN n)).mono ?_
        rintro e w2 ⟨rfl, rfl⟩
        exact ⟨rfl, fr_both HG1.out (fr_draws _ _ _), g1⟩
      go_wp2_with fail
      go_region_held3 (fun w' => w'.cell? ⟨1, 0, none⟩ = some (.iface 338 (.pointer (some T)))) (go_keep) (first | (go_at_call 44; refine (HFL.out _ ⟨_, rfl⟩).mono ?_; rintro e w9 ⟨rfl, HG9, k9⟩))
      all_goals go_wp2
      all_goals go_ret2
      all_goals rw [HRS.out]
      all_goals exact ⟨rfl, HG9.out⟩
    | true =>
      by_cases hlm : acc.length = most
      · have HRS : Hid (RES = .error (7, q)) := by show _ = _; rw [HX.out, hlm, Nat.sub_self]; exact listF_many _ _ _ _ HB.out _
        have hbq : ((acc.length : Int) == (most : Int)) = true := by simp [hlm]
        clear g1 hlm
        have HFL : Hid (∀ wx : World, (∃ n, wx = w1.drewN n) → Calls Tryz.prog 44 #[.pointer (some ⟨b, 0, none⟩), .iface 338 (.pointer (some M))] wx fun e w' => e = .returned (.iface 115 (.agg #[.iface 338 (.pointer (some M)), .int .i64 (q : Nat)])) ∧ Hid (w.grownBy w' (some b)) ∧ w'.cell? ⟨2, 0, none⟩ = some (.iface 338 (.pointer (some M)))) := by
          rintro wx ⟨n, rfl⟩
          refine (pfail_any b s q M _ (HQ1.out.drewN n)).mono ?_
          rintro e w2 ⟨rfl, rfl⟩
          exact ⟨rfl, fr_both HG1.out (fr_draws _ _ _), g2⟩
        go_wp2_with fail
        go_region_held3 (fun w' => w'.cell? ⟨2, 0, none⟩ = some (.iface 338 (.pointer (some M)))) (go_keep) (first | (go_at_call 44; refine (HFL.out _ ⟨_, rfl⟩).mono ?_; rintro e w9 ⟨rfl, HG9, k9⟩))
        all_goals go_wp2
        all_goals go_ret2
        all_goals rw [HRS.out]
        all_goals exact ⟨rfl, HG9.out⟩
      · have hbq : ((acc.length : Int) == (most : Int)) = false := by rw [beq_eq_false_iff_ne]; omega
        have hlt : acc.length < most := by omega
        obtain ⟨r, HRR⟩ : ∃ r, Hid (most - acc.length = r + 1) := ⟨most - acc.length - 1, by show _ = _; omega⟩
        have hr : r = most - (acc.length + 1) := by have := HRR.out; omega
        have HRE := hide hr
        rw [HRR.out] at HX
        clear g1 g2 hlm hr
        go_wp2_with fail
        refine (pterm_any b s q L T M _ HQ1.out HE1.out hb hq hs).mono ?_
        rintro e w2 ⟨ht, HFR⟩
        have HG2 : Hid (w.grownBy w2 (some b)) := fr_both HG1.out HFR
        have HO2 : Hid (w2.ownsRow w.heap.size 65 3 (.slice va acc.length vc) acc.length (termsV acc)) := own_far HO1.out HFR (fun g hg => by have := (own_blk HO1.out hg).1; simp; omega)
        clear HFR HG1 HO1 HE1 HQ1
        obtain ⟨F, HF⟩ : ∃ F, Hid (termF s.data.toList q = F) := ⟨_, (rfl : _ = _)⟩
        rw [HF.out] at ht
        cases F with
        | error er =>
          obtain ⟨ec, x⟩ := er
          have HRS : Hid (RES = .error (ec, x)) := by show _ = _; rw [HX.out]; exact listF_bad _ _ _ _ _ HB.out _ _ HF.out
          obtain ⟨t1, rfl⟩ := ht
          obtain ⟨tt, HTT⟩ : ∃ tt, Hid (str t1.text = tt) := ⟨_, (rfl : _ = _)⟩
          rw [show (termV t1).toArray = #[.bool t1.isVar, .string tt, .int .i64 (t1.place : Nat)] from by unfold termV; rw [HTT.out]]
          unfold errV
          go_wp2
          go_ret2
          rw [HRS.out]
          exact ⟨rfl, fr_both HG2.out (fr_alloc _ _ _)⟩
        | ok tq =>
          obtain ⟨t1, q1⟩ := tq
          obtain ⟨rfl, hrd⟩ := ht
          have HQ2 := hide hrd
          have hq1 := termF_le s q hq t1 q1 HF.out
          clear hrd
          obtain ⟨tt, HTT⟩ : ∃ tt, Hid (str t1.text = tt) := ⟨_, (rfl : _ = _)⟩
          have HTV : Hid (termV t1 = [.bool t1.isVar, .string tt, .int .i64 (t1.place : Nat)]) := by show _ = _; unfold termV; rw [HTT.out]
          rw [show (termV t1).toArray = #[.bool t1.isVar, .string tt, .int .i64 (t1.place : Nat)] from by rw [HTV.out]]
          have hwl : w.heap.size ≤ w2.heap.size := HG2.out.size
          go_wp2_with (at_builtin; refine wpList_append_own _ rfl _ _ 61 rfl w.heap.size 65 i0 (.agg #[.bool false, .string { data := #[] }, .int .i64 0]) 3 32 Tryz.underlying61 hi0 hz0 hz1 hz2 rfl (by decide) _ _ _ rfl ((HO2.out.alloc _).alloc _) ⟨w2.heap.size + 1, 0, none⟩ 1 1 [.bool t1.isVar, .string tt, .int .i64 (t1.place : Nat)] rfl rfl ?c1 ?c2 ?c3 ?c4 ?c5 ?_)
          case c1 =>
            intro j' u hj'
            have e : (⟨w2.heap.size + 1, 0, none⟩ : Addr).add j' = ⟨w2.heap.size + 1, j', none⟩ := by unfold Addr.add; split <;> simp_all
            rw [e]
            rw [World.cell?_alloc_at _ _ _ _ (by simp)]
            simpa using hj'
          case c2 => intro u hu; simp at hu; rcases hu with rfl | rfl | rfl <;> rfl
          case c3 => unfold maxLen; omega
          case c4 => omega
          case c5 => simp; omega
          intro v4 w4 hown4 hg4 _
          obtain ⟨a4, p4, rfl⟩ := own_form hown4
          have HQ4 : Hid (Rd w4 b s q1) := HQ2.out.far (app_block hg4 (by omega) (own_ne HO2.out (by omega)))
          have HG4 : Hid (w.grownBy w4 (some b)) := app_grown HG2.out HO2.out (Nat.le_refl _) hg4
          have HO4 : Hid (w4.ownsRow w.heap.size 65 3 (.slice a4 (acc.length + 1) p4) (acc ++ [t1]).length (termsV (acc ++ [t1]))) := by
            rw [← termsV_snoc, HTV.out, List.length_append]; exact hown4
          clear hown4 hg4 HQ2 HG2 HO2
          go_wp2_with fail
          refine (pcomma_any b s q1 _ HQ4.out hq1 hs).mono ?_
          rintro e w6 ⟨rfl, hrd, HFR⟩
          have HG6 : Hid (w.grownBy w6 (some b)) := fr_both HG4.out HFR.g
          have HO6 : Hid (w6.ownsRow w.heap.size 65 3 (.slice a4 (acc.length + 1) p4) (acc ++ [t1]).length (termsV (acc ++ [t1]))) := own_far HO4.out HFR.g (fun g hg => by have := (own_blk HO4.out hg).1; simp; omega)
          obtain ⟨S, HS⟩ : ∃ S, Hid (signF s.data.toList [44] q1 = S) := ⟨_, (rfl : _ = _)⟩
          rw [HS.out] at hrd ⊢
          have HQ6 := hide hrd
          clear hrd HFR HG4 HO4 HQ4
          cases S with
          | none =>
            have HRS : Hid (RES = .ok (acc ++ [t1], q1)) := by show _ = _; rw [HX.out]; exact listF_last _ _ _ _ _ HB.out _ _ _ HF.out HS.out
            go_wp2
            go_ret2
            rw [HRS.out]
            exact ⟨⟨_, rfl, HO6.out, HQ6.out⟩, HG6.out⟩
          | some q2 =>
            have HRS : Hid (RES = preL (acc ++ [t1]) (listF (atTermB s.data.toList) (termF s.data.toList) (signF s.data.toList [44]) (most - (acc ++ [t1]).length) q2)) := by
              show _ = _
              rw [HX.out, listF_more _ _ _ _ _ HB.out _ _ _ _ HF.out HS.out, HRE.out, List.length_append]; rfl
            have hq2 := signF_le s [44] q1 q2 HS.out (by simp)
            go_wp2_with fail
            go_roundw
            case rel => exact ⟨acc ++ [t1], q2, by simp; omega, hq2, HQ6, HO6, HG6, HRS⟩
            case measure => simp [lenV]; omega
end Go.Proofs.YtdfbjnachakkhaaGreatDoor

namespace Go.Proofs.YtdfbjnachakkhaaGreatDoor
open Go.ChangeShapes Go.WideShapes Go.ChangeAt Go.RowKit Go.Hands
set_option linter.unusedVariables false
theorem add_off (b off j : Nat) : (⟨b, off, none⟩ : Addr).add j = ⟨b, off + j, none⟩ := by unfold Addr.add; split <;> simp_all
theorem termsV_one (l : List PTerm) : ∀ u ∈ termsV l, u.oneCell' = true := by
  intro u hu
  obtain ⟨t, _, ht⟩ := List.mem_flatMap.1 hu
  simp only [termV, List.mem_cons, List.not_mem_nil, or_false] at ht
  rcases ht with rfl | rfl | rfl <;> rfl
set_option maxRecDepth 100000 in
set_option maxHeartbeats 1000000 in
theorem cloneTerms_any (b0 : Nat) (v : Value) (l : List PTerm) (w : World) (h : w.ownsRow b0 65 3 v l.length (termsV l)) (hl : l.length ≤ 1000000) :
    Calls Tryz.prog 96 #[v] w fun e w' => (∃ v', e = .returned v' ∧ w'.ownsRow w.heap.size 65 3 v' l.length (termsV l)) ∧ Below w.heap.size w w' := by
  have q22 : ∀ (w : World) (a : Option Addr) (n c n' c' : Nat), (binOp .eql 61 (.slice a n c) (.slice none n' c')).run Tryz.prog w = .ok (.bool a.isNone) w := fun w a n c n' c' => Lib.run_eql_slice_nil w _ _ a n c n' c' Tryz.underlying61
  obtain ⟨i0, hi, hz0, hz1, hz2⟩ := info_parts infoTermP
  have hown : (w.alloc (.cells #[] 65)).ownsRow w.heap.size 65 3 (.slice (some ⟨w.heap.size, 0, none⟩) 0 0) 0 [] := World.ownsRow_made w #[] 0 (Nat.le_refl _) (by decide) rfl
  rcases h.2 with ⟨rfl, h0⟩ | ⟨g, cap, cur, rfl, hb, hg, rest⟩
  · have hn : l = [] := List.eq_nil_of_length_eq_zero h0
    subst hn
    clear hown h
    go_enter Tryz.func96, Tryz.ntmps96
    go_wp2
    go_ret
    exact ⟨⟨_, rfl, World.ownsRow_nil _ _ _ _⟩, Below.refl _ _⟩
  · have HAD : Hid (∀ (j : Nat) (u : Value), (termsV l)[j]? = some u → (w.alloc (.cells #[] 65)).cell? ((⟨g, 0, none⟩ : Addr).add j) = some u) := by
      intro j u hu
      have := h.cells rfl j u hu
      rw [World.cell?_alloc_lt _ _ _ (World.block_lt_of_cell? w _ this)]; exact this
    have HTL : Hid ((termsV l).length = l.length * 3) := termsV_len l
    clear h hb hg rest
    go_enter Tryz.func96, Tryz.ntmps96
    go_wp2_with (at_builtin; refine wpList_append_own _ rfl _ _ 61 rfl w.heap.size 65 i0 (.agg #[.bool false, .string { data := #[] }, .int .i64 0]) 3 32 Tryz.underlying61 hi hz0 hz1 hz2 rfl (by decide) _ _ _ rfl hown ⟨g, 0, none⟩ l.length cap (termsV l) rfl ?c0 ?c1 ?c2 ?c3 ?c4 ?c5 ?_)
    case c0 => exact HTL.out
    case c1 => exact HAD.out
    case c2 => exact termsV_one l
    case c3 => unfold maxLen; omega
    case c4 => omega
    case c5 => simp
    intro v' w1 hown' hg' _
    have HO : Hid (w1.ownsRow w.heap.size 65 3 v' l.length (termsV l)) := by simpa [Hid] using hown'
    have HB : Hid (Below w.heap.size w w1) := ((Below.refl _ _).alloc (Nat.le_refl _) _).grown hg' (by simp) (fun k hk => by cases hk; exact Nat.le_refl _)
    clear hown' hg'
    go_wp2
    go_ret
    exact ⟨⟨_, rfl, HO.out⟩, HB.out⟩
theorem rnd_none {A B : World} (h : Rnd (fun _ => False) A B) : A.grownBy B none := ⟨h.os, h.tape, h.output, h.size, fun k hk _ => h.block k hk (fun h => h)⟩
/-- the terms that bind no variable -/
def wantsL (hts : List PTerm) (ps : List PPart) : List PTerm := hts ++ (ps.filter (fun p => p.kind != 0)).flatMap partTerms
theorem wantsL_next (hts : List PTerm) (ps : List PPart) (k : Nat) (h : k < ps.length) : wantsL hts (ps.take (k + 1)) = wantsL hts (ps.take k) ++ (if ps[k].kind = 0 then [] else partTerms ps[k]) := by
  unfold wantsL
  rw [List.take_succ_eq_append_getElem h, List.filter_append, List.flatMap_append, List.append_assoc]
  congr 2
  by_cases hk : ps[k].kind = 0 <;> simp [hk]
set_option maxRecDepth 100000 in
set_option maxHeartbeats 4000000 in
theorem wants_any (base : Nat) (name : ByteArray) (ha : Option Addr) (hc : Nat) (place : Int) (hts : List PTerm) (bd : Value) (ps : List PPart) (vs : List Value) (w : World) (hhead : w.ownsRow base 65 3 (.slice ha hts.length hc) hts.length (termsV hts)) (hparts : PartsAt 65 67 base w bd ps vs)
    (hl : ps.length ≤ 1000000) (hhl : hts.length ≤ 1000000) (hkd : ∀ p ∈ ps, p.kind ≤ 1000 ∧ p.atom.args.length ≤ 1000000) :
    Calls Tryz.prog 53 #[.agg #[.string name, .slice ha hts.length hc, .int .i64 place, bd]] w fun e w' => (∃ v', e = .returned v' ∧ w'.ownsRow w.heap.size 65 3 v' (wantsL hts ps).length (termsV (wantsL hts ps))) ∧ Below w.heap.size w w' := by
  have hbd := own_slice hparts.own
  obtain ⟨bda, HBA⟩ : ∃ a, Hid (a = sliceA bd) := ⟨_, rfl⟩
  obtain ⟨bdc, HBC⟩ : ∃ c, Hid (c = sliceC bd) := ⟨_, rfl⟩
  rw [← HBA.out, ← HBC.out] at hbd
  have HPS := hide hparts
  have HHD := hide hhead
  have HKD := hide hkd
  have HBD := hide hbd
  clear hparts hhead hkd
  rw [hbd]
  clear hbd
  obtain ⟨W2, HW2⟩ : ∃ W2, Hid (W2 = w.alloc (.cells #[.string name, .slice ha hts.length hc, .int .i64 place, .slice bda ps.length bdc] 82)) := ⟨_, rfl⟩
  go_enter Tryz.func53, Tryz.ntmps53
  go_wp2_with fail
  rw [show (w.alloc (.cells #[.string name, .slice ha hts.length hc, .int .i64 place, .slice bda ps.length bdc] 82)) = W2 from HW2.out.symm]
  have HR2 : Hid (Rnd (fun _ => False) w W2) := by rw [HW2.out]; exact (Rnd.refl _ _).alloc _
  have HS2 : Hid (W2.heap.size = w.heap.size + 1) := by show _ = _; rw [HW2.out]; simp
  have r2 : W2.cell? ⟨w.heap.size, 3, none⟩ = some (.slice bda ps.length bdc) := by rw [HW2.out, World.cell?_alloc_at _ _ _ _ rfl]; rfl
  refine (cloneTerms_any base _ hts W2 (own_far HHD.out (rnd_none HR2.out) (by simp)) hhl).mono ?_
  rintro e W3 ⟨⟨v3, rfl, hown3⟩, hb3⟩
  have r3 := (hb3.cell (p := ⟨w.heap.size, 3, none⟩) (by have := HS2.out; show w.heap.size < _; omega)).trans r2
  have HB3 : Hid (Below w.heap.size w W3) := (HR2.out.below (n := w.heap.size) (Nat.le_refl _) (fun _ h => h.elim)).trans (hb3.mono (by have := HS2.out; omega))
  have HO3 : Hid (W3.ownsRow w.heap.size 65 3 v3 hts.length (termsV hts)) := own_lower hown3 (by have := HS2.out; omega)
  have hv3 := own_slice hown3
  obtain ⟨a3, HA3⟩ : ∃ a, Hid (a = sliceA v3) := ⟨_, rfl⟩
  obtain ⟨c3, HC3⟩ : ∃ c, Hid (c = sliceC v3) := ⟨_, rfl⟩
  rw [← HA3.out, ← HC3.out] at hv3
  clear HA3 HC3
  subst hv3
  clear hown3 hb3 r2
  have HAR : Hid (∀ (i : Nat) (p : PPart) (u : Value), ps[i]? = some p → vs[i]? = some u → w.ownsRow base 65 3 u p.atom.args.length (termsV p.atom.args)) := HPS.out.args
  have HLN : Hid (vs.length = ps.length) := HPS.out.len
  have HPC : Hid (∀ k, k < ps.length → ∃ g, bda = some ⟨g, 0, none⟩ ∧ g < w.heap.size ∧ ∀ (p : PPart) (u : Value), ps[k]? = some p → vs[k]? = some u → ∀ (j : Nat) (x : Value), (partV p u)[j]? = some x → w.cell? ⟨g, k * 10 + j, none⟩ = some x) := by
    intro k hk
    rcases own_parts HPS.out with ⟨_, h0⟩ | ⟨g, cap, hvg, _, hgw, hc, _⟩
    · rw [h0] at hk; simp at hk
    · exact ⟨g, by rw [HBA.out, hvg]; rfl, hgw, fun p u hp hu j x hx => hc k p u hp hu j x hx⟩
  have HWN : Hid (wantsL hts (ps.take 0) = hts) := by simp [Hid, wantsL]
  obtain ⟨i0, hi, hz0, hz1, hz2⟩ := info_parts infoTermP
  clear HBA HBC
  go_wp2
  go_loopw [3, 13] (fun tv iv wr => ∃ (k : Nat) (a : Option Addr) (c : Nat), k ≤ ps.length ∧ (wantsL hts (ps.take k)).length ≤ 1000000 + k * 1000000 ∧ iv = .int .i64 k ∧ tv = .slice a (wantsL hts (ps.take k)).length c ∧ Hid (wr.ownsRow w.heap.size 65 3 (.slice a (wantsL hts (ps.take k)).length c) (wantsL hts (ps.take k)).length (termsV (wantsL hts (ps.take k)))) ∧ Hid (Below w.heap.size w wr)) (fun _ iv _ => ps.length - (intOf iv).toNat)
  case atStart => exact ⟨0, a3, c3, by omega, by rw [HWN.out]; omega, rfl, by rw [HWN.out], by rw [HWN.out]; exact HO3, HB3⟩
  case round =>
    obtain ⟨k, ta, tc, hk, hcl, rfl, rfl, HO, HB⟩ := hrel
    by_cases hlt : k < ps.length
    · have hlv : k < vs.length := by have := HLN.out; omega
      obtain ⟨g, rfl, hgw, hc⟩ := HPC.out k hlt
      have hc2 := hc ps[k] vs[k] (List.getElem?_eq_getElem hlt) (List.getElem?_eq_getElem hlv)
      have hat := HAR.out k _ _ (List.getElem?_eq_getElem hlt) (List.getElem?_eq_getElem hlv)
      have hus := own_slice hat
      have HWT : Hid (wantsL hts (ps.take (k + 1)) = wantsL hts (ps.take k) ++ (if ps[k].kind = 0 then [] else partTerms ps[k])) := wantsL_next hts ps k hlt
      obtain ⟨hkp, hka⟩ := HKD.out _ (List.getElem_mem hlt)
      rw [hus] at hc2 hat
      obtain ⟨p, HP⟩ : ∃ p, Hid (p = ps[k]) := ⟨ps[k], (rfl : ps[k] = _)⟩
      rw [← HP.out] at hc2 hat hkp hka HWT
      obtain ⟨ua, HUA⟩ : ∃ ua, Hid (ua = sliceA vs[k]) := ⟨sliceA vs[k], (rfl : sliceA vs[k] = _)⟩
      obtain ⟨uc, HUC⟩ : ∃ uc, Hid (uc = sliceC vs[k]) := ⟨sliceC vs[k], (rfl : sliceC vs[k] = _)⟩
      rw [← HUA.out, ← HUC.out] at hc2 hat
      have HAT := hide hat
      obtain ⟨cur, HCUR⟩ : ∃ cur, Hid (cur = wantsL hts (ps.take k)) := ⟨wantsL hts (ps.take k), (rfl : wantsL hts (ps.take k) = _)⟩
      rw [← HCUR.out] at HO HWT hcl ⊢
      have hcw : ∀ (j : Nat) (x : Value), (partV p (.slice ua p.atom.args.length uc))[j]? = some x → wr.cell? ⟨g, k * 10 + j, none⟩ = some x := fun j x hx => (HB.out.cell (p := ⟨g, k * 10 + j, none⟩) hgw).trans (hc2 j x hx)
      have q0 := hcw 0 _ rfl
      rw [Nat.add_zero] at q0
      have q1 := hcw 1 _ rfl
      have q2 := hcw 2 _ rfl
      have q3 := hcw 3 _ rfl
      have q4 := hcw 4 _ rfl
      have q5 := hcw 5 _ rfl
      have q6 := hcw 6 _ rfl
      have q7 := hcw 7 _ rfl
      have q8 := hcw 8 _ rfl
      have q9 := hcw 9 _ rfl
      clear hc hc2 hus hcw hat
      obtain ⟨wb, HWB⟩ : ∃ wb, Hid (wb = wr.alloc (.cells (partV p (.slice ua p.atom.args.length uc)).toArray 67)) := ⟨_, rfl⟩
      have hwb : wr.alloc (.cells #[.int .i64 (p.kind : Nat), .string (str p.atom.name), .slice ua p.atom.args.length uc, .int .i64 (p.atom.place : Nat), .bool p.left.isVar, .string (str p.left.text), .int .i64 (p.left.place : Nat), .bool p.right.isVar, .string (str p.right.text), .int .i64 (p.right.place : Nat)] 67) = wb := HWB.out.symm
      have HBW : Hid (Below w.heap.size w wb) := by rw [HWB.out]; exact HB.out.alloc HB.out.size _
      have HOB : Hid (wb.ownsRow w.heap.size 65 3 (.slice ta cur.length tc) cur.length (termsV cur)) := by rw [HWB.out]; exact HO.out.alloc _
      have hbc : ∀ (j : Nat) (x : Value), (partV p (.slice ua p.atom.args.length uc))[j]? = some x → wb.cell? ⟨wr.heap.size, j, none⟩ = some x := by
        intro j x hx
        rw [HWB.out, World.cell?_alloc_at _ _ _ _ rfl]
        simpa using hx
      have b0 := hbc 0 _ rfl
      have b2 := hbc 2 _ rfl
      have b4 := hbc 4 _ rfl
      have b5 := hbc 5 _ rfl
      have b6 := hbc 6 _ rfl
      have b7 := hbc 7 _ rfl
      have b8 := hbc 8 _ rfl
      have b9 := hbc 9 _ rfl
      have HSB : Hid (wr.heap.size < wb.heap.size) := by rw [HWB.out]; simp [Hid]
      clear hbc HWB
      obtain ⟨kd, HKK⟩ : ∃ kd, Hid (kd = p.kind) := ⟨p.kind, (rfl : p.kind = _)⟩
      rw [← HKK.out] at q0 b0 hwb HWT
      by_cases h0 : kd = 0
      · have e0 : ((kd : Int) == 0) = true := by rw [h0]; rfl
        have HW1 : Hid (wantsL hts (ps.take (k + 1)) = cur) := by show _ = _; rw [HWT.out, if_pos h0, List.append_nil]
        have hel : (wantsL hts (ps.take (k + 1))).length = cur.length := congrArg List.length HW1.out
        clear h0
        go_wp2
        go_roundw
        case rel => exact ⟨k + 1, ta, tc, by omega, by omega, by go_num, by rw [HW1.out], by rw [HW1.out]; exact HOB, HBW⟩
        case measure => simp [intOf]; omega
      · have e0 : ((kd : Int) == 0) = false := by rw [beq_eq_false_iff_ne]; omega
        by_cases h1 : kd = 1
        · have e1 : ((kd : Int) == 1) = true := by rw [h1]; rfl
          have HW1 : Hid (wantsL hts (ps.take (k + 1)) = cur ++ p.atom.args) := by show _ = _; rw [HWT.out, if_neg h0]; unfold partTerms; rw [if_pos (by have := HKK.out; omega)]
          clear h0 h1
          rcases own_terms (HAT.out) with ⟨hnil, hta⟩ | ⟨g2, cap2, hsl, _, hg2, _⟩
          · have HW2' : Hid (wantsL hts (ps.take (k + 1)) = cur) := by show _ = _; rw [HW1.out, hta, List.append_nil]
            have hel : (wantsL hts (ps.take (k + 1))).length = cur.length := congrArg List.length HW2'.out
            rw [hnil] at b2 q2 hwb
            go_wp2_with (at_builtin; refine wpList_append_own_none rfl _ _ 61 rfl w.heap.size 65 i0 3 Tryz.underlying61 hi _ _ _ rfl HOB.out rfl ?_)
            go_wp2
            go_roundw
            case rel => exact ⟨k + 1, ta, tc, by omega, by omega, by go_num, by rw [HW2'.out], by rw [HW2'.out]; exact HOB, HBW⟩
            case measure => simp [intOf]; omega
          · have hinj : ua = some ⟨g2, 0, none⟩ ∧ cap2 = uc := by injection hsl with e1 _ e3; exact ⟨e1, e3.symm⟩
            obtain ⟨hua2, hcap2⟩ := hinj
            subst hua2 hcap2
            clear hsl
            have HCB : Hid (∀ (j : Nat) (u : Value), (termsV p.atom.args)[j]? = some u → wb.cell? ((⟨g2, 0, none⟩ : Addr).add j) = some u) := by
              intro j u hu
              have h1 := HAT.out
              have h2 := h1.cells rfl j u hu
              have h3 := World.block_lt_of_cell? w _ h2
              exact (HBW.out.cell (p := (⟨g2, 0, none⟩ : Addr).add j) h3).trans h2
            have HTL : Hid ((termsV p.atom.args).length = p.atom.args.length * 3) := termsV_len p.atom.args
            go_wp2_with (at_builtin; refine wpList_append_own _ rfl _ _ 61 rfl w.heap.size 65 i0 (.agg #[.bool false, .string { data := #[] }, .int .i64 0]) 3 32 Tryz.underlying61 hi hz0 hz1 hz2 rfl (by decide) _ _ _ rfl HOB.out ⟨g2, 0, none⟩ p.atom.args.length cap2 (termsV p.atom.args) rfl ?c0 ?c1 ?c2 ?c3 ?c4 ?c5 ?_)
            case c0 => exact HTL.out
            case c1 => exact HCB.out
            case c2 => exact termsV_one _
            case c3 => unfold maxLen; omega
            case c4 => omega
            case c5 => exact HBW.out.size
            intro v1 w1 hown1 hg1 _
            have HO1 : Hid (w1.ownsRow w.heap.size 65 3 v1 (cur ++ p.atom.args).length (termsV (cur ++ p.atom.args))) := by
              have e1 : termsV (cur ++ p.atom.args) = termsV cur ++ termsV (p.atom.args) := by simp [termsV]
              rw [e1, List.length_append]; exact hown1
            have HB1 : Hid (Below w.heap.size w w1) := HBW.out.grown hg1 HBW.out.size (fun q hq => (own_blk HOB.out hq).1)
            have hv1 := own_slice HO1.out
            obtain ⟨a1, HA1⟩ : ∃ a, Hid (a = sliceA v1) := ⟨_, rfl⟩
            obtain ⟨c1, HC1⟩ : ∃ c, Hid (c = sliceC v1) := ⟨_, rfl⟩
            rw [← HA1.out, ← HC1.out] at hv1
            rw [hv1] at HO1
            clear HA1 HC1 hown1 hg1
            subst hv1
            have hel : (wantsL hts (ps.take (k + 1))).length = (cur ++ p.atom.args).length := congrArg List.length HW1.out
            have hal : (cur ++ p.atom.args).length = cur.length + p.atom.args.length := by rw [List.length_append]
            go_wp2
            go_roundw
            case rel => exact ⟨k + 1, a1, c1, by omega, by omega, by go_num, by rw [HW1.out], by rw [HW1.out]; exact HO1, HB1⟩
            case measure => simp [intOf]; omega
        · have e1 : ((kd : Int) == 1) = false := by rw [beq_eq_false_iff_ne]; omega
          have HW1 : Hid (wantsL hts (ps.take (k + 1)) = cur ++ [p.left, p.right]) := by show _ = _; rw [HWT.out, if_neg h0]; unfold partTerms; rw [if_neg (by have := HKK.out; omega)]
          go_wp2_with (at_builtin; refine wpList_append_own _ rfl _ _ 61 rfl w.heap.size 65 i0 (.agg #[.bool false, .string { data := #[] }, .int .i64 0]) 3 32 Tryz.underlying61 hi hz0 hz1 hz2 rfl (by decide) _ _ _ rfl (HOB.out.alloc _) ⟨wb.heap.size, 0, none⟩ 2 2 [.bool p.left.isVar, .string (str p.left.text), .int .i64 (p.left.place : Nat), .bool p.right.isVar, .string (str p.right.text), .int .i64 (p.right.place : Nat)] rfl rfl ?c1 ?c2 ?c3 ?c4 ?c5 ?_)
          case c1 =>
            intro j u hu
            rw [add_off, World.cell?_alloc_at _ _ _ _ rfl]
            simpa using hu
          case c2 =>
            intro u hu
            simp only [List.mem_cons, List.not_mem_nil, or_false] at hu
            rcases hu with rfl | rfl | rfl | rfl | rfl | rfl <;> rfl
          case c3 => unfold maxLen; omega
          case c4 => omega
          case c5 => have := HBW.out.size; simp; omega
          intro v1 w1 hown1 hg1 _
          have HO1 : Hid (w1.ownsRow w.heap.size 65 3 v1 (cur ++ [p.left, p.right]).length (termsV (cur ++ [p.left, p.right]))) := by
            have e1 : termsV (cur ++ [p.left, p.right]) = termsV cur ++ termsV ([p.left, p.right]) := by simp [termsV]
            rw [e1, List.length_append]; exact hown1
          have HB1 : Hid (Below w.heap.size w w1) := (HBW.out.alloc HBW.out.size _).grown hg1 (HBW.out.alloc HBW.out.size _).size (fun q hq => (own_blk HOB.out hq).1)
          have hv1 := own_slice HO1.out
          obtain ⟨a1, HA1⟩ : ∃ a, Hid (a = sliceA v1) := ⟨_, rfl⟩
          obtain ⟨c1, HC1⟩ : ∃ c, Hid (c = sliceC v1) := ⟨_, rfl⟩
          rw [← HA1.out, ← HC1.out] at hv1
          rw [hv1] at HO1
          clear HA1 HC1 hown1 hg1
          subst hv1
          have hel : (wantsL hts (ps.take (k + 1))).length = (cur ++ [p.left, p.right]).length := congrArg List.length HW1.out
          have hal : (cur ++ [p.left, p.right]).length = cur.length + 2 := by rw [List.length_append]; rfl
          go_wp2
          go_roundw
          case rel => exact ⟨k + 1, a1, c1, by omega, by omega, by go_num, by rw [HW1.out], by rw [HW1.out]; exact HO1, HB1⟩
          case measure => simp [intOf]; omega
    · have HE : Hid (wr.ownsRow w.heap.size 65 3 (.slice ta (wantsL hts ps).length tc) (wantsL hts ps).length (termsV (wantsL hts ps))) := by
        have := HO.out
        rw [List.take_of_length_le (by omega)] at this
        exact this
      rw [List.take_of_length_le (by omega)]
      go_wp2
      go_ret
      exact ⟨⟨_, rfl, HE.out⟩, HB.out⟩
end Go.Proofs.YtdfbjnachakkhaaGreatDoor
