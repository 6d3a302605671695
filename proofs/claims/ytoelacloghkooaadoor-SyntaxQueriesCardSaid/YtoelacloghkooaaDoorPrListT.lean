/-
  The program's parser: one or more terms.
-/
import Derived.Test.YtoelacloghkooaaDoorPrTerm
namespace Go.Proofs.YtoelacloghkooaaDoor
open Go.ChangeShapes Go.WideShapes Go.ChangeAt Go.RowKit
set_option linter.unusedVariables false
theorem infoTermP : (Tryd.prog.info? 38).map (fun i => (i.zero, i.size, i.bytes)) = some (some (.agg #[.bool false, .string { data := #[] }, .int .i64 0]), 3, 32) := by kernel_rfl
/-- what has been read, ahead of the rest -/
def preL {α : Type} (acc : List α) (r : Except PErr (List α × Nat)) : Except PErr (List α × Nat) := match r with
  | .error e => .error e
  | .ok (xs, q) => .ok (acc ++ xs, q)
theorem preL_nil {α : Type} (r : Except PErr (List α × Nat)) : preL [] r = r := by cases r with
  | error e => rfl
  | ok v => obtain ⟨xs, q⟩ := v; rfl
theorem listF_no {α : Type} (bg : Nat → Bool) (one : Nat → Except PErr (α × Nat)) (go : Nat → Option Nat) (n p : Nat) (h : bg p = false) (acc : List α) : preL acc (listF bg one go n p) = .error (2, p) := by
  cases n with
  | zero => unfold listF; rw [h]; rfl
  | succ n => unfold listF; rw [h]; rfl
theorem listF_many {α : Type} (bg : Nat → Bool) (one : Nat → Except PErr (α × Nat)) (go : Nat → Option Nat) (p : Nat) (h : bg p = true) (acc : List α) : preL acc (listF bg one go 0 p) = .error (7, p) := by
  unfold listF; rw [h]; rfl
theorem listF_bad {α : Type} (bg : Nat → Bool) (one : Nat → Except PErr (α × Nat)) (go : Nat → Option Nat) (n p : Nat) (h : bg p = true) (acc : List α) (e : PErr) (h1 : one p = .error e) : preL acc (listF bg one go (n + 1) p) = .error e := by
  unfold listF; rw [h, h1]; rfl
theorem listF_last {α : Type} (bg : Nat → Bool) (one : Nat → Except PErr (α × Nat)) (go : Nat → Option Nat) (n p : Nat) (h : bg p = true) (acc : List α) (x : α) (q : Nat) (h1 : one p = .ok (x, q)) (h2 : go q = none) : preL acc (listF bg one go (n + 1) p) = .ok (acc ++ [x], q) := by
  unfold listF; rw [h, h1]; simp only [h2]; rfl
theorem listF_more {α : Type} (bg : Nat → Bool) (one : Nat → Except PErr (α × Nat)) (go : Nat → Option Nat) (n p : Nat) (h : bg p = true) (acc : List α) (x : α) (q r : Nat) (h1 : one p = .ok (x, q)) (h2 : go q = some r) : preL acc (listF bg one go (n + 1) p) = preL (acc ++ [x]) (listF bg one go n r) := by
  rw [listF, if_pos h, h1]
  simp only [h2]
  cases listF bg one go n r with
  | error e => rfl
  | ok v => obtain ⟨xs, r2⟩ := v; simp [preL]
theorem strGo_ok_le (s : ByteArray) (p : Nat) (hp : p < s.size) (o : List UInt8) (q : Nat) (h : strGo (s.data.toList.drop (p + 1)) (p + 1) [] = .ok (o, q)) : q ≤ s.size := by
  have := (strGo_le _ _ _ _ (Nat.le_refl _)).2 o q h
  have hl : (s.data.toList.drop (p + 1)).length = s.size - (p + 1) := by simp
  omega
theorem termF_le (s : ByteArray) (p : Nat) (hp : p ≤ s.size) (t : PTerm) (q : Nat) (h : termF s.data.toList p = .ok (t, q)) : q ≤ s.size := by
  unfold termF at h
  split at h
  · rename_i hst
    rw [starts_one] at hst
    have hlt := (of_decide_eq_true hst).1
    cases hg : strGo (s.data.toList.drop (p + 1)) (p + 1) [] with
    | error e => rw [hg] at h; cases h
    | ok oq =>
      obtain ⟨o, q2⟩ := oq
      rw [hg] at h
      simp only [] at h
      split at h
      · cases h
      · cases h; exact skip_le s _ (strGo_ok_le s p hlt o q2 hg)
  · split at h
    · cases h; exact skip_le s _ (word_le s p hp)
    · cases h
theorem signF_le (s : ByteArray) (sg : List UInt8) (p q : Nat) (h : signF s.data.toList sg p = some q) (h0 : 0 < sg.length) : q ≤ s.size := by
  have := sign_le _ _ _ _ h h0
  simpa using this
def lenV (v : Value) : Nat := match v with
  | .slice _ n _ => n
  | _ => 0
def ListT (L T M : Addr) (base b : Nat) (s : ByteArray) (r : Except PErr (List PTerm × Nat)) (en : Ending) (w' : World) : Prop := match r with
  | .error (e, x) => en = .returned (.tuple #[.slice none 0 0, errV L T M e x])
  | .ok (ts, q) => ∃ v, en = .returned (.tuple #[v, .nilIface]) ∧ w'.ownsRow base 38 3 v ts.length (termsV ts) ∧ Rd w' b s (q : Nat)
theorem Rd.other {w : World} {b : Nat} {s : ByteArray} {i : Int} (h : Rd w b s i) {w' : World} {row : Option Nat} (hg : w.grownBy w' row) (hne : some b ≠ row) : Rd w' b s i := h.far (hg.block b h.lt hne)
set_option maxRecDepth 100000 in
set_option maxHeartbeats 4000000 in
theorem plistT_any (b : Nat) (s : ByteArray) (p most : Nat) (L T M : Addr) (w : World) (h : Rd w b s p) (hE : Errs w L T M) (hb : gTop ≤ b) (hp : p ≤ s.size) (hs : s.size ≤ 1073741824) (hm : most ≤ 1000) :
    Calls Tryd.prog 66 #[.pointer (some ⟨b, 0, none⟩), .int .i64 (most : Nat), .func (.func 67) #[] #[], .func (.func 68) #[] #[], .func (.func 60) #[] #[]] w fun en w' =>
      ListT L T M w.heap.size b s (listF (atTermB s.data.toList) (termF s.data.toList) (signF s.data.toList [44]) most p) en w' ∧ w.grownBy w' (some b) := by
  have E1 : ∀ args w, (callFunc 67 args).run Tryd.prog w = .ok (.enter 67 args) w := enters_of Tryd.func67 (by kernel_rfl) rfl
  have E2 : ∀ args w, (callFunc 68 args).run Tryd.prog w = .ok (.enter 68 args) w := enters_of Tryd.func68 (by kernel_rfl) rfl
  have E3 : ∀ args w, (callFunc 60 args).run Tryd.prog w = .ok (.enter 60 args) w := enters_of Tryd.func60 (by kernel_rfl) rfl
  obtain ⟨i0, hi0, hz0, hz1, hz2⟩ := info_parts infoTermP
  have hbw := h.lt
  have HR := hide h
  have HE := hide hE
  obtain ⟨RES, HRES⟩ : ∃ RES, Hid (listF (atTermB s.data.toList) (termF s.data.toList) (signF s.data.toList [44]) most p = RES) := ⟨_, (rfl : _ = _)⟩
  rw [HRES.out]
  clear h hE
  go_enter Tryd.func66, Tryd.ntmps66
  go_wp2_with fail
  go_loopw [12, 13, 14] (fun l t e wr => ∃ (acc : List PTerm) (q : Nat), acc.length ≤ most ∧ q ≤ s.size ∧ Hid (Rd wr b s (q : Nat)) ∧ Hid (wr.ownsRow w.heap.size 38 3 l acc.length (termsV acc)) ∧ Hid (w.grownBy wr (some b)) ∧ Hid (RES = preL acc (listF (atTermB s.data.toList) (termF s.data.toList) (signF s.data.toList [44]) (most - acc.length) q))) (fun l _ _ _ => most + 1 - lenV l)
  case atStart => exact ⟨[], p, by simp, hp, HR, World.ownsRow_nil _ _ _ _, fr_refl _ _, by show _ = _; rw [preL_nil]; exact HRES.out.symm⟩
  case round =>
    obtain ⟨acc, q, hal, hq, HQ, HO, HG, HX⟩ := hrel
    obtain ⟨va, vc, rfl⟩ := own_form HO.out
    have HEr : Hid (Errs wr L T M) := HE.out.grown HG.out hb
    go_wp2_with fail
    refine (patTerm_any b s q _ HQ.out hq hs).mono ?_
    rintro e w1 ⟨rfl, n1, rfl⟩
    have HQ1 : Hid (Rd (wr.drewN n1) b s q) := HQ.out.drewN _
    have HE1 : Hid (Errs (wr.drewN n1) L T M) := HEr.out.drewN _
    have HG1 : Hid (w.grownBy (wr.drewN n1) (some b)) := fr_both HG.out (fr_draws _ _ _)
    have HO1 : Hid ((wr.drewN n1).ownsRow w.heap.size 38 3 (.slice va acc.length vc) acc.length (termsV acc)) := own_far HO.out (fr_draws _ _ none) (fun _ _ => by simp)
    generalize wr.drewN n1 = w1 at *
    clear HQ HEr HG HO
    have g1 := HE1.out.gt
    have g2 := HE1.out.gm
    obtain ⟨B, HB⟩ : ∃ B, Hid (atTermB s.data.toList q = B) := ⟨_, (rfl : _ = _)⟩
    rw [HB.out]
    cases B with
    | false =>
      have HRS : Hid (RES = .error (2, q)) := by show _ = _; rw [HX.out]; exact listF_no _ _ _ _ _ HB.out _
      clear g2
      have HFL : Hid (∀ wx : World, (∃ n, wx = w1.drewN n) → Calls Tryd.prog 42 #[.pointer (some ⟨b, 0, none⟩), .iface 160 (.pointer (some T))] wx fun e w' => e = .returned (.iface 91 (.agg #[.iface 160 (.pointer (some T)), .int .i64 (q : Nat)])) ∧ Hid (w.grownBy w' (some b)) ∧ w'.cell? ⟨1, 0, none⟩ = some (.iface 160 (.pointer (some T)))) := by
        rintro wx ⟨n, rfl⟩
        refine (pfail_any b s q T _ (HQ1.out.drewN n)).mono ?_
        rintro e w2 ⟨rfl, rfl⟩
        exact ⟨rfl, fr_both HG1.out (fr_draws _ _ _), g1⟩
      go_wp2_with fail
      go_region_held3 (fun w' => w'.cell? ⟨1, 0, none⟩ = some (.iface 160 (.pointer (some T)))) (go_keep) (first | (go_at_call 42; refine (HFL.out _ ⟨_, rfl⟩).mono ?_; rintro e w9 ⟨rfl, HG9, k9⟩))
      all_goals go_wp2
      all_goals go_ret2
      all_goals rw [HRS.out]
      all_goals exact ⟨rfl, HG9.out⟩
    | true =>
      by_cases hlm : acc.length = most
      · have HRS : Hid (RES = .error (7, q)) := by show _ = _; rw [HX.out, hlm, Nat.sub_self]; exact listF_many _ _ _ _ HB.out _
        have hbq : ((acc.length : Int) == (most : Int)) = true := by simp [hlm]
        clear g1 hlm
        have HFL : Hid (∀ wx : World, (∃ n, wx = w1.drewN n) → Calls Tryd.prog 42 #[.pointer (some ⟨b, 0, none⟩), .iface 160 (.pointer (some M))] wx fun e w' => e = .returned (.iface 91 (.agg #[.iface 160 (.pointer (some M)), .int .i64 (q : Nat)])) ∧ Hid (w.grownBy w' (some b)) ∧ w'.cell? ⟨2, 0, none⟩ = some (.iface 160 (.pointer (some M)))) := by
          rintro wx ⟨n, rfl⟩
          refine (pfail_any b s q M _ (HQ1.out.drewN n)).mono ?_
          rintro e w2 ⟨rfl, rfl⟩
          exact ⟨rfl, fr_both HG1.out (fr_draws _ _ _), g2⟩
        go_wp2_with fail
        go_region_held3 (fun w' => w'.cell? ⟨2, 0, none⟩ = some (.iface 160 (.pointer (some M)))) (go_keep) (first | (go_at_call 42; refine (HFL.out _ ⟨_, rfl⟩).mono ?_; rintro e w9 ⟨rfl, HG9, k9⟩))
        all_goals go_wp2
        all_goals go_ret2
        all_goals rw [HRS.out]
        all_goals exact ⟨rfl, HG9.out⟩
      · have hbq : ((acc.length : Int) == (most : Int)) = false := by rw [beq_eq_false_iff_ne]; omega
        have hlt : acc.length < most := by omega
        obtain ⟨r, HRR⟩ : ∃ r, Hid (most - acc.length = r + 1) := ⟨most - acc.length - 1, by show _ = _; omega⟩
        have hr : r = most - (acc.length + 1) := by have := HRR.out; omega
        have HRE := hide hr
        rw [HRR.out] at HX
        clear g1 g2 hlm hr
        go_wp2_with fail
        refine (pterm_any b s q L T M _ HQ1.out HE1.out hb hq hs).mono ?_
        rintro e w2 ⟨ht, HFR⟩
        have HG2 : Hid (w.grownBy w2 (some b)) := fr_both HG1.out HFR
        have HO2 : Hid (w2.ownsRow w.heap.size 38 3 (.slice va acc.length vc) acc.length (termsV acc)) := own_far HO1.out HFR (fun g hg => by have := (own_blk HO1.out hg).1; simp; omega)
        clear HFR HG1 HO1 HE1 HQ1
        obtain ⟨F, HF⟩ : ∃ F, Hid (termF s.data.toList q = F) := ⟨_, (rfl : _ = _)⟩
        rw [HF.out] at ht
        cases F with
        | error er =>
          obtain ⟨ec, x⟩ := er
          have HRS : Hid (RES = .error (ec, x)) := by show _ = _; rw [HX.out]; exact listF_bad _ _ _ _ _ HB.out _ _ HF.out
          obtain ⟨t1, rfl⟩ := ht
          obtain ⟨tt, HTT⟩ : ∃ tt, Hid (str t1.text = tt) := ⟨_, (rfl : _ = _)⟩
          rw [show (termV t1).toArray = #[.bool t1.isVar, .string tt, .int .i64 (t1.place : Nat)] from by unfold termV; rw [HTT.out]]
          unfold errV
          go_wp2
          go_ret2
          rw [HRS.out]
          exact ⟨rfl, fr_both HG2.out (fr_alloc _ _ _)⟩
        | ok tq =>
          obtain ⟨t1, q1⟩ := tq
          obtain ⟨rfl, hrd⟩ := ht
          have HQ2 := hide hrd
          have hq1 := termF_le s q hq t1 q1 HF.out
          clear hrd
          obtain ⟨tt, HTT⟩ : ∃ tt, Hid (str t1.text = tt) := ⟨_, (rfl : _ = _)⟩
          have HTV : Hid (termV t1 = [.bool t1.isVar, .string tt, .int .i64 (t1.place : Nat)]) := by show _ = _; unfold termV; rw [HTT.out]
          rw [show (termV t1).toArray = #[.bool t1.isVar, .string tt, .int .i64 (t1.place : Nat)] from by rw [HTV.out]]
          have hwl : w.heap.size ≤ w2.heap.size := HG2.out.size
          go_wp2_with (at_builtin; refine wpList_append_own _ rfl _ _ 31 rfl w.heap.size 38 i0 (.agg #[.bool false, .string { data := #[] }, .int .i64 0]) 3 32 Tryd.underlying31 hi0 hz0 hz1 hz2 rfl (by decide) _ _ _ rfl ((HO2.out.alloc _).alloc _) ⟨w2.heap.size + 1, 0, none⟩ 1 1 [.bool t1.isVar, .string tt, .int .i64 (t1.place : Nat)] rfl rfl ?c1 ?c2 ?c3 ?c4 ?c5 ?_)
          case c1 =>
            intro j' u hj'
            have e : (⟨w2.heap.size + 1, 0, none⟩ : Addr).add j' = ⟨w2.heap.size + 1, j', none⟩ := by unfold Addr.add; split <;> simp_all
            rw [e]
            rw [World.cell?_alloc_at _ _ _ _ (by simp)]
            simpa using hj'
          case c2 => intro u hu; simp at hu; rcases hu with rfl | rfl | rfl <;> rfl
          case c3 => unfold maxLen; omega
          case c4 => omega
          case c5 => simp; omega
          intro v4 w4 hown4 hg4 _
          obtain ⟨a4, p4, rfl⟩ := own_form hown4
          have HQ4 : Hid (Rd w4 b s q1) := HQ2.out.far (app_block hg4 (by omega) (own_ne HO2.out (by omega)))
          have HG4 : Hid (w.grownBy w4 (some b)) := app_grown HG2.out HO2.out (Nat.le_refl _) hg4
          have HO4 : Hid (w4.ownsRow w.heap.size 38 3 (.slice a4 (acc.length + 1) p4) (acc ++ [t1]).length (termsV (acc ++ [t1]))) := by
            rw [← termsV_snoc, HTV.out, List.length_append]; exact hown4
          clear hown4 hg4 HQ2 HG2 HO2
          go_wp2_with fail
          refine (pcomma_any b s q1 _ HQ4.out hq1 hs).mono ?_
          rintro e w6 ⟨rfl, hrd, HFR⟩
          have HG6 : Hid (w.grownBy w6 (some b)) := fr_both HG4.out HFR.g
          have HO6 : Hid (w6.ownsRow w.heap.size 38 3 (.slice a4 (acc.length + 1) p4) (acc ++ [t1]).length (termsV (acc ++ [t1]))) := own_far HO4.out HFR.g (fun g hg => by have := (own_blk HO4.out hg).1; simp; omega)
          obtain ⟨S, HS⟩ : ∃ S, Hid (signF s.data.toList [44] q1 = S) := ⟨_, (rfl : _ = _)⟩
          rw [HS.out] at hrd ⊢
          have HQ6 := hide hrd
          clear hrd HFR HG4 HO4 HQ4
          cases S with
          | none =>
            have HRS : Hid (RES = .ok (acc ++ [t1], q1)) := by show _ = _; rw [HX.out]; exact listF_last _ _ _ _ _ HB.out _ _ _ HF.out HS.out
            go_wp2
            go_ret2
            rw [HRS.out]
            exact ⟨⟨_, rfl, HO6.out, HQ6.out⟩, HG6.out⟩
          | some q2 =>
            have HRS : Hid (RES = preL (acc ++ [t1]) (listF (atTermB s.data.toList) (termF s.data.toList) (signF s.data.toList [44]) (most - (acc ++ [t1]).length) q2)) := by
              show _ = _
              rw [HX.out, listF_more _ _ _ _ _ HB.out _ _ _ _ HF.out HS.out, HRE.out, List.length_append]; rfl
            have hq2 := signF_le s [44] q1 q2 HS.out (by simp)
            go_wp2_with fail
            go_roundw
            case rel => exact ⟨acc ++ [t1], q2, by simp; omega, hq2, HQ6, HO6, HG6, HRS⟩
            case measure => simp [lenV]; omega
end Go.Proofs.YtoelacloghkooaaDoor
