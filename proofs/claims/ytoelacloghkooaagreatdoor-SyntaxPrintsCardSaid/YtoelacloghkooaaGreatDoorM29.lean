import Derived.Test.YtoelacloghkooaaGreatDoorM28
/-
  The program's parser: one or more terms.
-/
namespace Go.Proofs.YtoelacloghkooaaGreatDoor
open Go.ChangeShapes Go.WideShapes Go.ChangeAt Go.RowKit
set_option linter.unusedVariables false
theorem infoTermP : (Tryz.prog.info? 44).map (fun i => (i.zero, i.size, i.bytes)) = some (some (.agg #[.bool false, .string { data := #[] }, .int .i64 0]), 3, 32) := by kernel_rfl
/-- what has been read, ahead of the rest -/
def preL {α : Type} (acc : List α) (r : Except PErr (List α × Nat)) : Except PErr (List α × Nat) := match r with
  | .error e => .error e
  | .ok (xs, q) => .ok (acc ++ xs, q)
theorem preL_nil {α : Type} (r : Except PErr (List α × Nat)) : preL [] r = r := by cases r with
  | error e => rfl
  | ok v => obtain ⟨xs, q⟩ := v; rfl
theorem listF_no {α : Type} (bg : Nat → Bool) (one : Nat → Except PErr (α × Nat)) (go : Nat → Option Nat) (n p : Nat) (h : bg p = false) (acc : List α) : preL acc (listF bg one go n p) = .error (2, p) := by
  cases n with
  | zero => unfold listF; rw [h]; rfl
  | succ n => unfold listF; rw [h]; rfl
theorem listF_many {α : Type} (bg : Nat → Bool) (one : Nat → Except PErr (α × Nat)) (go : Nat → Option Nat) (p : Nat) (h : bg p = true) (acc : List α) : preL acc (listF bg one go 0 p) = .error (7, p) := by
  unfold listF; rw [h]; rfl
theorem listF_bad {α : Type} (bg : Nat → Bool) (one : Nat → Except PErr (α × Nat)) (go : Nat → Option Nat) (n p : Nat) (h : bg p = true) (acc : List α) (e : PErr) (h1 : one p = .error e) : preL acc (listF bg one go (n + 1) p) = .error e := by
  unfold listF; rw [h, h1]; rfl
theorem listF_last {α : Type} (bg : Nat → Bool) (one : Nat → Except PErr (α × Nat)) (go : Nat → Option Nat) (n p : Nat) (h : bg p = true) (acc : List α) (x : α) (q : Nat) (h1 : one p = .ok (x, q)) (h2 : go q = none) : preL acc (listF bg one go (n + 1) p) = .ok (acc ++ [x], q) := by
  unfold listF; rw [h, h1]; simp only [h2]; rfl
theorem listF_more {α : Type} (bg : Nat → Bool) (one : Nat → Except PErr (α × Nat)) (go : Nat → Option Nat) (n p : Nat) (h : bg p = true) (acc : List α) (x : α) (q r : Nat) (h1 : one p = .ok (x, q)) (h2 : go q = some r) : preL acc (listF bg one go (n + 1) p) = preL (acc ++ [x]) (listF bg one go n r) := by
  rw [listF, if_pos h, h1]
  simp only [h2]
  cases listF bg one go n r with
  | error e => rfl
  | ok v => obtain ⟨xs, r2⟩ := v; simp [preL]
theorem strGo_ok_le (s : ByteArray) (p : Nat) (hp : p < s.size) (o : List UInt8) (q : Nat) (h : strGo (s.data.toList.drop (p + 1)) (p + 1) [] = .ok (o, q)) : q ≤ s.size := by
  have := (strGo_le _ _ _ _ (Nat.le_refl _)).2 o q h
  have hl : (s.data.toList.drop (p + 1)).length = s.size - (p + 1) := by simp
  omega
theorem termF_le (s : ByteArray) (p : Nat) (hp : p ≤ s.size) (t : PTerm) (q : Nat) (h : termF s.data.toList p = .ok (t, q)) : q ≤ s.size := by
  unfold termF at h
  split at h
  · rename_i hst
    rw [starts_one] at hst
    have hlt := (of_decide_eq_true hst).1
    cases hg : strGo (s.data.toList.drop (p + 1)) (p + 1) [] with
    | error e => rw [hg] at h; cases h
    | ok oq =>
      obtain ⟨o, q2⟩ := oq
      rw [hg] at h
      simp only [] at h
      split at h
      · cases h
      · cases h; exact skip_le s _ (strGo_ok_le s p hlt o q2 hg)
  · split at h
    · cases h; exact skip_le s _ (word_le s p hp)
    · cases h
theorem signF_le (s : ByteArray) (sg : List UInt8) (p q : Nat) (h : signF s.data.toList sg p = some q) (h0 : 0 < sg.length) : q ≤ s.size := by
  have := sign_le _ _ _ _ h h0
  simpa using this
def lenV (v : Value) : Nat := match v with
  | .slice _ n _ => n
  | _ => 0
def ListT (L T M : Addr) (base b : Nat) (s : ByteArray) (r : Except PErr (List PTerm × Nat)) (en : Ending) (w' : World) : Prop := match r with
  | .error (e, x) => en = .returned (.tuple #[.slice none 0 0, errV L T M e x])
  | .ok (ts, q) => ∃ v, en = .returned (.tuple #[v, .nilIface]) ∧ w'.ownsRow base 44 3 v ts.length (termsV ts) ∧ Rd w' b s (q : Nat)
theorem Rd.other {w : World} {b : Nat} {s : ByteArray} {i : Int} (h : Rd w b s i) {w' : World} {row : Option Nat} (hg : w.grownBy w' row) (hne : some b ≠ row) : Rd w' b s i := h.far (hg.block b h.lt hne)
set_option maxRecDepth 100000 in
set_option maxHeartbeats 4000000 in
theorem plistT_any (b : Nat) (s : ByteArray) (p most : Nat) (L T M : Addr) (w : World) (h : Rd w b s p) (hE : Errs w L T M) (hb : gTop ≤ b) (hp : p ≤ s.size) (hs : s.size ≤ 1073741824) (hm : most ≤ 1000) :
    Calls Tryz.prog 97 #[.pointer (some ⟨b, 0, none⟩), .int .i64 (most : Nat), .func (.func 98) #[] #[], .func (.func 99) #[] #[], .func (.func 93) #[] #[]] w fun en w' =>
      ListT L T M w.heap.size b s (listF (atTermB s.data.toList) (termF s.data.toList) (signF s.data.toList [44]) most p) en w' ∧ w.grownBy w' (some b) := by
  have E1 : ∀ args w, (callFunc 98 args).run Tryz.prog w = .ok (.enter 98 args) w := enters_of Tryz.func98 (by kernel_rfl) rfl
  have E2 : ∀ args w, (callFunc 99 args).run Tryz.prog w = .ok (.enter 99 args) w := enters_of Tryz.func99 (by kernel_rfl) rfl
  have E3 : ∀ args w, (callFunc 93 args).run Tryz.prog w = .ok (.enter 93 args) w := enters_of Tryz.func93 (by kernel_rfl) rfl
  obtain ⟨i0, hi0, hz0, hz1, hz2⟩ := info_parts infoTermP
  have hbw := h.lt
  have HR := hide h
  have HE := hide hE
  obtain ⟨RES, HRES⟩ : ∃ RES, Hid (listF (atTermB s.data.toList) (termF s.data.toList) (signF s.data.toList [44]) most p = RES) := ⟨_, (rfl : _ = _)⟩
  rw [HRES.out]
  clear h hE
  go_enter Tryz.func97, Tryz.ntmps97
  go_wp2_with fail
  go_loopw [12, 13, 14] (fun l t e wr => ∃ (acc : List PTerm) (q : Nat), acc.length ≤ most ∧ q ≤ s.size ∧ Hid (Rd wr b s (q : Nat)) ∧ Hid (wr.ownsRow w.heap.size 44 3 l acc.length (termsV acc)) ∧ Hid (w.grownBy wr (some b)) ∧ Hid (RES = preL acc (listF (atTermB s.data.toList) (termF s.data.toList) (signF s.data.toList [44]) (most - acc.length) q))) (fun l _ _ _ => most + 1 - lenV l)
  case atStart => exact ⟨[], p, by simp, hp, HR, World.ownsRow_nil _ _ _ _, fr_refl _ _, by show _ = _; rw [preL_nil]; exact HRES.out.symm⟩
  case round =>
    obtain ⟨acc, q, hal, hq, HQ, HO, HG, HX⟩ := hrel
    obtain ⟨va, vc, rfl⟩ := own_form HO.out
    have HEr : Hid (Errs wr L T M) := HE.out.grown HG.out hb
    go_wp2_with fail
    refine (patTerm_any b s q _ HQ.out hq hs).mono ?_
    rintro e w1 ⟨rfl, n1, rfl⟩
    have HQ1 : Hid (Rd (wr.drewN n1) b s q) := HQ.out.drewN _
    have HE1 : Hid (Errs (wr.drewN n1) L T M) := HEr.out.drewN _
    have HG1 : Hid (w.grownBy (wr.drewN n1) (some b)) := fr_both HG.out (fr_draws _ _ _)
    have HO1 : Hid ((wr.drewN n1).ownsRow w.heap.size 44 3 (.slice va acc.length vc) acc.length (termsV acc)) := own_far HO.out (fr_draws _ _ none) (fun _ _ => by simp)
    generalize wr.drewN n1 = w1 at *
    clear HQ HEr HG HO
    have g1 := HE1.out.gt
    have g2 := HE1.out.gm
    obtain ⟨B, HB⟩ : ∃ B, Hid (atTermB s.data.toList q = B) := ⟨_, (rfl : _ = _)⟩
    rw [HB.out]
    cases B with
    | false =>
      have HRS : Hid (RES = .error (2, q)) := by show _ = _; rw [HX.out]; exact listF_no _ _ _ _ _ HB.out _
      clear g2
      have HFL : Hid (∀ wx : World, (∃ n, wx = w1.drewN n) → Calls Tryz.prog 68 #[.pointer (some ⟨b, 0, none⟩), .iface 246 (.pointer (some T))] wx fun e w' => e = .returned (.iface 119 (.agg #[.iface 246 (.pointer (some T)), .int .i64 (q : Nat)])) ∧ Hid (w.grownBy w' (some b)) ∧ w'.cell? ⟨1, 0, none⟩ = some (.iface 246 (.pointer (some T)))) := by
        rintro wx ⟨n, rfl⟩
        refine (pfail_any b s q T _ (HQ1.out.drewN n)).mono ?_
        rintro e w2 ⟨rfl, rfl⟩
        exact ⟨rfl, fr_both HG1.out (fr_draws _ _ _), g1⟩
      go_wp2_with fail
      go_region_held3 (fun w' => w'.cell? ⟨1, 0, none⟩ = some (.iface 246 (.pointer (some T)))) (go_keep) (first | (go_at_call 68; refine (HFL.out _ ⟨_, rfl⟩).mono ?_; rintro e w9 ⟨rfl, HG9, k9⟩))
      all_goals go_wp2
      all_goals go_ret2
      all_goals rw [HRS.out]
      all_goals exact ⟨rfl, HG9.out⟩
    | true =>
      by_cases hlm : acc.length = most
      · have HRS : Hid (RES = .error (7, q)) := by show _ = _; rw [HX.out, hlm, Nat.sub_self]; exact listF_many _ _ _ _ HB.out _
        have hbq : ((acc.length : Int) == (most : Int)) = true := by simp [hlm]
        clear g1 hlm
        have HFL : Hid (∀ wx : World, (∃ n, wx = w1.drewN n) → Calls Tryz.prog 68 #[.pointer (some ⟨b, 0, none⟩), .iface 246 (.pointer (some M))] wx fun e w' => e = .returned (.iface 119 (.agg #[.iface 246 (.pointer (some M)), .int .i64 (q : Nat)])) ∧ Hid (w.grownBy w' (some b)) ∧ w'.cell? ⟨2, 0, none⟩ = some (.iface 246 (.pointer (some M)))) := by
          rintro wx ⟨n, rfl⟩
          refine (pfail_any b s q M _ (HQ1.out.drewN n)).mono ?_
          rintro e w2 ⟨rfl, rfl⟩
          exact ⟨rfl, fr_both HG1.out (fr_draws _ _ _), g2⟩
        go_wp2_with fail
        go_region_held3 (fun w' => w'.cell? ⟨2, 0, none⟩ = some (.iface 246 (.pointer (some M)))) (go_keep) (first | (go_at_call 68; refine (HFL.out _ ⟨_, rfl⟩).mono ?_; rintro e w9 ⟨rfl, HG9, k9⟩))
        all_goals go_wp2
        all_goals go_ret2
        all_goals rw [HRS.out]
        all_goals exact ⟨rfl, HG9.out⟩
      · have hbq : ((acc.length : Int) == (most : Int)) = false := by rw [beq_eq_false_iff_ne]; omega
        have hlt : acc.length < most := by omega
        obtain ⟨r, HRR⟩ : ∃ r, Hid (most - acc.length = r + 1) := ⟨most - acc.length - 1, by show _ = _; omega⟩
        have hr : r = most - (acc.length + 1) := by have := HRR.out; omega
        have HRE := hide hr
        rw [HRR.out] at HX
        clear g1 g2 hlm hr
        go_wp2_with fail
        refine (pterm_any b s q L T M _ HQ1.out HE1.out hb hq hs).mono ?_
        rintro e w2 ⟨ht, HFR⟩
        have HG2 : Hid (w.grownBy w2 (some b)) := fr_both HG1.out HFR
        have HO2 : Hid (w2.ownsRow w.heap.size 44 3 (.slice va acc.length vc) acc.length (termsV acc)) := own_far HO1.out HFR (fun g hg => by have := (own_blk HO1.out hg).1; simp; omega)
        clear HFR HG1 HO1 HE1 HQ1
        obtain ⟨F, HF⟩ : ∃ F, Hid (termF s.data.toList q = F) := ⟨_, (rfl : _ = _)⟩
        rw [HF.out] at ht
        cases F with
        | error er =>
          obtain ⟨ec, x⟩ := er
          have HRS : Hid (RES = .error (ec, x)) := by show _ = _; rw [HX.out]; exact listF_bad _ _ _ _ _ HB.out _ _ HF.out
          obtain ⟨t1, rfl⟩ := ht
          obtain ⟨tt, HTT⟩ : ∃ tt, Hid (str t1.text = tt) := ⟨_, (rfl : _ = _)⟩
          rw [show (termV t1).toArray = #[.bool t1.isVar, .string tt, .int .i64 (t1.place : Nat)] from by unfold termV; rw [HTT.out]]
          unfold errV
          go_wp2
          go_ret2
          rw [HRS.out]
          exact ⟨rfl, fr_both HG2.out (fr_alloc _ _ _)⟩
        | ok tq =>
          obtain ⟨t1, q1⟩ := tq
          obtain ⟨rfl, hrd⟩ := ht
          have HQ2 := hide hrd
          have hq1 := termF_le s q hq t1 q1 HF.out
          clear hrd
          obtain ⟨tt, HTT⟩ : ∃ tt, Hid (str t1.text = tt) := ⟨_, (rfl : _ = _)⟩
          have HTV : Hid (termV t1 = [.bool t1.isVar, .string tt, .int .i64 (t1.place : Nat)]) := by show _ = _; unfold termV; rw [HTT.out]
          rw [show (termV t1).toArray = #[.bool t1.isVar, .string tt, .int .i64 (t1.place : Nat)] from by rw [HTV.out]]
          have hwl : w.heap.size ≤ w2.heap.size := HG2.out.size
          go_wp2_with (at_builtin; refine wpList_append_own _ rfl _ _ 40 rfl w.heap.size 44 i0 (.agg #[.bool false, .string { data := #[] }, .int .i64 0]) 3 32 Tryz.underlying40 hi0 hz0 hz1 hz2 rfl (by decide) _ _ _ rfl ((HO2.out.alloc _).alloc _) ⟨w2.heap.size + 1, 0, none⟩ 1 1 [.bool t1.isVar, .string tt, .int .i64 (t1.place : Nat)] rfl rfl ?c1 ?c2 ?c3 ?c4 ?c5 ?_)
          case c1 =>
            intro j' u hj'
            have e : (⟨w2.heap.size + 1, 0, none⟩ : Addr).add j' = ⟨w2.heap.size + 1, j', none⟩ := by unfold Addr.add; split <;> simp_all
            rw [e]
            rw [World.cell?_alloc_at _ _ _ _ (by simp)]
            simpa using hj'
          case c2 => intro u hu; simp at hu; rcases hu with rfl | rfl | rfl <;> rfl
          case c3 => unfold maxLen; omega
          case c4 => omega
          case c5 => simp; omega
          intro v4 w4 hown4 hg4 _
          obtain ⟨a4, p4, rfl⟩ := own_form hown4
          have HQ4 : Hid (Rd w4 b s q1) := HQ2.out.far (app_block hg4 (by omega) (own_ne HO2.out (by omega)))
          have HG4 : Hid (w.grownBy w4 (some b)) := app_grown HG2.out HO2.out (Nat.le_refl _) hg4
          have HO4 : Hid (w4.ownsRow w.heap.size 44 3 (.slice a4 (acc.length + 1) p4) (acc ++ [t1]).length (termsV (acc ++ [t1]))) := by
            rw [← termsV_snoc, HTV.out, List.length_append]; exact hown4
          clear hown4 hg4 HQ2 HG2 HO2
          go_wp2_with fail
          refine (pcomma_any b s q1 _ HQ4.out hq1 hs).mono ?_
          rintro e w6 ⟨rfl, hrd, HFR⟩
          have HG6 : Hid (w.grownBy w6 (some b)) := fr_both HG4.out HFR.g
          have HO6 : Hid (w6.ownsRow w.heap.size 44 3 (.slice a4 (acc.length + 1) p4) (acc ++ [t1]).length (termsV (acc ++ [t1]))) := own_far HO4.out HFR.g (fun g hg => by have := (own_blk HO4.out hg).1; simp; omega)
          obtain ⟨S, HS⟩ : ∃ S, Hid (signF s.data.toList [44] q1 = S) := ⟨_, (rfl : _ = _)⟩
          rw [HS.out] at hrd ⊢
          have HQ6 := hide hrd
          clear hrd HFR HG4 HO4 HQ4
          cases S with
          | none =>
            have HRS : Hid (RES = .ok (acc ++ [t1], q1)) := by show _ = _; rw [HX.out]; exact listF_last _ _ _ _ _ HB.out _ _ _ HF.out HS.out
            go_wp2
            go_ret2
            rw [HRS.out]
            exact ⟨⟨_, rfl, HO6.out, HQ6.out⟩, HG6.out⟩
          | some q2 =>
            have HRS : Hid (RES = preL (acc ++ [t1]) (listF (atTermB s.data.toList) (termF s.data.toList) (signF s.data.toList [44]) (most - (acc ++ [t1]).length) q2)) := by
              show _ = _
              rw [HX.out, listF_more _ _ _ _ _ HB.out _ _ _ _ HF.out HS.out, HRE.out, List.length_append]; rfl
            have hq2 := signF_le s [44] q1 q2 HS.out (by simp)
            go_wp2_with fail
            go_roundw
            case rel => exact ⟨acc ++ [t1], q2, by simp; omega, hq2, HQ6, HO6, HG6, HRS⟩
            case measure => simp [lenV]; omega
end Go.Proofs.YtoelacloghkooaaGreatDoor

/-
  The program's parser: atom.
-/
namespace Go.Proofs.YtoelacloghkooaaGreatDoor
open Go.ChangeShapes Go.WideShapes Go.ChangeAt Go.RowKit
set_option linter.unusedVariables false
def AtomP (L T M : Addr) (base b : Nat) (s : ByteArray) (r : Except PErr (PAtom × Nat)) (en : Ending) (w' : World) : Prop := match r with
  | .error (e, x) => ∃ nm va n c pl, en = .returned (.tuple #[.agg #[.string nm, .slice va n c, .int .i64 pl], errV L T M e x])
  | .ok (a, q) => ∃ v, en = .returned (.tuple #[.agg #[.string (str a.name), v, .int .i64 (a.place : Nat)], .nilIface]) ∧ w'.ownsRow base 44 3 v a.args.length (termsV a.args) ∧ Rd w' b s (q : Nat)
def atomZ : List Value := [.string { data := #[] }, .slice none 0 0, .int .i64 0]
theorem args_le (s : ByteArray) : ∀ (n p : Nat) (xs : List PTerm) (q : Nat), p ≤ s.size → listF (atTermB s.data.toList) (termF s.data.toList) (signF s.data.toList [44]) n p = .ok (xs, q) → q ≤ s.size := by
  intro n
  induction n with
  | zero => intro p xs q hp h; unfold listF at h; split at h <;> cases h
  | succ n ih =>
    intro p xs q hp h
    unfold listF at h
    split at h
    · cases ht : termF s.data.toList p with
      | error e => rw [ht] at h; cases h
      | ok tq =>
        obtain ⟨t, q1⟩ := tq
        rw [ht] at h
        have hq1 := termF_le s p hp t q1 ht
        simp only [] at h
        cases hs : signF s.data.toList [44] q1 with
        | none => rw [hs] at h; cases h; exact hq1
        | some r =>
          rw [hs] at h
          simp only [] at h
          have hr := signF_le s [44] q1 r hs (by simp)
          cases hl : listF (atTermB s.data.toList) (termF s.data.toList) (signF s.data.toList [44]) n r with
          | error e => rw [hl] at h; cases h
          | ok v =>
            obtain ⟨ys, r2⟩ := v
            rw [hl] at h
            cases h
            exact ih r ys q hr hl
    · cases h
set_option maxRecDepth 100000 in
set_option maxHeartbeats 4000000 in
theorem patom_any (b : Nat) (s : ByteArray) (p : Nat) (L T M : Addr) (w : World) (h : Rd w b s p) (hE : Errs w L T M) (hb : gTop ≤ b) (hp : p ≤ s.size) (hs : s.size ≤ 1073741824) :
    Calls Tryz.prog 77 #[.pointer (some ⟨b, 0, none⟩)] w fun en w' => AtomP L T M w.heap.size b s (atomF s.data.toList p) en w' ∧ w.grownBy w' (some b) := by
  have hbw := h.lt
  have HR := hide h
  have HE := hide hE
  have hbX : ¬ b = w.heap.size := by omega
  clear h hE
  go_enter Tryz.func77, Tryz.ntmps77
  go_wp2_with fail
  generalize hw0 : World.alloc _ _ = w0
  have HX0 : Hid (Box w0 w.heap.size atomZ) := by rw [← hw0]; exact Box.new _ _ _
  have HR0 : Hid (Rd w0 b s p) := by rw [← hw0]; exact HR.out.far (Below.heap_alloc _ _ _ hbw)
  have HE0 : Hid (Errs w0 L T M) := by rw [← hw0]; exact HE.out.grown (fr_alloc _ _ (some b)) hb
  have HG0 : Hid (w.grownBy w0 (some b)) := by rw [← hw0]; exact fr_alloc _ _ _
  clear hw0 HR HE
  refine (patName_any b s p _ HR0.out hp hs).mono ?_
  rintro e w1 ⟨rfl, n, rfl⟩
  have HX1 : Hid (Box (w0.drewN n) w.heap.size atomZ) := HX0.out.grown (by simp [atomZ]) (fr_draws _ _ none) (by simp)
  have HR1 : Hid (Rd (w0.drewN n) b s p) := HR0.out.drewN _
  have HE1 : Hid (Errs (w0.drewN n) L T M) := HE0.out.drewN _
  have HG1 : Hid (w.grownBy (w0.drewN n) (some b)) := fr_both HG0.out (fr_draws _ _ _)
  generalize w0.drewN n = w1 at *
  clear HX0 HR0 HE0 HG0
  have hX1 : w.heap.size < w1.heap.size := HX1.out.lt (by simp [atomZ])
  obtain ⟨B, HB⟩ : ∃ B, Hid (atNameB s.data.toList p = B) := ⟨_, (rfl : _ = _)⟩
  rw [HB.out]
  cases B with
  | false =>
    have x0 := HX1.out.c 0 _ rfl
    have x1 := HX1.out.c 1 _ rfl
    have x2 := HX1.out.c 2 _ rfl
    have y0 := HX1.out.f 0 _ rfl
    have y1 := HX1.out.f 1 _ rfl
    have y2 := HX1.out.f 2 _ rfl
    obtain ⟨c0, c1, f1⟩ := HR1.out
    have g1 := HE1.out.gt
    have HT : Hid (atomF s.data.toList p = .error (2, p)) := by show _ = _; rw [atomF_is, HB.out]; rfl
    have HFL : Hid (∀ wx : World, Rd wx b s p → Calls Tryz.prog 68 #[.pointer (some ⟨b, 0, none⟩), .iface 246 (.pointer (some T))] wx fun e w' => e = .returned (.iface 119 (.agg #[.iface 246 (.pointer (some T)), .int .i64 (p : Nat)])) ∧ wx = w') := fun wx h => pfail_any b s p T wx h
    have HRD : Hid (∀ n, Rd (w1.drewN n) b s p) := fun n => HR1.out.drewN n
    go_wp2_with fail
    go_region_law (first | (go_simp; go_at_call 68; refine (HFL.out _ (HRD.out 0)).mono ?_; rintro e w3 ⟨rfl, rfl⟩) | (go_simp; go_at_call 68; refine (HFL.out _ (HRD.out 1)).mono ?_; rintro e w3 ⟨rfl, rfl⟩))
    all_goals
      go_simp
      go_wp2
      refine bodyPost_ret (v := .tuple #[.agg #[.string { data := #[] }, .slice none 0 0, .int .i64 0], .iface 119 (.agg #[.iface 246 (.pointer (some T)), .int .i64 (p : Nat)])]) (by simp [results, Tryz.results77, go_sem, x0, x1, x2]) rfl ⟨?_, ?_⟩
      · rw [HT.out]; exact ⟨_, _, _, _, _, rfl⟩
      · exact fr_new (fr_new (fr_new (fr_both HG1.out (fr_draws _ _ _)) (Nat.le_refl _) _ _) (Nat.le_refl _) _ _) (Nat.le_refl _) _ _
  | true =>
    obtain ⟨W, HWW⟩ : ∃ W, Hid (str (wordAt s.data.toList p) = W) := ⟨_, (rfl : _ = _)⟩
    have HWS : Hid (W.size = (wordAt s.data.toList p).length) := by show _ = _; rw [← HWW.out, str_size]
    have hle : p + W.size ≤ s.size := by rw [HWS.out]; exact word_le s p hp
    have HT : Hid (atomF s.data.toList p = restF s.data.toList (wordAt s.data.toList p) p (skipTo s.data.toList (p + W.size))) := by show _ = _; rw [atomF_is, HB.out, HWS.out]; rfl
    have HWD : Hid (∀ wx : World, (∃ n, wx = w1.drewN n) → Calls Tryz.prog 76 #[.pointer (some ⟨b, 0, none⟩)] wx fun e w' => e = .returned (.string W) ∧ Hid (∃ m, w' = w1.drewN m) ∧ w'.cell? ⟨b, 1, none⟩ = some (.int .i64 (p : Nat)) ∧ w'.heap.size = w1.heap.size ∧ (w'.alloc (.cells #[.string { data := #[] }, .slice none 0 0, .int .i64 0] 42)).cell? ⟨b, 1, none⟩ = some (.int .i64 (p : Nat)) ∧
        (w'.alloc (.cells #[.string { data := #[] }, .slice none 0 0, .int .i64 0] 42)).cell? ⟨w1.heap.size, 0, none⟩ = some (.string { data := #[] }) ∧ (w'.alloc (.cells #[.string { data := #[] }, .slice none 0 0, .int .i64 0] 42)).cell? ⟨w1.heap.size, 1, none⟩ = some (.slice none 0 0) ∧ (w'.alloc (.cells #[.string { data := #[] }, .slice none 0 0, .int .i64 0] 42)).cell? ⟨w1.heap.size, 2, none⟩ = some (.int .i64 0) ∧
        (w'.alloc (.cells #[.string { data := #[] }, .slice none 0 0, .int .i64 0] 42)).frozen? ⟨w1.heap.size, 0, none⟩ = false ∧ (w'.alloc (.cells #[.string { data := #[] }, .slice none 0 0, .int .i64 0] 42)).frozen? ⟨w1.heap.size, 1, none⟩ = false ∧ (w'.alloc (.cells #[.string { data := #[] }, .slice none 0 0, .int .i64 0] 42)).frozen? ⟨w1.heap.size, 2, none⟩ = false) := by
      rintro wx ⟨n, rfl⟩
      refine (pwordAt_any b s p _ (HR1.out.drewN n) hp hs).mono ?_
      rintro e w2 ⟨rfl, m, rfl⟩
      have hbx := Box.at ((w1.drewN n).drewN m) w1.heap.size [.string { data := #[] }, .slice none 0 0, .int .i64 0] 42 rfl
      exact ⟨by rw [HWW.out], ⟨n + m, by rw [World.drewN_drewN]⟩, HR1.out.c1, rfl, (World.cell?_of_block (a := ⟨b, 1, none⟩) (Below.heap_alloc _ _ _ (by show b < w1.heap.size; omega))).trans HR1.out.c1, hbx.c 0 _ rfl, hbx.c 1 _ rfl, hbx.c 2 _ rfl, hbx.f 0 _ rfl, hbx.f 1 _ rfl, hbx.f 2 _ rfl⟩
    have HWD2 : Hid (∀ wx : World, (∃ n, wx = (w1.alloc (.cells #[.string { data := #[] }, .slice none 0 0, .int .i64 0] 42)).drewN n) → Calls Tryz.prog 76 #[.pointer (some ⟨b, 0, none⟩)] wx fun e w' => e = .returned (.string W) ∧ Hid (∃ m, w' = (w1.alloc (.cells #[.string { data := #[] }, .slice none 0 0, .int .i64 0] 42)).drewN m) ∧ w'.cell? ⟨b, 1, none⟩ = some (.int .i64 (p : Nat)) ∧
        w'.cell? ⟨w1.heap.size, 0, none⟩ = some (.string { data := #[] }) ∧ w'.cell? ⟨w1.heap.size, 1, none⟩ = some (.slice none 0 0) ∧ w'.cell? ⟨w1.heap.size, 2, none⟩ = some (.int .i64 0) ∧
        w'.frozen? ⟨w1.heap.size, 0, none⟩ = false ∧ w'.frozen? ⟨w1.heap.size, 1, none⟩ = false ∧ w'.frozen? ⟨w1.heap.size, 2, none⟩ = false) := by
      rintro wx ⟨n, rfl⟩
      have hbx := Box.new w1 [.string { data := #[] }, .slice none 0 0, .int .i64 0] 42
      have hrd : Rd (w1.alloc (.cells #[.string { data := #[] }, .slice none 0 0, .int .i64 0] 42)) b s p := HR1.out.far (Below.heap_alloc _ _ _ (by omega))
      refine (pwordAt_any b s p _ (hrd.drewN n) hp hs).mono ?_
      rintro e w2 ⟨rfl, m, rfl⟩
      exact ⟨by rw [HWW.out], ⟨n + m, by rw [World.drewN_drewN]⟩, hrd.c1, hbx.c 0 _ rfl, hbx.c 1 _ rfl, hbx.c 2 _ rfl, hbx.f 0 _ rfl, hbx.f 1 _ rfl, hbx.f 2 _ rfl⟩
    have c1 := HR1.out.c1
    have hb1 : b < w1.heap.size := by omega
    have c1b : (w1.alloc (.cells #[.string { data := #[] }, .slice none 0 0, .int .i64 0] 42)).cell? ⟨b, 1, none⟩ = some (.int .i64 (p : Nat)) := (World.cell?_of_block (a := ⟨b, 1, none⟩) (Below.heap_alloc _ _ _ hb1)).trans c1
    go_upto_region 3 with fail
    go_cut [4] (fun a wc => Hid (a = .pointer (some ⟨w1.heap.size, 0, none⟩)) ∧ Hid (Box wc w1.heap.size [.string W, .slice none 0 0, .int .i64 (p : Nat)]) ∧ Hid (w1.grownBy wc none))
    case first =>
      go_region_law (first | (go_simp; go_at_call 76; refine (HWD.out _ ⟨0, rfl⟩).mono ?_; rintro e w3 ⟨rfl, HW3, kb, kz, kb2, k0, k1, k2, z0, z1, z2⟩) | (go_simp; go_at_call 76; refine (HWD.out _ ⟨1, rfl⟩).mono ?_; rintro e w3 ⟨rfl, HW3, kb, kz, kb2, k0, k1, k2, z0, z1, z2⟩) | (go_simp; go_at_call 76; refine (HWD2.out _ ⟨1, rfl⟩).mono ?_; rintro e w3 ⟨rfl, HW3, kb, k0, k1, k2, z0, z1, z2⟩))
      all_goals go_wp2_with fail
      all_goals go_meet
      all_goals first
        | (have kzz := kz
           refine ⟨rfl, Box.at _ _ _ _ kzz.symm, fr_both ?_ (fr_alloc _ _ _)⟩
           obtain ⟨m, e⟩ := HW3.out
           rw [e]; exact fr_draws _ _ _)
        | (have hb3 : Box w3 w1.heap.size [.string { data := #[] }, .slice none 0 0, .int .i64 0] := by
             obtain ⟨m, e⟩ := HW3.out
             rw [e]; exact (Box.new _ _ _).grown (by simp) (fr_draws _ _ none) (by simp)
           have hg3 : w1.grownBy w3 none := by
             obtain ⟨m, e⟩ := HW3.out
             rw [e]; exact fr_both (fr_alloc _ _ _) (fr_draws _ _ _)
           exact ⟨rfl, ((hb3.set 0 _ (.string W) rfl).set 1 _ (.slice none 0 0) rfl).set 2 _ (.int .i64 (p : Nat)) rfl, fr_new (fr_new (fr_new hg3 (Nat.le_refl _) _ _) (Nat.le_refl _) _ _) (Nat.le_refl _) _ _⟩)
    case rest =>
      obtain ⟨HAE, HAc, HNc⟩ := hcut
      have hae := HAE.out
      subst hae
      have HXc : Hid (Box wc w.heap.size atomZ) := HX1.out.grown (by simp [atomZ]) HNc.out (by simp)
      have HRc : Hid (Rd wc b s p) := HR1.out.other HNc.out (by simp)
      have HEc : Hid (Errs wc L T M) := HE1.out.grown (fr_both (fr_refl w1 (some b)) ⟨HNc.out.os, HNc.out.tape, HNc.out.output, HNc.out.size, fun k hk _ => HNc.out.block k hk (by simp)⟩) hb
      have HGc : Hid (w.grownBy wc (some b)) := fr_trans HG1.out HNc.out (fun g hg => by cases hg)
      obtain ⟨A, HA⟩ : ∃ A, Hid (w1.heap.size = A) := ⟨_, (rfl : _ = _)⟩
      have hAw : w.heap.size < A := by rw [← HA.out]; exact hX1
      rw [HA.out] at HAc ⊢
      have hAc : A < wc.heap.size := HAc.out.lt (by simp)
      have hbA : ¬ b = A := by omega
      clear HX1 HR1 HE1 HG1 HNc HWD HWD2 c1 c1b hb1
      obtain ⟨q1, HQ1⟩ : ∃ q1, Hid (skipTo s.data.toList (p + W.size) = q1) := ⟨_, (rfl : _ = _)⟩
      have hq1 : q1 ≤ s.size := by rw [← HQ1.out]; exact skip_le s _ hle
      rw [HQ1.out] at HT
      have a0 := HAc.out.c 0 _ rfl
      have HMV : Hid (∀ wx : World, (∃ n, wx = wc.drewN n) → Calls Tryz.prog 75 #[.pointer (some ⟨b, 0, none⟩), .int .i64 (W.size : Nat)] wx fun e w' => e = .returned (.tuple #[]) ∧ Hid (Rd w' b s (q1 : Nat)) ∧ Hid (RFr wc w' b) ∧ w'.cell? ⟨A, 0, none⟩ = some (.string W)) := by
        rintro wx ⟨n, rfl⟩
        refine (pmove_any b s p W.size _ (HRc.out.drewN n) hle hs).mono ?_
        rintro e w2 ⟨rfl, hr, hf⟩
        rw [HQ1.out] at hr
        exact ⟨rfl, hr, (RFr.draws _ _ _).trans hf, (World.cell?_of_block (a := ⟨A, 0, none⟩) (hf.block A (fun e => hbA e.symm))).trans a0⟩
      go_wp2_with fail
      go_region_held3 (fun w' => w'.cell? ⟨A, 0, none⟩ = some (.string W)) (go_keep) (first | (go_at_call 75; refine (HMV.out _ ⟨_, rfl⟩).mono ?_; rintro e w2 ⟨rfl, HR2, HF2, k2⟩))
      have HX2 : Hid (Box w2 w.heap.size atomZ) := HXc.out.grown (by simp [atomZ]) HF2.out.g (by simp; omega)
      have HA2 : Hid (Box w2 A [.string W, .slice none 0 0, .int .i64 (p : Nat)]) := HAc.out.grown (by simp) HF2.out.g (by simp; omega)
      have HE2 : Hid (Errs w2 L T M) := HEc.out.grown HF2.out.g hb
      have HG2 : Hid (w.grownBy w2 (some b)) := fr_both HGc.out HF2.out.g
      clear HXc HAc HEc HGc HF2 HMV HRc k2 a0
      go_wp2_with fail
      refine (ptake_any b s (str [40]) q1 _ HR2.out hq1 hs).mono ?_
      rintro e w3 ⟨rfl, hrd, HFR⟩
      rw [data_str] at hrd ⊢
      have HX3 : Hid (Box w3 w.heap.size atomZ) := HX2.out.grown (by simp [atomZ]) HFR.g (by simp; omega)
      have HA3 : Hid (Box w3 A [.string W, .slice none 0 0, .int .i64 (p : Nat)]) := HA2.out.grown (by simp) HFR.g (by simp; omega)
      have HE3 : Hid (Errs w3 L T M) := HE2.out.grown HFR.g hb
      have HG3 : Hid (w.grownBy w3 (some b)) := fr_both HG2.out HFR.g
      obtain ⟨S, HS⟩ : ∃ S, Hid (signF s.data.toList [40] q1 = S) := ⟨_, (rfl : _ = _)⟩
      rw [HS.out] at hrd ⊢
      have HR3 := hide hrd
      clear hrd HFR HX2 HA2 HE2 HG2 HR2
      cases S with
      | none =>
        have HT2 : Hid (atomF s.data.toList p = .ok (⟨wordAt s.data.toList p, [], p⟩, q1)) := by show _ = _; rw [HT.out]; unfold restF; rw [HS.out]
        have x0 := HX3.out.c 0 _ rfl
        have x1 := HX3.out.c 1 _ rfl
        have x2 := HX3.out.c 2 _ rfl
        have y0 := HX3.out.f 0 _ rfl
        have y1 := HX3.out.f 1 _ rfl
        have y2 := HX3.out.f 2 _ rfl
        have a0 := HA3.out.c 0 _ rfl
        have a1 := HA3.out.c 1 _ rfl
        have a2 := HA3.out.c 2 _ rfl
        go_wp2
        refine bodyPost_ret (v := .tuple #[.agg #[.string W, .slice none 0 0, .int .i64 (p : Nat)], .nilIface]) (by simp [results, Tryz.results77, go_sem, x0, x1, x2]) rfl ⟨?_, ?_⟩
        · rw [HT2.out]
          refine ⟨.slice none 0 0, by rw [HWW.out], World.ownsRow_nil _ _ _ _, ?_⟩
          exact HR3.out.far (by rw [Below.heap_setCell _ _ _ _ hbX, Below.heap_setCell _ _ _ _ hbX, Below.heap_setCell _ _ _ _ hbX])
        · exact fr_new (fr_new (fr_new HG3.out (Nat.le_refl _) _ _) (Nat.le_refl _) _ _) (Nat.le_refl _) _ _
      | some q2 =>
        have hq2 := signF_le s [40] q1 q2 HS.out (by simp)
        have HR3b : Hid (Rd w3 b s (q2 : Nat)) := HR3.out
        have hw3 : w.heap.size < w3.heap.size := HX3.out.lt (by simp [atomZ])
        clear HR3
        go_wp2_with fail
        refine (plistT_any b s q2 8 L T M _ HR3b.out HE3.out hb hq2 hs (by omega)).mono ?_
        rintro e w4 ⟨hl, HFR⟩
        have HX4 : Hid (Box w4 w.heap.size atomZ) := HX3.out.grown (by simp [atomZ]) HFR (by simp; omega)
        have HA4 : Hid (Box w4 A [.string W, .slice none 0 0, .int .i64 (p : Nat)]) := HA3.out.grown (by simp) HFR (by simp; omega)
        have HE4 : Hid (Errs w4 L T M) := HE3.out.grown HFR hb
        have HG4 : Hid (w.grownBy w4 (some b)) := fr_both HG3.out HFR
        have hA3 : A < w3.heap.size := HA3.out.lt (by simp)
        clear HFR HX3 HA3 HE3 HG3 HR3b
        obtain ⟨F, HF⟩ : ∃ F, Hid (listF (atTermB s.data.toList) (termF s.data.toList) (signF s.data.toList [44]) 8 q2 = F) := ⟨_, (rfl : _ = _)⟩
        rw [HF.out] at hl
        have x0 := HX4.out.c 0 _ rfl
        have x1 := HX4.out.c 1 _ rfl
        have x2 := HX4.out.c 2 _ rfl
        have y0 := HX4.out.f 0 _ rfl
        have y1 := HX4.out.f 1 _ rfl
        have y2 := HX4.out.f 2 _ rfl
        have a0 := HA4.out.c 0 _ rfl
        have a1 := HA4.out.c 1 _ rfl
        have a2 := HA4.out.c 2 _ rfl
        have b1 := HA4.out.f 1 _ rfl
        cases F with
        | error er =>
          obtain ⟨ec, x⟩ := er
          have hl' : e = .returned (.tuple #[.slice none 0 0, errV L T M ec x]) := hl
          subst hl'
          have HT2 : Hid (atomF s.data.toList p = .error (ec, x)) := by show _ = _; rw [HT.out]; unfold restF; rw [HS.out]; simp only [HF.out]
          unfold errV
          go_wp2
          refine bodyPost_ret (v := .tuple #[.agg #[.string { data := #[] }, .slice none 0 0, .int .i64 0], .iface 119 (.agg #[.iface 246 (.pointer (some (errA L T M ec))), .int .i64 (x : Nat)])]) (by simp [results, Tryz.results77, go_sem, x0, x1, x2]) rfl ⟨?_, ?_⟩
          · rw [HT2.out]; exact ⟨_, _, _, _, _, rfl⟩
          · exact fr_new (fr_new (fr_new HG4.out (Nat.le_refl _) _ _) (Nat.le_refl _) _ _) (Nat.le_refl _) _ _
        | ok lv =>
          obtain ⟨xs, q3⟩ := lv
          obtain ⟨v, rfl, hown, hrd⟩ := hl
          obtain ⟨va, vc, rfl⟩ := own_form hown
          have hq3 := args_le s 8 q2 xs q3 hq2 HF.out
          have HO4 := hide hown
          have HR4 := hide hrd
          clear hown hrd
          go_upto_region 11 with fail
          generalize hw5 : World.setCell _ _ _ = w5
          have HA5 : Hid (Box w5 A [.string W, .slice va xs.length vc, .int .i64 (p : Nat)]) := by rw [← hw5]; exact HA4.out.set 1 _ _ rfl
          have HX5 : Hid (Box w5 w.heap.size atomZ) := by rw [← hw5]; exact HX4.out.grown (by simp [atomZ]) (fr_set _ _ _ _) (by simp; omega)
          have HR5 : Hid (Rd w5 b s q3) := by rw [← hw5]; exact HR4.out.other (fr_set _ _ _ _) (by simp; omega)
          have HE5 : Hid (Errs w5 L T M) := by rw [← hw5]; exact HE4.out.grown (fr_set _ _ _ _) (by omega)
          have HG5 : Hid (w.grownBy w5 (some b)) := by rw [← hw5]; exact fr_new HG4.out (by omega) _ _
          have HO5 : Hid (w5.ownsRow w3.heap.size 44 3 (.slice va xs.length vc) xs.length (termsV xs)) := by rw [← hw5]; exact own_other HO4.out hA3 _ _
          clear hw5 HA4 HX4 HR4 HE4 HG4 HO4 x0 x1 x2 y0 y1 y2 a0 a1 a2 b1
          have x0 := HX5.out.c 0 _ rfl
          have x1 := HX5.out.c 1 _ rfl
          have x2 := HX5.out.c 2 _ rfl
          have y0 := HX5.out.f 0 _ rfl
          have y1 := HX5.out.f 1 _ rfl
          have y2 := HX5.out.f 2 _ rfl
          have a0 := HA5.out.c 0 _ rfl
          have a1 := HA5.out.c 1 _ rfl
          have a2 := HA5.out.c 2 _ rfl
          obtain ⟨S3, HS3⟩ : ∃ S3, Hid (signF s.data.toList [41] q3 = S3) := ⟨_, (rfl : _ = _)⟩
          cases S3 with
          | none =>
            have HT2 : Hid (atomF s.data.toList p = .error (2, q3)) := by show _ = _; rw [HT.out]; unfold restF; rw [HS.out]; simp only [HF.out, HS3.out]
            have HWT : Hid (∀ wx : World, (∃ n, wx = w5.drewN n) → Calls Tryz.prog 67 #[.pointer (some ⟨b, 0, none⟩), .string { data := #[41] }] wx fun e w' => e = .returned (errV L T M 2 q3) ∧ Hid (RFr w5 w' b) ∧ w'.cell? ⟨A, 0, none⟩ = some (.string W) ∧ w'.cell? ⟨A, 1, none⟩ = some (.slice va xs.length vc) ∧ w'.cell? ⟨A, 2, none⟩ = some (.int .i64 (p : Nat)) ∧ w'.cell? ⟨w.heap.size, 0, none⟩ = some (.string { data := #[] }) ∧ w'.cell? ⟨w.heap.size, 1, none⟩ = some (.slice none 0 0) ∧ w'.cell? ⟨w.heap.size, 2, none⟩ = some (.int .i64 0) ∧ w'.frozen? ⟨w.heap.size, 0, none⟩ = false ∧ w'.frozen? ⟨w.heap.size, 1, none⟩ = false ∧ w'.frozen? ⟨w.heap.size, 2, none⟩ = false) := by
              rintro wx ⟨n, rfl⟩
              refine (pwant_any b s (str [41]) q3 L T M _ (HR5.out.drewN n) (HE5.out.drewN n) hb hq3 hs).mono ?_
              rintro e w6 ⟨he, hf⟩
              rw [data_str, HS3.out] at he
              have hA6 := HA5.out.grown (by simp) ((RFr.draws w5 b n).trans hf).g (by simp; omega)
              have hX6 := HX5.out.grown (by simp [atomZ]) ((RFr.draws w5 b n).trans hf).g (by simp; omega)
              exact ⟨he, (RFr.draws _ _ _).trans hf, hA6.c 0 _ rfl, hA6.c 1 _ rfl, hA6.c 2 _ rfl, hX6.c 0 _ rfl, hX6.c 1 _ rfl, hX6.c 2 _ rfl, hX6.f 0 _ rfl, hX6.f 1 _ rfl, hX6.f 2 _ rfl⟩
            go_wp2_with fail
            go_region_law (first | (go_simp; go_at_call 67; refine (HWT.out _ ⟨0, rfl⟩).mono ?_; rintro e w6 ⟨rfl, HP6, m0, m1, m2, n0, n1, n2, o0, o1, o2⟩) | (go_simp; go_at_call 67; refine (HWT.out _ ⟨1, rfl⟩).mono ?_; rintro e w6 ⟨rfl, HP6, m0, m1, m2, n0, n1, n2, o0, o1, o2⟩))
            all_goals
              go_simp
              go_wp2
              refine bodyPost_ret (v := .tuple #[.agg #[.string W, .slice va xs.length vc, .int .i64 (p : Nat)], errV L T M 2 q3]) (by simp [results, Tryz.results77, go_sem, n0, n1, n2]) rfl ⟨?_, ?_⟩
              · rw [HT2.out]; exact ⟨_, _, _, _, _, rfl⟩
              · exact fr_new (fr_new (fr_new (fr_both HG5.out HP6.out.g) (Nat.le_refl _) _ _) (Nat.le_refl _) _ _) (Nat.le_refl _) _ _
          | some q4 =>
            have HT2 : Hid (atomF s.data.toList p = .ok (⟨wordAt s.data.toList p, xs, p⟩, q4)) := by show _ = _; rw [HT.out]; unfold restF; rw [HS.out]; simp only [HF.out, HS3.out]
            have HWT : Hid (∀ wx : World, (∃ n, wx = w5.drewN n) → Calls Tryz.prog 67 #[.pointer (some ⟨b, 0, none⟩), .string { data := #[41] }] wx fun e w' => e = .returned (.nilIface) ∧ Hid (Rd w' b s (q4 : Nat) ∧ RFr w5 w' b) ∧ w'.cell? ⟨A, 0, none⟩ = some (.string W) ∧ w'.cell? ⟨A, 1, none⟩ = some (.slice va xs.length vc) ∧ w'.cell? ⟨A, 2, none⟩ = some (.int .i64 (p : Nat)) ∧ w'.cell? ⟨w.heap.size, 0, none⟩ = some (.string { data := #[] }) ∧ w'.cell? ⟨w.heap.size, 1, none⟩ = some (.slice none 0 0) ∧ w'.cell? ⟨w.heap.size, 2, none⟩ = some (.int .i64 0) ∧ w'.frozen? ⟨w.heap.size, 0, none⟩ = false ∧ w'.frozen? ⟨w.heap.size, 1, none⟩ = false ∧ w'.frozen? ⟨w.heap.size, 2, none⟩ = false) := by
              rintro wx ⟨n, rfl⟩
              refine (pwant_any b s (str [41]) q3 L T M _ (HR5.out.drewN n) (HE5.out.drewN n) hb hq3 hs).mono ?_
              rintro e w6 ⟨he, hf⟩
              rw [data_str, HS3.out] at he
              have hA6 := HA5.out.grown (by simp) ((RFr.draws w5 b n).trans hf).g (by simp; omega)
              have hX6 := HX5.out.grown (by simp [atomZ]) ((RFr.draws w5 b n).trans hf).g (by simp; omega)
              exact ⟨he.1, ⟨he.2, (RFr.draws _ _ _).trans hf⟩, hA6.c 0 _ rfl, hA6.c 1 _ rfl, hA6.c 2 _ rfl, hX6.c 0 _ rfl, hX6.c 1 _ rfl, hX6.c 2 _ rfl, hX6.f 0 _ rfl, hX6.f 1 _ rfl, hX6.f 2 _ rfl⟩
            go_wp2_with fail
            go_region_law (first | (go_simp; go_at_call 67; refine (HWT.out _ ⟨0, rfl⟩).mono ?_; rintro e w6 ⟨rfl, HP6, m0, m1, m2, n0, n1, n2, o0, o1, o2⟩) | (go_simp; go_at_call 67; refine (HWT.out _ ⟨1, rfl⟩).mono ?_; rintro e w6 ⟨rfl, HP6, m0, m1, m2, n0, n1, n2, o0, o1, o2⟩))
            all_goals
              go_simp
              go_wp2
              refine bodyPost_ret (v := .tuple #[.agg #[.string W, .slice va xs.length vc, .int .i64 (p : Nat)], .nilIface]) (by simp [results, Tryz.results77, go_sem, n0, n1, n2]) rfl ⟨?_, ?_⟩
              · rw [HT2.out]
                refine ⟨_, by rw [HWW.out], ?_, ?_⟩
                · refine own_lower (own_other (own_other (own_other (own_far HO5.out HP6.out.2.g ?_) hw3 _ _) hw3 _ _) hw3 _ _) (by omega)
                  intro g hg
                  have := (own_blk HO5.out hg).1
                  simp; omega
                · exact HP6.out.1.far (by rw [Below.heap_setCell _ _ _ _ hbX, Below.heap_setCell _ _ _ _ hbX, Below.heap_setCell _ _ _ _ hbX])
              · exact fr_new (fr_new (fr_new (fr_both HG5.out HP6.out.2.g) (Nat.le_refl _) _ _) (Nat.le_refl _) _ _) (Nat.le_refl _) _ _
end Go.Proofs.YtoelacloghkooaaGreatDoor
