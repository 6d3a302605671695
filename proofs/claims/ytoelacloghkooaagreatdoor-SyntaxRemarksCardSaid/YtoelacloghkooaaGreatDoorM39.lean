import Derived.Test.YtoelacloghkooaaGreatDoorM38
import Derived.Test.YtoelacloghkooaaGreatDoorM37
import Derived.Test.YtoelacloghkooaaGreatDoorM24
import Derived.Test.YtoelacloghkooaaGreatDoorM25
import Derived.Test.YtoelacloghkooaaGreatDoorM27
/-
  The document's ReadQuery, walked.
-/
namespace Go.Proofs.YtoelacloghkooaaGreatDoor
open Go.ChangeShapes Go.WideShapes Go.ChangeAt Go.RowKit
set_option linter.unusedVariables false
/-- an answer of parts, or an error and its place -/
def PartsR (tT tP : TypeId) (base : Nat) (r : Except PErr (List PPart)) (en : Ending) (w : World) : Prop := match r with
  | .error (e, x) => en = .returned (.tuple #[.slice none 0 0, .int .i64 (e : Nat), .int .i64 (x : Nat)])
  | .ok ps => ∃ v vs, en = .returned (.tuple #[v, .int .i64 0, .int .i64 0]) ∧ PartsAt tT tP base w v ps vs
end Go.Proofs.YtoelacloghkooaaGreatDoor

/-
  SyntaxQueries' walk.
-/
namespace Go.Proofs.YtoelacloghkooaaGreatDoor
open Go.ChangeShapes Go.WideShapes Go.ChangeAt Go.RowKit
set_option linter.unusedVariables false
set_option maxRecDepth 100000 in
set_option maxHeartbeats 400000 in
theorem num_at (n : Int) (w : World) : Calls Tryz.prog 10 #[.int .i64 n] w fun e w' => e = .returned (.int .i64 n) ∧ w = w' := by
  go_enter Tryz.func10, Tryz.ntmps10
  go_wp2
  go_ret
  exact ⟨rfl, rfl⟩
/-- the three answers of a query, with an error or without -/
def psOf : Except PErr (List PPart) → List PPart
  | .error _ => []
  | .ok ps => ps
def eOf {α : Type} : Except PErr α → Nat
  | .error (e, _) => e
  | .ok _ => 0
def xOf {α : Type} : Except PErr α → Nat
  | .error (_, x) => x
  | .ok _ => 0
theorem partsQ_of {base : Nat} {r : Except PErr (List PPart)} {en : Ending} {w : World} (h : PartsQ base r en w) : ∃ v vs, en = .returned (.tuple #[v, .int .i64 (eOf r : Nat), .int .i64 (xOf r : Nat)]) ∧ PartsAt 44 46 base w v (psOf r) vs := by
  cases r with
  | error er => obtain ⟨e, x⟩ := er; exact ⟨_, _, h, PartsAt.nil _ _ _ _⟩
  | ok ps => exact h
theorem partsR_of {tT tP : TypeId} {base : Nat} {r : Except PErr (List PPart)} {en : Ending} {w : World} (h : PartsR tT tP base r en w) : ∃ v vs, en = .returned (.tuple #[v, .int .i64 (eOf r : Nat), .int .i64 (xOf r : Nat)]) ∧ PartsAt tT tP base w v (psOf r) vs := by
  cases r with
  | error er => obtain ⟨e, x⟩ := er; exact ⟨_, _, h, PartsAt.nil _ _ _ _⟩
  | ok ps => exact h
theorem ErrB.below {w w' : World} {L T M : Addr} {B : Nat} (h : ErrB w L T M) (hg : Below B w w') (hb : w.heap.size ≤ B) : ErrB w' L T M := by
  have k : ∀ a : Addr, (∃ c t, w.heap[a.block]? = some (.cells c t (0, 0))) → ∃ c t, w'.heap[a.block]? = some (.cells c t (0, 0)) := fun a ⟨c, t, h⟩ => ⟨c, t, by rw [hg.block _ (Nat.lt_of_lt_of_le (Array.getElem?_eq_some_iff.1 h).1 hb)]; exact h⟩
  exact ⟨k _ h.l, k _ h.t, k _ h.m⟩
theorem below_fresh {w w' : World} (h : w.grownBy w' none) : Below w.heap.size w w' := ⟨h.os, h.tape, h.output, h.size, fun k hk => h.block k hk (by simp)⟩
theorem fresh_below {w w' : World} (h : Below w.heap.size w w') : w.grownBy w' none := ⟨h.os, h.tape, h.output, h.size, fun k hk _ => h.block k hk⟩
theorem psOf_len (l : List UInt8) : (psOf (queryF l)).length ≤ 12 ∧ ∀ x ∈ psOf (queryF l), x.atom.args.length ≤ 8 := by
  cases h : queryF l with
  | error er => simp [psOf]
  | ok ps => exact queryF_len l ps h
end Go.Proofs.YtoelacloghkooaaGreatDoor

/-
  SyntaxParses' walk.
-/
namespace Go.Proofs.YtoelacloghkooaaGreatDoor
open Go.ChangeShapes Go.WideShapes Go.ChangeAt Go.RowKit
set_option linter.unusedVariables false
def rsOf : Except PErr (List PRule) → List PRule
  | .error _ => []
  | .ok rs => rs
theorem rulesQ_of {base : Nat} {r : Except PErr (List PRule)} {en : Ending} {w : World} (h : RulesQ base r en w) : ∃ v hs bs, en = .returned (.tuple #[v, .int .i64 (eOf r : Nat), .int .i64 (xOf r : Nat)]) ∧ RulesAt 44 46 55 base w v (rsOf r) hs bs := by
  cases r with
  | error er => obtain ⟨e, x⟩ := er; exact ⟨_, _, _, h, RulesAt.nil _ _ _ _ _⟩
  | ok rs => exact h
theorem rulesR_of {tT tP tR : TypeId} {base : Nat} {r : Except PErr (List PRule)} {en : Ending} {w : World} (h : RulesR tT tP tR base r en w) : ∃ v hs bs, en = .returned (.tuple #[v, .int .i64 (eOf r : Nat), .int .i64 (xOf r : Nat)]) ∧ RulesAt tT tP tR base w v (rsOf r) hs bs := by
  cases r with
  | error er => obtain ⟨e, x⟩ := er; exact ⟨_, _, _, h, RulesAt.nil _ _ _ _ _⟩
  | ok rs => exact h
theorem rsOf_len (l : List UInt8) : (rsOf (parseF l)).length ≤ 200 ∧ ∀ r ∈ rsOf (parseF l), Small r := by
  cases h : parseF l with
  | error er => simp [rsOf]
  | ok rs => exact parseF_len l rs h
theorem SoftRow.grown {g base z : Nat} {w1 w : World} {v : Value} (h : SoftRow g base w1.heap.size z w1 v) (hg : w1.grownBy w none) : SoftRow g base w1.heap.size z w v := by
  obtain ⟨xa, xn, xc, he, hn, h0 | ⟨k, rfl, h1, h2, h3, h4, h5⟩⟩ := h
  · exact ⟨xa, xn, xc, he, hn, Or.inl h0⟩
  · refine ⟨_, xn, xc, he, hn, Or.inr ⟨k, rfl, h1, h2, h3, fun m hm => ?_, fun m => ?_⟩⟩
    · obtain ⟨x, hx⟩ := h4 m hm; exact ⟨x, grown_cell hg hx⟩
    · rw [← h5 m]; exact World.frozen?_of_block (w := w1) (hg.block k h2 (by simp))
/-- rules may be spoilt -/
theorem spoilt_rules {w1 w : World} {base g cap : Nat} {tT tP tR : TypeId} {rs : List PRule} {hs bs : List Value} (h : RulesAt tT tP tR base w1 (.slice (some ⟨g, 0, none⟩) rs.length cap) rs hs bs) (h1 : tT ≠ tR) (h2 : tP ≠ tR) (hl : ∀ r ∈ rs, Small r) (hg : w1.grownBy w none) : Spoilt w base w1.heap.size g rs.length 4 [(1, 3), (3, 10)] w := by
  have h' := h.kept hg (fun g e => by cases e)
  have hb := own_blk h.own rfl
  refine ⟨hb.1, hb.2, Mid.refl _ _ _, fun i hi => ?_, fun i => own_soft h'.own i, fun i hi oz ho => ?_⟩
  · have hm2 : i < (rulesV rs hs bs).length := by rw [rulesV_len rs hs bs h.lh h.lb]; exact hi
    have := h'.own.cells rfl i _ (List.getElem?_eq_getElem hm2)
    rw [add_zero] at this
    exact ⟨_, this⟩
  · have hi1 : i < hs.length := by rw [h.lh]; exact hi
    have hi2 : i < bs.length := by rw [h.lb]; exact hi
    have hsm := hl _ (List.getElem_mem hi)
    simp at ho
    rcases ho with rfl | rfl
    · have hc := h'.own.cells rfl (i * 4 + 1) hs[i] (by rw [rulesV_at rs hs bs i 1 rs[i] hs[i] bs[i] (List.getElem?_eq_getElem hi) (List.getElem?_eq_getElem hi1) (List.getElem?_eq_getElem hi2) (by omega)]; rfl)
      rw [add_zero] at hc
      exact ⟨_, hc, (soft_terms (h.heads i rs[i] hs[i] (List.getElem?_eq_getElem hi) (List.getElem?_eq_getElem hi1)) h.own h1 rfl (by have := hsm.1; omega) (Nat.le_refl _)).grown hg⟩
    · have hc := h'.own.cells rfl (i * 4 + 3) bs[i] (by rw [rulesV_at rs hs bs i 3 rs[i] hs[i] bs[i] (List.getElem?_eq_getElem hi) (List.getElem?_eq_getElem hi1) (List.getElem?_eq_getElem hi2) (by omega)]; rfl)
      rw [add_zero] at hc
      obtain ⟨us, hu⟩ := h.bodies i rs[i] bs[i] (List.getElem?_eq_getElem hi) (List.getElem?_eq_getElem hi2)
      exact ⟨_, hc, (soft_parts hu h.own h2 rfl (by have := hsm.2.1; omega) (Nat.le_refl _)).grown hg⟩
end Go.Proofs.YtoelacloghkooaaGreatDoor

/-
  The document's PrintRules, walked.
-/
namespace Go.Proofs.YtoelacloghkooaaGreatDoor
open Go.ChangeShapes Go.WideShapes Go.ChangeAt Go.RowKit
set_option linter.unusedVariables false
theorem parse_code (l : List UInt8) (e x : Nat) (h : parseF l = .error (e, x)) : Coded e := by
  rw [parseF_is] at h
  split at h
  · cases h; exact Or.inl rfl
  · exact programP_code _ _ _ _ h
def printR : Except PErr (List PRule) → Except PErr (List UInt8)
  | .error e => .error e
  | .ok rs => .ok (rulesTextF rs)
theorem printF_is (l : List UInt8) : printF l = printR (parseF l) := rfl
/-- an answer of a text, or an error and its place -/
def TextQ (r : Except PErr (List UInt8)) (en : Ending) : Prop := match r with
  | .error (e, x) => en = .returned (.tuple #[.string { data := #[] }, .int .i64 (e : Nat), .int .i64 (x : Nat)])
  | .ok t => en = .returned (.tuple #[.string (str t), .int .i64 0, .int .i64 0])
theorem readRules_at (s : ByteArray) (w : World) : Calls Tryz.prog 11 #[.string s] w fun en w' => RulesR 101 103 64 w.heap.size (parseF s.data.toList) en w' ∧ w.grownBy w' none := by
  have := readRules_any s w
  rw [readRules_is] at this
  refine this.mono ?_
  rintro e w' ⟨hq, hb⟩
  exact ⟨hq, fresh_below hb⟩
set_option maxRecDepth 100000 in
set_option maxHeartbeats 4000000 in
theorem rprint_any (s : ByteArray) (w : World) :
    Calls Tryz.prog 9 #[.string s] w fun en w' => TextQ (printF s.data.toList) en ∧ w.grownBy w' none := by
  have HRD := hide (readRules_at s w)
  obtain ⟨Q, HQ⟩ : ∃ Q, Hid (parseF s.data.toList = Q) := ⟨_, (rfl : _ = _)⟩
  have HPF : Hid (printF s.data.toList = printR Q) := by show _ = _; rw [printF_is, HQ.out]
  rw [HQ.out] at HRD
  obtain ⟨T, HT⟩ : ∃ T, Hid (printF s.data.toList = T) := ⟨_, (rfl : _ = _)⟩
  rw [HT.out] at HPF ⊢
  go_enter Tryz.func9, Tryz.ntmps9
  go_wp2_with fail
  refine HRD.out.mono ?_
  rintro e w1 ⟨hq, hg⟩
  have HG1 := hide hg
  clear hg HRD
  cases Q with
  | error er =>
    obtain ⟨ec, x⟩ := er
    have hq' : e = .returned (.tuple #[.slice none 0 0, .int .i64 (ec : Nat), .int .i64 (x : Nat)]) := hq
    subst hq'
    have hne : (((ec : Nat) : Int) != 0) = true := by
      rw [bne_iff_ne]
      rcases parse_code _ _ _ HQ.out with h | h | h <;> omega
    clear hq
    go_wp2
    go_ret3
    rw [HPF.out]
    exact ⟨rfl, HG1.out⟩
  | ok rs =>
    obtain ⟨v, hs, bs2, rfl, hra⟩ := hq
    have HRA := hide hra
    obtain ⟨va, vc, hv⟩ := own_form hra.own
    subst hv
    clear hra
    have hwf := parseF_wf _ _ HQ.out
    have h200 := hwf.1
    have HWF := hide hwf.2
    have HLEN : Hid (∀ k, (str (rulesTextF (rs.take k))).size ≤ 9000000) := fun k => by rw [str_size]; have := rulesTake_len rs HWF.out h200 k; omega
    clear hwf
    obtain ⟨N, HN⟩ : ∃ N, Hid (rs.length = N) := ⟨_, (rfl : _ = _)⟩
    rw [HN.out] at h200 ⊢
    go_wp2_with fail
    go_loopw [8, 9, 10] (fun o iv tv wr => ∃ (k : Nat) (X : ByteArray), k ≤ N ∧ iv = .int .i64 k ∧ o = .string X ∧ X.size ≤ 9000000 ∧ Hid (str (rulesTextF (rs.take k)) = X) ∧ Hid (w1.grownBy wr none)) (fun _ iv _ _ => N - (intOf iv).toNat)
    case atStart => exact ⟨0, { data := #[] }, by omega, rfl, rfl, by decide, (rfl : _ = _), fr_refl _ _⟩
    case round =>
      obtain ⟨k, X, hk, rfl, rfl, hX, HX, HG⟩ := hrel
      by_cases hlt : k < N
      · have hkr : k < rs.length := by have := HN.out; omega
        have hkh : k < hs.length := by have := HRA.out.lh; omega
        have hkb : k < bs2.length := by have := HRA.out.lb; omega
        have hor := HRA.out
        rcases own_rules hor with ⟨h0, h1⟩ | ⟨gr, cr, hvr, -, -, hcr, -⟩
        · rw [h1] at hkr; simp at hkr
        cases hvr
        have HCR := hide (hcr k rs[k] hs[k] bs2[k] (List.getElem?_eq_getElem hkr) (List.getElem?_eq_getElem hkh) (List.getElem?_eq_getElem hkb))
        obtain ⟨us, hbd⟩ := hor.bodies k rs[k] bs2[k] (List.getElem?_eq_getElem hkr) (List.getElem?_eq_getElem hkb)
        have hhd := hor.heads k rs[k] hs[k] (List.getElem?_eq_getElem hkr) (List.getElem?_eq_getElem hkh)
        have HP : Hid (∀ w', w1.grownBy w' none → Calls Tryz.prog 19 #[.agg (ruleV rs[k] hs[k] bs2[k]).toArray] w' fun e w'' => e = .returned (.string (str (ruleTextF rs[k]))) ∧ w'.grownBy w'' none) := by
          intro w' hg
          exact rruleText_any rs[k] hs[k] bs2[k] us w.heap.size w' (own_far hhd hg (by simp)) (hbd.kept hg (fun g e => by cases e)) (HWF.out _ (List.getElem_mem hkr))
        have HST : Hid (str (rulesTextF (rs.take (k + 1))) = X ++ str (ruleTextF rs[k])) := by show _ = _; rw [rulesTextF_take rs k hkr, ← HX.out, str_app]
        have HLN := hide (HLEN.out (k + 1))
        have HRL := hide (ruleText_len (HWF.out _ (List.getElem_mem hkr)))
        obtain ⟨xa, xc, hxx⟩ := own_form hhd
        obtain ⟨ya, yc, hyy⟩ := own_form hbd.own
        rw [hxx, hyy] at HCR HP
        clear hcr hor hbd hhd hxx hyy
        generalize rs[k] = r at *
        obtain ⟨Y, HY⟩ : ∃ Y, Hid (str (ruleTextF r) = Y) := ⟨_, (rfl : _ = _)⟩
        have hY : Y.size ≤ 50000 := by rw [← HY.out, str_size]; have := HRL.out; omega
        rw [HY.out] at HST HP
        have kp : ∀ (j : Nat) (x : Value), (ruleV r (.slice xa r.head.args.length xc) (.slice ya r.body.length yc))[j]? = some x → wr.cell? ⟨gr, k * 4 + j, none⟩ = some x := fun j x hx => grown_cell HG.out (HCR.out j x hx)
        have d0 := kp 0 _ rfl
        have d1 := kp 1 _ rfl
        have d2 := kp 2 _ rfl
        have d3 := kp 3 _ rfl
        simp only [Nat.add_zero] at d0
        clear kp
        go_wp2_with fail
        refine (HP.out _ HG.out).mono ?_
        rintro e w3 ⟨rfl, hg3⟩
        have HGN : Hid (w1.grownBy w3 none) := fr_both HG.out hg3
        clear hg3 d0 d1 d2 d3
        go_wp2
        go_roundw
        case rel => exact ⟨k + 1, _, by omega, by go_num, rfl, by have h := HLN.out; rw [HST.out] at h; exact h, HST, HGN⟩
        case measure => simp [intOf]; omega
      · have HR : Hid (T = .ok (rulesTextF rs)) := HPF.out
        have HE : Hid (X = str (rulesTextF rs)) := by show _ = _; rw [← HX.out, List.take_of_length_le (by have := HN.out; omega)]
        go_wp2
        go_ret3
        rw [HR.out]
        refine ⟨?_, fr_both HG1.out HG.out⟩
        show Ending.returned (.tuple #[.string X, .int .i64 0, .int .i64 0]) = .returned (.tuple #[.string (str (rulesTextF rs)), .int .i64 0, .int .i64 0])
        rw [HE.out]
end Go.Proofs.YtoelacloghkooaaGreatDoor
