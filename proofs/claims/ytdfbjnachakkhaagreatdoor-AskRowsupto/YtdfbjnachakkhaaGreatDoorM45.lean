import Derived.Test.YtdfbjnachakkhaaGreatDoorM44
import Derived.Test.YtdfbjnachakkhaaGreatDoorM03
import Derived.Test.YtdfbjnachakkhaaGreatDoorM02
import Derived.Test.YtdfbjnachakkhaaGreatDoorM39
import Derived.Test.YtdfbjnachakkhaaGreatDoorM04
import Derived.Test.YtdfbjnachakkhaaGreatDoorM15
namespace Go.Proofs.YtdfbjnachakkhaaGreatDoor
open Go.ChangeShapes Go.WideShapes Go.ChangeAt Go.RowKit
set_option linter.unusedVariables false
theorem queryF_is (l : List UInt8) : queryF l = if 20000 < l.length then .error (1, 0) else queryP l (skipTo l 0) := rfl
/-- the errors are of three numbers -/
def Coded (e : Nat) : Prop := e = 1 ∨ e = 2 ∨ e = 7
theorem termF_code (l : List UInt8) (p : Nat) (e x : Nat) (h : termF l p = .error (e, x)) : Coded e := by
  unfold termF at h
  split at h
  · cases hg : strGo (l.drop (p + 1)) (p + 1) [] with
    | error er => rw [hg] at h; cases h; exact Or.inr (Or.inl (strGo_err _ _ _ _ _ _ (Nat.le_refl _) hg))
    | ok v =>
      obtain ⟨o, q⟩ := v
      rw [hg] at h
      simp only [] at h
      split at h
      · cases h; exact Or.inl rfl
      · cases h
  · split at h
    · cases h
    · cases h; exact Or.inr (Or.inl rfl)
theorem listF_code {α : Type} (bg : Nat → Bool) (one : Nat → Except PErr (α × Nat)) (go : Nat → Option Nat) (h1 : ∀ p e x, one p = .error (e, x) → Coded e) : ∀ (n p e x : Nat), listF bg one go n p = .error (e, x) → Coded e := by
  intro n
  induction n with
  | zero => intro p e x h; unfold listF at h; split at h <;> cases h; exact Or.inr (Or.inr rfl); exact Or.inr (Or.inl rfl)
  | succ n ih =>
    intro p e x h
    unfold listF at h
    split at h
    · cases ho : one p with
      | error er => rw [ho] at h; cases h; exact h1 p e x ho
      | ok v =>
        obtain ⟨y, q⟩ := v
        rw [ho] at h
        simp only [] at h
        cases hg : go q with
        | none => rw [hg] at h; cases h
        | some r =>
          rw [hg] at h
          simp only [] at h
          cases hl : listF bg one go n r with
          | error er => rw [hl] at h; cases h; exact ih r e x hl
          | ok v => obtain ⟨ys, r2⟩ := v; rw [hl] at h; cases h
    · cases h; exact Or.inr (Or.inl rfl)
theorem atomF_code (l : List UInt8) (p e x : Nat) (h : atomF l p = .error (e, x)) : Coded e := by
  rw [atomF_is] at h
  split at h
  · unfold restF at h
    cases h1 : signF l [40] (skipTo l (p + (wordAt l p).length)) with
    | none => rw [h1] at h; cases h
    | some q =>
      rw [h1] at h
      simp only [] at h
      cases h2 : listF (atTermB l) (termF l) (signF l [44]) 8 q with
      | error er => rw [h2] at h; cases h; exact listF_code _ _ _ (fun p e x h => termF_code l p e x h) _ _ _ _ h2
      | ok v =>
        obtain ⟨xs, r⟩ := v
        rw [h2] at h
        simp only [] at h
        cases h3 : signF l [41] r with
        | none => rw [h3] at h; cases h; exact Or.inr (Or.inl rfl)
        | some r2 => rw [h3] at h; cases h
  · cases h; exact Or.inr (Or.inl rfl)
theorem compP_code (l : List UInt8) (p e x : Nat) (h : compP l p = .error (e, x)) : Coded e := by
  unfold compP at h
  cases h1 : termF l p with
  | error er => rw [h1] at h; cases h; exact termF_code l p e x h1
  | ok v =>
    obtain ⟨t, q⟩ := v
    rw [h1] at h
    simp only [] at h
    cases h2 : compF l q with
    | none => rw [h2] at h; cases h; exact Or.inr (Or.inl rfl)
    | some kq =>
      obtain ⟨k, r⟩ := kq
      rw [h2] at h
      simp only [] at h
      cases h3 : termF l r with
      | error er => rw [h3] at h; cases h; exact termF_code l r e x h3
      | ok v => obtain ⟨u, r2⟩ := v; rw [h3] at h; cases h
theorem partF_code (l : List UInt8) (p e x : Nat) (h : partF l p = .error (e, x)) : Coded e := by
  by_cases h1 : wordAt l p = [110, 111, 116]
  · rw [partF_nots _ _ h1] at h
    cases h2 : atomF l (skipTo l (p + 3)) with
    | error er => rw [h2] at h; cases h; exact atomF_code l _ e x h2
    | ok v => obtain ⟨a, q⟩ := v; rw [h2] at h; cases h
  · cases h3 : (atNameB l p && (compF l (skipTo l (p + (wordAt l p).length))).isNone) with
    | true =>
      rw [partF_atom _ _ h1 h3] at h
      cases h2 : atomF l p with
      | error er => rw [h2] at h; cases h; exact atomF_code l _ e x h2
      | ok v => obtain ⟨a, q⟩ := v; rw [h2] at h; cases h
    | false => rw [partF_cmp _ _ h1 h3] at h; exact compP_code l p e x h
theorem queryP_code (l : List UInt8) (p e x : Nat) (h : queryP l p = .error (e, x)) : Coded e := by
  unfold queryP at h
  cases h1 : partsF l p with
  | error er => rw [h1] at h; cases h; exact listF_code _ _ _ (fun p e x h => partF_code l p e x h) _ _ _ _ h1
  | ok v =>
    obtain ⟨ps, q⟩ := v
    rw [h1] at h
    simp only [] at h
    cases h2 : signF l [46] q with
    | none => rw [h2] at h; cases h; exact Or.inr (Or.inl rfl)
    | some r =>
      rw [h2] at h
      simp only [] at h
      split at h
      · cases h
      · cases h; exact Or.inr (Or.inl rfl)
theorem errN_coded {e : Nat} (h : Coded e) : errN e = e := by rcases h with rfl | rfl | rfl <;> rfl
set_option maxRecDepth 100000 in
set_option maxHeartbeats 4000000 in
theorem preadP_any (s : ByteArray) (L T M : Addr) (w : World) (hE : Errs w L T M) (hgt : gTop ≤ w.heap.size) :
    Calls Tryz.prog 22 #[.string s, .func (.func 23) #[] #[]] w fun en w' =>
      (if 20000 < s.size then en = .returned (.tuple #[.slice none 0 0, .iface 338 (.pointer (some L))]) else QueryP L T M w.heap.size (queryP s.data.toList (skipTo s.data.toList 0)) en w') ∧ w.grownBy w' none := by
  have E1 : ∀ args w, (callFunc 23 args).run Tryz.prog w = .ok (.enter 23 args) w := enters_of Tryz.func23 (by kernel_rfl) rfl
  have HE := hide hE
  have g0 := hE.gl
  clear hE
  go_enter Tryz.func22, Tryz.ntmps22
  by_cases hl : 20000 < s.size
  · go_wp2_with fail
    go_quiet (fail)
    go_wp2
    go_ret2
    try rw [if_pos hl]
    exact ⟨rfl, fr_draws _ _ _⟩
  · have hl2 : s.size ≤ 20000 := by omega
    have hs : s.size ≤ 1073741824 := by omega
    have HL := hide hl
    clear hl g0
    go_wp2_with fail
    refine (pnewLexer_any s _ hs).mono ?_
    rintro e w1 ⟨rfl, hg⟩
    have HE1 : Hid (Errs w1 L T M) := HE.out.fresh hg
    have HN1 := hide hg
    have hz1 : w.heap.size ≤ w1.heap.size := hg.size
    clear hg
    obtain ⟨p, HP⟩ : ∃ p, Hid (skipTo s.data.toList 0 = p) := ⟨_, (rfl : _ = _)⟩
    have hp : p ≤ s.size := by rw [← HP.out]; exact skip_le s 0 (Nat.zero_le _)
    rw [HP.out]
    go_wp2_with fail
    generalize hw2 : World.alloc _ _ = w2
    obtain ⟨b, HBB⟩ : ∃ b, Hid (w1.heap.size = b) := ⟨_, (rfl : _ = _)⟩
    have hb : gTop ≤ b := by rw [← HBB.out]; omega
    have HW2 := hide hw2.symm
    have HR2 : Hid (Rd w2 b s p) := by
      rw [← hw2]
      have hbx := Box.at w1 b [.string s, .int .i64 (p : Nat)] 110 HBB.out.symm
      exact ⟨hbx.c 0 _ rfl, hbx.c 1 _ rfl, hbx.f 1 _ rfl⟩
    have HE2 : Hid (Errs w2 L T M) := by rw [← hw2]; exact HE1.out.fresh (fr_alloc _ _ _)
    have hz2 : w1.heap.size < w2.heap.size := by rw [← hw2]; simp
    clear hw2
    rw [HBB.out]
    refine (pquery_any b s p L T M _ HR2.out HE2.out hb hp hs).mono ?_
    rintro e w3 ⟨hq, hg⟩
    have HN3 : Hid (w.grownBy w3 none) := fr_both HN1.out (fr_fresh HBB.out (by rw [← HW2.out]; exact hg))
    clear hg
    obtain ⟨Q, HQ⟩ : ∃ Q, Hid (queryP s.data.toList p = Q) := ⟨_, (rfl : _ = _)⟩
    rw [HQ.out] at hq
    cases Q with
    | error er =>
      obtain ⟨ec, x⟩ := er
      have hq' : e = .returned (.tuple #[.slice none 0 0, errV L T M ec x]) := hq
      subst hq'
      unfold errV
      go_wp2
      go_ret2
      try rw [if_neg HL.out]
      rw [HP.out, HQ.out]
      exact ⟨rfl, HN3.out⟩
    | ok ps =>
      obtain ⟨v, vs, rfl, hpa⟩ := hq
      have HPA := hide hpa
      clear hpa
      go_wp2
      go_ret2
      try rw [if_neg HL.out]
      rw [HP.out, HQ.out]
      exact ⟨⟨v, vs, rfl, HPA.out.lower (by omega)⟩, HN3.out⟩
/-- an answer of parts, or an error and its place -/
def PartsQ (base : Nat) (r : Except PErr (List PPart)) (en : Ending) (w : World) : Prop := match r with
  | .error (e, x) => en = .returned (.tuple #[.slice none 0 0, .int .i64 (e : Nat), .int .i64 (x : Nat)])
  | .ok ps => ∃ v vs, en = .returned (.tuple #[v, .int .i64 0, .int .i64 0]) ∧ PartsAt 65 67 base w v ps vs
set_option maxRecDepth 100000 in
set_option maxHeartbeats 4000000 in
theorem pQuery_any (s : ByteArray) (L T M : Addr) (w : World) (hE : Errs w L T M) (hB : ErrB w L T M) (hgt : gTop ≤ w.heap.size) :
    Calls Tryz.prog 12 #[.string s] w fun en w' => PartsQ w.heap.size (queryF s.data.toList) en w' ∧ w.grownBy w' none := by
  have HE := hide hE
  have HB := hide hB
  have HRD := hide (preadP_any s L T M w hE hgt)
  have hl0 : s.data.toList.length = s.size := by simp
  have HQF := hide (queryF_is s.data.toList)
  rw [hl0] at HQF
  clear hE hB hl0
  go_enter Tryz.func12, Tryz.ntmps12
  go_wp2_with fail
  refine HRD.out.mono ?_
  rintro e w1 ⟨hq, hg⟩
  have HE1 : Hid (Errs w1 L T M) := HE.out.fresh hg
  have HB1 : Hid (ErrB w1 L T M) := HB.out.fresh hg
  have HN1 := hide hg
  have hz1 : gTop ≤ w1.heap.size := Nat.le_trans hgt hg.size
  clear hg HRD
  by_cases hl : 20000 < s.size
  · rw [if_pos hl] at hq HQF
    subst hq
    clear hl
    go_wp2_with fail
    refine (tell_long L T M _ HE1.out).mono ?_
    rintro e w2 ⟨rfl, hg⟩
    have HN2 : Hid (w.grownBy w2 none) := fr_both HN1.out hg
    clear hg
    go_wp2
    go_ret3
    rw [HQF.out]
    exact ⟨rfl, HN2.out⟩
  · rw [if_neg hl] at hq HQF
    clear hl
    obtain ⟨Q, HQ⟩ : ∃ Q, Hid (queryP s.data.toList (skipTo s.data.toList 0) = Q) := ⟨_, (rfl : _ = _)⟩
    rw [HQ.out] at hq HQF
    cases Q with
    | error er =>
      obtain ⟨ec, x⟩ := er
      have hq' : e = .returned (.tuple #[.slice none 0 0, errV L T M ec x]) := hq
      subst hq'
      have HEN : Hid (errN ec = ec) := errN_coded (queryP_code _ _ _ _ HQ.out)
      go_wp2_with fail
      refine (tell_err L T M ec x _ HE1.out HB1.out hz1).mono ?_
      rintro e w2 ⟨rfl, hg⟩
      have HN2 : Hid (w.grownBy w2 none) := fr_both HN1.out hg
      rw [HEN.out]
      clear hg
      go_wp2
      go_ret3
      rw [HQF.out]
      exact ⟨rfl, HN2.out⟩
    | ok ps =>
      obtain ⟨v, vs, rfl, hpa⟩ := hq
      have HPA := hide hpa
      clear hpa
      go_wp2_with fail
      refine (tell_nil L T M _ HE1.out).mono ?_
      rintro e w2 ⟨rfl, hg⟩
      have HN2 : Hid (w.grownBy w2 none) := fr_both HN1.out hg
      have HP2 : Hid (PartsAt 65 67 w.heap.size w2 v ps vs) := HPA.out.kept hg (fun g hg => by cases hg)
      clear hg
      go_wp2
      go_ret3
      rw [HQF.out]
      exact ⟨⟨v, vs, rfl, HP2.out⟩, HN2.out⟩
end Go.Proofs.YtdfbjnachakkhaaGreatDoor

namespace Go.Proofs.YtdfbjnachakkhaaGreatDoor
open Go.ChangeShapes Go.WideShapes Go.ChangeAt Go.RowKit
set_option linter.unusedVariables false
set_option maxRecDepth 100000 in
set_option maxHeartbeats 400000 in
theorem num_at (n : Int) (w : World) : Calls Tryz.prog 9 #[.int .i64 n] w fun e w' => e = .returned (.int .i64 n) ∧ w = w' := by
  go_enter Tryz.func9, Tryz.ntmps9
  go_wp2
  go_ret
  exact ⟨rfl, rfl⟩
theorem ErrB.below {w w' : World} {L T M : Addr} {B : Nat} (h : ErrB w L T M) (hg : Below B w w') (hb : w.heap.size ≤ B) : ErrB w' L T M := by
  have k : ∀ a : Addr, (∃ c t, w.heap[a.block]? = some (.cells c t (0, 0))) → ∃ c t, w'.heap[a.block]? = some (.cells c t (0, 0)) := fun a ⟨c, t, h⟩ => ⟨c, t, by rw [hg.block _ (Nat.lt_of_lt_of_le (Array.getElem?_eq_some_iff.1 h).1 hb)]; exact h⟩
  exact ⟨k _ h.l, k _ h.t, k _ h.m⟩
theorem below_fresh {w w' : World} (h : w.grownBy w' none) : Below w.heap.size w w' := ⟨h.os, h.tape, h.output, h.size, fun k hk => h.block k hk (by simp)⟩
theorem fresh_below {w w' : World} (h : Below w.heap.size w w') : w.grownBy w' none := ⟨h.os, h.tape, h.output, h.size, fun k hk _ => h.block k hk⟩
end Go.Proofs.YtdfbjnachakkhaaGreatDoor

namespace Go.Proofs.YtdfbjnachakkhaaGreatDoor
open Go.ChangeShapes Go.WideShapes Go.ChangeAt Go.RowKit Go.Hands Go.WideMaps Go.Maps
set_option linter.unusedVariables false
set_option maxRecDepth 100000
theorem infoRelA : (Tryz.prog.info? 32).map (fun i => (i.zero, i.size, i.bytes)) = some (some (.agg #[.string { data := #[] }, .int .i64 0, .slice none 0 0]), 3, 48) := by kernel_rfl
theorem look_nilI (sn : ByteArray) (name : List UInt8) (W : World) (hkey : keyOf Tryz.prog 9 (.string sn) = some (.string name)) : (Instr.lookup 72 (.map none) (.string sn) true).run Tryz.prog W = .ok (.tuple #[.int .i64 0, .bool false]) W := by
  kernel_rfl
set_option maxHeartbeats 2000000 in
theorem tidied_any (B g c : Nat) (name : List UInt8) (n : Nat) (rv : Value) (vs : List Value) (rows : List (List (List UInt8))) (w : World) (hrel : w.ownsRow B 32 3 (.slice (some ⟨g, 0, none⟩) 1 c) 1 [.string (str name), .int .i64 (n : Nat), rv])
    (h : Rows2 w rv vs rows) (hn : name.length ≤ 1000) (hrl : rows.length ≤ 1073741824) (hrr : ∀ r ∈ rows, r.length ≤ 1099511627776) (ht : tidy name (n : Nat) rows = (0, 0, sortU rows)) :
    Calls Tryz.prog 13 #[.slice (some ⟨g, 0, none⟩) 1 c, .map none] w fun e w' => (∃ rb rc v us, e = .returned (.tuple #[.slice (some ⟨rb, 0, none⟩) 1 rc, .int .i64 0, .int .i64 0]) ∧ w'.ownsRow w.heap.size 32 3 (.slice (some ⟨rb, 0, none⟩) 1 rc) 1 [.string (str name), .int .i64 (n : Nat), v] ∧ Deep w.heap.size w' v us (sortU rows)) ∧ w.grownBy w' none := by
  have hmm := @run_makeMap Tryz.prog
  obtain ⟨i0, hi, hz0, hz1, hz2⟩ := info_parts infoRelA
  have HRO := hide h
  obtain ⟨⟨ra, rcap, hrv, _⟩, _, _⟩ := h
  have q0 := own_cell hrel (g := g) rfl 0 _ rfl
  have q1 := own_cell hrel (g := g) rfl 1 _ rfl
  have q2 := own_cell hrel (g := g) rfl 2 _ rfl
  obtain ⟨sn, HSN⟩ : ∃ sn, Hid (sn = str name) := ⟨_, rfl⟩
  have hkey : keyOf Tryz.prog 9 (.string sn) = some (.string name) := by
    have := keyOf_string_mk Tryz.underlying9 (s := str name) (by rw [str_size]; unfold maxLen; omega)
    rw [data_str] at this; rw [HSN.out]; exact this
  rw [← HSN.out] at q0 ⊢
  rw [hrv] at q2
  obtain ⟨wM, HWM⟩ : ∃ wM, Hid (wM = w.alloc (.map #[] 0)) := ⟨_, rfl⟩
  have hwM := HWM.out.symm
  have HGM : Hid (w.grownBy wM none) := by rw [HWM.out]; exact fr_alloc _ _ _
  have hsM : wM.heap.size = w.heap.size + 1 := by rw [HWM.out]; simp
  have HMM : Hid (wM.ownsMap Tryz.prog 9 unitElem w.heap.size 0 (setU [])) := by rw [HWM.out]; exact World.ownsMap_made (H := Unit) w Tryz.prog 9 unitElem
  have hfM := FrS.none (S := fun _ => False) HGM.out
  replace q0 := hfM.cell q0 (fun h => h)
  replace q1 := hfM.cell q1 (fun h => h)
  replace q2 := hfM.cell q2 (fun h => h)
  obtain ⟨m, HM⟩ : ∃ m, Hid (m = vs.length) := ⟨_, rfl⟩
  rw [← HM.out] at q2
  obtain ⟨wB, HWB⟩ : ∃ wB, Hid (wB = wM.alloc (.cells #[.string sn, .int .i64 (n : Nat), .slice ra m rcap] 32)) := ⟨_, rfl⟩
  have hwB := HWB.out.symm
  have HGB : Hid (wM.grownBy wB none) := by rw [HWB.out]; exact fr_alloc _ _ _
  have hpB : wB.heap[wM.heap.size]? = some (.cells #[.string sn, .int .i64 (n : Nat), .slice ra m rcap] 32 (0, 0)) := by rw [HWB.out]; exact heap_alloc_new _ _
  rw [hsM] at hpB
  have d0 : wB.cell? ⟨w.heap.size + 1, 0, none⟩ = some (.string sn) := cell_of hpB 0 _ rfl
  have d1 : wB.cell? ⟨w.heap.size + 1, 1, none⟩ = some (.int .i64 (n : Nat)) := cell_of hpB 1 _ rfl
  have d2 : wB.cell? ⟨w.heap.size + 1, 2, none⟩ = some (.slice ra m rcap) := cell_of hpB 2 _ rfl
  have HGWB : Hid (w.grownBy wB none) := fr_both HGM.out HGB.out
  have HPT : Hid (Calls Tryz.prog 25 #[.agg #[.string sn, .int .i64 (n : Nat), .slice ra m rcap]] wB fun e w' => ∃ v us, e = .returned (.tuple #[.agg #[.string sn, .int .i64 (n : Nat), v], .int .i64 0, .int .i64 0]) ∧ Deep wB.heap.size w' v us (sortU rows) ∧ wB.grownBy w' none) := by
    have h1 := ptidy_any (str name) (n : Nat) rv vs rows wB (HRO.out.kept (below_fresh HGWB.out)) (by rw [str_size]; omega) hrl hrr
    rw [data_str, ht, hrv, ← HM.out, ← HSN.out] at h1
    refine h1.mono ?_
    rintro e w' ⟨hp, hb⟩
    unfold PTidied at hp
    rw [if_pos rfl] at hp
    obtain ⟨v, us, rfl, hd⟩ := hp
    exact ⟨v, us, rfl, hd, fresh_below hb⟩
  clear hrel hpB hfM
  go_enter Tryz.func13, Tryz.ntmps13
  go_wp2_with fail
  refine wp_loop_rounds 2 ?_
  rw [rounds_succ]
  go_wp2_with fail
  refine HPT.out.mono ?_
  rintro _ w1 ⟨v, us, rfl, hd, hg1⟩
  obtain ⟨va, vc, hve⟩ := own_form hd.1
  have HD := hide hd
  have HG1 := hide hg1
  clear hd hg1 HPT
  rw [hve]
  obtain ⟨k, HK⟩ : ∃ k, Hid (k = us.length) := ⟨_, rfl⟩
  rw [← HK.out]
  obtain ⟨wT, HWT⟩ : ∃ wT, Hid (wT = w1.alloc (.cells #[.string sn, .int .i64 (n : Nat), .slice va k vc] 32)) := ⟨_, rfl⟩
  have hwT := HWT.out.symm
  have HGT : Hid (w1.grownBy wT none) := by rw [HWT.out]; exact fr_alloc _ _ _
  have hpT : wT.heap[w1.heap.size]? = some (.cells #[.string sn, .int .i64 (n : Nat), .slice va k vc] 32 (0, 0)) := by rw [HWT.out]; exact heap_alloc_new _ _
  have HGMT : Hid (wM.grownBy wT none) := fr_both HGB.out (fr_both HG1.out HGT.out)
  have hownT := HMM.out.kept HGMT.out (by simp)
  have hhas : Maps.has (setU []) (.string name) = false := by rw [setU_has]; simp
  have t0 : wT.cell? ⟨w1.heap.size, 0, none⟩ = some (.string sn) := cell_of hpT 0 _ rfl
  have t1 : wT.cell? ⟨w1.heap.size, 1, none⟩ = some (.int .i64 (n : Nat)) := cell_of hpT 1 _ rfl
  have t2 : wT.cell? ⟨w1.heap.size, 2, none⟩ = some (.slice va k vc) := cell_of hpT 2 _ rfl
  have hs1w : w.heap.size + 1 < w1.heap.size := by have h1 := HG1.out.size; have h2 : wM.heap.size < wB.heap.size := (by rw [HWB.out]; simp); omega
  have hs1T : w1.heap.size ≤ wT.heap.size := HGT.out.size
  obtain ⟨wC, HWC⟩ : ∃ wC, Hid (wC = wT.alloc (.cells #[] 76)) := ⟨_, rfl⟩
  have hwC := HWC.out.symm
  have HGC : Hid (wT.grownBy wC none) := by rw [HWC.out]; exact fr_alloc _ _ _
  have hfC := FrS.none (S := fun _ => False) HGC.out
  have hsTC : wT.heap.size ≤ wC.heap.size := HGC.out.size
  have u0 := hfC.cell t0 (fun h => h)
  have u1 := hfC.cell t1 (fun h => h)
  have u2 := hfC.cell t2 (fun h => h)
  have hownC := hownT.kept HGC.out (by simp)
  have hnil := look_nilI sn name wC hkey
  go_wp2_with (first
    | (at_lookup; refine wpList_lookup_own_unit _ rfl _ _ 73 rfl 9 76 keyedS Tryz.underlying73 (zeroU _) w.heap.size _ _ rfl hownT _ _ rfl hkey ?_; rw [hhas])
    | (at_mapUpdate; refine wpList_mapUpdate_own _ rfl _ _ _ 73 rfl 9 76 keyedS Tryz.underlying73 _ w.heap.size _ _ rfl hownC (by unfold maxLen; omega) _ _ _ rfl rfl hkey _ [] unitElem_mk ?_; intro w3 hown3 hgrow3; have hf3 := FrS.of (S := fun j => j = w.heap.size) hgrow3 (fun g e => .inl (Option.some.inj e).symm); have x0 := hf3.cell u0 (by show ¬ w1.heap.size = w.heap.size; omega); have x1 := hf3.cell u1 (by show ¬ w1.heap.size = w.heap.size; omega); have x2 := hf3.cell u2 (by show ¬ w1.heap.size = w.heap.size; omega); have hs3 : w.heap.size ≤ w3.heap.size := Nat.le_trans (by omega) hf3.size; have HF3 := hide hf3; clear hown3 hgrow3 hf3)
    | (at_builtin; refine wpList_append_own_at _ rfl _ _ 34 rfl w.heap.size 32 i0 (.agg #[.string { data := #[] }, .int .i64 0, .slice none 0 0]) 3 48 Tryz.underlying34 hi hz0 hz1 hz2 rfl (by omega) (.slice none 0 0) 0 [] rfl (World.ownsRow_nil _ _ _ _) ⟨w3.heap.size, 0, none⟩ 1 1 [.string sn, .int .i64 (n : Nat), .slice va k vc] rfl rfl (fun j q hj => cell_new8 w3 _ _ _ j q hj) (by simp [Value.oneCell']) (by unfold maxLen; omega) (by omega) (by simp; omega) ?_; intro v2 w6 hown6 hg6 hnil6 hat6)
    | fail)
  obtain ⟨rb, rc, hv2, _, _⟩ := hown6.form (by omega)
  have HO6 := hide hown6
  have HF6 : Hid (FrS (fun j => j = w.heap.size) wC w6) := FrS.trans HF3.out (FrS.none (S := fun _ => False) (fr_both (fr_alloc w3 _ none) hg6)) (fun _ _ e => e.elim)
  have HF16 : Hid (FrS (fun j => j = w.heap.size) w1 w6) := FrS.trans (FrS.none (S := fun j => j = w.heap.size) (fr_both HGT.out HGC.out)) HF6.out (fun _ _ e => e)
  have HGW6 : Hid (w.grownBy w6 none) := fr_far (fr_both HGWB.out (fr_both HG1.out (fr_both HGT.out HGC.out))) HF6.out (fun j hj e => by have e' : j = w.heap.size := e; omega)
  have hswB : w.heap.size < wB.heap.size := by have h2 : wM.heap.size ≤ wB.heap.size := HGB.out.size; omega
  have HD6 : Hid (Deep w.heap.size w6 (.slice va k vc) us (sortU rows)) := by
    have hk : ∀ {b1 : Nat} {e : TypeId} {size : Nat} {z : Value} {mm : Nat} {xs : List Value}, w1.ownsRow b1 e size z mm xs → wB.heap.size ≤ b1 → w6.ownsRow w.heap.size e size z mm xs := fun h0 hb => own_lower (HF16.out.row h0 (fun q cur fz _ _ hq e => by have e' : q = w.heap.size := e; omega)) (by omega)
    have hd := HD.out
    rw [hve, ← HK.out] at hd
    exact ⟨hk hd.1 (Nat.le_refl _), hd.2.1, fun i x r h1 h2 => hk (hd.2.2 i x r h1 h2) (Nat.le_refl _)⟩
  clear hown6 hg6 hnil6 hat6
  subst hv2
  rw [rounds_succ]
  go_wp2
  refine bodyPost_ret (v := .tuple #[.slice (some ⟨rb, 0, none⟩) 1 rc, .int .i64 0, .int .i64 0]) (by simp [results, Tryz.results13, go_sem]) rfl ⟨⟨rb, rc, _, us, rfl, HO6.out, HD6.out⟩, HGW6.out⟩
end Go.Proofs.YtdfbjnachakkhaaGreatDoor

namespace Go.Proofs.YtdfbjnachakkhaaGreatDoor
set_option linter.unusedVariables false
/-- a byte within a STRING -/
def escB (c : UInt8) : List UInt8 := if c = 34 then [92, 34] else if c = 92 then [92, 92] else if c = 10 then [92, 110] else [c]
def escF (l : List UInt8) : List UInt8 := l.flatMap escB
/-- D3 -/
def constF (l : List UInt8) : List UInt8 := if isName l || isDigB l then l else [34] ++ escF l ++ [34]
/-- things with commas between -/
def commaF {α : Type} (f : α → List UInt8) : List α → List UInt8
  | [] => []
  | [x] => f x
  | x :: y :: r => f x ++ [44, 32] ++ commaF f (y :: r)
theorem commaF_snoc {α : Type} (f : α → List UInt8) (x : α) : ∀ xs : List α, commaF f (xs ++ [x]) = if xs.length = 0 then f x else commaF f xs ++ [44, 32] ++ f x := by
  intro xs
  induction xs with
  | nil => rfl
  | cons y ys ih =>
    cases ys with
    | nil => simp [commaF]
    | cons z zs =>
      have : commaF f (z :: zs ++ [x]) = commaF f (z :: zs) ++ [44, 32] ++ f x := by rw [ih]; simp
      show f y ++ [44, 32] ++ commaF f (z :: zs ++ [x]) = _
      rw [this]
      simp [commaF]
def termTextF (t : PTerm) : List UInt8 := if t.isVar then t.text else constF t.text
def atomTextF (a : PAtom) : List UInt8 := a.name ++ (if a.args.length = 0 then [] else [40] ++ commaF termTextF a.args ++ [41])
def signTextF (k : Nat) : List UInt8 := if k = 2 then [61] else if k = 3 then [33, 61] else [60]
def partTextF (p : PPart) : List UInt8 := if p.kind = 0 then atomTextF p.atom else if p.kind = 1 then [110, 111, 116, 32] ++ atomTextF p.atom else termTextF p.left ++ [32] ++ signTextF p.kind ++ [32] ++ termTextF p.right
end Go.Proofs.YtdfbjnachakkhaaGreatDoor
