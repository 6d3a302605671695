import Derived.Test.YtoelacloghkooaaGreatDoorM36
import Derived.Test.YtoelacloghkooaaGreatDoorM34
/-
  The program's Query, whole.
-/
namespace Go.Proofs.YtoelacloghkooaaGreatDoor
open Go.ChangeShapes Go.WideShapes Go.ChangeAt Go.RowKit
set_option linter.unusedVariables false
theorem queryF_is (l : List UInt8) : queryF l = if 20000 < l.length then .error (1, 0) else queryP l (skipTo l 0) := rfl
/-- the errors are of three numbers -/
def Coded (e : Nat) : Prop := e = 1 ∨ e = 2 ∨ e = 7
theorem termF_code (l : List UInt8) (p : Nat) (e x : Nat) (h : termF l p = .error (e, x)) : Coded e := by
  unfold termF at h
  split at h
  · cases hg : strGo (l.drop (p + 1)) (p + 1) [] with
    | error er => rw [hg] at h; cases h; exact Or.inr (Or.inl (strGo_err _ _ _ _ _ _ (Nat.le_refl _) hg))
    | ok v =>
      obtain ⟨o, q⟩ := v
      rw [hg] at h
      simp only [] at h
      split at h
      · cases h; exact Or.inl rfl
      · cases h
  · split at h
    · cases h
    · cases h; exact Or.inr (Or.inl rfl)
theorem listF_code {α : Type} (bg : Nat → Bool) (one : Nat → Except PErr (α × Nat)) (go : Nat → Option Nat) (h1 : ∀ p e x, one p = .error (e, x) → Coded e) : ∀ (n p e x : Nat), listF bg one go n p = .error (e, x) → Coded e := by
  intro n
  induction n with
  | zero => intro p e x h; unfold listF at h; split at h <;> cases h; exact Or.inr (Or.inr rfl); exact Or.inr (Or.inl rfl)
  | succ n ih =>
    intro p e x h
    unfold listF at h
    split at h
    · cases ho : one p with
      | error er => rw [ho] at h; cases h; exact h1 p e x ho
      | ok v =>
        obtain ⟨y, q⟩ := v
        rw [ho] at h
        simp only [] at h
        cases hg : go q with
        | none => rw [hg] at h; cases h
        | some r =>
          rw [hg] at h
          simp only [] at h
          cases hl : listF bg one go n r with
          | error er => rw [hl] at h; cases h; exact ih r e x hl
          | ok v => obtain ⟨ys, r2⟩ := v; rw [hl] at h; cases h
    · cases h; exact Or.inr (Or.inl rfl)
theorem atomF_code (l : List UInt8) (p e x : Nat) (h : atomF l p = .error (e, x)) : Coded e := by
  rw [atomF_is] at h
  split at h
  · unfold restF at h
    cases h1 : signF l [40] (skipTo l (p + (wordAt l p).length)) with
    | none => rw [h1] at h; cases h
    | some q =>
      rw [h1] at h
      simp only [] at h
      cases h2 : listF (atTermB l) (termF l) (signF l [44]) 8 q with
      | error er => rw [h2] at h; cases h; exact listF_code _ _ _ (fun p e x h => termF_code l p e x h) _ _ _ _ h2
      | ok v =>
        obtain ⟨xs, r⟩ := v
        rw [h2] at h
        simp only [] at h
        cases h3 : signF l [41] r with
        | none => rw [h3] at h; cases h; exact Or.inr (Or.inl rfl)
        | some r2 => rw [h3] at h; cases h
  · cases h; exact Or.inr (Or.inl rfl)
theorem compP_code (l : List UInt8) (p e x : Nat) (h : compP l p = .error (e, x)) : Coded e := by
  unfold compP at h
  cases h1 : termF l p with
  | error er => rw [h1] at h; cases h; exact termF_code l p e x h1
  | ok v =>
    obtain ⟨t, q⟩ := v
    rw [h1] at h
    simp only [] at h
    cases h2 : compF l q with
    | none => rw [h2] at h; cases h; exact Or.inr (Or.inl rfl)
    | some kq =>
      obtain ⟨k, r⟩ := kq
      rw [h2] at h
      simp only [] at h
      cases h3 : termF l r with
      | error er => rw [h3] at h; cases h; exact termF_code l r e x h3
      | ok v => obtain ⟨u, r2⟩ := v; rw [h3] at h; cases h
theorem partF_code (l : List UInt8) (p e x : Nat) (h : partF l p = .error (e, x)) : Coded e := by
  by_cases h1 : wordAt l p = [110, 111, 116]
  · rw [partF_nots _ _ h1] at h
    cases h2 : atomF l (skipTo l (p + 3)) with
    | error er => rw [h2] at h; cases h; exact atomF_code l _ e x h2
    | ok v => obtain ⟨a, q⟩ := v; rw [h2] at h; cases h
  · cases h3 : (atNameB l p && (compF l (skipTo l (p + (wordAt l p).length))).isNone) with
    | true =>
      rw [partF_atom _ _ h1 h3] at h
      cases h2 : atomF l p with
      | error er => rw [h2] at h; cases h; exact atomF_code l _ e x h2
      | ok v => obtain ⟨a, q⟩ := v; rw [h2] at h; cases h
    | false => rw [partF_cmp _ _ h1 h3] at h; exact compP_code l p e x h
theorem queryP_code (l : List UInt8) (p e x : Nat) (h : queryP l p = .error (e, x)) : Coded e := by
  unfold queryP at h
  cases h1 : partsF l p with
  | error er => rw [h1] at h; cases h; exact listF_code _ _ _ (fun p e x h => partF_code l p e x h) _ _ _ _ h1
  | ok v =>
    obtain ⟨ps, q⟩ := v
    rw [h1] at h
    simp only [] at h
    cases h2 : signF l [46] q with
    | none => rw [h2] at h; cases h; exact Or.inr (Or.inl rfl)
    | some r =>
      rw [h2] at h
      simp only [] at h
      split at h
      · cases h
      · cases h; exact Or.inr (Or.inl rfl)
theorem errN_coded {e : Nat} (h : Coded e) : errN e = e := by rcases h with rfl | rfl | rfl <;> rfl
set_option maxRecDepth 100000 in
set_option maxHeartbeats 4000000 in
theorem preadP_any (s : ByteArray) (L T M : Addr) (w : World) (hE : Errs w L T M) (hgt : gTop ≤ w.heap.size) :
    Calls Tryz.prog 35 #[.string s, .func (.func 36) #[] #[]] w fun en w' =>
      (if 20000 < s.size then en = .returned (.tuple #[.slice none 0 0, .iface 246 (.pointer (some L))]) else QueryP L T M w.heap.size (queryP s.data.toList (skipTo s.data.toList 0)) en w') ∧ w.grownBy w' none := by
  have E1 : ∀ args w, (callFunc 36 args).run Tryz.prog w = .ok (.enter 36 args) w := enters_of Tryz.func36 (by kernel_rfl) rfl
  have HE := hide hE
  have g0 := hE.gl
  clear hE
  go_enter Tryz.func35, Tryz.ntmps35
  by_cases hl : 20000 < s.size
  · go_wp2_with fail
    go_quiet (fail)
    go_wp2
    go_ret2
    try rw [if_pos hl]
    exact ⟨rfl, fr_draws _ _ _⟩
  · have hl2 : s.size ≤ 20000 := by omega
    have hs : s.size ≤ 1073741824 := by omega
    have HL := hide hl
    clear hl g0
    go_wp2_with fail
    refine (pnewLexer_any s _ hs).mono ?_
    rintro e w1 ⟨rfl, hg⟩
    have HE1 : Hid (Errs w1 L T M) := HE.out.fresh hg
    have HN1 := hide hg
    have hz1 : w.heap.size ≤ w1.heap.size := hg.size
    clear hg
    obtain ⟨p, HP⟩ : ∃ p, Hid (skipTo s.data.toList 0 = p) := ⟨_, (rfl : _ = _)⟩
    have hp : p ≤ s.size := by rw [← HP.out]; exact skip_le s 0 (Nat.zero_le _)
    rw [HP.out]
    go_wp2_with fail
    generalize hw2 : World.alloc _ _ = w2
    obtain ⟨b, HBB⟩ : ∃ b, Hid (w1.heap.size = b) := ⟨_, (rfl : _ = _)⟩
    have hb : gTop ≤ b := by rw [← HBB.out]; omega
    have HW2 := hide hw2.symm
    have HR2 : Hid (Rd w2 b s p) := by
      rw [← hw2]
      have hbx := Box.at w1 b [.string s, .int .i64 (p : Nat)] 112 HBB.out.symm
      exact ⟨hbx.c 0 _ rfl, hbx.c 1 _ rfl, hbx.f 1 _ rfl⟩
    have HE2 : Hid (Errs w2 L T M) := by rw [← hw2]; exact HE1.out.fresh (fr_alloc _ _ _)
    have hz2 : w1.heap.size < w2.heap.size := by rw [← hw2]; simp
    clear hw2
    rw [HBB.out]
    refine (pquery_any b s p L T M _ HR2.out HE2.out hb hp hs).mono ?_
    rintro e w3 ⟨hq, hg⟩
    have HN3 : Hid (w.grownBy w3 none) := fr_both HN1.out (fr_fresh HBB.out (by rw [← HW2.out]; exact hg))
    clear hg
    obtain ⟨Q, HQ⟩ : ∃ Q, Hid (queryP s.data.toList p = Q) := ⟨_, (rfl : _ = _)⟩
    rw [HQ.out] at hq
    cases Q with
    | error er =>
      obtain ⟨ec, x⟩ := er
      have hq' : e = .returned (.tuple #[.slice none 0 0, errV L T M ec x]) := hq
      subst hq'
      unfold errV
      go_wp2
      go_ret2
      try rw [if_neg HL.out]
      rw [HP.out, HQ.out]
      exact ⟨rfl, HN3.out⟩
    | ok ps =>
      obtain ⟨v, vs, rfl, hpa⟩ := hq
      have HPA := hide hpa
      clear hpa
      go_wp2
      go_ret2
      try rw [if_neg HL.out]
      rw [HP.out, HQ.out]
      exact ⟨⟨v, vs, rfl, HPA.out.lower (by omega)⟩, HN3.out⟩
/-- an answer of parts, or an error and its place -/
def PartsQ (base : Nat) (r : Except PErr (List PPart)) (en : Ending) (w : World) : Prop := match r with
  | .error (e, x) => en = .returned (.tuple #[.slice none 0 0, .int .i64 (e : Nat), .int .i64 (x : Nat)])
  | .ok ps => ∃ v vs, en = .returned (.tuple #[v, .int .i64 0, .int .i64 0]) ∧ PartsAt 44 46 base w v ps vs
set_option maxRecDepth 100000 in
set_option maxHeartbeats 4000000 in
theorem pQuery_any (s : ByteArray) (L T M : Addr) (w : World) (hE : Errs w L T M) (hB : ErrB w L T M) (hgt : gTop ≤ w.heap.size) :
    Calls Tryz.prog 15 #[.string s] w fun en w' => PartsQ w.heap.size (queryF s.data.toList) en w' ∧ w.grownBy w' none := by
  have HE := hide hE
  have HB := hide hB
  have HRD := hide (preadP_any s L T M w hE hgt)
  have hl0 : s.data.toList.length = s.size := by simp
  have HQF := hide (queryF_is s.data.toList)
  rw [hl0] at HQF
  clear hE hB hl0
  go_enter Tryz.func15, Tryz.ntmps15
  go_wp2_with fail
  refine HRD.out.mono ?_
  rintro e w1 ⟨hq, hg⟩
  have HE1 : Hid (Errs w1 L T M) := HE.out.fresh hg
  have HB1 : Hid (ErrB w1 L T M) := HB.out.fresh hg
  have HN1 := hide hg
  have hz1 : gTop ≤ w1.heap.size := Nat.le_trans hgt hg.size
  clear hg HRD
  by_cases hl : 20000 < s.size
  · rw [if_pos hl] at hq HQF
    subst hq
    clear hl
    go_wp2_with fail
    refine (tell_long L T M _ HE1.out).mono ?_
    rintro e w2 ⟨rfl, hg⟩
    have HN2 : Hid (w.grownBy w2 none) := fr_both HN1.out hg
    clear hg
    go_wp2
    go_ret3
    rw [HQF.out]
    exact ⟨rfl, HN2.out⟩
  · rw [if_neg hl] at hq HQF
    clear hl
    obtain ⟨Q, HQ⟩ : ∃ Q, Hid (queryP s.data.toList (skipTo s.data.toList 0) = Q) := ⟨_, (rfl : _ = _)⟩
    rw [HQ.out] at hq HQF
    cases Q with
    | error er =>
      obtain ⟨ec, x⟩ := er
      have hq' : e = .returned (.tuple #[.slice none 0 0, errV L T M ec x]) := hq
      subst hq'
      have HEN : Hid (errN ec = ec) := errN_coded (queryP_code _ _ _ _ HQ.out)
      go_wp2_with fail
      refine (tell_err L T M ec x _ HE1.out HB1.out hz1).mono ?_
      rintro e w2 ⟨rfl, hg⟩
      have HN2 : Hid (w.grownBy w2 none) := fr_both HN1.out hg
      rw [HEN.out]
      clear hg
      go_wp2
      go_ret3
      rw [HQF.out]
      exact ⟨rfl, HN2.out⟩
    | ok ps =>
      obtain ⟨v, vs, rfl, hpa⟩ := hq
      have HPA := hide hpa
      clear hpa
      go_wp2_with fail
      refine (tell_nil L T M _ HE1.out).mono ?_
      rintro e w2 ⟨rfl, hg⟩
      have HN2 : Hid (w.grownBy w2 none) := fr_both HN1.out hg
      have HP2 : Hid (PartsAt 44 46 w.heap.size w2 v ps vs) := HPA.out.kept hg (fun g hg => by cases hg)
      clear hg
      go_wp2
      go_ret3
      rw [HQF.out]
      exact ⟨⟨v, vs, rfl, HP2.out⟩, HN2.out⟩
end Go.Proofs.YtoelacloghkooaaGreatDoor

/-
  The program's Parse, whole.
-/
namespace Go.Proofs.YtoelacloghkooaaGreatDoor
open Go.ChangeShapes Go.WideShapes Go.ChangeAt Go.RowKit
set_option linter.unusedVariables false
/-- a program from a place on -/
def programP (l : List UInt8) (p : Nat) : Except PErr (List PRule) := if p = l.length then .ok [] else match listF (atNameB l) (ruleF l) (moreF l) 200 p with
  | .error e => .error e
  | .ok (rs, _) => .ok rs
theorem parseF_is (l : List UInt8) : parseF l = if 20000 < l.length then .error (1, 0) else programP l (skipTo l 0) := rfl
def ProgP (L T M : Addr) (base : Nat) (r : Except PErr (List PRule)) (en : Ending) (w' : World) : Prop := match r with
  | .error (e, x) => en = .returned (.tuple #[.slice none 0 0, errV L T M e x])
  | .ok rs => ∃ v hs bs, en = .returned (.tuple #[v, .nilIface]) ∧ RulesAt 44 46 55 base w' v rs hs bs
theorem ruleF_code (l : List UInt8) (p e x : Nat) (h : ruleF l p = .error (e, x)) : Coded e := by
  rw [ruleF_is] at h
  split at h
  · rename_i heq; cases h; exact atomF_code l p e x heq
  · split at h
    · rename_i heq
      cases h
      split at heq
      · cases heq
      · exact listF_code _ _ _ (fun p e x h => partF_code l p e x h) _ _ _ _ heq
    · split at h
      · cases h; exact Or.inr (Or.inl rfl)
      · cases h
theorem programP_code (l : List UInt8) (p e x : Nat) (h : programP l p = .error (e, x)) : Coded e := by
  unfold programP at h
  split at h
  · cases h
  · split at h
    · rename_i heq; cases h; exact listF_code _ _ _ (fun p e x h => ruleF_code l p e x h) _ _ _ _ heq
    · cases h
set_option maxRecDepth 100000 in
set_option maxHeartbeats 4000000 in
theorem pprogram_any (b : Nat) (s : ByteArray) (p : Nat) (L T M : Addr) (w : World) (h : Rd w b s p) (hE : Errs w L T M) (hb : gTop ≤ b) (hp : p ≤ s.size) (hs : s.size ≤ 1073741824) :
    Calls Tryz.prog 27 #[.pointer (some ⟨b, 0, none⟩)] w fun en w' => ProgP L T M w.heap.size (programP s.data.toList p) en w' ∧ w.grownBy w' (some b) := by
  have hl0 : s.data.toList.length = s.size := by simp
  obtain ⟨Q, HQ⟩ : ∃ Q, Hid (programP s.data.toList p = Q) := ⟨_, (rfl : _ = _)⟩
  rw [HQ.out]
  unfold programP at HQ
  rw [hl0] at HQ
  clear hl0
  have HR := hide h
  have HE := hide hE
  clear h hE
  go_enter Tryz.func27, Tryz.ntmps27
  go_wp2_with fail
  refine (pended_any b s p _ HR.out).mono ?_
  rintro e w1 ⟨rfl, n1, rfl⟩
  have HG1 : Hid (w.grownBy (w.drewN n1) (some b)) := fr_draws _ _ _
  have HE1 : Hid (Errs (w.drewN n1) L T M) := HE.out.drewN _
  have HR1 : Hid (Rd (w.drewN n1) b s p) := HR.out.drewN _
  have hz1 : w.heap.size ≤ (w.drewN n1).heap.size := Nat.le_refl _
  generalize w.drewN n1 = w1 at *
  clear HR HE
  by_cases hps : p = s.size
  · rw [if_pos hps] at HQ
    rw [show decide (p = s.size) = true from by simp [hps]]
    clear hps
    go_wp2
    go_ret2
    rw [← HQ.out]
    exact ⟨⟨_, [], [], rfl, RulesAt.nil _ _ _ _ _⟩, HG1.out⟩
  · rw [if_neg hps] at HQ
    rw [show decide (p = s.size) = false from by simp [hps]]
    clear hps
    have HL := hide (plistR_any b s p 200 L T M w1 HR1.out HE1.out hb hp hs (by omega))
    obtain ⟨F, HF⟩ : ∃ F, Hid (listF (atNameB s.data.toList) (ruleF s.data.toList) (moreF s.data.toList) 200 p = F) := ⟨_, (rfl : _ = _)⟩
    rw [HF.out] at HL HQ
    go_wp2_with fail
    refine HL.out.mono ?_
    rintro e w2 ⟨hl, HFR⟩
    have HG2 : Hid (w.grownBy w2 (some b)) := fr_both HG1.out HFR
    clear HFR HL
    cases F with
    | error er =>
      obtain ⟨ec, x⟩ := er
      have hl' : e = .returned (.tuple #[.slice none 0 0, errV L T M ec x]) := hl
      subst hl'
      have HQ2 : Hid (.error (ec, x) = Q) := HQ.out
      unfold errV
      go_wp2
      go_ret2
      rw [← HQ2.out]
      exact ⟨rfl, HG2.out⟩
    | ok v =>
      obtain ⟨rs, q⟩ := v
      obtain ⟨v, hs2, bs, rfl, hra, hrd⟩ := hl
      have HP := hide (hra.lower hz1)
      have HQ2 : Hid (.ok rs = Q) := HQ.out
      clear hra hrd
      go_wp2
      go_ret2
      rw [← HQ2.out]
      exact ⟨⟨v, hs2, bs, rfl, HP.out⟩, HG2.out⟩
set_option maxRecDepth 100000 in
set_option maxHeartbeats 4000000 in
theorem preadR_any (s : ByteArray) (L T M : Addr) (w : World) (hE : Errs w L T M) (hgt : gTop ≤ w.heap.size) :
    Calls Tryz.prog 26 #[.string s, .func (.func 27) #[] #[]] w fun en w' =>
      (if 20000 < s.size then en = .returned (.tuple #[.slice none 0 0, .iface 246 (.pointer (some L))]) else ProgP L T M w.heap.size (programP s.data.toList (skipTo s.data.toList 0)) en w') ∧ w.grownBy w' none := by
  have E1 : ∀ args w, (callFunc 27 args).run Tryz.prog w = .ok (.enter 27 args) w := enters_of Tryz.func27 (by kernel_rfl) rfl
  have HE := hide hE
  have g0 := hE.gl
  clear hE
  go_enter Tryz.func26, Tryz.ntmps26
  by_cases hl : 20000 < s.size
  · go_wp2_with fail
    go_quiet (fail)
    go_wp2
    go_ret2
    try rw [if_pos hl]
    exact ⟨rfl, fr_draws _ _ _⟩
  · have hl2 : s.size ≤ 20000 := by omega
    have hs : s.size ≤ 1073741824 := by omega
    have HL := hide hl
    clear hl g0
    go_wp2_with fail
    refine (pnewLexer_any s _ hs).mono ?_
    rintro e w1 ⟨rfl, hg⟩
    have HE1 : Hid (Errs w1 L T M) := HE.out.fresh hg
    have HN1 := hide hg
    have hz1 : w.heap.size ≤ w1.heap.size := hg.size
    clear hg
    obtain ⟨p, HP⟩ : ∃ p, Hid (skipTo s.data.toList 0 = p) := ⟨_, (rfl : _ = _)⟩
    have hp : p ≤ s.size := by rw [← HP.out]; exact skip_le s 0 (Nat.zero_le _)
    rw [HP.out]
    go_wp2_with fail
    generalize hw2 : World.alloc _ _ = w2
    obtain ⟨b, HBB⟩ : ∃ b, Hid (w1.heap.size = b) := ⟨_, (rfl : _ = _)⟩
    have hb : gTop ≤ b := by rw [← HBB.out]; omega
    have HW2 := hide hw2.symm
    have HR2 : Hid (Rd w2 b s p) := by
      rw [← hw2]
      have hbx := Box.at w1 b [.string s, .int .i64 (p : Nat)] 112 HBB.out.symm
      exact ⟨hbx.c 0 _ rfl, hbx.c 1 _ rfl, hbx.f 1 _ rfl⟩
    have HE2 : Hid (Errs w2 L T M) := by rw [← hw2]; exact HE1.out.fresh (fr_alloc _ _ _)
    have hz2 : w1.heap.size < w2.heap.size := by rw [← hw2]; simp
    clear hw2
    rw [HBB.out]
    refine (pprogram_any b s p L T M _ HR2.out HE2.out hb hp hs).mono ?_
    rintro e w3 ⟨hq, hg⟩
    have HN3 : Hid (w.grownBy w3 none) := fr_both HN1.out (fr_fresh HBB.out (by rw [← HW2.out]; exact hg))
    clear hg
    obtain ⟨Q, HQ⟩ : ∃ Q, Hid (programP s.data.toList p = Q) := ⟨_, (rfl : _ = _)⟩
    rw [HQ.out] at hq
    cases Q with
    | error er =>
      obtain ⟨ec, x⟩ := er
      have hq' : e = .returned (.tuple #[.slice none 0 0, errV L T M ec x]) := hq
      subst hq'
      unfold errV
      go_wp2
      go_ret2
      try rw [if_neg HL.out]
      rw [HP.out, HQ.out]
      exact ⟨rfl, HN3.out⟩
    | ok ps =>
      obtain ⟨v, hs2, bs, rfl, hpa⟩ := hq
      have HPA := hide hpa
      clear hpa
      go_wp2
      go_ret2
      try rw [if_neg HL.out]
      rw [HP.out, HQ.out]
      exact ⟨⟨v, hs2, bs, rfl, HPA.out.lower (by omega)⟩, HN3.out⟩
/-- an answer of rules, or an error and its place -/
def RulesQ (base : Nat) (r : Except PErr (List PRule)) (en : Ending) (w : World) : Prop := match r with
  | .error (e, x) => en = .returned (.tuple #[.slice none 0 0, .int .i64 (e : Nat), .int .i64 (x : Nat)])
  | .ok rs => ∃ v hs bs, en = .returned (.tuple #[v, .int .i64 0, .int .i64 0]) ∧ RulesAt 44 46 55 base w v rs hs bs
set_option maxRecDepth 100000 in
set_option maxHeartbeats 4000000 in
theorem pParse_any (s : ByteArray) (L T M : Addr) (w : World) (hE : Errs w L T M) (hB : ErrB w L T M) (hgt : gTop ≤ w.heap.size) :
    Calls Tryz.prog 12 #[.string s] w fun en w' => RulesQ w.heap.size (parseF s.data.toList) en w' ∧ w.grownBy w' none := by
  have HE := hide hE
  have HB := hide hB
  have HRD := hide (preadR_any s L T M w hE hgt)
  have hl0 : s.data.toList.length = s.size := by simp
  have HQF := hide (parseF_is s.data.toList)
  rw [hl0] at HQF
  clear hE hB hl0
  go_enter Tryz.func12, Tryz.ntmps12
  go_wp2_with fail
  refine HRD.out.mono ?_
  rintro e w1 ⟨hq, hg⟩
  have HE1 : Hid (Errs w1 L T M) := HE.out.fresh hg
  have HB1 : Hid (ErrB w1 L T M) := HB.out.fresh hg
  have HN1 := hide hg
  have hz1 : gTop ≤ w1.heap.size := Nat.le_trans hgt hg.size
  clear hg HRD
  by_cases hl : 20000 < s.size
  · rw [if_pos hl] at hq HQF
    subst hq
    clear hl
    go_wp2_with fail
    refine (tell_long L T M _ HE1.out).mono ?_
    rintro e w2 ⟨rfl, hg⟩
    have HN2 : Hid (w.grownBy w2 none) := fr_both HN1.out hg
    clear hg
    go_wp2
    go_ret3
    rw [HQF.out]
    exact ⟨rfl, HN2.out⟩
  · rw [if_neg hl] at hq HQF
    clear hl
    obtain ⟨Q, HQ⟩ : ∃ Q, Hid (programP s.data.toList (skipTo s.data.toList 0) = Q) := ⟨_, (rfl : _ = _)⟩
    rw [HQ.out] at hq HQF
    cases Q with
    | error er =>
      obtain ⟨ec, x⟩ := er
      have hq' : e = .returned (.tuple #[.slice none 0 0, errV L T M ec x]) := hq
      subst hq'
      have HEN : Hid (errN ec = ec) := errN_coded (programP_code _ _ _ _ HQ.out)
      go_wp2_with fail
      refine (tell_err L T M ec x _ HE1.out HB1.out hz1).mono ?_
      rintro e w2 ⟨rfl, hg⟩
      have HN2 : Hid (w.grownBy w2 none) := fr_both HN1.out hg
      rw [HEN.out]
      clear hg
      go_wp2
      go_ret3
      rw [HQF.out]
      exact ⟨rfl, HN2.out⟩
    | ok ps =>
      obtain ⟨v, hs2, bs, rfl, hpa⟩ := hq
      have HPA := hide hpa
      clear hpa
      go_wp2_with fail
      refine (tell_nil L T M _ HE1.out).mono ?_
      rintro e w2 ⟨rfl, hg⟩
      have HN2 : Hid (w.grownBy w2 none) := fr_both HN1.out hg
      have HP2 : Hid (RulesAt 44 46 55 w.heap.size w2 v ps hs2 bs) := HPA.out.kept hg (fun g hg => by cases hg)
      clear hg
      go_wp2
      go_ret3
      rw [HQF.out]
      exact ⟨⟨v, hs2, bs, rfl, HP2.out⟩, HN2.out⟩
end Go.Proofs.YtoelacloghkooaaGreatDoor
