import Derived.Test.YtoelacloghkooaaGreatDoorM18
/-
  The one form is read ars the same rules: atoms, parts, rules. Plain lists; nothing of the program.
-/
namespace Go.Proofs.YtoelacloghkooaaGreatDoor
set_option linter.unusedVariables false
theorem word_go {c : UInt8} {t : List UInt8} (h : wordB c = true) : skipGo false (c :: t) = 0 := by
  unfold skipGo
  rw [if_neg, if_neg]
  · rintro rfl; revert h; decide
  · rintro (rfl | rfl | rfl) <;> (revert h; decide)
theorem words_go {w : List UInt8} (t : List UInt8) (h : w.all wordB = true) (h0 : w ≠ []) : skipGo false (w ++ t) = 0 := by
  cases w with
  | nil => exact absurd rfl h0
  | cons c w => rw [List.all_cons, Bool.and_eq_true] at h; exact word_go h.1
theorem const_go (s t : List UInt8) : skipGo false (constF s ++ t) = 0 := by
  unfold constF
  split
  · rename_i hn
    rw [Bool.or_eq_true] at hn
    refine words_go t ?_ (by rintro rfl; rcases hn with hn | hn <;> cases hn)
    rcases hn with hn | hn
    · exact name_word hn
    · exact dig_word hn
  · show skipGo false (34 :: _) = 0
    rfl
theorem termText_go (t : PTerm) (r : List UInt8) (h : WfT t) : skipGo false (termTextF t ++ r) = 0 := by
  unfold termTextF
  split
  · rename_i hv
    have := h.1 hv
    exact words_go r this.2 (by intro h0; rw [h0] at this; cases this.1)
  · exact const_go _ _
theorem atomText_go (a : PAtom) (r : List UInt8) (h : WfA a) : skipGo false (atomTextF a ++ r) = 0 := by
  obtain ⟨c, t, hn, hc⟩ := name_small h.1
  unfold atomTextF
  rw [hn]
  exact small_go hc
/-- behind an atom or a part -/
def SA (r : List UInt8) : Prop := NW r ∧ ∃ c t, r.drop (skipGo false r) = c :: t ∧ (c = 44 ∨ c = 46 ∨ c = 58)
theorem sa_comma (t : List UInt8) : SA (44 :: t) := ⟨nw_cons (by decide), 44, t, rfl, .inl rfl⟩
theorem sa_dot (t : List UInt8) : SA (46 :: t) := ⟨nw_cons (by decide), 46, t, rfl, .inr (.inl rfl)⟩
theorem sa_if (t : List UInt8) : SA (32 :: 58 :: t) := ⟨nw_cons (by decide), 58, t, rfl, .inr (.inr rfl)⟩
theorem drop_skip {l r : List UInt8} {p : Nat} (h : l.drop p = r) : l.drop (skipTo l p) = r.drop (skipGo false r) := by
  rw [skip_on h, ← List.drop_drop, h]
theorem sign_no {l t : List UInt8} {p : Nat} {c d : UInt8} {s : List UInt8} (h : l.drop p = c :: t) (hne : d ≠ c) : signF l (d :: s) p = none := by
  unfold signF
  rw [starts_on _ h, if_neg]
  simp [List.isPrefixOf, hne]
theorem comp_no {l t : List UInt8} {p : Nat} {c : UInt8} (h : l.drop p = c :: t) (h1 : c ≠ 61) (h2 : c ≠ 33) (h3 : c ≠ 60) : compF l p = none := by
  unfold compF
  rw [sign_no h h1.symm, sign_no h h2.symm, sign_no h h3.symm]
theorem atom_on {l r : List UInt8} {p : Nat} {a : PAtom} (h : l.drop p = atomTextF a ++ r) (ha : WfA a) (hr : SA r) :
    wordAt l p = a.name ∧ atNameB l p = true ∧ compF l (skipTo l (p + (wordAt l p).length)) = none ∧ ∃ a', nA a' = nA a ∧ atomF l p = .ok (a', skipTo l (p + (atomTextF a).length)) := by
  obtain ⟨nm, args, pl⟩ := a
  obtain ⟨hn, h8, hts⟩ := ha
  simp only at hn h8 hts
  have hw := name_word hn
  unfold atomTextF at h ⊢
  simp only at h ⊢
  by_cases h0 : args.length = 0
  · rw [if_pos h0] at h ⊢
    rw [List.append_nil] at h ⊢
    have hwd := word_on h hw hr.1
    obtain ⟨c, t, hc, hcc⟩ := hr.2
    have hd := drop_skip (drop_on h)
    rw [hc] at hd
    refine ⟨hwd, by unfold atNameB; rw [hwd]; exact hn, ?_, ?_⟩
    · rw [hwd]; exact comp_no hd (by rintro rfl; revert hcc; decide) (by rintro rfl; revert hcc; decide) (by rintro rfl; revert hcc; decide)
    · refine ⟨⟨nm, [], p⟩, ?_, ?_⟩
      · unfold nA; simp only; rw [List.eq_nil_of_length_eq_zero h0]
      · unfold atomF
        rw [show atNameB l p = true by unfold atNameB; rw [hwd]; exact hn, if_pos rfl, hwd, sign_no hd (by rintro rfl; revert hcc; decide)]
  · rw [if_neg h0] at h ⊢
    have h' : l.drop p = nm ++ (40 :: (commaF termTextF args ++ 41 :: r)) := by rw [h]; simp
    have hwd := word_on h' hw (nw_cons (by decide))
    have hat : atNameB l p = true := by unfold atNameB; rw [hwd]; exact hn
    have hd1 := drop_on h'
    have hsk : skipTo l (p + nm.length) = p + nm.length := by rw [skip_on hd1]; rfl
    refine ⟨hwd, hat, ?_, ?_⟩
    · rw [hwd, hsk]; exact comp_no hd1 (by decide) (by decide) (by decide)
    · obtain ⟨a0, ars, rfl⟩ : ∃ a0 ars, args = a0 :: ars := by cases args with
        | nil => exact absurd rfl h0
        | cons a0 ars => exact ⟨a0, ars, rfl⟩
      have hg : skipGo false (commaF termTextF (a0 :: ars) ++ 41 :: r) = 0 := by
        cases ars with
        | nil => exact termText_go a0 _ (hts a0 (by simp))
        | cons b bs => rw [comma_cons]; exact termText_go a0 _ (hts a0 (by simp))
      have hs1 : signF l [40] (p + nm.length) = some (p + nm.length + 1) := by
        rw [sign_on (r := commaF termTextF (a0 :: ars) ++ 41 :: r) [40] hd1, hg]; rfl
      have hd2 : l.drop (p + nm.length + 1) = commaF termTextF (a0 :: ars) ++ 41 :: r := drop_on1 hd1
      have hd3 := drop_on hd2
      have hsk2 : skipTo l (p + nm.length + 1 + (commaF termTextF (a0 :: ars)).length) = p + nm.length + 1 + (commaF termTextF (a0 :: ars)).length := by rw [skip_on hd3]; rfl
      obtain ⟨xs', hxs, hl⟩ := listF_on WfT termTextF nT l (atTermB l) (termF l) NW (fun t => nw_cons (by decide)) (fun x t hx => termText_go x t hx) (fun x q r hx hq hr => by
        have := term_on hq hx hr
        exact ⟨this.1, ⟨x.isVar, x.text, q⟩, rfl, this.2.2.2⟩) (a0 :: ars) 8 (p + nm.length + 1) (41 :: r) (by simp) h8 hts hd2 (nw_cons (by decide)) (by rw [hsk2]; exact sign_no hd3 (by decide))
      have hs2 : signF l [41] (p + nm.length + 1 + (commaF termTextF (a0 :: ars)).length) = some (skipTo l (p + (nm ++ ([40] ++ commaF termTextF (a0 :: ars) ++ [41])).length)) := by
        have hlen : p + (nm ++ ([40] ++ commaF termTextF (a0 :: ars) ++ [41])).length = p + nm.length + 1 + (commaF termTextF (a0 :: ars)).length + 1 := by simp; omega
        rw [hlen, sign_on (r := r) [41] hd3, skip_on (drop_on1 hd3)]; rfl
      refine ⟨⟨nm, xs', p⟩, ?_, ?_⟩
      · unfold nA; simp only; rw [hxs]
      · unfold atomF
        rw [hat, if_pos rfl, hwd, hsk, hs1]
        simp only []
        rw [hl, hsk2]
        simp only []
        rw [hs2]
theorem comp_on {l r : List UInt8} {p k : Nat} (hk : 2 ≤ k ∧ k ≤ 4) (h : l.drop p = signTextF k ++ r) : compF l p = some (k, p + (signTextF k).length + skipGo false r) := by
  have : k = 2 ∨ k = 3 ∨ k = 4 := by omega
  unfold compF
  rcases this with rfl | rfl | rfl
  · have h : l.drop p = [61] ++ r := h
    rw [sign_on _ h]; rfl
  · have h : l.drop p = [33, 61] ++ r := h
    rw [sign_no (t := 61 :: r) h (by decide), sign_on _ h]; rfl
  · have h : l.drop p = [60] ++ r := h
    rw [sign_no (t := r) h (by decide), sign_no (t := r) h (by decide), sign_on _ h]; rfl
theorem partText_go (x : PPart) (r : List UInt8) (h : WfP x) : skipGo false (partTextF x ++ r) = 0 := by
  unfold partTextF
  rcases h with ⟨hk, ha, _, _⟩ | ⟨hk, hk4, _, hl, _⟩
  · have : x.kind = 0 ∨ x.kind = 1 := by omega
    rcases this with h | h
    · rw [if_pos h]; exact atomText_go _ _ ha
    · rw [if_neg (by omega), if_pos h]; rfl
  · rw [if_neg (by omega), if_neg (by omega), List.append_assoc, List.append_assoc, List.append_assoc, List.append_assoc]
    exact termText_go _ _ hl
theorem part_on {l r : List UInt8} {p : Nat} {x : PPart} (h : l.drop p = partTextF x ++ r) (hx : WfP x) (hr : SA r) :
    atPartB l p = true ∧ ∃ x', nP x' = nP x ∧ partF l p = .ok (x', skipTo l (p + (partTextF x).length)) := by
  obtain ⟨k, a, lt, rt⟩ := x
  unfold partTextF at h ⊢
  simp only at h ⊢
  rcases hx with ⟨hk, ha, h1, h2⟩ | ⟨hk, hk4, h1, h2, h3⟩
  · simp only at hk ha h1 h2
    subst h1 h2
    have : k = 0 ∨ k = 1 := by omega
    rcases this with rfl | rfl
    · rw [if_pos rfl] at h ⊢
      obtain ⟨hwd, hat, hc, a', han, hok⟩ := atom_on h ha hr
      refine ⟨?_, ⟨0, a', noTerm, noTerm⟩, ?_, ?_⟩
      · unfold atPartB atTermB
        unfold atNameB at hat
        rw [hat]; simp
      · unfold nP; simp only; rw [han]
      · unfold partF
        rw [if_neg (by rw [hwd]; intro h0; have := ha.1; rw [h0] at this; exact absurd this (by decide)), hat, hc, if_pos (by decide), hok]
    · rw [if_neg (by decide), if_pos rfl] at h ⊢
      have h' : l.drop p = [110, 111, 116] ++ (32 :: (atomTextF a ++ r)) := by rw [h]; simp
      have hwd := word_on h' (by decide) (nw_cons (by decide))
      have hd1 : l.drop (p + 3) = 32 :: (atomTextF a ++ r) := drop_on h'
      have hd2 : l.drop (p + 4) = atomTextF a ++ r := drop_on1 hd1
      have hsk : skipTo l (p + 3) = p + 4 := by rw [skip_on hd1]; unfold skipGo; rw [if_pos (by decide), atomText_go _ _ ha]
      obtain ⟨_, hat, hc, a', han, hok⟩ := atom_on hd2 ha hr
      refine ⟨?_, ⟨1, a', noTerm, noTerm⟩, ?_, ?_⟩
      · unfold atPartB; rw [hwd]; rfl
      · unfold nP; simp only; rw [han]
      · have hlen : p + 4 + (atomTextF a).length = p + ([110, 111, 116, 32] ++ atomTextF a).length := by simp; omega
        rw [hlen] at hok
        unfold partF
        rw [if_pos hwd, hsk, hok]
  · simp only at hk hk4 h1 h2 h3
    subst h1
    rw [if_neg (by omega), if_neg (by omega)] at h ⊢
    have h' : l.drop p = termTextF lt ++ (32 :: (signTextF k ++ (32 :: (termTextF rt ++ r)))) := by rw [h]; simp
    obtain ⟨hb, hnn, hwt, hok⟩ := term_on h' h2 (nw_cons (by decide))
    have hd1 := drop_on h'
    have hd2 := drop_on1 hd1
    have hsg : skipGo false (signTextF k ++ (32 :: (termTextF rt ++ r))) = 0 := by
      have : k = 2 ∨ k = 3 ∨ k = 4 := by omega
      rcases this with rfl | rfl | rfl <;> rfl
    have hsk : skipTo l (p + (termTextF lt).length) = p + (termTextF lt).length + 1 := by rw [skip_on hd1]; unfold skipGo; rw [if_pos (by decide), hsg]
    have hcomp := comp_on ⟨hk, hk4⟩ hd2
    have hd3 := drop_on hd2
    have hd4 := drop_on1 hd3
    have hsg2 : skipGo false (32 :: (termTextF rt ++ r)) = 1 := by unfold skipGo; rw [if_pos (by decide), termText_go _ _ h3]
    rw [hsg2] at hcomp
    obtain ⟨_, _, _, hok2⟩ := term_on hd4 h3 hr.1
    refine ⟨?_, ⟨k, noAtom, ⟨lt.isVar, lt.text, p⟩, ⟨rt.isVar, rt.text, p + (termTextF lt).length + 1 + (signTextF k).length + 1⟩⟩, rfl, ?_⟩
    · unfold atPartB; rw [hb]; simp
    · unfold partF
      rw [if_neg hnn, if_neg, hok]
      · simp only []
        rw [hsk, hcomp]
        simp only []
        rw [hok2]
        have hlen : p + (termTextF lt).length + 1 + (signTextF k).length + 1 + (termTextF rt).length = p + (termTextF lt ++ [32] ++ signTextF k ++ [32] ++ termTextF rt).length := by simp; omega
        rw [hlen]
      · intro hh
        rw [Bool.and_eq_true] at hh
        have hn : isName (wordAt l p) = true := hh.1
        have hwd : wordAt l p = lt.text := by
          rcases hwt with h | h
          · exact h
          · rw [h] at hn; cases hn
        have htx : termTextF lt = lt.text := by
          unfold termTextF constF
          rw [hwd] at hn
          rw [hn]; simp
        have h2 := hh.2
        rw [hwd, ← htx, hsk, hcomp] at h2
        cases h2
theorem rule_on {l r : List UInt8} {p : Nat} {x : PRule} (h : l.drop p = ruleTextF x ++ r) (hx : WfR x) (hr : skipGo false r = 0) :
    atNameB l p = true ∧ ∃ x', nR x' = nR x ∧ ruleF l p = .ok (x', p + (ruleTextF x).length) := by
  obtain ⟨a, b⟩ := x
  obtain ⟨ha, h12, hb⟩ := hx
  simp only at ha h12 hb
  unfold ruleTextF at h ⊢
  simp only at h ⊢
  have hgo : skipGo false (10 :: r) = 1 := by unfold skipGo; rw [if_pos (by decide), hr]
  by_cases h0 : b.length = 0
  · rw [if_pos h0, List.append_nil] at h ⊢
    have h' : l.drop p = atomTextF a ++ (46 :: 10 :: r) := by rw [h]; simp
    obtain ⟨_, hat, _, a', han, hok⟩ := atom_on h' ha (sa_dot _)
    have hd := drop_on h'
    have hsk : skipTo l (p + (atomTextF a).length) = p + (atomTextF a).length := by rw [skip_on hd]; rfl
    refine ⟨hat, ⟨a', []⟩, ?_, ?_⟩
    · unfold nR; simp only; rw [han, List.eq_nil_of_length_eq_zero h0]
    · unfold ruleF
      rw [hok, hsk]
      simp only []
      rw [sign_no hd (by decide)]
      simp only []
      rw [sign_on (r := 10 :: r) [46] hd, hgo]
      simp; omega
  · rw [if_neg h0] at h ⊢
    have h' : l.drop p = atomTextF a ++ (32 :: 58 :: 45 :: 32 :: (commaF partTextF b ++ (46 :: 10 :: r))) := by rw [h]; simp
    obtain ⟨_, hat, _, a', han, hok⟩ := atom_on h' ha (sa_if _)
    have hd := drop_on h'
    have hsk : skipTo l (p + (atomTextF a).length) = p + (atomTextF a).length + 1 := by rw [skip_on hd]; rfl
    have hd1 : l.drop (p + (atomTextF a).length + 1) = [58, 45] ++ (32 :: (commaF partTextF b ++ (46 :: 10 :: r))) := drop_on1 hd
    have hd2 := drop_on hd1
    have hd3 : l.drop (p + (atomTextF a).length + 1 + 2 + 1) = commaF partTextF b ++ (46 :: 10 :: r) := drop_on1 hd2
    obtain ⟨b0, bs, rfl⟩ : ∃ b0 bs, b = b0 :: bs := by cases b with
      | nil => exact absurd rfl h0
      | cons b0 bs => exact ⟨b0, bs, rfl⟩
    have hg : skipGo false (commaF partTextF (b0 :: bs) ++ (46 :: 10 :: r)) = 0 := by
      cases bs with
      | nil => exact partText_go b0 _ (hb b0 (by simp))
      | cons c cs => rw [comma_cons]; exact partText_go b0 _ (hb b0 (by simp))
    have hg1 : skipGo false (32 :: (commaF partTextF (b0 :: bs) ++ (46 :: 10 :: r))) = 1 := by unfold skipGo; rw [if_pos (by decide), hg]
    have hd4 := drop_on hd3
    have hsk2 : skipTo l (p + (atomTextF a).length + 1 + 2 + 1 + (commaF partTextF (b0 :: bs)).length) = p + (atomTextF a).length + 1 + 2 + 1 + (commaF partTextF (b0 :: bs)).length := by rw [skip_on hd4]; rfl
    obtain ⟨xs', hxs, hl⟩ := listF_on WfP partTextF nP l (atPartB l) (partF l) SA sa_comma (fun x t hx => partText_go x t hx) (fun x q r hx hq hr => part_on hq hx hr) (b0 :: bs) 12 (p + (atomTextF a).length + 1 + 2 + 1) (46 :: 10 :: r) (by simp) h12 hb hd3 (sa_dot _) (by rw [hsk2]; exact sign_no hd4 (by decide))
    refine ⟨hat, ⟨a', xs'⟩, ?_, ?_⟩
    · unfold nR; simp only; rw [han, hxs]
    · unfold ruleF
      rw [hok, hsk]
      simp only []
      rw [sign_on _ hd1, hg1]
      simp only []
      unfold partsF
      have e2 : ([58, 45] : List UInt8).length = 2 := rfl
      rw [e2, hl, hsk2]
      simp only []
      rw [sign_on (r := 10 :: r) [46] hd4, hgo]
      simp; omega
theorem ruleText_go (x : PRule) (r : List UInt8) (h : WfR x) : skipGo false (ruleTextF x ++ r) = 0 := by
  unfold ruleTextF
  rw [List.append_assoc, List.append_assoc]
  exact atomText_go _ _ h.1
theorem rulesText_go (xs : List PRule) (h : ∀ x ∈ xs, WfR x) : skipGo false (rulesTextF xs) = 0 := by
  cases xs with
  | nil => rfl
  | cons x xs => unfold rulesTextF; rw [List.flatMap_cons]; exact ruleText_go x _ (h x (by simp))
theorem rules_on (l : List UInt8) : ∀ (xs : List PRule) (n p : Nat), xs ≠ [] → xs.length ≤ n → (∀ x ∈ xs, WfR x) → l.drop p = rulesTextF xs → p + (rulesTextF xs).length = l.length →
    ∃ xs', xs'.map nR = xs.map nR ∧ listF (atNameB l) (ruleF l) (endF l) n p = .ok (xs', l.length) := by
  intro xs
  induction xs with
  | nil => intro n p h; exact absurd rfl h
  | cons x xs ih =>
    intro n p _ hn hw hd he
    obtain ⟨m, rfl⟩ : ∃ m, n = m + 1 := ⟨n - 1, by simp at hn; omega⟩
    have hc : rulesTextF (x :: xs) = ruleTextF x ++ rulesTextF xs := by unfold rulesTextF; rw [List.flatMap_cons]
    rw [hc] at hd he
    obtain ⟨hb, x', hx, ho⟩ := rule_on hd (hw x (by simp)) (rulesText_go xs (fun y hy => hw y (by simp [hy])))
    unfold listF
    rw [hb, if_pos rfl, ho]
    simp only []
    rw [List.length_append] at he
    cases xs with
    | nil =>
      have : p + (ruleTextF x).length = l.length := by rw [← he]; simp [rulesTextF]
      unfold endF
      rw [if_pos this, this]
      exact ⟨[x'], by simp [hx], rfl⟩
    | cons y ys =>
      have hpos : 0 < (rulesTextF (y :: ys)).length := by
        unfold rulesTextF; rw [List.flatMap_cons, List.length_append]; unfold ruleTextF; simp; omega
      unfold endF
      rw [if_neg (by omega)]
      obtain ⟨xs', hxs, hl⟩ := ih m (p + (ruleTextF x).length) (by simp) (by simp at hn ⊢; omega) (fun z hz => hw z (by simp [hz])) (drop_on hd) (by omega)
      unfold endF at hl
      simp only []
      rw [hl]
      exact ⟨x' :: xs', by simp only [List.map_cons] at hxs ⊢; rw [hx, hxs], rfl⟩
/-- D1, D4: the one form is a text of the same rules -/
theorem parse_again (rs : List PRule) (h200 : rs.length ≤ 200) (hw : ∀ r ∈ rs, WfR r) (hl : (rulesTextF rs).length ≤ 20000) : ∃ rs', rs'.map nR = rs.map nR ∧ parseF (rulesTextF rs) = .ok rs' := by
  have hs : skipTo (rulesTextF rs) 0 = 0 := by rw [skip_on (List.drop_zero), rulesText_go rs hw]
  rw [parseF_end, if_neg (by omega), hs]
  cases rs with
  | nil => exact ⟨[], rfl, by rw [if_pos (by decide)]⟩
  | cons x xs =>
    have hpos : 0 < (rulesTextF (x :: xs)).length := by
      unfold rulesTextF; rw [List.flatMap_cons, List.length_append]; unfold ruleTextF; simp; omega
    rw [if_neg (by omega)]
    obtain ⟨xs', hxs, hl2⟩ := rules_on (rulesTextF (x :: xs)) (x :: xs) 200 0 (by simp) h200 hw (List.drop_zero) (by omega)
    rw [hl2]
    exact ⟨xs', hxs, rfl⟩
end Go.Proofs.YtoelacloghkooaaGreatDoor

/-
  A text with a newline and more behind it: its rules are read as they were. Plain lists; nothing of the program.
-/
namespace Go.Proofs.YtoelacloghkooaaGreatDoor
set_option linter.unusedVariables false
/-- where a sign's place goes, if a newline and more stand behind the text -/
def behE (l y : List UInt8) (q : Nat) : Nat := if q = l.length then l.length + 1 + skipGo false y else q
theorem behE_in {l y : List UInt8} {q : Nat} (h : q < l.length) : behE l y q = q := by unfold behE; rw [if_neg (by omega)]
theorem skipGo_lim : ∀ (l : List UInt8) (b : Bool), skipGo b l ≤ l.length := by
  intro l
  induction l with
  | nil => intro b; unfold skipGo; simp
  | cons c t ih =>
    intro b
    cases b with
    | true => unfold skipGo; have h1 := ih true; have h2 := ih false; split <;> (simp only [List.length_cons]; omega)
    | false => unfold skipGo; have h1 := ih true; have h2 := ih false; split <;> (try split) <;> (simp only [List.length_cons]; omega)
theorem skipGo_beh (y : List UInt8) : ∀ (l : List UInt8) (b : Bool), skipGo b (l ++ 10 :: y) = if skipGo b l = l.length then l.length + 1 + skipGo false y else skipGo b l := by
  intro l
  obtain ⟨K, hK⟩ : ∃ K, skipGo false y = K := ⟨_, rfl⟩
  rw [hK]
  induction l with
  | nil =>
    intro b
    cases b with
    | true => simp only [List.nil_append, skipGo, hK]; simp
    | false => simp only [List.nil_append, skipGo, hK]; simp
  | cons c t ih =>
    intro b
    have hs : ∀ (k : Nat) (b : Bool), skipGo b t = k → (1 + (if skipGo b t = t.length then t.length + 1 + K else skipGo b t) = if 1 + skipGo b t = (c :: t).length then (c :: t).length + 1 + K else 1 + skipGo b t) := by
      intro k b hk
      by_cases h : skipGo b t = t.length
      · rw [if_pos h, if_pos (by simp only [List.length_cons]; omega)]; simp only [List.length_cons]; omega
      · rw [if_neg h, if_neg (by simp only [List.length_cons]; omega)]
    cases b with
    | true =>
      rw [List.cons_append]
      unfold skipGo
      split
      · rw [ih]; exact hs _ false rfl
      · rw [ih]; exact hs _ true rfl
    | false =>
      rw [List.cons_append]
      unfold skipGo
      split
      · rw [ih]; exact hs _ false rfl
      · split
        · rw [ih]; exact hs _ true rfl
        · rw [if_neg (by simp)]
theorem drop_beh (l y : List UInt8) (p : Nat) (h : p ≤ l.length) : (l ++ 10 :: y).drop p = l.drop p ++ 10 :: y := by
  rw [List.drop_append_of_le_length h]
theorem skip_beh (l y : List UInt8) (p : Nat) (h : p ≤ l.length) : skipTo (l ++ 10 :: y) p = behE l y (skipTo l p) := by
  unfold skipTo behE
  rw [drop_beh l y p h, skipGo_beh, List.length_drop]
  have := skipGo_lim (l.drop p) false
  rw [List.length_drop] at this
  by_cases h2 : skipGo false (l.drop p) = l.length - p
  · rw [if_pos h2, if_pos (by omega)]; omega
  · rw [if_neg h2, if_neg (by omega)]
theorem skip_lim (l : List UInt8) (p : Nat) (h : p ≤ l.length) : skipTo l p ≤ l.length := by
  unfold skipTo
  have := skipGo_lim (l.drop p) false
  rw [List.length_drop] at this
  omega
theorem takeWhile_beh (y : List UInt8) : ∀ l : List UInt8, (l ++ 10 :: y).takeWhile wordB = l.takeWhile wordB := by
  intro l
  induction l with
  | nil => rw [List.nil_append, List.takeWhile_cons]; rfl
  | cons c t ih => rw [List.cons_append, List.takeWhile_cons, List.takeWhile_cons, ih]
theorem word_beh (l y : List UInt8) (p : Nat) (h : p ≤ l.length) : wordAt (l ++ 10 :: y) p = wordAt l p := by
  unfold wordAt; rw [drop_beh l y p h, takeWhile_beh]
theorem prefix_beh (y : List UInt8) : ∀ (s l : List UInt8), (10 : UInt8) ∉ s → s.isPrefixOf (l ++ 10 :: y) = s.isPrefixOf l := by
  intro s
  induction s with
  | nil => intro l _; simp [List.isPrefixOf]
  | cons c s ih =>
    intro l hs
    cases l with
    | nil =>
      rw [List.nil_append]
      have : c ≠ 10 := by rintro rfl; exact hs (by simp)
      simp [List.isPrefixOf, this]
    | cons d l =>
      rw [List.cons_append, List.isPrefixOf, List.isPrefixOf, ih l (fun h => hs (by simp [h]))]
theorem starts_beh (l y : List UInt8) (p : Nat) (s : List UInt8) (h : p ≤ l.length) (hs : (10 : UInt8) ∉ s) : starts (l ++ 10 :: y) p s = starts l p s := by
  unfold starts; rw [drop_beh l y p h, prefix_beh y s _ hs]
theorem starts_len {l s : List UInt8} {p : Nat} (h : starts l p s = true) : p + s.length ≤ l.length ∨ s.length = 0 := by
  unfold starts at h
  rw [List.isPrefixOf_iff_prefix] at h
  have := h.length_le
  rw [List.length_drop] at this
  omega
theorem word_len (l : List UInt8) (p : Nat) : p + (wordAt l p).length ≤ l.length ∨ (wordAt l p).length = 0 := by
  have : (wordAt l p).length ≤ (l.drop p).length := by unfold wordAt; exact (List.takeWhile_prefix wordB).length_le
  rw [List.length_drop] at this
  omega
theorem sign_some_beh {l y s : List UInt8} {p q : Nat} (hs : (10 : UInt8) ∉ s) (h0 : s.length ≠ 0) (h : signF l s p = some q) : p < l.length ∧ q ≤ l.length ∧ signF (l ++ 10 :: y) s p = some (behE l y q) := by
  unfold signF at h
  split at h
  · rename_i hst
    have hl := starts_len hst
    cases h
    refine ⟨by omega, skip_lim _ _ (by omega), ?_⟩
    unfold signF
    rw [starts_beh l y p s (by omega) hs, if_pos hst, skip_beh l y _ (by omega)]
  · cases h
theorem sign_none_beh {l y s : List UInt8} {p : Nat} (hs : (10 : UInt8) ∉ s) (hp : p ≤ l.length) (h : signF l s p = none) : signF (l ++ 10 :: y) s p = none := by
  unfold signF at h ⊢
  split at h
  · cases h
  · rename_i hst
    rw [starts_beh l y p s hp hs, if_neg hst]
theorem name_beh (l y : List UInt8) (p : Nat) (h : p ≤ l.length) : atNameB (l ++ 10 :: y) p = atNameB l p := by unfold atNameB; rw [word_beh l y p h]
theorem term_beh0 (l y : List UInt8) (p : Nat) (h : p ≤ l.length) : atTermB (l ++ 10 :: y) p = atTermB l p := by unfold atTermB; rw [word_beh l y p h, starts_beh l y p _ h (by decide)]
theorem part_beh0 (l y : List UInt8) (p : Nat) (h : p ≤ l.length) : atPartB (l ++ 10 :: y) p = atPartB l p := by unfold atPartB; rw [word_beh l y p h, term_beh0 l y p h]
theorem wordAt_out {l : List UInt8} {p : Nat} (h : l.length ≤ p) : wordAt l p = [] := by unfold wordAt; rw [List.drop_eq_nil_of_le h]; rfl
theorem starts_end {l s : List UInt8} {p : Nat} (h : l.length ≤ p) (h0 : s.length ≠ 0) : starts l p s = false := by
  unfold starts; rw [List.drop_eq_nil_of_le h]
  cases s with
  | nil => exact absurd rfl h0
  | cons c s => rfl
theorem name_in {l : List UInt8} {p : Nat} (h : atNameB l p = true) : p < l.length := by
  rcases Nat.lt_or_ge p l.length with h1 | h1
  · exact h1
  · unfold atNameB at h; rw [wordAt_out h1] at h; cases h
theorem term_in {l : List UInt8} {p : Nat} (h : atTermB l p = true) : p < l.length := by
  rcases Nat.lt_or_ge p l.length with h1 | h1
  · exact h1
  · unfold atTermB at h; rw [wordAt_out h1, starts_end h1 (by decide)] at h; cases h
theorem part_in {l : List UInt8} {p : Nat} (h : atPartB l p = true) : p < l.length := by
  rcases Nat.lt_or_ge p l.length with h1 | h1
  · exact h1
  · unfold atPartB atTermB at h; rw [wordAt_out h1, starts_end h1 (by decide)] at h; cases h
theorem str_beh (y : List UInt8) (l : List UInt8) : ∀ (n p : Nat) (acc o : List UInt8) (q : Nat), l.length ≤ n → strGo l p acc = .ok (o, q) → strGo (l ++ 10 :: y) p acc = .ok (o, q) ∧ q ≤ p + l.length := by
  intro n
  induction n generalizing l with
  | zero => intro p acc o q h; cases l with
    | nil => intro h; unfold strGo at h; cases h
    | cons c t => simp at h
  | succ n ih =>
    intro p acc o q hn h
    cases l with
    | nil => unfold strGo at h; cases h
    | cons c t =>
      rw [List.cons_append]
      unfold strGo at h ⊢
      by_cases h1 : c = 34
      · rw [if_pos h1] at h ⊢
        cases h
        exact ⟨rfl, by simp⟩
      · rw [if_neg h1] at h ⊢
        by_cases h2 : c = 10
        · rw [if_pos h2] at h; cases h
        · rw [if_neg h2] at h ⊢
          by_cases h3 : c = 92
          · rw [if_pos h3] at h ⊢
            cases t with
            | nil => cases h
            | cons e t2 =>
              simp only [List.cons_append] at h ⊢
              by_cases h4 : e = 110
              · rw [if_pos h4] at h ⊢
                have := ih t2 _ _ _ _ (by simp at hn; omega) h
                exact ⟨this.1, by simp; omega⟩
              · rw [if_neg h4] at h ⊢
                by_cases h5 : e = 34 ∨ e = 92
                · rw [if_pos h5] at h ⊢
                  have := ih t2 _ _ _ _ (by simp at hn; omega) h
                  exact ⟨this.1, by simp; omega⟩
                · rw [if_neg h5] at h; cases h
          · rw [if_neg h3] at h ⊢
            have := ih t _ _ _ _ (by simpa using hn) h
            exact ⟨this.1, by simp; omega⟩
theorem termF_beh {l y : List UInt8} {p q : Nat} {t : PTerm} (h : termF l p = .ok (t, q)) : p < l.length ∧ q ≤ l.length ∧ termF (l ++ 10 :: y) p = .ok (t, behE l y q) := by
  unfold termF at h
  by_cases h1 : starts l p [34] = true
  · rw [if_pos h1] at h
    have hp := starts_len h1
    have hp : p < l.length := by simp at hp; omega
    cases hg : strGo (l.drop (p + 1)) (p + 1) [] with
    | error e => rw [hg] at h; cases h
    | ok v =>
      obtain ⟨o, r⟩ := v
      rw [hg] at h
      simp only [] at h
      have hs := str_beh y _ _ _ _ _ _ (Nat.le_refl _) hg
      rw [List.length_drop] at hs
      split at h
      · cases h
      · rename_i hlen
        cases h
        refine ⟨hp, skip_lim _ _ (by omega), ?_⟩
        unfold termF
        rw [starts_beh l y p _ (by omega) (by decide), if_pos h1, drop_beh l y _ (by omega), hs.1]
        simp only []
        rw [if_neg hlen, skip_beh l y _ (by omega)]
  · rw [if_neg h1] at h
    split at h
    · rename_i ht
      have hp := term_in ht
      have hw := word_len l p
      cases h
      refine ⟨hp, skip_lim _ _ (by omega), ?_⟩
      unfold termF
      rw [starts_beh l y p _ (by omega) (by decide), if_neg h1, term_beh0 l y p (by omega), if_pos ht, word_beh l y p (by omega), skip_beh l y _ (by omega)]
    · cases h
/-- a list within a rule: what stands behind it is still of the text -/
theorem listF_beh {α : Type} (l y : List UInt8) (bg bg' : Nat → Bool) (one one' : Nat → Except PErr (α × Nat)) (go go' : Nat → Option Nat) (h0 : ∀ p, bg p = true → p < l.length) (h1 : ∀ p, p ≤ l.length → bg' p = bg p)
    (h2 : ∀ p x q, one p = .ok (x, q) → q < l.length → one' p = .ok (x, q)) (hq : ∀ p x q, one p = .ok (x, q) → q ≤ l.length)
    (h3 : ∀ p r, go p = some r → p < l.length ∧ go' p = some (behE l y r)) (h4 : ∀ p, p < l.length → go p = none → go' p = none) :
    ∀ (n p : Nat) (xs : List α) (q : Nat), listF bg one go n p = .ok (xs, q) → q < l.length → listF bg' one' go' n p = .ok (xs, q) := by
  intro n
  induction n with
  | zero => intro p xs q h; unfold listF at h; split at h <;> cases h
  | succ n ih =>
    intro p xs q h hlt
    unfold listF at h
    split at h
    · rename_i hb
      have hp := h0 p hb
      split at h
      · cases h
      · rename_i x q1 ho
        split at h
        · rename_i hg
          cases h
          unfold listF
          rw [h1 p (by omega), hb, if_pos rfl, h2 _ _ _ ho hlt]
          simp only []
          rw [h4 _ hlt hg]
        · rename_i r hg
          split at h
          · cases h
          · rename_i xs' r2 hl
            cases h
            have hgr := h3 _ _ hg
            have hr : r < l.length := by
              cases n with
              | zero => unfold listF at hl; split at hl <;> cases hl
              | succ m =>
                unfold listF at hl
                split at hl
                · rename_i hb2; exact h0 r hb2
                · cases hl
            unfold listF
            rw [h1 p (by omega), hb, if_pos rfl, h2 _ _ _ ho hgr.1]
            simp only []
            rw [hgr.2, behE_in hr]
            simp only []
            rw [ih _ _ _ hl hlt]
    · cases h
theorem listF_le {α : Type} (N : Nat) (bg : Nat → Bool) (one : Nat → Except PErr (α × Nat)) (go : Nat → Option Nat) (hq : ∀ p x q, one p = .ok (x, q) → q ≤ N) :
    ∀ (n p : Nat) (xs : List α) (q : Nat), listF bg one go n p = .ok (xs, q) → q ≤ N := by
  intro n
  induction n with
  | zero => intro p xs q h; unfold listF at h; split at h <;> cases h
  | succ n ih =>
    intro p xs q h
    unfold listF at h
    split at h
    · split at h
      · cases h
      · rename_i x q1 ho
        split at h
        · cases h; exact hq _ _ _ ho
        · split at h
          · cases h
          · rename_i xs' r2 hl
            cases h
            exact ih _ _ _ hl
    · cases h
theorem comma_some {l y : List UInt8} (p r : Nat) (h : signF l [44] p = some r) : p < l.length ∧ signF (l ++ 10 :: y) [44] p = some (behE l y r) := by
  have := sign_some_beh (y := y) (by decide) (by decide) h
  exact ⟨this.1, this.2.2⟩
theorem atomF_beh {l y : List UInt8} {p q : Nat} {a : PAtom} (h : atomF l p = .ok (a, q)) : p < l.length ∧ q ≤ l.length ∧ (q < l.length → atomF (l ++ 10 :: y) p = .ok (a, q)) := by
  unfold atomF at h
  split at h
  · rename_i hn
    have hp := name_in hn
    have hw := word_len l p
    have hskl := skip_lim l (p + (wordAt l p).length) (by omega)
    refine ⟨hp, ?_⟩
    have hn' : atNameB (l ++ 10 :: y) p = true := by rw [name_beh l y p (by omega)]; exact hn
    split at h
    · rename_i hs
      cases h
      refine ⟨hskl, fun hlt => ?_⟩
      unfold atomF
      rw [hn', if_pos rfl, word_beh l y p (by omega), skip_beh l y _ (by omega), behE_in hlt, sign_none_beh (by decide) hskl hs]
    · rename_i r hs
      have hss := sign_some_beh (y := y) (by decide) (by decide) hs
      split at h
      · cases h
      · rename_i args r1 hl
        split at h
        · cases h
        · rename_i r2 hc
          cases h
          have hcs := sign_some_beh (y := y) (by decide) (by decide) hc
          refine ⟨hcs.2.1, fun hlt => ?_⟩
          have hr : r < l.length := by
            unfold listF at hl
            split at hl
            · rename_i hb; exact term_in hb
            · cases hl
          have hl' := listF_beh l y (atTermB l) (atTermB (l ++ 10 :: y)) (termF l) (termF (l ++ 10 :: y)) (signF l [44]) (signF (l ++ 10 :: y) [44]) (fun p => term_in) (term_beh0 l y)
            (fun p x q h hq => by have := termF_beh (y := y) h; rw [behE_in hq] at this; exact this.2.2) (fun p x q h => (termF_beh (y := y) h).2.1) comma_some (fun p hp h => sign_none_beh (by decide) (by omega) h) _ _ _ _ hl hcs.1
          unfold atomF
          rw [hn', if_pos rfl, word_beh l y p (by omega), skip_beh l y _ (by omega), behE_in hss.1, hss.2.2]
          simp only []
          rw [behE_in hr, hl']
          simp only []
          rw [hcs.2.2]
          simp only []
          rw [behE_in hlt]
  · cases h
theorem compF_beh {l y : List UInt8} {p : Nat} (hp : p < l.length) (hq : ∀ k q, compF l p = some (k, q) → q < l.length) : compF (l ++ 10 :: y) p = compF l p := by
  unfold compF at hq ⊢
  cases h1 : signF l [61] p with
  | some q =>
    rw [h1] at hq
    have := sign_some_beh (y := y) (by decide) (by decide) h1
    rw [this.2.2, behE_in (hq 2 q rfl)]
  | none =>
    rw [sign_none_beh (by decide) (by omega) h1]
    rw [h1] at hq
    simp only [] at hq ⊢
    cases h2 : signF l [33, 61] p with
    | some q =>
      rw [h2] at hq
      have := sign_some_beh (y := y) (by decide) (by decide) h2
      rw [this.2.2, behE_in (hq 3 q rfl)]
    | none =>
      rw [sign_none_beh (by decide) (by omega) h2]
      rw [h2] at hq
      simp only [] at hq ⊢
      cases h3 : signF l [60] p with
      | some q =>
        rw [h3] at hq
        have := sign_some_beh (y := y) (by decide) (by decide) h3
        rw [this.2.2, behE_in (hq 4 q rfl)]
      | none => rw [sign_none_beh (by decide) (by omega) h3]
theorem compF_none_beh {l y : List UInt8} {p : Nat} (hp : p < l.length) : (compF (l ++ 10 :: y) p).isNone = (compF l p).isNone := by
  unfold compF
  cases h1 : signF l [61] p with
  | some q => rw [(sign_some_beh (y := y) (by decide) (by decide) h1).2.2]; rfl
  | none =>
    rw [sign_none_beh (by decide) (by omega) h1]
    simp only []
    cases h2 : signF l [33, 61] p with
    | some q => rw [(sign_some_beh (y := y) (by decide) (by decide) h2).2.2]; rfl
    | none =>
      rw [sign_none_beh (by decide) (by omega) h2]
      simp only []
      cases h3 : signF l [60] p with
      | some q => rw [(sign_some_beh (y := y) (by decide) (by decide) h3).2.2]; rfl
      | none => rw [sign_none_beh (by decide) (by omega) h3]
theorem compF_in {l : List UInt8} {p k q : Nat} (h : compF l p = some (k, q)) : p < l.length := by
  unfold compF at h
  split at h
  · rename_i h1; exact (sign_some_beh (y := []) (by decide) (by decide) h1).1
  · split at h
    · rename_i h1; exact (sign_some_beh (y := []) (by decide) (by decide) h1).1
    · split at h
      · rename_i h1; exact (sign_some_beh (y := []) (by decide) (by decide) h1).1
      · cases h
theorem partF_beh {l y : List UInt8} {p q : Nat} {x : PPart} (h : partF l p = .ok (x, q)) : q ≤ l.length ∧ (q < l.length → partF (l ++ 10 :: y) p = .ok (x, q)) := by
  unfold partF at h
  by_cases h1 : wordAt l p = [110, 111, 116]
  · rw [if_pos h1] at h
    have hp : p < l.length := by
      rcases Nat.lt_or_ge p l.length with h2 | h2
      · exact h2
      · rw [wordAt_out h2] at h1; cases h1
    have hw := word_len l p
    rw [h1] at hw
    simp only [List.length_cons, List.length_nil] at hw
    split at h
    · cases h
    · rename_i a q1 ha
      cases h
      have hb := atomF_beh (y := y) ha
      refine ⟨hb.2.1, fun hlt => ?_⟩
      unfold partF
      rw [word_beh l y p (by omega), if_pos h1, skip_beh l y _ (by omega), behE_in hb.1, hb.2.2 hlt]
  · rw [if_neg h1] at h
    split at h
    · rename_i hc
      split at h
      · cases h
      · rename_i a q1 ha
        cases h
        have hb := atomF_beh (y := y) ha
        refine ⟨hb.2.1, fun hlt => ?_⟩
        have hw := word_len l p
        rw [Bool.and_eq_true] at hc
        have hin : skipTo l (p + (wordAt l p).length) < l.length := by
          rcases Nat.lt_or_ge (skipTo l (p + (wordAt l p).length)) l.length with h2 | h2
          · exact h2
          · exfalso
            unfold atomF at ha
            rw [hc.1, if_pos rfl] at ha
            have : signF l [40] (skipTo l (p + (wordAt l p).length)) = none := by unfold signF; rw [starts_end h2 (by decide)]; rfl
            rw [this] at ha
            cases ha
            omega
        unfold partF
        rw [word_beh l y p (by omega), if_neg h1, name_beh l y p (by omega), skip_beh l y _ (by omega), behE_in hin, compF_none_beh hin, hc.1, hc.2, if_pos (by decide), hb.2.2 hlt]
    · rename_i hc
      split at h
      · cases h
      · rename_i t q1 ht
        have htb := termF_beh (y := y) ht
        split at h
        · cases h
        · rename_i k r hcp
          have hq1 := compF_in hcp
          split at h
          · cases h
          · rename_i u r2 hu
            cases h
            have hub := termF_beh (y := y) hu
            refine ⟨hub.2.1, fun hlt => ?_⟩
            have hcp' := compF_beh (y := y) hq1 (fun k' q' h' => by rw [hcp] at h'; cases h'; exact hub.1)
            unfold partF
            rw [word_beh l y p (by omega), if_neg h1, name_beh l y p (by omega), if_neg, htb.2.2, behE_in hq1]
            · simp only []
              rw [hcp', hcp]
              simp only []
              rw [hub.2.2, behE_in hlt]
            · intro hc'
              apply hc
              rw [Bool.and_eq_true] at hc' ⊢
              refine ⟨hc'.1, ?_⟩
              have hn := hc'.1
              have hw := word_len l p
              have hst : starts l p [34] = false := by
                have := name_word hn
                have h0 : wordAt l p ≠ [] := by intro h0; unfold atNameB at hn; rw [h0] at hn; cases hn
                obtain ⟨w, hw2⟩ : ∃ w, l.drop p = wordAt l p ++ w := by
                  refine ⟨(l.drop p).dropWhile wordB, ?_⟩
                  unfold wordAt; rw [List.takeWhile_append_dropWhile]
                exact starts_word hw2 this h0
              have hq : q1 = skipTo l (p + (wordAt l p).length) := by
                unfold termF at ht
                rw [hst, if_neg (by simp)] at ht
                split at ht
                · cases ht; rfl
                · cases ht
              rw [skip_beh l y _ (by omega), ← hq, behE_in hq1, compF_none_beh hq1] at hc'
              rw [← hq]; exact hc'.2
theorem ruleF_beh {l y : List UInt8} {p q : Nat} {x : PRule} (h : ruleF l p = .ok (x, q)) : q ≤ l.length ∧ ruleF (l ++ 10 :: y) p = .ok (x, behE l y q) := by
  unfold ruleF at h
  split at h
  · cases h
  · rename_i a q1 ha
    have hab := atomF_beh (y := y) ha
    split at h
    · cases h
    · rename_i b r hb
      split at h
      · cases h
      · rename_i r2 hd
        cases h
        have hdb := sign_some_beh (y := y) (by decide) (by decide) hd
        refine ⟨hdb.2.1, ?_⟩
        split at hb
        · rename_i hi
          cases hb
          unfold ruleF
          rw [hab.2.2 hdb.1]
          simp only []
          rw [sign_none_beh (by decide) (by omega) hi]
          simp only []
          rw [hdb.2.2]
        · rename_i s hi
          have hib := sign_some_beh (y := y) (by decide) (by decide) hi
          have hs : s < l.length := by
            unfold partsF listF at hb
            split at hb
            · rename_i hbb; exact part_in hbb
            · cases hb
          have hb' := listF_beh l y (atPartB l) (atPartB (l ++ 10 :: y)) (partF l) (partF (l ++ 10 :: y)) (signF l [44]) (signF (l ++ 10 :: y) [44]) (fun p => part_in) (part_beh0 l y)
            (fun p x q h hq => (partF_beh (y := y) h).2 hq) (fun p x q h => (partF_beh (y := y) h).1) comma_some (fun p hp h => sign_none_beh (by decide) (by omega) h) _ _ _ _ hb hdb.1
          unfold ruleF
          rw [hab.2.2 hib.1]
          simp only []
          rw [hib.2.2, behE_in hs]
          simp only []
          unfold partsF
          rw [hb']
          simp only []
          rw [hdb.2.2]
/-- the rules of a text, and of what stands behind it -/
theorem rules_beh (l y : List UInt8) : ∀ (n p : Nat) (xs : List PRule) (q m : Nat), listF (atNameB l) (ruleF l) (endF l) n p = .ok (xs, q) →
    q = l.length ∧ xs.length ≤ n ∧ listF (atNameB (l ++ 10 :: y)) (ruleF (l ++ 10 :: y)) (endF (l ++ 10 :: y)) (n + m) p =
      if l.length + 1 + skipGo false y = (l ++ 10 :: y).length then .ok (xs, (l ++ 10 :: y).length)
      else match listF (atNameB (l ++ 10 :: y)) (ruleF (l ++ 10 :: y)) (endF (l ++ 10 :: y)) (n + m - xs.length) (l.length + 1 + skipGo false y) with
        | .error e => .error e
        | .ok (ys, r) => .ok (xs ++ ys, r) := by
  intro n
  induction n with
  | zero => intro p xs q m h; unfold listF at h; split at h <;> cases h
  | succ n ih =>
    intro p xs q m h
    rw [show n + 1 + m = (n + m) + 1 by omega]
    unfold listF at h
    split at h
    · rename_i hb
      have hp := name_in hb
      split at h
      · cases h
      · rename_i x q1 ho
        have hob := ruleF_beh (y := y) ho
        split at h
        · rename_i hg
          cases h
          have hq1 : q = l.length := by
            unfold endF at hg
            split at hg
            · assumption
            · cases hg
          refine ⟨hq1, by simp, ?_⟩
          have hbe : behE l y q = l.length + 1 + skipGo false y := by unfold behE; rw [if_pos hq1]
          rw [hbe] at hob
          conv => lhs; unfold listF
          rw [name_beh l y p (by omega), hb, if_pos rfl, hob.2]
          simp only []
          by_cases he : l.length + 1 + skipGo false y = (l ++ 10 :: y).length
          · rw [if_pos he, he]
            rw [show endF (l ++ 10 :: y) (l ++ 10 :: y).length = none by unfold endF; rw [if_pos rfl]]
          · rw [if_neg he]
            rw [show endF (l ++ 10 :: y) (l.length + 1 + skipGo false y) = some (l.length + 1 + skipGo false y) by unfold endF; rw [if_neg he]]
            simp only [List.length_cons, List.length_nil, Nat.zero_add, Nat.add_sub_cancel]
            cases listF (atNameB (l ++ 10 :: y)) (ruleF (l ++ 10 :: y)) (endF (l ++ 10 :: y)) (n + m) (l.length + 1 + skipGo false y) with
            | error e => rfl
            | ok v => rfl
        · rename_i r hg
          have hr : r = q1 ∧ q1 ≠ l.length := by
            unfold endF at hg
            split at hg
            · cases hg
            · cases hg; exact ⟨rfl, by assumption⟩
          obtain ⟨rfl, hne⟩ := hr
          split at h
          · cases h
          · rename_i xs' r2 hl
            cases h
            have hin : r < l.length := by omega
            rw [behE_in hin] at hob
            obtain ⟨e1, e2, e3⟩ := ih _ _ _ m hl
            refine ⟨e1, by simp; omega, ?_⟩
            conv => lhs; unfold listF
            rw [name_beh l y p (by omega), hb, if_pos rfl, hob.2]
            simp only []
            rw [show endF (l ++ 10 :: y) r = some r by unfold endF; rw [if_neg (by rw [List.length_append]; omega)]]
            simp only []
            rw [e3]
            rw [show n + m + 1 - (x :: xs').length = n + m - xs'.length by simp]
            by_cases he : l.length + 1 + skipGo false y = (l ++ 10 :: y).length
            · rw [if_pos he, if_pos he]
            · rw [if_neg he, if_neg he]
              cases listF (atNameB (l ++ 10 :: y)) (ruleF (l ++ 10 :: y)) (endF (l ++ 10 :: y)) (n + m - xs'.length) (l.length + 1 + skipGo false y) with
              | error e => rfl
              | ok v => rfl
    · cases h
theorem listF_uniq {α : Type} (bg : Nat → Bool) (one : Nat → Except PErr (α × Nat)) (go : Nat → Option Nat) : ∀ (n m p : Nat) (xs ys : List α) (q r : Nat), listF bg one go n p = .ok (xs, q) → listF bg one go m p = .ok (ys, r) → ys = xs ∧ r = q := by
  intro n
  induction n with
  | zero => intro m p xs ys q r h; unfold listF at h; split at h <;> cases h
  | succ n ih =>
    intro m p xs ys q r h h'
    cases m with
    | zero => unfold listF at h'; split at h' <;> cases h'
    | succ m =>
      unfold listF at h h'
      split at h
      · rename_i hb
        rw [if_pos hb] at h'
        split at h
        · cases h
        · rename_i x q1 ho
          rw [ho] at h'
          simp only [] at h'
          split at h
          · rename_i hg
            rw [hg] at h'
            cases h; cases h'; exact ⟨rfl, rfl⟩
          · rename_i s hg
            rw [hg] at h'
            simp only [] at h'
            split at h
            · cases h
            · rename_i xs' r2 hl
              split at h'
              · cases h'
              · rename_i ys' r3 hl'
                cases h; cases h'
                obtain ⟨rfl, rfl⟩ := ih _ _ _ _ _ _ hl hl'
                exact ⟨rfl, rfl⟩
      · cases h
/-- D1: a remark behind a program changes nothing -/
theorem parse_remark (l y : List UInt8) (rs : List PRule) (hy : skipGo false y = y.length) (hl : (l ++ 10 :: y).length ≤ 20000) (h : parseF l = .ok rs) : parseF (l ++ 10 :: y) = .ok rs := by
  rw [parseF_end] at h ⊢
  rw [if_neg (by rw [List.length_append] at hl; omega)] at h
  rw [if_neg (by omega), skip_beh l y 0 (by omega)]
  have hlen : (l ++ 10 :: y).length = l.length + 1 + y.length := by simp; omega
  split at h
  · rename_i he
    cases h
    rw [if_pos (by unfold behE; rw [if_pos he]; omega)]
  · rename_i he
    have hsl := skip_lim l 0 (by omega)
    have hin : skipTo l 0 < l.length := by omega
    rw [behE_in hin, if_neg (by omega)]
    split at h
    · cases h
    · rename_i xs q hr
      cases h
      obtain ⟨_, _, e3⟩ := rules_beh l y _ _ _ _ 0 hr
      rw [Nat.add_zero] at e3
      rw [e3, if_pos (by omega)]
/-- D1: two programs, one behind the other -/
theorem parse_joined (l y : List UInt8) (rs ss us : List PRule) (h : parseF l = .ok rs) (h2 : parseF y = .ok ss) (h3 : parseF (l ++ 10 :: y) = .ok us) : us = rs ++ ss.map (shR (l.length + 1)) := by
  have hlen : (l ++ 10 :: y).length = l.length + 1 + y.length := by simp; omega
  rw [parseF_end] at h h2 h3
  split at h
  · cases h
  · split at h2
    · cases h2
    · split at h3
      · cases h3
      · rw [skip_beh l y 0 (by omega)] at h3
        have hsy : skipTo y 0 = skipGo false y := by unfold skipTo; simp
        have hsl := skip_lim l 0 (by omega)
        have hpre : l ++ 10 :: y = (l ++ [10]) ++ y := by simp
        have hpl : (l ++ [10]).length = l.length + 1 := by simp
        have hrest : ∀ n, listF (atNameB (l ++ 10 :: y)) (ruleF (l ++ 10 :: y)) (endF (l ++ 10 :: y)) n (l.length + 1 + skipGo false y) = shX (l.length + 1) (List.map (shR (l.length + 1))) (listF (atNameB y) (ruleF y) (endF y) n (skipTo y 0)) := by
          intro n
          rw [hpre, hsy, ← hpl]
          exact rules_pre (l ++ [10]) y n (skipGo false y)
        have hback : ∀ n us r, listF (atNameB (l ++ 10 :: y)) (ruleF (l ++ 10 :: y)) (endF (l ++ 10 :: y)) n (l.length + 1 + skipGo false y) = .ok (us, r) → skipTo y 0 ≠ y.length → us = ss.map (shR (l.length + 1)) := by
          intro n us r hu hne
          rw [if_neg hne] at h2
          split at h2
          · cases h2
          · rename_i ss' q hr
            cases h2
            rw [hrest] at hu
            cases hv : listF (atNameB y) (ruleF y) (endF y) n (skipTo y 0) with
            | error e => rw [hv] at hu; obtain ⟨e, x⟩ := e; cases hu
            | ok v =>
              obtain ⟨vs, s⟩ := v
              rw [hv] at hu
              cases hu
              rw [(listF_uniq _ _ _ _ _ _ _ _ _ _ hr hv).1]
        by_cases he : skipTo l 0 = l.length
        · rw [if_pos he] at h
          cases h
          rw [show behE l y (skipTo l 0) = l.length + 1 + skipGo false y by unfold behE; rw [if_pos he]] at h3
          by_cases hy : skipTo y 0 = y.length
          · rw [if_pos hy] at h2
            cases h2
            rw [if_pos (by omega)] at h3
            cases h3; rfl
          · rw [if_neg (by rw [hlen]; omega)] at h3
            split at h3
            · cases h3
            · rename_i us' r hu
              cases h3
              rw [List.nil_append]
              exact hback _ _ _ hu hy
        · rw [if_neg he] at h
          have hin : skipTo l 0 < l.length := by omega
          rw [behE_in hin, if_neg (by omega)] at h3
          split at h
          · cases h
          · rename_i xs q hr
            cases h
            obtain ⟨_, _, e3⟩ := rules_beh l y _ _ _ _ 0 hr
            rw [Nat.add_zero] at e3
            rw [e3] at h3
            by_cases hy : skipTo y 0 = y.length
            · rw [if_pos hy] at h2
              cases h2
              rw [if_pos (by omega)] at h3
              cases h3; simp
            · rw [if_neg (by rw [hlen]; omega)] at h3
              split at h3
              · cases h3
              · rename_i us' r hu
                cases h3
                split at hu
                · cases hu
                · rename_i ys r' hv
                  cases hu
                  rw [hback _ _ _ hv hy]
/-- a remark, and blanks, ahead -/
theorem skipGo_remark : ∀ (m l : List UInt8), (10 : UInt8) ∉ m → skipGo true (m ++ 10 :: l) = m.length + 1 + skipGo false l := by
  intro m
  induction m with
  | nil => intro l _; rw [List.nil_append]; conv => lhs; unfold skipGo
           rw [if_pos rfl]; simp
  | cons c m ih =>
    intro l h
    rw [List.cons_append]
    conv => lhs; unfold skipGo
    rw [if_neg (by rintro rfl; exact h (by simp)), ih l (fun h2 => h (by simp [h2]))]
    simp only [List.length_cons]; omega
theorem skipGo_rest : ∀ (m : List UInt8), (10 : UInt8) ∉ m → skipGo true m = m.length := by
  intro m
  induction m with
  | nil => intro _; rfl
  | cons c m ih =>
    intro h
    unfold skipGo
    rw [if_neg (by rintro rfl; exact h (by simp)), ih (fun h2 => h (by simp [h2]))]
    simp only [List.length_cons]; omega
theorem skip_ahead (m l : List UInt8) (h : (10 : UInt8) ∉ m) : skipGo false (([37] ++ m ++ [10, 9, 32]) ++ l) = ([37] ++ m ++ [10, 9, 32]).length + skipGo false l := by
  have e : ([37] ++ m ++ [10, 9, 32]) ++ l = 37 :: (m ++ 10 :: (9 :: 32 :: l)) := by simp
  rw [e]
  have e2 : skipGo false (9 :: 32 :: l) = 2 + skipGo false l := by
    conv => lhs; unfold skipGo
    rw [if_pos (by decide)]
    conv => lhs; rhs; unfold skipGo
    rw [if_pos (by decide)]; omega
  conv => lhs; unfold skipGo
  rw [if_neg (by decide), if_pos rfl, skipGo_remark m _ h, e2]
  simp; omega
theorem skip_behind (m : List UInt8) (h : (10 : UInt8) ∉ m) : skipGo false ([37, 32] ++ m) = ([37, 32] ++ m).length := by
  show skipGo false (37 :: 32 :: m) = _
  unfold skipGo
  rw [if_neg (by decide), if_pos rfl]
  conv => lhs; unfold skipGo
  rw [if_neg (by decide), skipGo_rest m h]
  simp; omega
theorem print_remark_ahead (m l : List UInt8) (h : (10 : UInt8) ∉ m) (hl : l.length + m.length + 4 ≤ 20000) : printF (([37] ++ m ++ [10, 9, 32]) ++ l) = match printF l with
    | .error (e, x) => .error (e, m.length + 4 + x)
    | .ok t => .ok t := by
  have hlen : ([37] ++ m ++ [10, 9, 32]).length = m.length + 4 := by simp
  unfold printF
  rw [parse_pre _ l (skip_ahead m l h) (by rw [List.length_append, hlen]; omega), hlen]
  cases parseF l with
  | error e => obtain ⟨e, x⟩ := e; rfl
  | ok rs => simp only []; rw [rulesText_sh]
theorem print_remark_behind (m l : List UInt8) (t : List UInt8) (h : (10 : UInt8) ∉ m) (hl : l.length + m.length + 3 ≤ 20000) (ht : printF l = .ok t) : printF (l ++ 10 :: ([37, 32] ++ m)) = .ok t := by
  unfold printF at ht ⊢
  cases hp : parseF l with
  | error e => rw [hp] at ht; cases ht
  | ok rs =>
    rw [hp] at ht
    rw [parse_remark l _ rs (skip_behind m h) (by simp; omega) hp]
    exact ht
theorem print_joined (l y : List UInt8) (t u : List UInt8) (us : List PRule) (h : printF l = .ok t) (h2 : printF y = .ok u) (h3 : parseF (l ++ 10 :: y) = .ok us) : printF (l ++ 10 :: y) = .ok (t ++ u) := by
  unfold printF at h h2 ⊢
  cases hp : parseF l with
  | error e => rw [hp] at h; cases h
  | ok rs =>
    cases hp2 : parseF y with
    | error e => rw [hp2] at h2; cases h2
    | ok ss =>
      rw [hp] at h; rw [hp2] at h2
      cases h; cases h2
      rw [h3, parse_joined l y rs ss us hp hp2 h3]
      simp only []
      unfold rulesTextF
      rw [List.flatMap_append, List.flatMap_map]; simp only [ruleText_sh]
/-- D3: every text, written as a constant, is read as itself -/
theorem query_const (s : List UInt8) (hl : ([112, 40] ++ constF s ++ [41, 46]).length ≤ 20000) : queryF ([112, 40] ++ constF s ++ [41, 46]) = if 200 < s.length then .error (1, 2) else .ok [⟨0, ⟨[112], [⟨false, s, 2⟩], 0⟩, noTerm, noTerm⟩] := by
  have hd0 : ([112, 40] ++ constF s ++ [41, 46]).drop 0 = [112] ++ (40 :: (constF s ++ [41, 46])) := by simp
  have hd1 : ([112, 40] ++ constF s ++ [41, 46]).drop 1 = 40 :: (constF s ++ [41, 46]) := drop_on (x := [112]) hd0
  have hd2 : ([112, 40] ++ constF s ++ [41, 46]).drop 2 = constF s ++ [41, 46] := drop_on1 hd1
  have hd3 : ([112, 40] ++ constF s ++ [41, 46]).drop (2 + (constF s).length) = [41, 46] := drop_on hd2
  have hd4 : ([112, 40] ++ constF s ++ [41, 46]).drop (2 + (constF s).length + 1) = [46] := drop_on1 hd3
  have hlen : ([112, 40] ++ constF s ++ [41, 46]).length = 2 + (constF s).length + 2 := by simp; omega
  generalize ([112, 40] ++ constF s ++ [41, 46]) = l at hl hd0 hd1 hd2 hd3 hd4 hlen ⊢
  have hs0 : skipTo l 0 = 0 := by rw [skip_on hd0]; rfl
  have hw : wordAt l 0 = [112] := word_on hd0 (by decide) (nw_cons (by decide))
  have hn : atNameB l 0 = true := by unfold atNameB; rw [hw]; decide
  have hs1 : skipTo l 1 = 1 := by rw [skip_on hd1]; rfl
  have hcomp : compF l 1 = none := comp_no hd1 (by decide) (by decide) (by decide)
  have hgo : skipGo false (constF s ++ [41, 46]) = 0 := by
    unfold constF
    split
    · rename_i h
      rw [Bool.or_eq_true] at h
      rcases h with h | h
      · obtain ⟨c, t, rfl, hc⟩ := name_small h; exact small_go hc
      · cases s with
        | nil => cases h
        | cons c t =>
          simp only [isDigB, Bool.and_eq_true, List.all_cons] at h
          have hd := h.2.1
          simp only [digitB, Bool.and_eq_true, decide_eq_true_eq] at hd
          rw [List.cons_append]
          unfold skipGo
          rw [if_neg, if_neg]
          · rintro rfl; revert hd; decide
          · rintro (rfl | rfl | rfl) <;> (revert hd; decide)
    · rfl
  have hsg : signF l [40] 1 = some 2 := by rw [sign_on (r := constF s ++ [41, 46]) [40] hd1, hgo]; rfl
  obtain ⟨hb, _, _, ht⟩ := const_on hd2 (nw_cons (by decide))
  have hsk : skipTo l (2 + (constF s).length) = 2 + (constF s).length := by rw [skip_on hd3]; rfl
  have hc1 : signF l [44] (2 + (constF s).length) = none := sign_no hd3 (by decide)
  have hc2 : signF l [41] (2 + (constF s).length) = some (2 + (constF s).length + 1) := by rw [sign_on (r := [46]) [41] hd3]; rfl
  have hc3 : signF l [46] (2 + (constF s).length + 1) = some (2 + (constF s).length + 2) := by rw [sign_on (r := []) [46] hd4]; rfl
  have hc4 : signF l [44] (2 + (constF s).length + 1) = none := sign_no hd4 (by decide)
  have hpt : atPartB l 0 = true := by unfold atPartB atTermB; unfold atNameB at hn; rw [hn]; simp
  have hatom : atomF l 0 = if 200 < s.length then .error (1, 2) else .ok (⟨[112], [⟨false, s, 2⟩], 0⟩, 2 + (constF s).length + 1) := by
    unfold atomF
    rw [hn, if_pos rfl, hw]
    show (match signF l [40] (skipTo l 1) with | none => _ | some q => _) = _
    rw [hs1, hsg]
    simp only []
    unfold listF
    rw [hb, if_pos rfl, ht]
    by_cases h200 : 200 < s.length
    · rw [if_pos h200, if_pos h200]
    · rw [if_neg h200, if_neg h200]
      simp only []
      rw [hsk, hc1]
      simp only []
      rw [hc2]
  have hpart : partF l 0 = if 200 < s.length then .error (1, 2) else .ok (⟨0, ⟨[112], [⟨false, s, 2⟩], 0⟩, noTerm, noTerm⟩, 2 + (constF s).length + 1) := by
    unfold partF
    rw [hw, if_neg (by decide), hn]
    show (if (true && (compF l (skipTo l 1)).isNone) = true then _ else _) = _
    rw [hs1, hcomp, if_pos (by decide), hatom]
    by_cases h200 : 200 < s.length
    · rw [if_pos h200, if_pos h200]
    · rw [if_neg h200, if_neg h200]
  unfold queryF partsF
  rw [if_neg (by omega), hs0]
  unfold listF
  rw [hpt, if_pos rfl, hpart]
  by_cases h200 : 200 < s.length
  · rw [if_pos h200, if_pos h200]
  · rw [if_neg h200, if_neg h200]
    simp only []
    rw [hc4]
    simp only []
    rw [hc3]
    simp only []
    rw [if_pos (by omega)]
end Go.Proofs.YtoelacloghkooaaGreatDoor
