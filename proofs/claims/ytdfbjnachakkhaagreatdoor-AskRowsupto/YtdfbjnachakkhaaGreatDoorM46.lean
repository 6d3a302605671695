import Derived.Test.YtdfbjnachakkhaaGreatDoorM45
namespace Go.Proofs.YtdfbjnachakkhaaGreatDoor
set_option linter.unusedVariables false
def nT (t : PTerm) : PTerm := ⟨t.isVar, t.text, 0⟩
def nA (a : PAtom) : PAtom := ⟨a.name, a.args.map nT, 0⟩
def nP (p : PPart) : PPart := ⟨p.kind, nA p.atom, nT p.left, nT p.right⟩
def WfT (t : PTerm) : Prop := (t.isVar = true → isVarB t.text = true ∧ t.text.all wordB = true) ∧ (t.isVar = false → t.text.length ≤ 200)
def WfA (a : PAtom) : Prop := isName a.name = true ∧ a.args.length ≤ 8 ∧ ∀ t ∈ a.args, WfT t
def WfP (p : PPart) : Prop := (p.kind < 2 ∧ WfA p.atom ∧ p.left = noTerm ∧ p.right = noTerm) ∨ (2 ≤ p.kind ∧ p.kind ≤ 4 ∧ p.atom = noAtom ∧ WfT p.left ∧ WfT p.right)
theorem name_len {w : List UInt8} (h : isName w = true) : w.length ≤ 30 := by
  cases w with
  | nil => cases h
  | cons c t => simp only [isName, Bool.and_eq_true, decide_eq_true_eq] at h; exact h.1.1.1
theorem dig_len {w : List UInt8} (h : isDigB w = true) : w.length ≤ 30 := by
  cases w with
  | nil => cases h
  | cons c t => simp only [isDigB, Bool.and_eq_true, decide_eq_true_eq] at h; exact h.1
end Go.Proofs.YtdfbjnachakkhaaGreatDoor

namespace Go.Proofs.YtdfbjnachakkhaaGreatDoor
set_option linter.unusedVariables false
theorem drop_on {l x r : List UInt8} {p : Nat} (h : l.drop p = x ++ r) : l.drop (p + x.length) = r := by
  rw [← List.drop_drop, h, List.drop_left]
theorem drop_on1 {l r : List UInt8} {p : Nat} {c : UInt8} (h : l.drop p = c :: r) : l.drop (p + 1) = r := drop_on (x := [c]) h
/-- no byte of a word stands there -/
def NW (r : List UInt8) : Prop := r.takeWhile wordB = []
theorem nw_cons {c : UInt8} {t : List UInt8} (h : wordB c = false) : NW (c :: t) := by unfold NW; rw [List.takeWhile_cons, h]; rfl
theorem takeWhile_of {w r : List UInt8} (h : w.all wordB = true) (hr : NW r) : (w ++ r).takeWhile wordB = w := by
  induction w with
  | nil => exact hr
  | cons c w ih =>
    rw [List.all_cons, Bool.and_eq_true] at h
    rw [List.cons_append, List.takeWhile_cons, h.1, if_pos rfl, ih h.2]
theorem word_on {l w r : List UInt8} {p : Nat} (h : l.drop p = w ++ r) (hw : w.all wordB = true) (hr : NW r) : wordAt l p = w := by
  unfold wordAt; rw [h, takeWhile_of hw hr]
theorem skip_on {l r : List UInt8} {p : Nat} (h : l.drop p = r) : skipTo l p = p + skipGo false r := by unfold skipTo; rw [h]
theorem starts_on {l r : List UInt8} {p : Nat} (s : List UInt8) (h : l.drop p = r) : starts l p s = s.isPrefixOf r := by unfold starts; rw [h]
theorem sign_on {l r : List UInt8} {p : Nat} (s : List UInt8) (h : l.drop p = s ++ r) : signF l s p = some (p + s.length + skipGo false r) := by
  unfold signF
  rw [starts_on s h, if_pos (by induction s with
    | nil => rfl
    | cons c s ih => rw [List.cons_append, List.isPrefixOf]; simp), skip_on (drop_on h)]
theorem small_inw {c : UInt8} (h : smallB c = true) : wordB c = true := by unfold wordB; rw [h]; rfl
theorem small_go {c : UInt8} {t : List UInt8} (h : smallB c = true) : skipGo false (c :: t) = 0 := by
  unfold skipGo
  simp only [smallB, Bool.and_eq_true, decide_eq_true_eq] at h
  rw [if_neg, if_neg]
  · rintro rfl; revert h; decide
  · rintro (rfl | rfl | rfl) <;> (revert h; decide)
theorem name_word {w : List UInt8} (h : isName w = true) : w.all wordB = true := by
  cases w with
  | nil => rfl
  | cons c t =>
    simp only [isName, Bool.and_eq_true] at h
    rw [List.all_cons, h.2, small_inw h.1.1.2]; rfl
theorem name_small {w : List UInt8} (h : isName w = true) : ∃ c t, w = c :: t ∧ smallB c = true := by
  cases w with
  | nil => cases h
  | cons c t =>
    simp only [isName, Bool.and_eq_true] at h
    exact ⟨c, t, rfl, h.1.1.2⟩
theorem dig_word {w : List UInt8} (h : isDigB w = true) : w.all wordB = true := by
  cases w with
  | nil => rfl
  | cons c t =>
    simp only [isDigB, Bool.and_eq_true] at h
    rw [List.all_eq_true] at h ⊢
    intro x hx
    rw [wordB_is, h.2 x hx]; simp
theorem small_cap {c : UInt8} (h : smallB c = true) : capitalB c = false := by
  simp only [smallB, Bool.and_eq_true, decide_eq_true_eq] at h
  simp only [capitalB, Bool.and_eq_false_iff, decide_eq_false_iff_not]; omega
theorem dig_cap {c : UInt8} (h : digitB c = true) : capitalB c = false := by
  simp only [digitB, Bool.and_eq_true, decide_eq_true_eq] at h
  simp only [capitalB, Bool.and_eq_false_iff, decide_eq_false_iff_not]; omega
theorem name_novar {w : List UInt8} (h : isName w = true) : isVarB w = false := by
  obtain ⟨c, t, rfl, hc⟩ := name_small h
  simp only [isVarB, small_cap hc, Bool.and_false]
theorem dig_novar {w : List UInt8} (h : isDigB w = true) : isVarB w = false := by
  cases w with
  | nil => rfl
  | cons c t =>
    simp only [isDigB, Bool.and_eq_true, List.all_cons] at h
    simp only [isVarB, dig_cap h.2.1, Bool.and_false]
/-- a STRING of the one form -/
theorem str_on (r : List UInt8) : ∀ (s : List UInt8) (p : Nat) (acc : List UInt8), strGo (escF s ++ 34 :: r) p acc = .ok (acc ++ s, p + (escF s).length + 1) := by
  intro s
  induction s with
  | nil =>
    intro p acc
    show strGo (34 :: r) p acc = _
    unfold strGo
    rw [if_pos rfl]; simp [escF]
  | cons c s ih =>
    intro p acc
    have he : escF (c :: s) = escB c ++ escF s := rfl
    rw [he]
    unfold escB
    by_cases h1 : c = 34
    · subst h1
      rw [if_pos rfl]
      show strGo (92 :: 34 :: (escF s ++ 34 :: r)) p acc = _
      unfold strGo
      rw [if_neg (by decide), if_neg (by decide), if_pos rfl]
      simp only []
      rw [if_neg (by decide), if_pos (by decide), ih]
      simp; omega
    · rw [if_neg h1]
      by_cases h2 : c = 92
      · subst h2
        rw [if_pos rfl]
        show strGo (92 :: 92 :: (escF s ++ 34 :: r)) p acc = _
        unfold strGo
        rw [if_neg (by decide), if_neg (by decide), if_pos rfl]
        simp only []
        rw [if_neg (by decide), if_pos (by decide), ih]
        simp; omega
      · rw [if_neg h2]
        by_cases h3 : c = 10
        · subst h3
          rw [if_pos rfl]
          show strGo (92 :: 110 :: (escF s ++ 34 :: r)) p acc = _
          unfold strGo
          rw [if_neg (by decide), if_neg (by decide), if_pos rfl]
          simp only []
          rw [if_pos (by decide), ih]
          simp; omega
        · rw [if_neg h3]
          show strGo (c :: (escF s ++ 34 :: r)) p acc = _
          unfold strGo
          rw [if_neg h1, if_neg h3, if_neg h2, ih]
          simp; omega
theorem starts_word {l w r : List UInt8} {p : Nat} (h : l.drop p = w ++ r) (hw : w.all wordB = true) (h0 : w ≠ []) : starts l p [34] = false := by
  rw [starts_on _ h]
  cases w with
  | nil => exact absurd rfl h0
  | cons c t =>
    rw [List.all_cons, Bool.and_eq_true] at hw
    rw [List.cons_append, List.isPrefixOf, Bool.and_eq_false_iff]
    left
    rw [beq_eq_false_iff_ne]
    rintro rfl
    revert hw; intro hw; exact absurd hw.1 (by decide)
/-- a constant of the one form, however long -/
theorem const_on {l r s : List UInt8} {p : Nat} (h : l.drop p = constF s ++ r) (hr : NW r) : atTermB l p = true ∧ wordAt l p ≠ [110, 111, 116] ∧ (wordAt l p = s ∨ wordAt l p = []) ∧ termF l p = (if 200 < s.length then .error (1, p) else .ok (⟨false, s, p⟩, skipTo l (p + (constF s).length))) := by
  unfold constF at h ⊢
  by_cases hn : (isName s || isDigB s) = true
  · rw [if_pos hn] at h ⊢
    have hw : s.all wordB = true := by
      rw [Bool.or_eq_true] at hn
      rcases hn with hn | hn
      · exact name_word hn
      · exact dig_word hn
    have h0 : s ≠ [] := by rintro rfl; cases hn
    have hl : s.length ≤ 30 := by
      rw [Bool.or_eq_true] at hn
      rcases hn with hn | hn
      · exact name_len hn
      · exact dig_len hn
    have hv : isVarB s = false := by
      rw [Bool.or_eq_true] at hn
      rcases hn with hn | hn
      · exact name_novar hn
      · exact dig_novar hn
    have hnn : s ≠ [110, 111, 116] := by
      rintro rfl
      revert hn; decide
    have hwd := word_on h hw hr
    have hb : atTermB l p = true := by
      unfold atTermB; rw [hwd]
      rw [Bool.or_eq_true] at hn
      rcases hn with hn | hn <;> simp [hn]
    refine ⟨hb, by rw [hwd]; exact hnn, .inl hwd, ?_⟩
    unfold termF
    rw [starts_word h hw h0, hb, hwd, hv, if_neg (by simp), if_pos rfl, if_neg (by omega)]
  · rw [if_neg hn] at h ⊢
    have hs : starts l p [34] = true := by rw [starts_on _ h]; simp [List.isPrefixOf]
    have hb : atTermB l p = true := by unfold atTermB; rw [hs]; rfl
    have hwd : wordAt l p = [] := by
      unfold wordAt; rw [h]
      show List.takeWhile wordB (34 :: _) = []
      rw [List.takeWhile_cons]; rfl
    refine ⟨hb, by rw [hwd]; simp, .inr hwd, ?_⟩
    unfold termF
    have hd : l.drop (p + 1) = escF s ++ 34 :: r := by
      refine drop_on1 (c := 34) ?_
      rw [h]; simp
    rw [if_pos hs, hd, str_on]
    simp only [List.nil_append]
    split
    · rfl
    · have he : p + 1 + (escF s).length + 1 = p + ([34] ++ escF s ++ [34]).length := by simp; omega
      rw [he]
theorem term_on {l r : List UInt8} {p : Nat} {t : PTerm} (h : l.drop p = termTextF t ++ r) (ht : WfT t) (hr : NW r) : atTermB l p = true ∧ wordAt l p ≠ [110, 111, 116] ∧ (wordAt l p = t.text ∨ wordAt l p = []) ∧ termF l p = .ok (⟨t.isVar, t.text, p⟩, skipTo l (p + (termTextF t).length)) := by
  obtain ⟨iv, s, pl⟩ := t
  cases iv with
  | false =>
    have := const_on (s := s) h hr
    rw [if_neg (by have : s.length ≤ 200 := ht.2 rfl; omega)] at this
    exact this
  | true =>
    have hh : l.drop p = s ++ r := h
    obtain ⟨hv, hw⟩ : isVarB s = true ∧ s.all wordB = true := ht.1 rfl
    have h0 : s ≠ [] := by rintro rfl; cases hv
    have hwd := word_on hh hw hr
    have hb : atTermB l p = true := by unfold atTermB; rw [hwd]; simp [hv]
    refine ⟨hb, ?_, .inl hwd, ?_⟩
    · rw [hwd]; rintro rfl; revert hv; decide
    · unfold termF
      rw [starts_word hh hw h0, hb, hwd, hv, if_neg (by simp), if_pos rfl]
      rfl
theorem comma_cons {α : Type} (f : α → List UInt8) (x y : α) (xs : List α) (r : List UInt8) : commaF f (x :: y :: xs) ++ r = f x ++ 44 :: 32 :: (commaF f (y :: xs) ++ r) := by simp [commaF]
theorem listF_on {α : Type} (W : α → Prop) (f : α → List UInt8) (n0 : α → α) (l : List UInt8) (bg : Nat → Bool) (one : Nat → Except PErr (α × Nat)) (S : List UInt8 → Prop)
    (hS : ∀ t, S (44 :: t)) (hf : ∀ x t, W x → skipGo false (f x ++ t) = 0)
    (h1 : ∀ x p r, W x → l.drop p = f x ++ r → S r → bg p = true ∧ ∃ x', n0 x' = n0 x ∧ one p = .ok (x', skipTo l (p + (f x).length))) :
    ∀ (xs : List α) (n p : Nat) (r : List UInt8), xs ≠ [] → xs.length ≤ n → (∀ x ∈ xs, W x) → l.drop p = commaF f xs ++ r → S r → signF l [44] (skipTo l (p + (commaF f xs).length)) = none →
      ∃ xs', xs'.map n0 = xs.map n0 ∧ listF bg one (signF l [44]) n p = .ok (xs', skipTo l (p + (commaF f xs).length)) := by
  intro xs
  induction xs with
  | nil => intro n p r h; exact absurd rfl h
  | cons x xs ih =>
    intro n p r _ hn hw hd hr hno
    obtain ⟨m, rfl⟩ : ∃ m, n = m + 1 := ⟨n - 1, by simp at hn; omega⟩
    unfold listF
    cases xs with
    | nil =>
      obtain ⟨hb, x', hx, ho⟩ := h1 x p r (hw x (by simp)) hd hr
      rw [hb, if_pos rfl, ho]
      simp only []
      have hno' : signF l [44] (skipTo l (p + (f x).length)) = none := hno
      rw [hno']
      exact ⟨[x'], by simp [hx], rfl⟩
    | cons y ys =>
      rw [comma_cons] at hd
      obtain ⟨hb, x', hx, ho⟩ := h1 x p _ (hw x (by simp)) hd (hS _)
      rw [hb, if_pos rfl, ho]
      simp only []
      have hd2 := drop_on hd
      have hsk : skipTo l (p + (f x).length) = p + (f x).length := by rw [skip_on hd2]; simp [skipGo]
      have hd3 : l.drop (p + (f x).length) = [44] ++ (32 :: (commaF f (y :: ys) ++ r)) := hd2
      have hg : skipGo false (commaF f (y :: ys) ++ r) = 0 := by
        cases ys with
        | nil => exact hf y r (hw y (by simp))
        | cons z zs => rw [comma_cons]; exact hf y _ (hw y (by simp))
      have hs : signF l [44] (p + (f x).length) = some (p + (f x).length + 2) := by
        rw [sign_on _ hd3]
        simp [skipGo, hg]
      rw [hsk, hs]
      simp only []
      have hd4 : l.drop (p + (f x).length + 2) = commaF f (y :: ys) ++ r := by
        have := drop_on (x := [44, 32]) hd2
        simpa using this
      have hlen : (commaF f (x :: y :: ys)).length = (f x).length + 2 + (commaF f (y :: ys)).length := by simp [commaF]; omega
      obtain ⟨xs', hxs, hl⟩ := ih m (p + (f x).length + 2) r (by simp) (by simp at hn ⊢; omega) (fun z hz => hw z (by simp [hz])) hd4 hr (by rw [hlen] at hno; rw [Nat.add_assoc p, Nat.add_assoc p]; exact hno)
      rw [hl]
      refine ⟨x' :: xs', by simp only [List.map_cons] at hxs ⊢; rw [hx, hxs], ?_⟩
      rw [hlen, Nat.add_assoc p, Nat.add_assoc p]
end Go.Proofs.YtdfbjnachakkhaaGreatDoor

namespace Go.Proofs.YtdfbjnachakkhaaGreatDoor
set_option linter.unusedVariables false
theorem word_go {c : UInt8} {t : List UInt8} (h : wordB c = true) : skipGo false (c :: t) = 0 := by
  unfold skipGo
  rw [if_neg, if_neg]
  · rintro rfl; revert h; decide
  · rintro (rfl | rfl | rfl) <;> (revert h; decide)
theorem words_go {w : List UInt8} (t : List UInt8) (h : w.all wordB = true) (h0 : w ≠ []) : skipGo false (w ++ t) = 0 := by
  cases w with
  | nil => exact absurd rfl h0
  | cons c w => rw [List.all_cons, Bool.and_eq_true] at h; exact word_go h.1
theorem const_go (s t : List UInt8) : skipGo false (constF s ++ t) = 0 := by
  unfold constF
  split
  · rename_i hn
    rw [Bool.or_eq_true] at hn
    refine words_go t ?_ (by rintro rfl; rcases hn with hn | hn <;> cases hn)
    rcases hn with hn | hn
    · exact name_word hn
    · exact dig_word hn
  · show skipGo false (34 :: _) = 0
    rfl
theorem termText_go (t : PTerm) (r : List UInt8) (h : WfT t) : skipGo false (termTextF t ++ r) = 0 := by
  unfold termTextF
  split
  · rename_i hv
    have := h.1 hv
    exact words_go r this.2 (by intro h0; rw [h0] at this; cases this.1)
  · exact const_go _ _
theorem atomText_go (a : PAtom) (r : List UInt8) (h : WfA a) : skipGo false (atomTextF a ++ r) = 0 := by
  obtain ⟨c, t, hn, hc⟩ := name_small h.1
  unfold atomTextF
  rw [hn]
  exact small_go hc
/-- behind an atom or a part -/
def SA (r : List UInt8) : Prop := NW r ∧ ∃ c t, r.drop (skipGo false r) = c :: t ∧ (c = 44 ∨ c = 46 ∨ c = 58)
theorem sa_dot (t : List UInt8) : SA (46 :: t) := ⟨nw_cons (by decide), 46, t, rfl, .inr (.inl rfl)⟩
theorem drop_skip {l r : List UInt8} {p : Nat} (h : l.drop p = r) : l.drop (skipTo l p) = r.drop (skipGo false r) := by
  rw [skip_on h, ← List.drop_drop, h]
theorem sign_no {l t : List UInt8} {p : Nat} {c d : UInt8} {s : List UInt8} (h : l.drop p = c :: t) (hne : d ≠ c) : signF l (d :: s) p = none := by
  unfold signF
  rw [starts_on _ h, if_neg]
  simp [List.isPrefixOf, hne]
theorem comp_no {l t : List UInt8} {p : Nat} {c : UInt8} (h : l.drop p = c :: t) (h1 : c ≠ 61) (h2 : c ≠ 33) (h3 : c ≠ 60) : compF l p = none := by
  unfold compF
  rw [sign_no h h1.symm, sign_no h h2.symm, sign_no h h3.symm]
theorem atom_on {l r : List UInt8} {p : Nat} {a : PAtom} (h : l.drop p = atomTextF a ++ r) (ha : WfA a) (hr : SA r) :
    wordAt l p = a.name ∧ atNameB l p = true ∧ compF l (skipTo l (p + (wordAt l p).length)) = none ∧ ∃ a', nA a' = nA a ∧ atomF l p = .ok (a', skipTo l (p + (atomTextF a).length)) := by
  obtain ⟨nm, args, pl⟩ := a
  obtain ⟨hn, h8, hts⟩ := ha
  simp only at hn h8 hts
  have hw := name_word hn
  unfold atomTextF at h ⊢
  simp only at h ⊢
  by_cases h0 : args.length = 0
  · rw [if_pos h0] at h ⊢
    rw [List.append_nil] at h ⊢
    have hwd := word_on h hw hr.1
    obtain ⟨c, t, hc, hcc⟩ := hr.2
    have hd := drop_skip (drop_on h)
    rw [hc] at hd
    refine ⟨hwd, by unfold atNameB; rw [hwd]; exact hn, ?_, ?_⟩
    · rw [hwd]; exact comp_no hd (by rintro rfl; revert hcc; decide) (by rintro rfl; revert hcc; decide) (by rintro rfl; revert hcc; decide)
    · refine ⟨⟨nm, [], p⟩, ?_, ?_⟩
      · unfold nA; simp only; rw [List.eq_nil_of_length_eq_zero h0]
      · unfold atomF
        rw [show atNameB l p = true by unfold atNameB; rw [hwd]; exact hn, if_pos rfl, hwd, sign_no hd (by rintro rfl; revert hcc; decide)]
  · rw [if_neg h0] at h ⊢
    have h' : l.drop p = nm ++ (40 :: (commaF termTextF args ++ 41 :: r)) := by rw [h]; simp
    have hwd := word_on h' hw (nw_cons (by decide))
    have hat : atNameB l p = true := by unfold atNameB; rw [hwd]; exact hn
    have hd1 := drop_on h'
    have hsk : skipTo l (p + nm.length) = p + nm.length := by rw [skip_on hd1]; rfl
    refine ⟨hwd, hat, ?_, ?_⟩
    · rw [hwd, hsk]; exact comp_no hd1 (by decide) (by decide) (by decide)
    · obtain ⟨a0, ars, rfl⟩ : ∃ a0 ars, args = a0 :: ars := by cases args with
        | nil => exact absurd rfl h0
        | cons a0 ars => exact ⟨a0, ars, rfl⟩
      have hg : skipGo false (commaF termTextF (a0 :: ars) ++ 41 :: r) = 0 := by
        cases ars with
        | nil => exact termText_go a0 _ (hts a0 (by simp))
        | cons b bs => rw [comma_cons]; exact termText_go a0 _ (hts a0 (by simp))
      have hs1 : signF l [40] (p + nm.length) = some (p + nm.length + 1) := by
        rw [sign_on (r := commaF termTextF (a0 :: ars) ++ 41 :: r) [40] hd1, hg]; rfl
      have hd2 : l.drop (p + nm.length + 1) = commaF termTextF (a0 :: ars) ++ 41 :: r := drop_on1 hd1
      have hd3 := drop_on hd2
      have hsk2 : skipTo l (p + nm.length + 1 + (commaF termTextF (a0 :: ars)).length) = p + nm.length + 1 + (commaF termTextF (a0 :: ars)).length := by rw [skip_on hd3]; rfl
      obtain ⟨xs', hxs, hl⟩ := listF_on WfT termTextF nT l (atTermB l) (termF l) NW (fun t => nw_cons (by decide)) (fun x t hx => termText_go x t hx) (fun x q r hx hq hr => by
        have := term_on hq hx hr
        exact ⟨this.1, ⟨x.isVar, x.text, q⟩, rfl, this.2.2.2⟩) (a0 :: ars) 8 (p + nm.length + 1) (41 :: r) (by simp) h8 hts hd2 (nw_cons (by decide)) (by rw [hsk2]; exact sign_no hd3 (by decide))
      have hs2 : signF l [41] (p + nm.length + 1 + (commaF termTextF (a0 :: ars)).length) = some (skipTo l (p + (nm ++ ([40] ++ commaF termTextF (a0 :: ars) ++ [41])).length)) := by
        have hlen : p + (nm ++ ([40] ++ commaF termTextF (a0 :: ars) ++ [41])).length = p + nm.length + 1 + (commaF termTextF (a0 :: ars)).length + 1 := by simp; omega
        rw [hlen, sign_on (r := r) [41] hd3, skip_on (drop_on1 hd3)]; rfl
      refine ⟨⟨nm, xs', p⟩, ?_, ?_⟩
      · unfold nA; simp only; rw [hxs]
      · unfold atomF
        rw [hat, if_pos rfl, hwd, hsk, hs1]
        simp only []
        rw [hl, hsk2]
        simp only []
        rw [hs2]
theorem comp_on {l r : List UInt8} {p k : Nat} (hk : 2 ≤ k ∧ k ≤ 4) (h : l.drop p = signTextF k ++ r) : compF l p = some (k, p + (signTextF k).length + skipGo false r) := by
  have : k = 2 ∨ k = 3 ∨ k = 4 := by omega
  unfold compF
  rcases this with rfl | rfl | rfl
  · have h : l.drop p = [61] ++ r := h
    rw [sign_on _ h]; rfl
  · have h : l.drop p = [33, 61] ++ r := h
    rw [sign_no (t := 61 :: r) h (by decide), sign_on _ h]; rfl
  · have h : l.drop p = [60] ++ r := h
    rw [sign_no (t := r) h (by decide), sign_no (t := r) h (by decide), sign_on _ h]; rfl
theorem partText_go (x : PPart) (r : List UInt8) (h : WfP x) : skipGo false (partTextF x ++ r) = 0 := by
  unfold partTextF
  rcases h with ⟨hk, ha, _, _⟩ | ⟨hk, hk4, _, hl, _⟩
  · have : x.kind = 0 ∨ x.kind = 1 := by omega
    rcases this with h | h
    · rw [if_pos h]; exact atomText_go _ _ ha
    · rw [if_neg (by omega), if_pos h]; rfl
  · rw [if_neg (by omega), if_neg (by omega), List.append_assoc, List.append_assoc, List.append_assoc, List.append_assoc]
    exact termText_go _ _ hl
theorem part_on {l r : List UInt8} {p : Nat} {x : PPart} (h : l.drop p = partTextF x ++ r) (hx : WfP x) (hr : SA r) :
    atPartB l p = true ∧ ∃ x', nP x' = nP x ∧ partF l p = .ok (x', skipTo l (p + (partTextF x).length)) := by
  obtain ⟨k, a, lt, rt⟩ := x
  unfold partTextF at h ⊢
  simp only at h ⊢
  rcases hx with ⟨hk, ha, h1, h2⟩ | ⟨hk, hk4, h1, h2, h3⟩
  · simp only at hk ha h1 h2
    subst h1 h2
    have : k = 0 ∨ k = 1 := by omega
    rcases this with rfl | rfl
    · rw [if_pos rfl] at h ⊢
      obtain ⟨hwd, hat, hc, a', han, hok⟩ := atom_on h ha hr
      refine ⟨?_, ⟨0, a', noTerm, noTerm⟩, ?_, ?_⟩
      · unfold atPartB atTermB
        unfold atNameB at hat
        rw [hat]; simp
      · unfold nP; simp only; rw [han]
      · unfold partF
        rw [if_neg (by rw [hwd]; intro h0; have := ha.1; rw [h0] at this; exact absurd this (by decide)), hat, hc, if_pos (by decide), hok]
    · rw [if_neg (by decide), if_pos rfl] at h ⊢
      have h' : l.drop p = [110, 111, 116] ++ (32 :: (atomTextF a ++ r)) := by rw [h]; simp
      have hwd := word_on h' (by decide) (nw_cons (by decide))
      have hd1 : l.drop (p + 3) = 32 :: (atomTextF a ++ r) := drop_on h'
      have hd2 : l.drop (p + 4) = atomTextF a ++ r := drop_on1 hd1
      have hsk : skipTo l (p + 3) = p + 4 := by rw [skip_on hd1]; unfold skipGo; rw [if_pos (by decide), atomText_go _ _ ha]
      obtain ⟨_, hat, hc, a', han, hok⟩ := atom_on hd2 ha hr
      refine ⟨?_, ⟨1, a', noTerm, noTerm⟩, ?_, ?_⟩
      · unfold atPartB; rw [hwd]; rfl
      · unfold nP; simp only; rw [han]
      · have hlen : p + 4 + (atomTextF a).length = p + ([110, 111, 116, 32] ++ atomTextF a).length := by simp; omega
        rw [hlen] at hok
        unfold partF
        rw [if_pos hwd, hsk, hok]
  · simp only at hk hk4 h1 h2 h3
    subst h1
    rw [if_neg (by omega), if_neg (by omega)] at h ⊢
    have h' : l.drop p = termTextF lt ++ (32 :: (signTextF k ++ (32 :: (termTextF rt ++ r)))) := by rw [h]; simp
    obtain ⟨hb, hnn, hwt, hok⟩ := term_on h' h2 (nw_cons (by decide))
    have hd1 := drop_on h'
    have hd2 := drop_on1 hd1
    have hsg : skipGo false (signTextF k ++ (32 :: (termTextF rt ++ r))) = 0 := by
      have : k = 2 ∨ k = 3 ∨ k = 4 := by omega
      rcases this with rfl | rfl | rfl <;> rfl
    have hsk : skipTo l (p + (termTextF lt).length) = p + (termTextF lt).length + 1 := by rw [skip_on hd1]; unfold skipGo; rw [if_pos (by decide), hsg]
    have hcomp := comp_on ⟨hk, hk4⟩ hd2
    have hd3 := drop_on hd2
    have hd4 := drop_on1 hd3
    have hsg2 : skipGo false (32 :: (termTextF rt ++ r)) = 1 := by unfold skipGo; rw [if_pos (by decide), termText_go _ _ h3]
    rw [hsg2] at hcomp
    obtain ⟨_, _, _, hok2⟩ := term_on hd4 h3 hr.1
    refine ⟨?_, ⟨k, noAtom, ⟨lt.isVar, lt.text, p⟩, ⟨rt.isVar, rt.text, p + (termTextF lt).length + 1 + (signTextF k).length + 1⟩⟩, rfl, ?_⟩
    · unfold atPartB; rw [hb]; simp
    · unfold partF
      rw [if_neg hnn, if_neg, hok]
      · simp only []
        rw [hsk, hcomp]
        simp only []
        rw [hok2]
        have hlen : p + (termTextF lt).length + 1 + (signTextF k).length + 1 + (termTextF rt).length = p + (termTextF lt ++ [32] ++ signTextF k ++ [32] ++ termTextF rt).length := by simp; omega
        rw [hlen]
      · intro hh
        rw [Bool.and_eq_true] at hh
        have hn : isName (wordAt l p) = true := hh.1
        have hwd : wordAt l p = lt.text := by
          rcases hwt with h | h
          · exact h
          · rw [h] at hn; cases hn
        have htx : termTextF lt = lt.text := by
          unfold termTextF constF
          rw [hwd] at hn
          rw [hn]; simp
        have h2 := hh.2
        rw [hwd, ← htx, hsk, hcomp] at h2
        cases h2
end Go.Proofs.YtdfbjnachakkhaaGreatDoor

namespace Go.Proofs.YtdfbjnachakkhaaGreatDoor
set_option linter.unusedVariables false
/-- the variable of a column -/
def varT (i : Nat) : PTerm := ⟨true, [86, UInt8.ofNat (48 + i)], 0⟩
def askP (name : List UInt8) (n : Nat) : PPart := ⟨0, ⟨name, (List.range n).map varT, 0⟩, noTerm, noTerm⟩
theorem varT_wf (i : Nat) (h : i < 8) : WfT (varT i) := by
  refine ⟨fun _ => ?_, fun h => by simp [varT] at h⟩
  match i, h with
  | 0, _ => decide
  | 1, _ => decide
  | 2, _ => decide
  | 3, _ => decide
  | 4, _ => decide
  | 5, _ => decide
  | 6, _ => decide
  | 7, _ => decide
theorem askP_wf {name : List UInt8} (hn : isName name = true) {n : Nat} (h : n ≤ 8) : WfP (askP name n) := by
  refine .inl ⟨by show 0 < 2; omega, ⟨hn, by simp [askP]; exact h, fun t ht => ?_⟩, rfl, rfl⟩
  obtain ⟨i, hi, rfl⟩ := List.mem_map.1 ht
  exact varT_wf i (by have := List.mem_range.1 hi; omega)
/-- a text of one part is read as that part -/
theorem query_part {x : PPart} (hx : WfP x) (hl : (partTextF x ++ [46]).length ≤ 20000) : ∃ x', nP x' = nP x ∧ queryF (partTextF x ++ [46]) = .ok [x'] := by
  obtain ⟨l, hle⟩ : ∃ l, l = partTextF x ++ [46] := ⟨_, rfl⟩
  rw [← hle] at hl ⊢
  have hd0 : l.drop 0 = partTextF x ++ [46] := hle
  have hd1 : l.drop (0 + (partTextF x).length) = [46] := drop_on hd0
  have hlen : l.length = (partTextF x).length + 1 := by rw [hle]; simp
  clear hle
  have hs0 : skipTo l 0 = 0 := by rw [skip_on hd0, partText_go x _ hx]
  have hsk : skipTo l (0 + (partTextF x).length) = 0 + (partTextF x).length := by rw [skip_on hd1]; rfl
  obtain ⟨hb, x', hx', hp⟩ := part_on hd0 hx (sa_dot [])
  refine ⟨x', hx', ?_⟩
  unfold queryF partsF
  rw [if_neg (by omega), hs0]
  unfold listF
  rw [hb, if_pos rfl, hp, hsk]
  simp only []
  rw [sign_no hd1 (by decide)]
  simp only []
  rw [sign_on (r := []) [46] hd1]
  have hg : skipGo false ([] : List UInt8) = 0 := rfl
  rw [hg]
  have he : 0 + (partTextF x).length + [(46 : UInt8)].length + 0 = l.length := by simp; omega
  rw [he]
  exact if_pos rfl
/-- what parts have in common that differ in their places alone -/
theorem nP_same {x y : PPart} (h : nP x = nP y) : x.kind = y.kind ∧ x.atom.name = y.atom.name ∧ x.atom.args.map (fun t => (t.isVar, t.text)) = y.atom.args.map (fun t => (t.isVar, t.text)) := by
  unfold nP nA at h
  injection h with h1 h2 h3 h4
  injection h2 with e1 e2 e3
  refine ⟨h1, e1, ?_⟩
  have := congrArg (List.map (fun t : PTerm => (t.isVar, t.text))) e2
  rw [List.map_map, List.map_map] at this
  exact this
/-- the text that is built up, column by column -/
def colsF : Nat → List UInt8
  | 0 => []
  | 1 => [40, 86, 48]
  | n + 1 => colsF n ++ [44, 32, 86, UInt8.ofNat (48 + n)]
theorem cols_text (n : Nat) (h : 0 < n) : colsF n = [40] ++ commaF termTextF ((List.range n).map varT) := by
  induction n with
  | zero => omega
  | succ n ih =>
    cases n with
    | zero => rfl
    | succ n =>
      have e : colsF (n + 1 + 1) = colsF (n + 1) ++ [44, 32, 86, UInt8.ofNat (48 + (n + 1))] := rfl
      rw [e, ih (by omega), List.range_succ (n := n + 1), List.map_append, List.map_singleton, commaF_snoc, if_neg (by simp)]
      simp [termTextF, varT]
theorem ask_text (name : List UInt8) (n : Nat) : partTextF (askP name n) = name ++ (colsF n ++ (if 0 < n then [41] else [])) := by
  unfold partTextF askP
  rw [if_pos rfl]
  unfold atomTextF
  by_cases h : n = 0
  · subst h; rfl
  · have hl : ¬ ((List.range n).map varT).length = 0 := by simpa using h
    rw [if_neg hl, cols_text n (by omega), if_pos (by omega)]
theorem ask_len (name : List UInt8) (hn : isName name = true) (n : Nat) (h : n ≤ 8) : (partTextF (askP name n) ++ [46]).length ≤ 100 := by
  rw [ask_text]
  have hc : (colsF n).length ≤ 40 := by
    match n, h with
    | 0, _ => decide
    | 1, _ => decide
    | 2, _ => decide
    | 3, _ => decide
    | 4, _ => decide
    | 5, _ => decide
    | 6, _ => decide
    | 7, _ => decide
    | 8, _ => decide
  have hnm : name.length ≤ 30 := by
    cases name with
    | nil => simp
    | cons c t =>
      simp only [isName, Bool.and_eq_true, decide_eq_true_eq] at hn
      exact hn.1.1.1
  have h1 : (if 0 < n then [41] else ([] : List UInt8)).length ≤ 1 := by split <;> simp
  simp only [List.length_append, List.length_cons, List.length_nil]
  omega
end Go.Proofs.YtdfbjnachakkhaaGreatDoor
