import Derived.Test.YtoelacloghkooaaGreatDoorM17
/-
  What rules that were read are made of, and rules but for their places. Plain lists; nothing of the program.
-/
namespace Go.Proofs.YtoelacloghkooaaGreatDoor
set_option linter.unusedVariables false
def nT (t : PTerm) : PTerm := ⟨t.isVar, t.text, 0⟩
def nA (a : PAtom) : PAtom := ⟨a.name, a.args.map nT, 0⟩
def nP (p : PPart) : PPart := ⟨p.kind, nA p.atom, nT p.left, nT p.right⟩
def nR (r : PRule) : PRule := ⟨nA r.head, r.body.map nP⟩
theorem atomText_n (a : PAtom) : atomTextF (nA a) = atomTextF a := by
  unfold atomTextF nA
  simp only [List.length_map]
  rw [comma_map termTextF nT (fun _ => rfl)]
theorem partText_n (p : PPart) : partTextF (nP p) = partTextF p := by
  unfold partTextF nP
  simp only [atomText_n]
  rfl
theorem ruleText_n (r : PRule) : ruleTextF (nR r) = ruleTextF r := by
  unfold ruleTextF nR
  simp only [atomText_n, List.length_map]
  rw [comma_map partTextF nP partText_n]
theorem rulesText_n (rs : List PRule) : rulesTextF (rs.map nR) = rulesTextF rs := by
  unfold rulesTextF; rw [List.flatMap_map]; simp only [ruleText_n]
theorem rulesText_same {rs ss : List PRule} (h : rs.map nR = ss.map nR) : rulesTextF rs = rulesTextF ss := by
  rw [← rulesText_n rs, ← rulesText_n ss, h]
def WfT (t : PTerm) : Prop := (t.isVar = true → isVarB t.text = true ∧ t.text.all wordB = true) ∧ (t.isVar = false → t.text.length ≤ 200)
def WfA (a : PAtom) : Prop := isName a.name = true ∧ a.args.length ≤ 8 ∧ ∀ t ∈ a.args, WfT t
def WfP (p : PPart) : Prop := (p.kind < 2 ∧ WfA p.atom ∧ p.left = noTerm ∧ p.right = noTerm) ∨ (2 ≤ p.kind ∧ p.kind ≤ 4 ∧ p.atom = noAtom ∧ WfT p.left ∧ WfT p.right)
def WfR (r : PRule) : Prop := WfA r.head ∧ r.body.length ≤ 12 ∧ ∀ p ∈ r.body, WfP p
theorem all_takeWhile (f : UInt8 → Bool) (l : List UInt8) : (l.takeWhile f).all f = true := by
  induction l with
  | nil => rfl
  | cons c l ih =>
    rw [List.takeWhile_cons]
    split
    · rename_i h; rw [List.all_cons, h, ih]; rfl
    · rfl
theorem word_all (l : List UInt8) (p : Nat) : (wordAt l p).all wordB = true := all_takeWhile _ _
theorem name_len {w : List UInt8} (h : isName w = true) : w.length ≤ 30 := by
  cases w with
  | nil => cases h
  | cons c t => simp only [isName, Bool.and_eq_true, decide_eq_true_eq] at h; exact h.1.1.1
theorem var_len {w : List UInt8} (h : isVarB w = true) : w.length ≤ 30 := by
  cases w with
  | nil => cases h
  | cons c t => simp only [isVarB, Bool.and_eq_true, decide_eq_true_eq] at h; exact h.1
theorem dig_len {w : List UInt8} (h : isDigB w = true) : w.length ≤ 30 := by
  cases w with
  | nil => cases h
  | cons c t => simp only [isDigB, Bool.and_eq_true, decide_eq_true_eq] at h; exact h.1
theorem termF_wf (l : List UInt8) (p : Nat) (t : PTerm) (q : Nat) (h : termF l p = .ok (t, q)) : WfT t := by
  unfold termF at h
  split at h
  · split at h
    · cases h
    · split at h
      · cases h
      · cases h; exact ⟨fun h => (by cases h), fun _ => (by simp only []; omega)⟩
  · rename_i hs
    split at h
    · rename_i ht
      cases h
      refine ⟨fun hv => ⟨hv, word_all l p⟩, fun hv => ?_⟩
      show (wordAt l p).length ≤ 200
      replace hv : isVarB (wordAt l p) = false := hv
      simp only [atTermB, hs, hv, Bool.or_eq_true, Bool.false_or, Bool.or_false] at ht
      rcases ht with ht | ht
      · have := name_len ht; omega
      · have := dig_len ht; omega
    · cases h
theorem listF_wf {α : Type} (W : α → Prop) (bg : Nat → Bool) (one : Nat → Except PErr (α × Nat)) (go : Nat → Option Nat) (h1 : ∀ p x q, one p = .ok (x, q) → W x) :
    ∀ (n p : Nat) (xs : List α) (q : Nat), listF bg one go n p = .ok (xs, q) → xs ≠ [] ∧ xs.length ≤ n ∧ ∀ x ∈ xs, W x := by
  intro n
  induction n with
  | zero => intro p xs q h; unfold listF at h; split at h <;> cases h
  | succ n ih =>
    intro p xs q h
    unfold listF at h
    split at h
    · split at h
      · cases h
      · rename_i x q1 ho
        have hx := h1 _ _ _ ho
        split at h
        · cases h; exact ⟨by simp, by simp, by simpa using hx⟩
        · split at h
          · cases h
          · rename_i xs' r2 hl
            cases h
            have := ih _ _ _ hl
            refine ⟨by simp, by simp; omega, ?_⟩
            intro y hy
            cases hy with
            | head => exact hx
            | tail _ hy => exact this.2.2 y hy
    · cases h
theorem atomF_wf (l : List UInt8) (p : Nat) (a : PAtom) (q : Nat) (h : atomF l p = .ok (a, q)) : WfA a := by
  unfold atomF at h
  split at h
  · rename_i hn
    split at h
    · cases h; exact ⟨hn, by simp, by simp⟩
    · split at h
      · cases h
      · rename_i args r hl
        split at h
        · cases h
        · cases h
          have := listF_wf WfT _ _ _ (termF_wf l) _ _ _ _ hl
          exact ⟨hn, this.2.1, this.2.2⟩
  · cases h
theorem partF_wf (l : List UInt8) (p : Nat) (x : PPart) (q : Nat) (h : partF l p = .ok (x, q)) : WfP x := by
  unfold partF at h
  split at h
  · split at h
    · cases h
    · rename_i a q1 ha
      cases h
      exact .inl ⟨by simp, atomF_wf _ _ _ _ ha, rfl, rfl⟩
  · split at h
    · split at h
      · cases h
      · rename_i a q1 ha
        cases h
        exact .inl ⟨by simp, atomF_wf _ _ _ _ ha, rfl, rfl⟩
    · split at h
      · cases h
      · rename_i t q1 ht
        split at h
        · cases h
        · rename_i k r hc
          split at h
          · cases h
          · rename_i u r2 hu
            cases h
            have := compF_kind _ _ _ _ hc
            exact .inr ⟨by simp only []; omega, by simp only []; omega, rfl, termF_wf _ _ _ _ ht, termF_wf _ _ _ _ hu⟩
theorem ruleF_wf (l : List UInt8) (p : Nat) (x : PRule) (q : Nat) (h : ruleF l p = .ok (x, q)) : WfR x := by
  unfold ruleF at h
  split at h
  · cases h
  · rename_i a q1 ha
    have hwa := atomF_wf _ _ _ _ ha
    split at h
    · cases h
    · rename_i b r hb
      split at h
      · cases h
      · cases h
        split at hb
        · cases hb; exact ⟨hwa, by simp, by simp⟩
        · have := listF_wf WfP _ _ _ (partF_wf l) _ _ _ _ hb
          exact ⟨hwa, this.2.1, this.2.2⟩
theorem parseF_wf (l : List UInt8) (rs : List PRule) (h : parseF l = .ok rs) : rs.length ≤ 200 ∧ ∀ r ∈ rs, WfR r := by
  rw [parseF_end] at h
  split at h
  · cases h
  · split at h
    · cases h; exact ⟨by simp, by simp⟩
    · split at h
      · cases h
      · rename_i rs' q hl
        cases h
        have := listF_wf WfR _ _ _ (ruleF_wf l) _ _ _ _ hl
        exact ⟨this.2.1, this.2.2⟩
end Go.Proofs.YtoelacloghkooaaGreatDoor

/-
  The one form is read as the same rules. Plain lists; nothing of the program.
-/
namespace Go.Proofs.YtoelacloghkooaaGreatDoor
set_option linter.unusedVariables false
theorem drop_on {l x r : List UInt8} {p : Nat} (h : l.drop p = x ++ r) : l.drop (p + x.length) = r := by
  rw [← List.drop_drop, h, List.drop_left]
theorem drop_on1 {l r : List UInt8} {p : Nat} {c : UInt8} (h : l.drop p = c :: r) : l.drop (p + 1) = r := drop_on (x := [c]) h
/-- no byte of a word stands there -/
def NW (r : List UInt8) : Prop := r.takeWhile wordB = []
theorem nw_cons {c : UInt8} {t : List UInt8} (h : wordB c = false) : NW (c :: t) := by unfold NW; rw [List.takeWhile_cons, h]; rfl
theorem takeWhile_of {w r : List UInt8} (h : w.all wordB = true) (hr : NW r) : (w ++ r).takeWhile wordB = w := by
  induction w with
  | nil => exact hr
  | cons c w ih =>
    rw [List.all_cons, Bool.and_eq_true] at h
    rw [List.cons_append, List.takeWhile_cons, h.1, if_pos rfl, ih h.2]
theorem word_on {l w r : List UInt8} {p : Nat} (h : l.drop p = w ++ r) (hw : w.all wordB = true) (hr : NW r) : wordAt l p = w := by
  unfold wordAt; rw [h, takeWhile_of hw hr]
theorem skip_on {l r : List UInt8} {p : Nat} (h : l.drop p = r) : skipTo l p = p + skipGo false r := by unfold skipTo; rw [h]
theorem starts_on {l r : List UInt8} {p : Nat} (s : List UInt8) (h : l.drop p = r) : starts l p s = s.isPrefixOf r := by unfold starts; rw [h]
theorem sign_on {l r : List UInt8} {p : Nat} (s : List UInt8) (h : l.drop p = s ++ r) : signF l s p = some (p + s.length + skipGo false r) := by
  unfold signF
  rw [starts_on s h, if_pos (by induction s with
    | nil => rfl
    | cons c s ih => rw [List.cons_append, List.isPrefixOf]; simp), skip_on (drop_on h)]
theorem small_inw {c : UInt8} (h : smallB c = true) : wordB c = true := by unfold wordB; rw [h]; rfl
theorem small_go {c : UInt8} {t : List UInt8} (h : smallB c = true) : skipGo false (c :: t) = 0 := by
  unfold skipGo
  simp only [smallB, Bool.and_eq_true, decide_eq_true_eq] at h
  rw [if_neg, if_neg]
  · rintro rfl; revert h; decide
  · rintro (rfl | rfl | rfl) <;> (revert h; decide)
theorem name_word {w : List UInt8} (h : isName w = true) : w.all wordB = true := by
  cases w with
  | nil => rfl
  | cons c t =>
    simp only [isName, Bool.and_eq_true] at h
    rw [List.all_cons, h.2, small_inw h.1.1.2]; rfl
theorem name_small {w : List UInt8} (h : isName w = true) : ∃ c t, w = c :: t ∧ smallB c = true := by
  cases w with
  | nil => cases h
  | cons c t =>
    simp only [isName, Bool.and_eq_true] at h
    exact ⟨c, t, rfl, h.1.1.2⟩
theorem name_not : isName [110, 111, 116] = false := by decide
theorem dig_word {w : List UInt8} (h : isDigB w = true) : w.all wordB = true := by
  cases w with
  | nil => rfl
  | cons c t =>
    simp only [isDigB, Bool.and_eq_true] at h
    rw [List.all_eq_true] at h ⊢
    intro x hx
    rw [wordB_is, h.2 x hx]; simp
theorem small_cap {c : UInt8} (h : smallB c = true) : capitalB c = false := by
  simp only [smallB, Bool.and_eq_true, decide_eq_true_eq] at h
  simp only [capitalB, Bool.and_eq_false_iff, decide_eq_false_iff_not]; omega
theorem dig_cap {c : UInt8} (h : digitB c = true) : capitalB c = false := by
  simp only [digitB, Bool.and_eq_true, decide_eq_true_eq] at h
  simp only [capitalB, Bool.and_eq_false_iff, decide_eq_false_iff_not]; omega
theorem name_novar {w : List UInt8} (h : isName w = true) : isVarB w = false := by
  obtain ⟨c, t, rfl, hc⟩ := name_small h
  simp only [isVarB, small_cap hc, Bool.and_false]
theorem dig_novar {w : List UInt8} (h : isDigB w = true) : isVarB w = false := by
  cases w with
  | nil => rfl
  | cons c t =>
    simp only [isDigB, Bool.and_eq_true, List.all_cons] at h
    simp only [isVarB, dig_cap h.2.1, Bool.and_false]
/-- a STRING of the one form -/
theorem str_on (r : List UInt8) : ∀ (s : List UInt8) (p : Nat) (acc : List UInt8), strGo (escF s ++ 34 :: r) p acc = .ok (acc ++ s, p + (escF s).length + 1) := by
  intro s
  induction s with
  | nil =>
    intro p acc
    show strGo (34 :: r) p acc = _
    unfold strGo
    rw [if_pos rfl]; simp [escF]
  | cons c s ih =>
    intro p acc
    have he : escF (c :: s) = escB c ++ escF s := rfl
    rw [he]
    unfold escB
    by_cases h1 : c = 34
    · subst h1
      rw [if_pos rfl]
      show strGo (92 :: 34 :: (escF s ++ 34 :: r)) p acc = _
      unfold strGo
      rw [if_neg (by decide), if_neg (by decide), if_pos rfl]
      simp only []
      rw [if_neg (by decide), if_pos (by decide), ih]
      simp; omega
    · rw [if_neg h1]
      by_cases h2 : c = 92
      · subst h2
        rw [if_pos rfl]
        show strGo (92 :: 92 :: (escF s ++ 34 :: r)) p acc = _
        unfold strGo
        rw [if_neg (by decide), if_neg (by decide), if_pos rfl]
        simp only []
        rw [if_neg (by decide), if_pos (by decide), ih]
        simp; omega
      · rw [if_neg h2]
        by_cases h3 : c = 10
        · subst h3
          rw [if_pos rfl]
          show strGo (92 :: 110 :: (escF s ++ 34 :: r)) p acc = _
          unfold strGo
          rw [if_neg (by decide), if_neg (by decide), if_pos rfl]
          simp only []
          rw [if_pos (by decide), ih]
          simp; omega
        · rw [if_neg h3]
          show strGo (c :: (escF s ++ 34 :: r)) p acc = _
          unfold strGo
          rw [if_neg h1, if_neg h3, if_neg h2, ih]
          simp; omega
theorem starts_word {l w r : List UInt8} {p : Nat} (h : l.drop p = w ++ r) (hw : w.all wordB = true) (h0 : w ≠ []) : starts l p [34] = false := by
  rw [starts_on _ h]
  cases w with
  | nil => exact absurd rfl h0
  | cons c t =>
    rw [List.all_cons, Bool.and_eq_true] at hw
    rw [List.cons_append, List.isPrefixOf, Bool.and_eq_false_iff]
    left
    rw [beq_eq_false_iff_ne]
    rintro rfl
    revert hw; intro hw; exact absurd hw.1 (by decide)
/-- a constant of the one form, however long -/
theorem const_on {l r s : List UInt8} {p : Nat} (h : l.drop p = constF s ++ r) (hr : NW r) : atTermB l p = true ∧ wordAt l p ≠ [110, 111, 116] ∧ (wordAt l p = s ∨ wordAt l p = []) ∧ termF l p = (if 200 < s.length then .error (1, p) else .ok (⟨false, s, p⟩, skipTo l (p + (constF s).length))) := by
  unfold constF at h ⊢
  by_cases hn : (isName s || isDigB s) = true
  · rw [if_pos hn] at h ⊢
    have hw : s.all wordB = true := by
      rw [Bool.or_eq_true] at hn
      rcases hn with hn | hn
      · exact name_word hn
      · exact dig_word hn
    have h0 : s ≠ [] := by rintro rfl; cases hn
    have hl : s.length ≤ 30 := by
      rw [Bool.or_eq_true] at hn
      rcases hn with hn | hn
      · exact name_len hn
      · exact dig_len hn
    have hv : isVarB s = false := by
      rw [Bool.or_eq_true] at hn
      rcases hn with hn | hn
      · exact name_novar hn
      · exact dig_novar hn
    have hnn : s ≠ [110, 111, 116] := by
      rintro rfl
      revert hn; decide
    have hwd := word_on h hw hr
    have hb : atTermB l p = true := by
      unfold atTermB; rw [hwd]
      rw [Bool.or_eq_true] at hn
      rcases hn with hn | hn <;> simp [hn]
    refine ⟨hb, by rw [hwd]; exact hnn, .inl hwd, ?_⟩
    unfold termF
    rw [starts_word h hw h0, hb, hwd, hv, if_neg (by simp), if_pos rfl, if_neg (by omega)]
  · rw [if_neg hn] at h ⊢
    have hs : starts l p [34] = true := by rw [starts_on _ h]; simp [List.isPrefixOf]
    have hb : atTermB l p = true := by unfold atTermB; rw [hs]; rfl
    have hwd : wordAt l p = [] := by
      unfold wordAt; rw [h]
      show List.takeWhile wordB (34 :: _) = []
      rw [List.takeWhile_cons]; rfl
    refine ⟨hb, by rw [hwd]; simp, .inr hwd, ?_⟩
    unfold termF
    have hd : l.drop (p + 1) = escF s ++ 34 :: r := by
      refine drop_on1 (c := 34) ?_
      rw [h]; simp
    rw [if_pos hs, hd, str_on]
    simp only [List.nil_append]
    split
    · rfl
    · have he : p + 1 + (escF s).length + 1 = p + ([34] ++ escF s ++ [34]).length := by simp; omega
      rw [he]
theorem term_on {l r : List UInt8} {p : Nat} {t : PTerm} (h : l.drop p = termTextF t ++ r) (ht : WfT t) (hr : NW r) : atTermB l p = true ∧ wordAt l p ≠ [110, 111, 116] ∧ (wordAt l p = t.text ∨ wordAt l p = []) ∧ termF l p = .ok (⟨t.isVar, t.text, p⟩, skipTo l (p + (termTextF t).length)) := by
  obtain ⟨iv, s, pl⟩ := t
  cases iv with
  | false =>
    have := const_on (s := s) h hr
    rw [if_neg (by have : s.length ≤ 200 := ht.2 rfl; omega)] at this
    exact this
  | true =>
    have hh : l.drop p = s ++ r := h
    obtain ⟨hv, hw⟩ : isVarB s = true ∧ s.all wordB = true := ht.1 rfl
    have h0 : s ≠ [] := by rintro rfl; cases hv
    have hwd := word_on hh hw hr
    have hb : atTermB l p = true := by unfold atTermB; rw [hwd]; simp [hv]
    refine ⟨hb, ?_, .inl hwd, ?_⟩
    · rw [hwd]; rintro rfl; revert hv; decide
    · unfold termF
      rw [starts_word hh hw h0, hb, hwd, hv, if_neg (by simp), if_pos rfl]
      rfl
theorem comma_cons {α : Type} (f : α → List UInt8) (x y : α) (xs : List α) (r : List UInt8) : commaF f (x :: y :: xs) ++ r = f x ++ 44 :: 32 :: (commaF f (y :: xs) ++ r) := by simp [commaF]
theorem listF_on {α : Type} (W : α → Prop) (f : α → List UInt8) (n0 : α → α) (l : List UInt8) (bg : Nat → Bool) (one : Nat → Except PErr (α × Nat)) (S : List UInt8 → Prop)
    (hS : ∀ t, S (44 :: t)) (hf : ∀ x t, W x → skipGo false (f x ++ t) = 0)
    (h1 : ∀ x p r, W x → l.drop p = f x ++ r → S r → bg p = true ∧ ∃ x', n0 x' = n0 x ∧ one p = .ok (x', skipTo l (p + (f x).length))) :
    ∀ (xs : List α) (n p : Nat) (r : List UInt8), xs ≠ [] → xs.length ≤ n → (∀ x ∈ xs, W x) → l.drop p = commaF f xs ++ r → S r → signF l [44] (skipTo l (p + (commaF f xs).length)) = none →
      ∃ xs', xs'.map n0 = xs.map n0 ∧ listF bg one (signF l [44]) n p = .ok (xs', skipTo l (p + (commaF f xs).length)) := by
  intro xs
  induction xs with
  | nil => intro n p r h; exact absurd rfl h
  | cons x xs ih =>
    intro n p r _ hn hw hd hr hno
    obtain ⟨m, rfl⟩ : ∃ m, n = m + 1 := ⟨n - 1, by simp at hn; omega⟩
    unfold listF
    cases xs with
    | nil =>
      obtain ⟨hb, x', hx, ho⟩ := h1 x p r (hw x (by simp)) hd hr
      rw [hb, if_pos rfl, ho]
      simp only []
      have hno' : signF l [44] (skipTo l (p + (f x).length)) = none := hno
      rw [hno']
      exact ⟨[x'], by simp [hx], rfl⟩
    | cons y ys =>
      rw [comma_cons] at hd
      obtain ⟨hb, x', hx, ho⟩ := h1 x p _ (hw x (by simp)) hd (hS _)
      rw [hb, if_pos rfl, ho]
      simp only []
      have hd2 := drop_on hd
      have hsk : skipTo l (p + (f x).length) = p + (f x).length := by rw [skip_on hd2]; simp [skipGo]
      have hd3 : l.drop (p + (f x).length) = [44] ++ (32 :: (commaF f (y :: ys) ++ r)) := hd2
      have hg : skipGo false (commaF f (y :: ys) ++ r) = 0 := by
        cases ys with
        | nil => exact hf y r (hw y (by simp))
        | cons z zs => rw [comma_cons]; exact hf y _ (hw y (by simp))
      have hs : signF l [44] (p + (f x).length) = some (p + (f x).length + 2) := by
        rw [sign_on _ hd3]
        simp [skipGo, hg]
      rw [hsk, hs]
      simp only []
      have hd4 : l.drop (p + (f x).length + 2) = commaF f (y :: ys) ++ r := by
        have := drop_on (x := [44, 32]) hd2
        simpa using this
      have hlen : (commaF f (x :: y :: ys)).length = (f x).length + 2 + (commaF f (y :: ys)).length := by simp [commaF]; omega
      obtain ⟨xs', hxs, hl⟩ := ih m (p + (f x).length + 2) r (by simp) (by simp at hn ⊢; omega) (fun z hz => hw z (by simp [hz])) hd4 hr (by rw [hlen] at hno; rw [Nat.add_assoc p, Nat.add_assoc p]; exact hno)
      rw [hl]
      refine ⟨x' :: xs', by simp only [List.map_cons] at hxs ⊢; rw [hx, hxs], ?_⟩
      rw [hlen, Nat.add_assoc p, Nat.add_assoc p]
end Go.Proofs.YtoelacloghkooaaGreatDoor
