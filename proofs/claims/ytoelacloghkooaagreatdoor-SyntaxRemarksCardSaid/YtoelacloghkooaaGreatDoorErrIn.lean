import Derived.Test.YtoelacloghkooaaGreatDoorM19
/-
  An error's place lies within the text. Plain lists; nothing of the program.
-/
namespace Go.Proofs.YtoelacloghkooaaGreatDoor
set_option linter.unusedVariables false
theorem str_err (l : List UInt8) : ∀ (n p : Nat) (acc : List UInt8) (e x : Nat), l.length ≤ n → strGo l p acc = .error (e, x) → x ≤ p + l.length := by
  intro n
  induction n generalizing l with
  | zero => intro p acc e x h; cases l with
    | nil => intro h; unfold strGo at h; cases h; omega
    | cons c t => simp at h
  | succ n ih =>
    intro p acc e x hn h
    cases l with
    | nil => unfold strGo at h; cases h; omega
    | cons c t =>
      unfold strGo at h
      by_cases h1 : c = 34
      · rw [if_pos h1] at h; cases h
      · rw [if_neg h1] at h
        by_cases h2 : c = 10
        · rw [if_pos h2] at h; cases h; omega
        · rw [if_neg h2] at h
          by_cases h3 : c = 92
          · rw [if_pos h3] at h
            cases t with
            | nil => cases h; simp
            | cons f t2 =>
              simp only at h
              by_cases h4 : f = 110
              · rw [if_pos h4] at h
                have := ih t2 _ _ _ _ (by simp at hn; omega) h
                simp; omega
              · rw [if_neg h4] at h
                by_cases h5 : f = 34 ∨ f = 92
                · rw [if_pos h5] at h
                  have := ih t2 _ _ _ _ (by simp at hn; omega) h
                  simp; omega
                · rw [if_neg h5] at h; cases h; simp
          · rw [if_neg h3] at h
            have := ih t _ _ _ _ (by simpa using hn) h
            simp; omega
theorem termF_err (l : List UInt8) (p e x : Nat) (hp : p ≤ l.length) (h : termF l p = .error (e, x)) : x ≤ l.length := by
  unfold termF at h
  split at h
  · rename_i h1
    have hlt := starts_len h1
    have hlt : p < l.length := by simp at hlt; omega
    split at h
    · rename_i er hg
      cases h
      have := str_err _ _ _ _ _ _ (Nat.le_refl _) hg
      rw [List.length_drop] at this
      omega
    · split at h
      · cases h; omega
      · cases h
  · split at h
    · cases h
    · cases h; omega
theorem listF_err {α : Type} (N : Nat) (bg : Nat → Bool) (one : Nat → Except PErr (α × Nat)) (go : Nat → Option Nat) (h1 : ∀ p e x, p ≤ N → one p = .error (e, x) → x ≤ N) (h2 : ∀ p a q, one p = .ok (a, q) → q ≤ N) (h3 : ∀ p r, p ≤ N → go p = some r → r ≤ N) :
    ∀ (n p e x : Nat), p ≤ N → listF bg one go n p = .error (e, x) → x ≤ N := by
  intro n
  induction n with
  | zero => intro p e x hp h; unfold listF at h; split at h <;> (cases h; exact hp)
  | succ n ih =>
    intro p e x hp h
    unfold listF at h
    split at h
    · split at h
      · rename_i er ho; cases h; exact h1 _ _ _ hp ho
      · rename_i a q ho
        have hq := h2 _ _ _ ho
        split at h
        · cases h
        · rename_i r hg
          have hr := h3 _ _ hq hg
          split at h
          · rename_i er hl; cases h; exact ih _ _ _ hr hl
          · cases h
    · cases h; exact hp
theorem sign_lim {l s : List UInt8} {p r : Nat} (hs : (10 : UInt8) ∉ s) (h0 : s.length ≠ 0) (h : signF l s p = some r) : r ≤ l.length := (sign_some_beh (y := []) hs h0 h).2.1
theorem atomF_err (l : List UInt8) (p e x : Nat) (hp : p ≤ l.length) (h : atomF l p = .error (e, x)) : x ≤ l.length := by
  unfold atomF at h
  split at h
  · split at h
    · cases h
    · rename_i q hs
      have hq := sign_lim (by decide) (by decide) hs
      split at h
      · rename_i er hl
        cases h
        exact listF_err l.length _ _ _ (termF_err l) (fun p a q h => (termF_beh (y := []) h).2.1) (fun p r _ h => sign_lim (by decide) (by decide) h) _ _ _ _ hq hl
      · rename_i args r hl
        have hr := listF_le l.length _ _ _ (fun p a q h => (termF_beh (y := []) h).2.1) _ _ _ _ hl
        split at h
        · cases h; exact hr
        · cases h
  · cases h; exact hp
theorem partF_err (l : List UInt8) (p e x : Nat) (hp : p ≤ l.length) (h : partF l p = .error (e, x)) : x ≤ l.length := by
  unfold partF at h
  split at h
  · rename_i hw
    have hl := word_len l p
    rw [hw] at hl
    simp only [List.length_cons, List.length_nil] at hl
    split at h
    · rename_i er ha
      cases h
      exact atomF_err l _ _ _ (skip_lim _ _ (by omega)) ha
    · cases h
  · split at h
    · split at h
      · rename_i er ha; cases h; exact atomF_err l _ _ _ hp ha
      · cases h
    · split at h
      · rename_i er ht; cases h; exact termF_err l _ _ _ hp ht
      · rename_i t q ht
        have hq := (termF_beh (y := []) ht).2.1
        split at h
        · cases h; exact hq
        · rename_i k r hc
          have hr : r ≤ l.length := by
            unfold compF at hc
            split at hc
            · rename_i h1; cases hc; exact sign_lim (by decide) (by decide) h1
            · split at hc
              · rename_i h1; cases hc; exact sign_lim (by decide) (by decide) h1
              · split at hc
                · rename_i h1; cases hc; exact sign_lim (by decide) (by decide) h1
                · cases hc
          split at h
          · rename_i er hu; cases h; exact termF_err l _ _ _ hr hu
          · cases h
theorem ruleF_err (l : List UInt8) (p e x : Nat) (hp : p ≤ l.length) (h : ruleF l p = .error (e, x)) : x ≤ l.length := by
  unfold ruleF at h
  split at h
  · rename_i er ha; cases h; exact atomF_err l _ _ _ hp ha
  · rename_i a q ha
    have hq := (atomF_beh (y := []) ha).2.1
    split at h
    · rename_i er hb
      cases h
      split at hb
      · cases hb
      · rename_i r hi
        exact listF_err l.length _ _ _ (partF_err l) (fun p a q h => (partF_beh (y := []) h).1) (fun p r _ h => sign_lim (by decide) (by decide) h) _ _ _ _ (sign_lim (by decide) (by decide) hi) hb
    · rename_i b r hb
      have hr : r ≤ l.length := by
        split at hb
        · cases hb; exact hq
        · exact listF_le l.length _ _ _ (fun p a q h => (partF_beh (y := []) h).1) _ _ _ _ hb
      split at h
      · cases h; exact hr
      · cases h
theorem parse_err (l : List UInt8) (e x : Nat) (h : parseF l = .error (e, x)) : x ≤ 20000 := by
  rw [parseF_end] at h
  split at h
  · cases h; omega
  · split at h
    · cases h
    · split at h
      · rename_i er hl
        cases h
        have := listF_err l.length _ _ _ (ruleF_err l) (fun p a q h => (ruleF_beh (y := []) h).1) (fun p r hp h => by unfold endF at h; split at h <;> cases h; exact hp) _ _ _ _ (skip_lim l 0 (by omega)) hl
        omega
      · cases h
end Go.Proofs.YtoelacloghkooaaGreatDoor
