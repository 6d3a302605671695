/-
  How many things a text has at the most, in plain lists.
-/
import Derived.Test.YtoelacloghkooaaDoorGrammar
namespace Go.Proofs.YtoelacloghkooaaDoor
set_option linter.unusedVariables false
theorem listF_len {α : Type} (bg : Nat → Bool) (one : Nat → Except PErr (α × Nat)) (go : Nat → Option Nat) (P : α → Prop) (h1 : ∀ p x q, one p = .ok (x, q) → P x) : ∀ (n p : Nat) (xs : List α) (r : Nat), listF bg one go n p = .ok (xs, r) → xs.length ≤ n ∧ ∀ x ∈ xs, P x := by
  intro n
  induction n with
  | zero => intro p xs r h; unfold listF at h; split at h <;> cases h
  | succ n ih =>
    intro p xs r h
    unfold listF at h
    split at h
    · cases ho : one p with
      | error er => rw [ho] at h; cases h
      | ok v =>
        obtain ⟨y, q⟩ := v
        rw [ho] at h
        simp only [] at h
        cases hg : go q with
        | none => rw [hg] at h; cases h; exact ⟨by simp, fun x hx => by simp at hx; subst hx; exact h1 _ _ _ ho⟩
        | some r1 =>
          rw [hg] at h
          simp only [] at h
          cases hl : listF bg one go n r1 with
          | error er => rw [hl] at h; cases h
          | ok v =>
            obtain ⟨ys, r2⟩ := v
            rw [hl] at h; cases h
            obtain ⟨k1, k2⟩ := ih r1 ys r hl
            exact ⟨by simp; omega, fun x hx => by
              rcases List.mem_cons.1 hx with rfl | hx
              · exact h1 _ _ _ ho
              · exact k2 x hx⟩
    · cases h
theorem atomF_len (l : List UInt8) (p : Nat) (a : PAtom) (q : Nat) (h : atomF l p = .ok (a, q)) : a.args.length ≤ 8 := by
  unfold atomF at h
  split at h
  · split at h
    · cases h; simp
    · split at h
      · cases h
      · rename_i heq
        split at h
        · cases h
        · cases h; exact (listF_len _ _ _ (fun _ => True) (fun _ _ _ _ => trivial) _ _ _ _ heq).1
  · cases h
theorem partF_len (l : List UInt8) (p : Nat) (x : PPart) (q : Nat) (h : partF l p = .ok (x, q)) : x.atom.args.length ≤ 8 := by
  unfold partF at h
  split at h
  · split at h
    · cases h
    · rename_i heq; cases h; exact atomF_len _ _ _ _ heq
  · split at h
    · split at h
      · cases h
      · rename_i heq; cases h; exact atomF_len _ _ _ _ heq
    · split at h
      · cases h
      · split at h
        · cases h
        · split at h
          · cases h
          · cases h; simp [noAtom]
theorem partsF_len (l : List UInt8) (p : Nat) (ps : List PPart) (r : Nat) (h : partsF l p = .ok (ps, r)) : ps.length ≤ 12 ∧ ∀ x ∈ ps, x.atom.args.length ≤ 8 := listF_len _ _ _ _ (fun p x q hx => partF_len l p x q hx) _ _ _ _ h
theorem queryF_len (l : List UInt8) (ps : List PPart) (h : queryF l = .ok ps) : ps.length ≤ 12 ∧ ∀ x ∈ ps, x.atom.args.length ≤ 8 := by
  unfold queryF at h
  split at h
  · cases h
  · split at h
    · cases h
    · rename_i heq
      split at h
      · cases h
      · split at h
        · cases h; exact partsF_len _ _ _ _ heq
        · cases h
/-- a rule of no more than so much -/
def Small (r : PRule) : Prop := r.head.args.length ≤ 8 ∧ r.body.length ≤ 12 ∧ ∀ x ∈ r.body, x.atom.args.length ≤ 8
theorem ruleF_len (l : List UInt8) (p : Nat) (r : PRule) (q : Nat) (h : ruleF l p = .ok (r, q)) : Small r := by
  unfold ruleF at h
  split at h
  · cases h
  · rename_i ha
    split at h
    · cases h
    · rename_i hb
      split at h
      · cases h
      · cases h
        have h1 := atomF_len _ _ _ _ ha
        split at hb
        · cases hb; exact ⟨h1, by simp, by simp⟩
        · obtain ⟨k1, k2⟩ := partsF_len _ _ _ _ hb; exact ⟨h1, k1, k2⟩
theorem parseF_len (l : List UInt8) (rs : List PRule) (h : parseF l = .ok rs) : rs.length ≤ 200 ∧ ∀ r ∈ rs, Small r := by
  unfold parseF at h
  split at h
  · cases h
  · split at h
    · cases h; simp
    · split at h
      · cases h
      · rename_i heq; cases h; exact listF_len _ _ _ _ (fun p x q hx => ruleF_len l p x q hx) _ _ _ _ heq
end Go.Proofs.YtoelacloghkooaaDoor
