import Derived.Test.YtgllfcoafgphbaaGreatDoorM21
/-
  How long the one form can be. Plain lists; nothing of the program.
-/
namespace Go.Proofs.YtgllfcoafgphbaaGreatDoor
set_option linter.unusedVariables false
theorem termText_len {t : PTerm} (h : WfT t) : (termTextF t).length ≤ 402 := by
  unfold termTextF
  cases hv : t.isVar with
  | true => rw [if_pos rfl]; have := var_len (h.1 hv).1; omega
  | false => rw [if_neg (by simp)]; have := constF_len t.text; have := h.2 hv; omega
theorem comma_len {α : Type} (f : α → List UInt8) (N : Nat) : ∀ l : List α, (∀ x ∈ l, (f x).length ≤ N) → (commaF f l).length ≤ l.length * (N + 2) := by
  intro l
  induction l with
  | nil => intro _; simp [commaF]
  | cons x l ih =>
    intro h
    have h1 := h x (by simp)
    have h2 := ih (fun y hy => h y (by simp [hy]))
    cases l with
    | nil => simp only [commaF, List.length_cons, List.length_nil]; omega
    | cons y r =>
      simp only [commaF, List.length_append, List.length_cons, List.length_nil] at h2 ⊢
      rw [Nat.add_mul (r.length + 1) 1]
      omega
/-- what AtomText has written behind k terms -/
def atomPre (a : PAtom) (k : Nat) : List UInt8 := a.name ++ (if k = 0 then [] else [40] ++ commaF termTextF (a.args.take k))
theorem atomPre_len {a : PAtom} (h : WfA a) (k : Nat) : (atomPre a k).length ≤ 3263 := by
  have h1 := name_len h.1
  have h2 := comma_len termTextF 402 (a.args.take k) (fun x hx => termText_len (h.2.2 x (List.mem_of_mem_take hx)))
  have h3 : (a.args.take k).length ≤ 8 := by rw [List.length_take]; have := h.2.1; omega
  have h4 : (a.args.take k).length * 404 ≤ 8 * 404 := Nat.mul_le_mul_right _ h3
  unfold atomPre
  split
  · simp; omega
  · simp only [List.length_append, List.length_cons, List.length_nil]; omega
theorem atomPre_zero (a : PAtom) : atomPre a 0 = a.name := by unfold atomPre; rw [if_pos rfl, List.append_nil]
theorem atomPre_one (a : PAtom) (h : 0 < a.args.length) : atomPre a 1 = atomPre a 0 ++ ([40] : List UInt8) ++ termTextF a.args[0] := by
  rw [atomPre_zero]
  unfold atomPre
  rw [if_neg (by decide), show a.args.take 1 = [a.args[0]] from by rw [List.take_succ_eq_append_getElem h]; rfl]
  simp [commaF]
theorem atomPre_step (a : PAtom) (k : Nat) (h0 : k ≠ 0) (h : k < a.args.length) : atomPre a (k + 1) = atomPre a k ++ [44, 32] ++ termTextF a.args[k] := by
  unfold atomPre
  rw [if_neg (by omega), if_neg h0, commaF_take termTextF a.args k h, if_neg h0]
  simp
theorem atomText_pre (a : PAtom) : atomTextF a = if a.args.length = 0 then atomPre a 0 else atomPre a a.args.length ++ [41] := by
  unfold atomTextF
  split
  · rw [atomPre_zero, List.append_nil]
  · rename_i h
    unfold atomPre
    rw [if_neg h, List.take_length]
    simp
theorem atomText_len {a : PAtom} (h : WfA a) : (atomTextF a).length ≤ 3264 := by
  rw [atomText_pre]
  split
  · have := atomPre_len h 0; omega
  · have := atomPre_len h a.args.length; simp; omega
theorem partText_len {p : PPart} (h : WfP p) : (partTextF p).length ≤ 3268 := by
  unfold partTextF
  rcases h with ⟨hk, ha, _, _⟩ | ⟨hk, hk4, _, hl, hr⟩
  · have := atomText_len ha
    split
    · omega
    · split
      · simp; omega
      · omega
  · have h1 := termText_len hl
    have h2 := termText_len hr
    have h3 : (signTextF p.kind).length ≤ 2 := by unfold signTextF; split <;> (try split) <;> simp
    rw [if_neg (by omega), if_neg (by omega)]
    simp; omega
/-- what RuleText has written behind k parts -/
def rulePre (r : PRule) (k : Nat) : List UInt8 := atomTextF r.head ++ (if k = 0 then [] else [32, 58, 45, 32] ++ commaF partTextF (r.body.take k))
theorem rulePre_len {r : PRule} (h : WfR r) (k : Nat) : (rulePre r k).length ≤ 42508 := by
  have h1 := atomText_len h.1
  have h2 := comma_len partTextF 3268 (r.body.take k) (fun x hx => partText_len (h.2.2 x (List.mem_of_mem_take hx)))
  have h3 : (r.body.take k).length ≤ 12 := by rw [List.length_take]; have := h.2.1; omega
  have h4 : (r.body.take k).length * 3270 ≤ 12 * 3270 := Nat.mul_le_mul_right _ h3
  unfold rulePre
  split
  · simp; omega
  · simp only [List.length_append, List.length_cons, List.length_nil]; omega
theorem rulePre_zero (r : PRule) : rulePre r 0 = atomTextF r.head := by unfold rulePre; rw [if_pos rfl, List.append_nil]
theorem rulePre_one (r : PRule) (h : 0 < r.body.length) : rulePre r 1 = rulePre r 0 ++ ([32, 58, 45, 32] : List UInt8) ++ partTextF r.body[0] := by
  rw [rulePre_zero]
  unfold rulePre
  rw [if_neg (by decide), show r.body.take 1 = [r.body[0]] from by rw [List.take_succ_eq_append_getElem h]; rfl]
  simp [commaF]
theorem rulePre_step (r : PRule) (k : Nat) (h0 : k ≠ 0) (h : k < r.body.length) : rulePre r (k + 1) = rulePre r k ++ [44, 32] ++ partTextF r.body[k] := by
  unfold rulePre
  rw [if_neg (by omega), if_neg h0, commaF_take partTextF r.body k h, if_neg h0]
  simp
theorem ruleText_pre (r : PRule) : ruleTextF r = rulePre r r.body.length ++ [46, 10] := by
  unfold ruleTextF rulePre
  rw [List.take_length]
theorem ruleText_len {r : PRule} (h : WfR r) : (ruleTextF r).length ≤ 42510 := by
  rw [ruleText_pre]
  have := rulePre_len h r.body.length
  simp; omega
theorem rulesText_len : ∀ (rs : List PRule), (∀ r ∈ rs, WfR r) → (rulesTextF rs).length ≤ rs.length * 42510 := by
  intro rs
  induction rs with
  | nil => intro _; simp [rulesTextF]
  | cons r rs ih =>
    intro h
    have h1 := ruleText_len (h r (by simp))
    have h2 := ih (fun x hx => h x (by simp [hx]))
    have hc : rulesTextF (r :: rs) = ruleTextF r ++ rulesTextF rs := by unfold rulesTextF; rw [List.flatMap_cons]
    rw [hc, List.length_append, List.length_cons]
    omega
theorem rulesTake_len (rs : List PRule) (h : ∀ r ∈ rs, WfR r) (h200 : rs.length ≤ 200) (k : Nat) : (rulesTextF (rs.take k)).length ≤ 8502000 := by
  have h1 := rulesText_len (rs.take k) (fun x hx => h x (List.mem_of_mem_take hx))
  have h3 : (rs.take k).length ≤ 200 := by rw [List.length_take]; omega
  have h4 : (rs.take k).length * 42510 ≤ 200 * 42510 := Nat.mul_le_mul_right _ h3
  omega
end Go.Proofs.YtgllfcoafgphbaaGreatDoor
