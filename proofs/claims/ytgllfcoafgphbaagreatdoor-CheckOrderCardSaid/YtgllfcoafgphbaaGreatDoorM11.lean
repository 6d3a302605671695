import Derived.Test.YtgllfcoafgphbaaGreatDoorM02
/-
  Chapter 5 in plain words of lists: what a name hangs on, which rules can be followed, the least levels. Nothing of the program.
-/
namespace Go.Proofs.YtgllfcoafgphbaaGreatDoor
set_option linter.unusedVariables false
/-- all atoms of a rule's body -/
def bodyAtoms (r : PRule) : List PPart := r.body.filter (fun p => decide (p.kind < 2))
/-- all atoms of a rule, the head first -/
def atomsR (r : PRule) : List PAtom := r.head :: (bodyAtoms r).map (·.atom)
def atomsAll (rs : List PRule) : List PAtom := rs.flatMap atomsR
def misfit (seen : List PAtom) (a : PAtom) : Bool := seen.any (fun b => b.name == a.name && b.args.length != a.args.length)
/-- the first atom with another number of terms than one ahead -/
def arityGo : List PAtom → List PAtom → Option PAtom
  | _, [] => none
  | seen, a :: t => if misfit seen a then some a else arityGo (seen ++ [a]) t
def arityF (rs : List PRule) : Option PAtom := arityGo [] (atomsAll rs)
/-- the number of terms of the first atom of a name -/
def countF (seen : List PAtom) (n : List UInt8) : Option Nat := (seen.find? (fun b => b.name == n)).map (·.args.length)
/-- likewise, with the first one's number alone -/
def arityFst : List PAtom → List PAtom → Option PAtom
  | _, [] => none
  | seen, a :: t => match countF seen a.name with
    | none => arityFst (seen ++ [a]) t
    | some c => if c != a.args.length then some a else arityFst seen t
/-- atoms of one name have one number of terms -/
def OneArity (l : List PAtom) : Prop := ∀ a ∈ l, ∀ b ∈ l, a.name = b.name → a.args.length = b.args.length
theorem misfit_iff (seen : List PAtom) (a : PAtom) : misfit seen a = true ↔ ∃ b ∈ seen, b.name = a.name ∧ b.args.length ≠ a.args.length := by simp [misfit]
theorem misfit_no (seen : List PAtom) (a : PAtom) : misfit seen a = false ↔ ∀ b ∈ seen, b.name = a.name → b.args.length = a.args.length := by
  rw [← Bool.not_eq_true, misfit_iff]
  exact ⟨fun h b hb hn => Classical.byContradiction fun hc => h ⟨b, hb, hn, hc⟩, fun h ⟨b, hb, hn, hc⟩ => hc (h b hb hn)⟩
theorem arityGo_none : ∀ (l seen : List PAtom), OneArity seen → (arityGo seen l = none ↔ OneArity (seen ++ l))
  | [], seen, h => by simp [arityGo, h]
  | a :: t, seen, h => by
    simp only [arityGo]
    by_cases hm : misfit seen a = true
    · simp only [hm, if_true, reduceCtorEq, false_iff]
      obtain ⟨b, hb, hn, hc⟩ := (misfit_iff seen a).1 hm
      exact fun H => hc (H b (List.mem_append_left _ hb) a (List.mem_append_right _ List.mem_cons_self) hn)
    · have hm' : misfit seen a = false := by simpa using hm
      have h1 : OneArity (seen ++ [a]) := by
        have hq := (misfit_no seen a).1 hm'
        intro x hx y hy hxy
        rcases List.mem_append.1 hx with hx | hx <;> rcases List.mem_append.1 hy with hy | hy
        · exact h x hx y hy hxy
        · rw [List.mem_singleton.1 hy] at hxy ⊢; exact hq x hx hxy
        · rw [List.mem_singleton.1 hx] at hxy ⊢; exact (hq y hy hxy.symm).symm
        · rw [List.mem_singleton.1 hx, List.mem_singleton.1 hy]
      rw [if_neg hm, arityGo_none t (seen ++ [a]) h1, List.append_assoc, List.singleton_append]
theorem arity_none (rs : List PRule) : arityF rs = none ↔ OneArity (atomsAll rs) := by
  rw [arityF, arityGo_none _ [] (fun a ha => absurd ha List.not_mem_nil), List.nil_append]
/-- the first one's number serves for all -/
theorem count_misfit {seen fst : List PAtom} (h : OneArity seen) (hs : ∀ n, countF fst n = countF seen n) (a : PAtom) : misfit seen a = (match countF fst a.name with | none => false | some c => c != a.args.length) := by
  rw [hs]
  cases hf : seen.find? (fun b => b.name == a.name) with
  | none =>
    have hn := List.find?_eq_none.1 hf
    simp only [countF, hf, Option.map_none]
    exact (misfit_no seen a).2 fun b hb hbn => absurd (by simpa using hbn) (hn b hb)
  | some c =>
    have hc := List.mem_of_find?_eq_some hf
    have hcn : c.name = a.name := by simpa using List.find?_some hf
    simp only [countF, hf, Option.map_some]
    cases hm : misfit seen a with
    | true =>
      obtain ⟨b, hb, hn, hne⟩ := (misfit_iff seen a).1 hm
      have := h b hb c hc (hn.trans hcn.symm)
      simp only [this] at hne; simp [hne]
    | false =>
      have := (misfit_no seen a).1 hm c hc hcn
      simp [this]
theorem countF_snoc (l : List PAtom) (a : PAtom) (n : List UInt8) : countF (l ++ [a]) n = (countF l n).or (if a.name = n then some a.args.length else none) := by
  unfold countF
  rw [List.find?_append]
  cases hf : l.find? (fun b => b.name == n) with
  | none => by_cases hn : a.name = n <;> simp [hn]
  | some c => simp
theorem arityFst_eq : ∀ (l seen fst : List PAtom), OneArity seen → (∀ n, countF fst n = countF seen n) → arityFst fst l = arityGo seen l
  | [], _, _, _, _ => rfl
  | a :: t, seen, fst, h, hs => by
    have hm := count_misfit h hs a
    have h1 : misfit seen a = false → OneArity (seen ++ [a]) := by
      intro hm'
      have hq := (misfit_no seen a).1 hm'
      intro x hx y hy hxy
      rcases List.mem_append.1 hx with hx | hx <;> rcases List.mem_append.1 hy with hy | hy
      · exact h x hx y hy hxy
      · rw [List.mem_singleton.1 hy] at hxy ⊢; exact hq x hx hxy
      · rw [List.mem_singleton.1 hx] at hxy ⊢; exact (hq y hy hxy.symm).symm
      · rw [List.mem_singleton.1 hx, List.mem_singleton.1 hy]
    unfold arityFst arityGo
    cases hc : countF fst a.name with
    | none =>
      rw [hc] at hm
      simp only [hm, Bool.false_eq_true, if_false]
      refine arityFst_eq t (seen ++ [a]) (fst ++ [a]) (h1 hm) fun n => ?_
      rw [countF_snoc, countF_snoc, hs]
    | some c =>
      rw [hc] at hm
      simp only [hm]
      by_cases hq : (c != a.args.length) = true
      · simp only [hq, if_true]
      · simp only [hq, if_false, Bool.false_eq_true]
        have hf : misfit seen a = false := by rw [hm]; simpa using hq
        refine arityFst_eq t (seen ++ [a]) fst (h1 hf) fun n => ?_
        rw [countF_snoc, hs]
        cases hn : countF seen n with
        | none =>
          by_cases han : a.name = n
          · rw [← hs, ← han, hc] at hn; exact absurd hn (by simp)
          · simp [han]
        | some d => simp
theorem arity_fst (rs : List PRule) : arityFst [] (atomsAll rs) = arityF rs := arityFst_eq _ [] [] (fun a ha => absurd ha List.not_mem_nil) (fun _ => rfl)

/-- has an atom of Kind 0 that variable? -/
def boundV (body : List PPart) (v : List UInt8) : Bool := body.any (fun p => decide (p.kind = 0) && p.atom.args.any (fun t => t.isVar && t.text == v))
def partTerms (p : PPart) : List PTerm := if p.kind < 2 then p.atom.args else [p.left, p.right]
/-- the first variable of terms that nothing in a body binds -/
def looseF (ts : List PTerm) (body : List PPart) : Option PTerm := ts.find? (fun t => t.isVar && !boundV body t.text)
/-- the terms that bind no variable -/
def wantsF (r : PRule) : List PTerm := r.head.args ++ (r.body.filter (fun p => p.kind != 0)).flatMap partTerms
def safeR (r : PRule) : Option PTerm := looseF (wantsF r) r.body
def safeF (rs : List PRule) : Option PTerm := rs.findSome? safeR
theorem loose_append (a b : List PTerm) (body : List PPart) : looseF (a ++ b) body = (looseF a body).or (looseF b body) := by simp [looseF, List.find?_append]
theorem loose_cons (p : PPart) (ps body : List PPart) : looseF (((p :: ps).filter (fun p => p.kind != 0)).flatMap partTerms) body = if p.kind = 0 then looseF ((ps.filter (fun p => p.kind != 0)).flatMap partTerms) body else (looseF (partTerms p) body).or (looseF ((ps.filter (fun p => p.kind != 0)).flatMap partTerms) body) := by
  by_cases h : p.kind = 0
  · simp [h]
  · simp [h, loose_append]
theorem safeR_none (r : PRule) : safeR r = none ↔ ∀ t ∈ wantsF r, t.isVar = true → boundV r.body t.text = true := by
  simp only [safeR, looseF, List.find?_eq_none, Bool.and_eq_true, Bool.not_eq_true', not_and, Bool.not_eq_false]
theorem safe_none (rs : List PRule) : safeF rs = none ↔ ∀ r ∈ rs, ∀ t ∈ wantsF r, t.isVar = true → boundV r.body t.text = true := by
  simp only [safeF, List.findSome?_eq_none_iff, safeR_none]

/-- a rule of that head has that name in its body, in an atom of that kind -/
def EdgeK (rs : List PRule) (a : List UInt8) (k : Nat) (b : List UInt8) : Prop := ∃ r ∈ rs, r.head.name = a ∧ ∃ p ∈ r.body, p.kind = k ∧ p.atom.name = b
def Edge (rs : List PRule) (a b : List UInt8) : Prop := ∃ k, k < 2 ∧ EdgeK rs a k b
/-- a name hangs on another -/
inductive Hangs (rs : List PRule) : List UInt8 → List UInt8 → Prop
  | one {a b : List UInt8} : Edge rs a b → Hangs rs a b
  | more {a b c : List UInt8} : Edge rs a b → Hangs rs b c → Hangs rs a c
theorem Hangs.trans {rs : List PRule} {a b c : List UInt8} (h : Hangs rs a b) (k : Hangs rs b c) : Hangs rs a c := by
  induction h with
  | one e => exact .more e k
  | more e _ ih => exact .more e (ih k)
theorem Hangs.snoc {rs : List PRule} {a b c : List UInt8} (h : Hangs rs a b) (k : Edge rs b c) : Hangs rs a c := h.trans (.one k)
theorem Hangs.mono {rs qs : List PRule} (hm : ∀ r ∈ rs, r ∈ qs) {a b : List UInt8} (h : Hangs rs a b) : Hangs qs a b := by
  have he : ∀ x y, Edge rs x y → Edge qs x y := fun x y ⟨k, hk, r, hr, h⟩ => ⟨k, hk, r, hm r hr, h⟩
  induction h with
  | one e => exact .one (he _ _ e)
  | more e _ ih => exact .more (he _ _ e) ih
/-- what is closed under the bodies, and reached, is what a name hangs on -/
theorem hangs_iff {rs : List PRule} {a : List UInt8} {F : List UInt8 → Prop} (h1 : ∀ x, F x → Hangs rs a x) (h2 : ∀ y, Edge rs a y → F y) (h3 : ∀ x y, F x → Edge rs x y → F y) (x : List UInt8) : F x ↔ Hangs rs a x := by
  refine ⟨h1 x, fun h => ?_⟩
  have go : ∀ p q, Hangs rs p q → (∀ y, Edge rs p y → F y) → F q := by
    intro p q h
    induction h with
    | one e => exact fun H => H _ e
    | more e _ ih => exact fun H => ih fun y hy => h3 _ _ (H _ e) hy
  exact go a x h h2
open Classical in
/-- the first atom of Kind 1 that hangs on its rule's head -/
noncomputable def ringR (rs : List PRule) (r : PRule) : Option PPart := r.body.find? (fun p => decide (p.kind = 1 ∧ Hangs rs p.atom.name r.head.name))
noncomputable def ringF (rs : List PRule) : Option PPart := rs.findSome? (ringR rs)
/-- one of the head's own name does -/
theorem own_hangs {rs : List PRule} {r : PRule} (hr : r ∈ rs) {p : PPart} (hp : p ∈ r.body) (hk : p.kind = 1) : (p.atom.name = r.head.name ∨ Hangs rs p.atom.name r.head.name) ↔ Hangs rs p.atom.name r.head.name := by
  refine ⟨fun h => h.elim (fun h => ?_) id, .inr⟩
  exact .one ⟨1, by omega, r, hr, h.symm, p, hp, hk, h⟩
theorem ring_none (rs : List PRule) : ringF rs = none ↔ ∀ r ∈ rs, ∀ p ∈ r.body, p.kind = 1 → ¬ Hangs rs p.atom.name r.head.name := by
  simp only [ringF, ringR, List.findSome?_eq_none_iff, List.find?_eq_none, decide_eq_true_eq, not_and]
theorem ring_no_edge {rs : List PRule} (h : ringF rs = none) {a b : List UInt8} (e : EdgeK rs a 1 b) : ¬ Hangs rs b a := by
  obtain ⟨r, hr, ha, p, hp, hk, hb⟩ := e
  rw [← ha, ← hb]; exact (ring_none rs).1 h r hr p hp hk
end Go.Proofs.YtgllfcoafgphbaaGreatDoor

/-
  Chapter 5 in plain words of lists: the least levels, by lifting heads until none stands too low. Nothing of the program.
-/
namespace Go.Proofs.YtgllfcoafgphbaaGreatDoor
set_option linter.unusedVariables false
/-- numbers that will do -/
def Sol (rs : List PRule) (f : List UInt8 → Nat) : Prop := ∀ r ∈ rs, ∀ p ∈ r.body, p.kind < 2 → f p.atom.name + p.kind ≤ f r.head.name
/-- numbers of which none is too great -/
def Least (rs : List PRule) (f : List UInt8 → Nat) : Prop := Sol rs f ∧ ∀ g, Sol rs g → ∀ x, f x ≤ g x
theorem Least.unique {rs : List PRule} {f g : List UInt8 → Nat} (hf : Least rs f) (hg : Least rs g) : f = g := funext fun x => Nat.le_antisymm (hf.2 g hg.1 x) (hg.2 f hf.1 x)
theorem Sol.mono {rs qs : List PRule} (h : ∀ r ∈ qs, r ∈ rs) {f : List UInt8 → Nat} (hs : Sol rs f) : Sol qs f := fun r hr => hs r (h r hr)
theorem Least.perm {rs qs : List PRule} (h : ∀ r, r ∈ qs ↔ r ∈ rs) {f : List UInt8 → Nat} (hs : Least rs f) : Least qs f := ⟨hs.1.mono fun r hr => (h r).1 hr, fun g hg => hs.2 g (hg.mono fun r hr => (h r).2 hr)⟩
def setN (f : List UInt8 → Nat) (x : List UInt8) (n : Nat) : List UInt8 → Nat := fun y => if y = x then n else f y
theorem setN_same (f : List UInt8 → Nat) (x : List UInt8) (n : Nat) : setN f x n x = n := by simp [setN]
theorem setN_other (f : List UInt8 → Nat) {x y : List UInt8} (n : Nat) (h : y ≠ x) : setN f x n y = f y := by simp [setN, h]
/-- a level above 0 has a rule that needs it -/
theorem Least.needed {rs : List PRule} {f : List UInt8 → Nat} (h : Least rs f) {x : List UInt8} (hx : 0 < f x) : ∃ r ∈ rs, r.head.name = x ∧ ∃ p ∈ r.body, p.kind < 2 ∧ f p.atom.name + p.kind = f x := by
  refine Classical.byContradiction fun hc => ?_
  have hlow : ∀ y, setN f x (f x - 1) y ≤ f y := by
    intro y
    by_cases hy : y = x
    · subst hy; rw [setN_same]; omega
    · rw [setN_other _ _ hy]; omega
  have hs : Sol rs (setN f x (f x - 1)) := by
    intro r hr p hp hk
    have h1 := h.1 r hr p hp hk
    have h2 := hlow p.atom.name
    by_cases hh : r.head.name = x
    · rw [hh, setN_same]
      have h3 : f p.atom.name + p.kind ≠ f x := fun he => hc ⟨r, hr, hh, p, hp, hk, he⟩
      rw [hh] at h1; omega
    · rw [setN_other _ _ hh]; omega
  have := h.2 _ hs x
  rw [setN_same] at this; omega
/-- one head against one atom -/
def lift1 (h : List UInt8) (f : List UInt8 → Nat) (p : PPart) : List UInt8 → Nat := if p.kind < 2 ∧ f h < f p.atom.name + p.kind then setN f h (f p.atom.name + p.kind) else f
def moves1 (h : List UInt8) (f : List UInt8 → Nat) (p : PPart) : Bool := decide (p.kind < 2 ∧ f h < f p.atom.name + p.kind)
def liftB (h : List UInt8) : List PPart → (List UInt8 → Nat) × Bool → (List UInt8 → Nat) × Bool
  | [], s => s
  | p :: ps, s => liftB h ps (lift1 h s.1 p, s.2 || moves1 h s.1 p)
def liftR : List PRule → (List UInt8 → Nat) × Bool → (List UInt8 → Nat) × Bool
  | [], s => s
  | r :: rs, s => liftR rs (liftB r.head.name r.body s)
theorem lift1_le (h : List UInt8) (f : List UInt8 → Nat) (p : PPart) (x : List UInt8) : f x ≤ lift1 h f p x := by
  unfold lift1
  split
  · rename_i hc
    by_cases hx : x = h
    · subst hx; rw [setN_same]; omega
    · rw [setN_other _ _ hx]; omega
  · exact Nat.le_refl _
theorem lift1_under {h : List UInt8} {f g : List UInt8 → Nat} {p : PPart} (hfg : ∀ x, f x ≤ g x) (hp : p.kind < 2 → g p.atom.name + p.kind ≤ g h) (x : List UInt8) : lift1 h f p x ≤ g x := by
  unfold lift1
  split
  · rename_i hc
    by_cases hx : x = h
    · subst hx; rw [setN_same]; have := hp hc.1; have := hfg p.atom.name; omega
    · rw [setN_other _ _ hx]; exact hfg x
  · exact hfg x
theorem lift1_still {h : List UInt8} {f : List UInt8 → Nat} {p : PPart} (hm : moves1 h f p = false) : lift1 h f p = f ∧ (p.kind < 2 → f p.atom.name + p.kind ≤ f h) := by
  have hm' : ¬ (p.kind < 2 ∧ f h < f p.atom.name + p.kind) := by simpa [moves1] using hm
  exact ⟨by unfold lift1; rw [if_neg hm'], fun hk => by omega⟩
theorem lift1_moves {h : List UInt8} {f : List UInt8 → Nat} {p : PPart} (hm : moves1 h f p = true) : f h < lift1 h f p h := by
  have hm' : p.kind < 2 ∧ f h < f p.atom.name + p.kind := by simpa [moves1] using hm
  unfold lift1; rw [if_pos hm', setN_same]; exact hm'.2
theorem liftB_le (h : List UInt8) : ∀ (ps : List PPart) (s : (List UInt8 → Nat) × Bool) (x : List UInt8), s.1 x ≤ (liftB h ps s).1 x
  | [], _, _ => Nat.le_refl _
  | p :: ps, s, x => Nat.le_trans (lift1_le h s.1 p x) (liftB_le h ps (lift1 h s.1 p, s.2 || moves1 h s.1 p) x)
theorem liftR_le : ∀ (rs : List PRule) (s : (List UInt8 → Nat) × Bool) (x : List UInt8), s.1 x ≤ (liftR rs s).1 x
  | [], _, _ => Nat.le_refl _
  | r :: rs, s, x => Nat.le_trans (liftB_le r.head.name r.body s x) (liftR_le rs (liftB r.head.name r.body s) x)
theorem liftB_under (h : List UInt8) {g : List UInt8 → Nat} : ∀ (ps : List PPart) (s : (List UInt8 → Nat) × Bool), (∀ p ∈ ps, p.kind < 2 → g p.atom.name + p.kind ≤ g h) → (∀ x, s.1 x ≤ g x) → ∀ x, (liftB h ps s).1 x ≤ g x
  | [], _, _, hs => hs
  | p :: ps, s, hp, hs => liftB_under h ps _ (fun q hq => hp q (List.mem_cons_of_mem _ hq)) (lift1_under hs (hp p List.mem_cons_self))
theorem liftR_under {g : List UInt8 → Nat} : ∀ (rs : List PRule) (s : (List UInt8 → Nat) × Bool), Sol rs g → (∀ x, s.1 x ≤ g x) → ∀ x, (liftR rs s).1 x ≤ g x
  | [], _, _, hs => hs
  | r :: rs, s, hp, hs => liftR_under rs _ (fun q hq => hp q (List.mem_cons_of_mem _ hq)) (liftB_under r.head.name r.body s (hp r List.mem_cons_self) hs)
theorem liftB_true (h : List UInt8) : ∀ (ps : List PPart) (f : List UInt8 → Nat), (liftB h ps (f, true)).2 = true
  | [], _ => rfl
  | p :: ps, f => by simpa [liftB] using liftB_true h ps (lift1 h f p)
theorem liftR_true : ∀ (rs : List PRule) (f : List UInt8 → Nat), (liftR rs (f, true)).2 = true
  | [], _ => rfl
  | r :: rs, f => by
    have h := liftB_true r.head.name r.body f
    simp only [liftR]
    rw [show liftB r.head.name r.body (f, true) = ((liftB r.head.name r.body (f, true)).1, true) from Prod.ext rfl h]
    exact liftR_true rs _
theorem liftB_still (h : List UInt8) : ∀ (ps : List PPart) (f : List UInt8 → Nat), (liftB h ps (f, false)).2 = false → liftB h ps (f, false) = (f, false) ∧ ∀ p ∈ ps, p.kind < 2 → f p.atom.name + p.kind ≤ f h
  | [], _, _ => ⟨rfl, fun _ hp => absurd hp List.not_mem_nil⟩
  | p :: ps, f, hf => by
    simp only [liftB, Bool.false_or] at hf ⊢
    cases hm : moves1 h f p with
    | true => rw [hm, liftB_true] at hf; exact absurd hf (by simp)
    | false =>
      obtain ⟨h1, h2⟩ := lift1_still hm
      rw [hm, h1] at hf
      obtain ⟨h3, h4⟩ := liftB_still h ps f hf
      rw [h1]
      refine ⟨h3, fun q hq => ?_⟩
      rcases List.mem_cons.1 hq with rfl | hq
      · exact h2
      · exact h4 q hq
theorem liftR_still : ∀ (rs : List PRule) (f : List UInt8 → Nat), (liftR rs (f, false)).2 = false → (liftR rs (f, false)).1 = f ∧ Sol rs f
  | [], _, _ => ⟨rfl, fun _ hr => absurd hr List.not_mem_nil⟩
  | r :: rs, f, hf => by
    simp only [liftR] at hf ⊢
    cases hb : (liftB r.head.name r.body (f, false)).2 with
    | true =>
      rw [show liftB r.head.name r.body (f, false) = ((liftB r.head.name r.body (f, false)).1, true) from Prod.ext rfl hb, liftR_true] at hf
      exact absurd hf (by simp)
    | false =>
      obtain ⟨h1, h2⟩ := liftB_still r.head.name r.body f hb
      rw [h1] at hf ⊢
      obtain ⟨h3, h4⟩ := liftR_still rs f hf
      refine ⟨h3, fun q hq => ?_⟩
      rcases List.mem_cons.1 hq with rfl | hq
      · exact h2
      · exact h4 q hq
/-- a head that is lifted is a rule's -/
theorem liftB_moves (h : List UInt8) : ∀ (ps : List PPart) (f : List UInt8 → Nat), (liftB h ps (f, false)).2 = true → f h < (liftB h ps (f, false)).1 h
  | [], _, hf => absurd hf (by simp [liftB])
  | p :: ps, f, hf => by
    simp only [liftB, Bool.false_or] at hf ⊢
    cases hm : moves1 h f p with
    | true => exact Nat.lt_of_lt_of_le (lift1_moves hm) (liftB_le h ps (lift1 h f p, true) h)
    | false =>
      rw [hm, (lift1_still hm).1] at hf
      rw [(lift1_still hm).1]
      exact liftB_moves h ps f hf
theorem liftR_moves : ∀ (rs : List PRule) (f : List UInt8 → Nat), (liftR rs (f, false)).2 = true → ∃ r ∈ rs, f r.head.name < (liftR rs (f, false)).1 r.head.name
  | [], _, hf => absurd hf (by simp [liftR])
  | r :: rs, f, hf => by
    simp only [liftR] at hf ⊢
    cases hb : (liftB r.head.name r.body (f, false)).2 with
    | true => exact ⟨r, List.mem_cons_self, Nat.lt_of_lt_of_le (liftB_moves _ _ _ hb) (liftR_le rs _ _)⟩
    | false =>
      rw [(liftB_still r.head.name r.body f hb).1] at hf ⊢
      obtain ⟨q, hq, h⟩ := liftR_moves rs f hf
      exact ⟨q, List.mem_cons_of_mem _ hq, h⟩
/-- the sum of the heads' numbers -/
def sumH (rs : List PRule) (f : List UInt8 → Nat) : Nat := (rs.map (fun r => f r.head.name)).sum
theorem sumH_le {f g : List UInt8 → Nat} (h : ∀ x, f x ≤ g x) : ∀ (rs : List PRule), sumH rs f ≤ sumH rs g
  | [] => Nat.le_refl _
  | r :: rs => by
    have := sumH_le h rs
    have := h r.head.name
    simp only [sumH, List.map_cons, List.sum_cons] at *; omega
theorem sumH_lt {f g : List UInt8 → Nat} (h : ∀ x, f x ≤ g x) : ∀ (rs : List PRule), (∃ r ∈ rs, f r.head.name < g r.head.name) → sumH rs f < sumH rs g
  | [], ⟨_, hr, _⟩ => absurd hr List.not_mem_nil
  | r :: rs, ⟨q, hq, hlt⟩ => by
    have h1 := h r.head.name
    have h2 := sumH_le h rs
    rcases List.mem_cons.1 hq with rfl | hq
    · simp only [sumH, List.map_cons, List.sum_cons] at *; omega
    · have := sumH_lt h rs ⟨q, hq, hlt⟩
      simp only [sumH, List.map_cons, List.sum_cons] at *; omega
/-- a round that moves lifts the sum -/
theorem liftR_sum (rs : List PRule) (f : List UInt8 → Nat) (h : (liftR rs (f, false)).2 = true) : sumH rs f < sumH rs (liftR rs (f, false)).1 := sumH_lt (fun x => liftR_le rs (f, false) x) rs (liftR_moves rs f h)
/-- all names of bodies -/
def bodyNames (rs : List PRule) : List (List UInt8) := rs.flatMap (fun r => r.body.map (fun p => p.atom.name))
/-- a way from a name to another over a negation -/
def Neg (rs : List PRule) (x y : List UInt8) : Prop := ∃ z w, (x = z ∨ Hangs rs x z) ∧ EdgeK rs z 1 w ∧ (w = y ∨ Hangs rs w y)
open Classical in
/-- how many names lie behind a negation -/
noncomputable def rank (rs : List PRule) (x : List UInt8) : Nat := ((bodyNames rs).eraseDups.filter (fun y => decide (Neg rs x y))).length
theorem Neg.edge {rs : List PRule} {x y z : List UInt8} (e : Edge rs x y) (h : Neg rs y z) : Neg rs x z := by
  obtain ⟨u, w, h1, h2, h3⟩ := h
  exact ⟨u, w, .inr (h1.elim (fun h => h ▸ .one e) (fun h => .more e h)), h2, h3⟩
/-- no name lies behind a negation of its own -/
theorem neg_self {rs : List PRule} (h : ringF rs = none) (y : List UInt8) : ¬ Neg rs y y := by
  rintro ⟨z, w, h1, h2, h3⟩
  have e : Edge rs z w := ⟨1, by omega, h2⟩
  have hwz : Hangs rs w z := by
    rcases h3 with rfl | h3 <;> rcases h1 with rfl | h1
    · exact .one e
    · exact h1
    · exact h3
    · exact h3.trans h1
  exact ring_no_edge h h2 hwz
theorem filter_length_le {α : Type} {P Q : α → Bool} (h : ∀ x, P x = true → Q x = true) : ∀ (l : List α), (l.filter P).length ≤ (l.filter Q).length
  | [] => Nat.le_refl _
  | a :: l => by
    have ih := filter_length_le h l
    cases hp : P a with
    | true => simp [hp, h a hp, ih]
    | false => cases hq : Q a <;> simp [hp, hq] <;> omega
theorem filter_length_lt {α : Type} {P Q : α → Bool} (h : ∀ x, P x = true → Q x = true) : ∀ (l : List α) (y : α), y ∈ l → Q y = true → P y = false → (l.filter P).length < (l.filter Q).length
  | [], _, hy, _, _ => absurd hy List.not_mem_nil
  | a :: l, y, hy, hq, hp => by
    rcases List.mem_cons.1 hy with rfl | hy
    · have := filter_length_le h l
      simp [hp, hq]; omega
    · have ih := filter_length_lt h l y hy hq hp
      cases hpa : P a with
      | true => simp [hpa, h a hpa, ih]
      | false => cases hqa : Q a <;> simp [hpa, hqa] <;> omega
theorem edge_bodyNames {rs : List PRule} {a b : List UInt8} {k : Nat} (e : EdgeK rs a k b) : b ∈ bodyNames rs := by
  obtain ⟨r, hr, _, p, hp, _, hb⟩ := e
  exact List.mem_flatMap.2 ⟨r, hr, List.mem_map.2 ⟨p, hp, hb⟩⟩
open Classical in
/-- the ranks will do -/
theorem rank_sol {rs : List PRule} (h : ringF rs = none) : Sol rs (rank rs) := by
  intro r hr p hp hk
  have e : EdgeK rs r.head.name p.kind p.atom.name := ⟨r, hr, rfl, p, hp, rfl, rfl⟩
  have e' : Edge rs r.head.name p.atom.name := ⟨p.kind, hk, e⟩
  have hsub : ∀ y, decide (Neg rs p.atom.name y) = true → decide (Neg rs r.head.name y) = true := fun y hy => decide_eq_true (Neg.edge e' (of_decide_eq_true hy))
  rcases (by omega : p.kind = 0 ∨ p.kind = 1) with h0 | h1
  · rw [h0, Nat.add_zero]; exact filter_length_le hsub _
  · rw [h1] at e ⊢
    refine filter_length_lt hsub _ p.atom.name (List.mem_eraseDups.2 (edge_bodyNames e)) (decide_eq_true ⟨_, _, .inl rfl, e, .inl rfl⟩) (decide_eq_false (neg_self h _))
/-- round upon round, as many as are wanted -/
def rounds (rs : List PRule) : Nat → (List UInt8 → Nat) → (List UInt8 → Nat)
  | 0, f => f
  | n + 1, f => if (liftR rs (f, false)).2 then rounds rs n (liftR rs (f, false)).1 else f
noncomputable def levelsF (rs : List PRule) : List UInt8 → Nat := rounds rs (sumH rs (rank rs) + 1) (fun _ => 0)
theorem rounds_least {rs : List PRule} {g : List UInt8 → Nat} (hg : Sol rs g) : ∀ (n : Nat) (f : List UInt8 → Nat), (∀ g', Sol rs g' → ∀ x, f x ≤ g' x) → sumH rs g < sumH rs f + n → Least rs (rounds rs n f)
  | 0, f, hf, hn => by have := sumH_le (hf g hg) rs; omega
  | n + 1, f, hf, hn => by
    unfold rounds
    cases hm : (liftR rs (f, false)).2 with
    | false =>
      simp only [Bool.false_eq_true, if_false]
      exact ⟨(liftR_still rs f hm).2, hf⟩
    | true =>
      simp only [if_true]
      have := liftR_sum rs f hm
      exact rounds_least hg n _ (fun g' hg' => liftR_under rs (f, false) hg' (hf g' hg')) (by omega)
theorem levels_least {rs : List PRule} (h : ringF rs = none) : Least rs (levelsF rs) := rounds_least (rank_sol h) _ _ (fun _ _ _ => Nat.zero_le _) (by omega)
end Go.Proofs.YtgllfcoafgphbaaGreatDoor
