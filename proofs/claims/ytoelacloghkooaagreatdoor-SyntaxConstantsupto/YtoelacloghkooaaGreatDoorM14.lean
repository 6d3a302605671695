import Derived.Test.YtoelacloghkooaaGreatDoorM13
/-
  Terms, parts and rules as they lie in memory: for any three types of the same fields.
-/
namespace Go.Proofs.YtoelacloghkooaaGreatDoor
open Go.ChangeShapes Go.WideShapes Go.ChangeAt Go.RowKit
set_option linter.unusedVariables false
def partsV : List PPart → List Value → List Value
  | p :: ps, v :: vs => partV p v ++ partsV ps vs
  | _, _ => []
theorem partsV_snoc (p : PPart) (v : Value) : ∀ (ps : List PPart) (vs : List Value), vs.length = ps.length → partsV ps vs ++ partV p v = partsV (ps ++ [p]) (vs ++ [v]) := by
  intro ps
  induction ps with
  | nil => intro vs h; cases vs with
    | nil => simp [partsV]
    | cons u us => simp at h
  | cons q ps ih => intro vs h; cases vs with
    | nil => simp at h
    | cons u us => simp [partsV, ← ih us (by simpa using h)]
structure PartsAt (tT tP : TypeId) (base : Nat) (w : World) (v : Value) (ps : List PPart) (vs : List Value) : Prop where
  own : w.ownsRow base tP 10 v ps.length (partsV ps vs)
  len : vs.length = ps.length
  args : ∀ (i : Nat) (p : PPart) (u : Value), ps[i]? = some p → vs[i]? = some u → w.ownsRow base tT 3 u p.atom.args.length (termsV p.atom.args)
/-- two rows of other types lie apart -/
theorem kinds_ne {w : World} {b1 b2 n1 n2 s1 s2 : Nat} {e1 e2 : TypeId} {v1 v2 : Value} {xs ys : List Value} (h1 : w.ownsRow b1 e1 s1 v1 n1 xs) (h2 : w.ownsRow b2 e2 s2 v2 n2 ys) (he : e1 ≠ e2) : ∀ g, v1.ownBlock = some g → v2.ownBlock ≠ some g := by
  intro g hg1 hg2
  rcases h1.2 with ⟨rfl, _⟩ | ⟨g1, c1, cur1, rfl, _, hb1, _⟩
  · cases hg1
  · rcases h2.2 with ⟨rfl, _⟩ | ⟨g2, c2, cur2, rfl, _, hb2, _⟩
    · cases hg2
    · cases hg1; cases hg2
      rw [hb1] at hb2
      cases hb2; exact he rfl
theorem PartsAt.nil (tT tP : TypeId) (base : Nat) (w : World) : PartsAt tT tP base w (.slice none 0 0) [] [] := ⟨World.ownsRow_nil _ _ _ _, rfl, fun i p u h => by simp at h⟩
/-- what turns elsewhere leaves parts as they are -/
theorem PartsAt.kept {tT tP : TypeId} {base : Nat} {w w' : World} {v : Value} {ps : List PPart} {vs : List Value} {row : Option Nat} (h : PartsAt tT tP base w v ps vs) (hg : w.grownBy w' row) (hne : ∀ g, row = some g → g < base ∨ w.heap.size ≤ g) : PartsAt tT tP base w' v ps vs :=
  ⟨own_far h.own hg (fun g hv e => by have := own_blk h.own hv; have := hne g e; omega), h.len, fun i p u hp hu => own_far (h.args i p u hp hu) hg (fun g hv e => by have := own_blk (h.args i p u hp hu) hv; have := hne g e; omega)⟩
theorem PartsAt.lower {tT tP : TypeId} {base base' : Nat} {w : World} {v : Value} {ps : List PPart} {vs : List Value} (h : PartsAt tT tP base w v ps vs) (hb : base' ≤ base) : PartsAt tT tP base' w v ps vs :=
  ⟨own_lower h.own hb, h.len, fun i p u hp hu => own_lower (h.args i p u hp hu) hb⟩
/-- one part more -/
theorem PartsAt.push {tT tP : TypeId} (ht : tT ≠ tP) {base : Nat} {w w4 : World} {v v4 u : Value} {ps : List PPart} {vs : List Value} {p : PPart} {o1 o2 : Obj} (h : PartsAt tT tP base w v ps vs) (hu : w.ownsRow base tT 3 u p.atom.args.length (termsV p.atom.args))
    (hg : ((w.alloc o1).alloc o2).grownBy w4 v.ownBlock) (hown : w4.ownsRow base tP 10 v4 (ps.length + 1) (partsV ps vs ++ partV p u)) : PartsAt tT tP base w4 v4 (ps ++ [p]) (vs ++ [u]) := by
  have keep : ∀ (q : PPart) (x : Value), w.ownsRow base tT 3 x q.atom.args.length (termsV q.atom.args) → w4.ownsRow base tT 3 x q.atom.args.length (termsV q.atom.args) := fun q x hx =>
    own_far ((hx.alloc o1).alloc o2) hg (kinds_ne hx h.own ht)
  refine ⟨?_, by simp [h.len], fun i q x hq hx => ?_⟩
  · rw [← partsV_snoc p u ps vs h.len, List.length_append]; exact hown
  · by_cases hi : i < ps.length
    · rw [List.getElem?_append_left hi] at hq
      rw [List.getElem?_append_left (by rw [h.len]; exact hi)] at hx
      exact keep q x (h.args i q x hq hx)
    · rw [List.getElem?_append_right (by omega)] at hq
      rw [List.getElem?_append_right (by rw [h.len]; omega), h.len] at hx
      obtain ⟨k, hk⟩ : ∃ k, i - ps.length = k := ⟨_, rfl⟩
      rw [hk] at hq hx
      match k, hq, hx with
      | 0, hq, hx => simp at hq hx; subst hq hx; exact keep _ _ hu
      | k + 1, hq, _ => simp at hq
def ruleV (r : PRule) (h b : Value) : List Value := [.string (str r.head.name), h, .int .i64 (r.head.place : Nat), b]
def rulesV : List PRule → List Value → List Value → List Value
  | r :: rs, h :: hs, b :: bs => ruleV r h b ++ rulesV rs hs bs
  | _, _, _ => []
theorem rulesV_snoc (r : PRule) (h b : Value) : ∀ (rs : List PRule) (hs bs : List Value), hs.length = rs.length → bs.length = rs.length → rulesV rs hs bs ++ ruleV r h b = rulesV (rs ++ [r]) (hs ++ [h]) (bs ++ [b]) := by
  intro rs
  induction rs with
  | nil => intro hs bs h1 h2
           cases hs with
           | nil => cases bs with
             | nil => simp [rulesV]
             | cons u us => simp at h2
           | cons u us => simp at h1
  | cons q rs ih => intro hs bs h1 h2
                    cases hs with
                    | nil => simp at h1
                    | cons u us => cases bs with
                      | nil => simp at h2
                      | cons c cs => simp [rulesV, ← ih us cs (by simpa using h1) (by simpa using h2)]
structure RulesAt (tT tP tR : TypeId) (base : Nat) (w : World) (v : Value) (rs : List PRule) (hs bs : List Value) : Prop where
  own : w.ownsRow base tR 4 v rs.length (rulesV rs hs bs)
  lh : hs.length = rs.length
  lb : bs.length = rs.length
  heads : ∀ (i : Nat) (r : PRule) (u : Value), rs[i]? = some r → hs[i]? = some u → w.ownsRow base tT 3 u r.head.args.length (termsV r.head.args)
  bodies : ∀ (i : Nat) (r : PRule) (u : Value), rs[i]? = some r → bs[i]? = some u → ∃ vs, PartsAt tT tP base w u r.body vs
theorem RulesAt.nil (tT tP tR : TypeId) (base : Nat) (w : World) : RulesAt tT tP tR base w (.slice none 0 0) [] [] [] := ⟨World.ownsRow_nil _ _ _ _, rfl, rfl, fun i p u h => by simp at h, fun i p u h => by simp at h⟩
theorem RulesAt.kept {tT tP tR : TypeId} {base : Nat} {w w' : World} {v : Value} {rs : List PRule} {hs bs : List Value} {row : Option Nat} (h : RulesAt tT tP tR base w v rs hs bs) (hg : w.grownBy w' row) (hne : ∀ g, row = some g → g < base ∨ w.heap.size ≤ g) : RulesAt tT tP tR base w' v rs hs bs :=
  ⟨own_far h.own hg (fun g hv e => by have := own_blk h.own hv; have := hne g e; omega), h.lh, h.lb, fun i p u hp hu => own_far (h.heads i p u hp hu) hg (fun g hv e => by have := own_blk (h.heads i p u hp hu) hv; have := hne g e; omega),
    fun i p u hp hu => by obtain ⟨vs, hv⟩ := h.bodies i p u hp hu; exact ⟨vs, hv.kept hg hne⟩⟩
theorem RulesAt.lower {tT tP tR : TypeId} {base base' : Nat} {w : World} {v : Value} {rs : List PRule} {hs bs : List Value} (h : RulesAt tT tP tR base w v rs hs bs) (hb : base' ≤ base) : RulesAt tT tP tR base' w v rs hs bs :=
  ⟨own_lower h.own hb, h.lh, h.lb, fun i p u hp hu => own_lower (h.heads i p u hp hu) hb, fun i p u hp hu => by obtain ⟨vs, hv⟩ := h.bodies i p u hp hu; exact ⟨vs, hv.lower hb⟩⟩
/-- parts, while a row of another type turns -/
theorem PartsAt.other {tT tP tR : TypeId} (h1 : tT ≠ tR) (h2 : tP ≠ tR) {base b2 n2 s2 : Nat} {w w' : World} {v v2 : Value} {ys : List Value} {ps : List PPart} {vs : List Value} (h : PartsAt tT tP base w v ps vs) (ho : w.ownsRow b2 tR s2 v2 n2 ys) (hg : w.grownBy w' v2.ownBlock) : PartsAt tT tP base w' v ps vs :=
  ⟨own_far h.own hg (kinds_ne h.own ho h2), h.len, fun i p u hp hu => own_far (h.args i p u hp hu) hg (kinds_ne (h.args i p u hp hu) ho h1)⟩
/-- one rule more; one block was laid ahead of the append -/
theorem RulesAt.push {tT tP tR : TypeId} (h1 : tT ≠ tR) (h2 : tP ≠ tR) {base : Nat} {w w4 : World} {v v4 hd bd : Value} {rs : List PRule} {hs bs us : List Value} {r : PRule} {o1 : Obj} (h : RulesAt tT tP tR base w v rs hs bs) (hh : w.ownsRow base tT 3 hd r.head.args.length (termsV r.head.args)) (hb : PartsAt tT tP base w bd r.body us)
    (hg : (w.alloc o1).grownBy w4 v.ownBlock) (hown : w4.ownsRow base tR 4 v4 (rs.length + 1) (rulesV rs hs bs ++ ruleV r hd bd)) : RulesAt tT tP tR base w4 v4 (rs ++ [r]) (hs ++ [hd]) (bs ++ [bd]) := by
  have ka : ∀ (n : Nat) (xs : List Value) (x : Value), w.ownsRow base tT 3 x n xs → w4.ownsRow base tT 3 x n xs := fun n xs x hx => own_far (hx.alloc o1) hg (kinds_ne hx h.own h1)
  have kp : ∀ (ps : List PPart) (vs : List Value) (x : Value), PartsAt tT tP base w x ps vs → PartsAt tT tP base w4 x ps vs := fun ps vs x hx => (hx.kept (fr_alloc w o1 none) (fun g e => by cases e)).other h1 h2 (h.own.alloc o1) hg
  refine ⟨?_, by simp [h.lh], by simp [h.lb], fun i q x hq hx => ?_, fun i q x hq hx => ?_⟩
  · rw [← rulesV_snoc r hd bd rs hs bs h.lh h.lb, List.length_append]; exact hown
  · by_cases hi : i < rs.length
    · rw [List.getElem?_append_left hi] at hq
      rw [List.getElem?_append_left (by rw [h.lh]; exact hi)] at hx
      exact ka _ _ _ (h.heads i q x hq hx)
    · rw [List.getElem?_append_right (by omega)] at hq
      rw [List.getElem?_append_right (by rw [h.lh]; omega), h.lh] at hx
      obtain ⟨k, hk⟩ : ∃ k, i - rs.length = k := ⟨_, rfl⟩
      rw [hk] at hq hx
      match k, hq, hx with
      | 0, hq, hx => simp at hq hx; subst hq hx; exact ka _ _ _ hh
      | k + 1, hq, _ => simp at hq
  · by_cases hi : i < rs.length
    · rw [List.getElem?_append_left hi] at hq
      rw [List.getElem?_append_left (by rw [h.lb]; exact hi)] at hx
      obtain ⟨vs, hv⟩ := h.bodies i q x hq hx
      exact ⟨vs, kp _ _ _ hv⟩
    · rw [List.getElem?_append_right (by omega)] at hq
      rw [List.getElem?_append_right (by rw [h.lb]; omega), h.lb] at hx
      obtain ⟨k, hk⟩ : ∃ k, i - rs.length = k := ⟨_, rfl⟩
      rw [hk] at hq hx
      match k, hq, hx with
      | 0, hq, hx => simp at hq hx; subst hq hx; exact ⟨us, kp _ _ _ hb⟩
      | k + 1, hq, _ => simp at hq
end Go.Proofs.YtoelacloghkooaaGreatDoor
