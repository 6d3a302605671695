import Derived.Test.YtgllfcoafgphbaaGreatDoorM07
import Derived.Deep.RegionHeld3
/-
  Terms, parts and rules as they lie in memory: for any three types of the same fields.
-/
namespace Go.Proofs.YtgllfcoafgphbaaGreatDoor
open Go.ChangeShapes Go.WideShapes Go.ChangeAt Go.RowKit
set_option linter.unusedVariables false
def partsV : List PPart → List Value → List Value
  | p :: ps, v :: vs => partV p v ++ partsV ps vs
  | _, _ => []
theorem partsV_snoc (p : PPart) (v : Value) : ∀ (ps : List PPart) (vs : List Value), vs.length = ps.length → partsV ps vs ++ partV p v = partsV (ps ++ [p]) (vs ++ [v]) := by
  intro ps
  induction ps with
  | nil => intro vs h; cases vs with
    | nil => simp [partsV]
    | cons u us => simp at h
  | cons q ps ih => intro vs h; cases vs with
    | nil => simp at h
    | cons u us => simp [partsV, ← ih us (by simpa using h)]
structure PartsAt (tT tP : TypeId) (base : Nat) (w : World) (v : Value) (ps : List PPart) (vs : List Value) : Prop where
  own : w.ownsRow base tP 10 v ps.length (partsV ps vs)
  len : vs.length = ps.length
  args : ∀ (i : Nat) (p : PPart) (u : Value), ps[i]? = some p → vs[i]? = some u → w.ownsRow base tT 3 u p.atom.args.length (termsV p.atom.args)
/-- two rows of other types lie apart -/
theorem kinds_ne {w : World} {b1 b2 n1 n2 s1 s2 : Nat} {e1 e2 : TypeId} {v1 v2 : Value} {xs ys : List Value} (h1 : w.ownsRow b1 e1 s1 v1 n1 xs) (h2 : w.ownsRow b2 e2 s2 v2 n2 ys) (he : e1 ≠ e2) : ∀ g, v1.ownBlock = some g → v2.ownBlock ≠ some g := by
  intro g hg1 hg2
  rcases h1.2 with ⟨rfl, _⟩ | ⟨g1, c1, cur1, rfl, _, hb1, _⟩
  · cases hg1
  · rcases h2.2 with ⟨rfl, _⟩ | ⟨g2, c2, cur2, rfl, _, hb2, _⟩
    · cases hg2
    · cases hg1; cases hg2
      rw [hb1] at hb2
      cases hb2; exact he rfl
theorem PartsAt.nil (tT tP : TypeId) (base : Nat) (w : World) : PartsAt tT tP base w (.slice none 0 0) [] [] := ⟨World.ownsRow_nil _ _ _ _, rfl, fun i p u h => by simp at h⟩
/-- what turns elsewhere leaves parts as they are -/
theorem PartsAt.kept {tT tP : TypeId} {base : Nat} {w w' : World} {v : Value} {ps : List PPart} {vs : List Value} {row : Option Nat} (h : PartsAt tT tP base w v ps vs) (hg : w.grownBy w' row) (hne : ∀ g, row = some g → g < base ∨ w.heap.size ≤ g) : PartsAt tT tP base w' v ps vs :=
  ⟨own_far h.own hg (fun g hv e => by have := own_blk h.own hv; have := hne g e; omega), h.len, fun i p u hp hu => own_far (h.args i p u hp hu) hg (fun g hv e => by have := own_blk (h.args i p u hp hu) hv; have := hne g e; omega)⟩
theorem PartsAt.lower {tT tP : TypeId} {base base' : Nat} {w : World} {v : Value} {ps : List PPart} {vs : List Value} (h : PartsAt tT tP base w v ps vs) (hb : base' ≤ base) : PartsAt tT tP base' w v ps vs :=
  ⟨own_lower h.own hb, h.len, fun i p u hp hu => own_lower (h.args i p u hp hu) hb⟩
/-- one part more -/
theorem PartsAt.push {tT tP : TypeId} (ht : tT ≠ tP) {base : Nat} {w w4 : World} {v v4 u : Value} {ps : List PPart} {vs : List Value} {p : PPart} {o1 o2 : Obj} (h : PartsAt tT tP base w v ps vs) (hu : w.ownsRow base tT 3 u p.atom.args.length (termsV p.atom.args))
    (hg : ((w.alloc o1).alloc o2).grownBy w4 v.ownBlock) (hown : w4.ownsRow base tP 10 v4 (ps.length + 1) (partsV ps vs ++ partV p u)) : PartsAt tT tP base w4 v4 (ps ++ [p]) (vs ++ [u]) := by
  have keep : ∀ (q : PPart) (x : Value), w.ownsRow base tT 3 x q.atom.args.length (termsV q.atom.args) → w4.ownsRow base tT 3 x q.atom.args.length (termsV q.atom.args) := fun q x hx =>
    own_far ((hx.alloc o1).alloc o2) hg (kinds_ne hx h.own ht)
  refine ⟨?_, by simp [h.len], fun i q x hq hx => ?_⟩
  · rw [← partsV_snoc p u ps vs h.len, List.length_append]; exact hown
  · by_cases hi : i < ps.length
    · rw [List.getElem?_append_left hi] at hq
      rw [List.getElem?_append_left (by rw [h.len]; exact hi)] at hx
      exact keep q x (h.args i q x hq hx)
    · rw [List.getElem?_append_right (by omega)] at hq
      rw [List.getElem?_append_right (by rw [h.len]; omega), h.len] at hx
      obtain ⟨k, hk⟩ : ∃ k, i - ps.length = k := ⟨_, rfl⟩
      rw [hk] at hq hx
      match k, hq, hx with
      | 0, hq, hx => simp at hq hx; subst hq hx; exact keep _ _ hu
      | k + 1, hq, _ => simp at hq
def ruleV (r : PRule) (h b : Value) : List Value := [.string (str r.head.name), h, .int .i64 (r.head.place : Nat), b]
def rulesV : List PRule → List Value → List Value → List Value
  | r :: rs, h :: hs, b :: bs => ruleV r h b ++ rulesV rs hs bs
  | _, _, _ => []
theorem rulesV_snoc (r : PRule) (h b : Value) : ∀ (rs : List PRule) (hs bs : List Value), hs.length = rs.length → bs.length = rs.length → rulesV rs hs bs ++ ruleV r h b = rulesV (rs ++ [r]) (hs ++ [h]) (bs ++ [b]) := by
  intro rs
  induction rs with
  | nil => intro hs bs h1 h2
           cases hs with
           | nil => cases bs with
             | nil => simp [rulesV]
             | cons u us => simp at h2
           | cons u us => simp at h1
  | cons q rs ih => intro hs bs h1 h2
                    cases hs with
                    | nil => simp at h1
                    | cons u us => cases bs with
                      | nil => simp at h2
                      | cons c cs => simp [rulesV, ← ih us cs (by simpa using h1) (by simpa using h2)]
structure RulesAt (tT tP tR : TypeId) (base : Nat) (w : World) (v : Value) (rs : List PRule) (hs bs : List Value) : Prop where
  own : w.ownsRow base tR 4 v rs.length (rulesV rs hs bs)
  lh : hs.length = rs.length
  lb : bs.length = rs.length
  heads : ∀ (i : Nat) (r : PRule) (u : Value), rs[i]? = some r → hs[i]? = some u → w.ownsRow base tT 3 u r.head.args.length (termsV r.head.args)
  bodies : ∀ (i : Nat) (r : PRule) (u : Value), rs[i]? = some r → bs[i]? = some u → ∃ vs, PartsAt tT tP base w u r.body vs
theorem RulesAt.nil (tT tP tR : TypeId) (base : Nat) (w : World) : RulesAt tT tP tR base w (.slice none 0 0) [] [] [] := ⟨World.ownsRow_nil _ _ _ _, rfl, rfl, fun i p u h => by simp at h, fun i p u h => by simp at h⟩
theorem RulesAt.kept {tT tP tR : TypeId} {base : Nat} {w w' : World} {v : Value} {rs : List PRule} {hs bs : List Value} {row : Option Nat} (h : RulesAt tT tP tR base w v rs hs bs) (hg : w.grownBy w' row) (hne : ∀ g, row = some g → g < base ∨ w.heap.size ≤ g) : RulesAt tT tP tR base w' v rs hs bs :=
  ⟨own_far h.own hg (fun g hv e => by have := own_blk h.own hv; have := hne g e; omega), h.lh, h.lb, fun i p u hp hu => own_far (h.heads i p u hp hu) hg (fun g hv e => by have := own_blk (h.heads i p u hp hu) hv; have := hne g e; omega),
    fun i p u hp hu => by obtain ⟨vs, hv⟩ := h.bodies i p u hp hu; exact ⟨vs, hv.kept hg hne⟩⟩
theorem RulesAt.lower {tT tP tR : TypeId} {base base' : Nat} {w : World} {v : Value} {rs : List PRule} {hs bs : List Value} (h : RulesAt tT tP tR base w v rs hs bs) (hb : base' ≤ base) : RulesAt tT tP tR base' w v rs hs bs :=
  ⟨own_lower h.own hb, h.lh, h.lb, fun i p u hp hu => own_lower (h.heads i p u hp hu) hb, fun i p u hp hu => by obtain ⟨vs, hv⟩ := h.bodies i p u hp hu; exact ⟨vs, hv.lower hb⟩⟩
/-- parts, while a row of another type turns -/
theorem PartsAt.other {tT tP tR : TypeId} (h1 : tT ≠ tR) (h2 : tP ≠ tR) {base b2 n2 s2 : Nat} {w w' : World} {v v2 : Value} {ys : List Value} {ps : List PPart} {vs : List Value} (h : PartsAt tT tP base w v ps vs) (ho : w.ownsRow b2 tR s2 v2 n2 ys) (hg : w.grownBy w' v2.ownBlock) : PartsAt tT tP base w' v ps vs :=
  ⟨own_far h.own hg (kinds_ne h.own ho h2), h.len, fun i p u hp hu => own_far (h.args i p u hp hu) hg (kinds_ne (h.args i p u hp hu) ho h1)⟩
/-- one rule more; one block was laid ahead of the append -/
theorem RulesAt.push {tT tP tR : TypeId} (h1 : tT ≠ tR) (h2 : tP ≠ tR) {base : Nat} {w w4 : World} {v v4 hd bd : Value} {rs : List PRule} {hs bs us : List Value} {r : PRule} {o1 : Obj} (h : RulesAt tT tP tR base w v rs hs bs) (hh : w.ownsRow base tT 3 hd r.head.args.length (termsV r.head.args)) (hb : PartsAt tT tP base w bd r.body us)
    (hg : (w.alloc o1).grownBy w4 v.ownBlock) (hown : w4.ownsRow base tR 4 v4 (rs.length + 1) (rulesV rs hs bs ++ ruleV r hd bd)) : RulesAt tT tP tR base w4 v4 (rs ++ [r]) (hs ++ [hd]) (bs ++ [bd]) := by
  have ka : ∀ (n : Nat) (xs : List Value) (x : Value), w.ownsRow base tT 3 x n xs → w4.ownsRow base tT 3 x n xs := fun n xs x hx => own_far (hx.alloc o1) hg (kinds_ne hx h.own h1)
  have kp : ∀ (ps : List PPart) (vs : List Value) (x : Value), PartsAt tT tP base w x ps vs → PartsAt tT tP base w4 x ps vs := fun ps vs x hx => (hx.kept (fr_alloc w o1 none) (fun g e => by cases e)).other h1 h2 (h.own.alloc o1) hg
  refine ⟨?_, by simp [h.lh], by simp [h.lb], fun i q x hq hx => ?_, fun i q x hq hx => ?_⟩
  · rw [← rulesV_snoc r hd bd rs hs bs h.lh h.lb, List.length_append]; exact hown
  · by_cases hi : i < rs.length
    · rw [List.getElem?_append_left hi] at hq
      rw [List.getElem?_append_left (by rw [h.lh]; exact hi)] at hx
      exact ka _ _ _ (h.heads i q x hq hx)
    · rw [List.getElem?_append_right (by omega)] at hq
      rw [List.getElem?_append_right (by rw [h.lh]; omega), h.lh] at hx
      obtain ⟨k, hk⟩ : ∃ k, i - rs.length = k := ⟨_, rfl⟩
      rw [hk] at hq hx
      match k, hq, hx with
      | 0, hq, hx => simp at hq hx; subst hq hx; exact ka _ _ _ hh
      | k + 1, hq, _ => simp at hq
  · by_cases hi : i < rs.length
    · rw [List.getElem?_append_left hi] at hq
      rw [List.getElem?_append_left (by rw [h.lb]; exact hi)] at hx
      obtain ⟨vs, hv⟩ := h.bodies i q x hq hx
      exact ⟨vs, kp _ _ _ hv⟩
    · rw [List.getElem?_append_right (by omega)] at hq
      rw [List.getElem?_append_right (by rw [h.lb]; omega), h.lb] at hx
      obtain ⟨k, hk⟩ : ∃ k, i - rs.length = k := ⟨_, rfl⟩
      rw [hk] at hq hx
      match k, hq, hx with
      | 0, hq, hx => simp at hq hx; subst hq hx; exact ⟨us, kp _ _ _ hb⟩
      | k + 1, hq, _ => simp at hq
end Go.Proofs.YtgllfcoafgphbaaGreatDoor

/-
  The law's own words on terms: 'sameTerm', walked.
-/
namespace Go.Proofs.YtgllfcoafgphbaaGreatDoor
open Go.ChangeShapes Go.WideShapes Go.ChangeAt Go.RowKit
set_option linter.unusedVariables false
/-- the same term, with its place or without -/
def SameT (pl : Bool) (t u : PTerm) : Prop := t.isVar = u.isVar ∧ t.text = u.text ∧ (pl = true → t.place = u.place)
theorem SameT.refl (pl : Bool) (t : PTerm) : SameT pl t t := ⟨rfl, rfl, fun _ => rfl⟩
end Go.Proofs.YtgllfcoafgphbaaGreatDoor

/-
  The law's own words on atoms: 'sameAtom', walked.
-/
namespace Go.Proofs.YtgllfcoafgphbaaGreatDoor
open Go.ChangeShapes Go.WideShapes Go.ChangeAt Go.RowKit
set_option linter.unusedVariables false
/-- the same atom, with its places or without -/
structure SameA (pl : Bool) (a b : PAtom) : Prop where
  name : a.name = b.name
  place : pl = true → a.place = b.place
  len : a.args.length = b.args.length
  args : ∀ (i : Nat) (t u : PTerm), a.args[i]? = some t → b.args[i]? = some u → SameT pl t u
theorem SameA.refl (pl : Bool) (a : PAtom) : SameA pl a a := ⟨rfl, fun _ => rfl, rfl, fun i t u h1 h2 => by rw [h1] at h2; cases h2; exact SameT.refl pl t⟩
theorem termsV_at (l : List PTerm) (k j : Nat) (hk : k < l.length) (hj : j < 3) : (termsV l)[k * 3 + j]? = (termV l[k])[j]? := by
  induction l generalizing k with
  | nil => simp at hk
  | cons t l ih =>
    cases k with
    | zero => simp only [termsV, List.flatMap_cons, Nat.zero_mul, Nat.zero_add, List.getElem_cons_zero]; rw [List.getElem?_append_left (by simp [termV]; exact hj)]
    | succ k =>
      simp only [termsV, List.flatMap_cons, List.getElem_cons_succ]
      rw [List.getElem?_append_right (by simp [termV]; omega)]
      have := ih k (by simpa using hk)
      rw [termsV] at this
      rw [← this]
      congr 1
      simp [termV]; omega
theorem add_zero (g j : Nat) : (⟨g, 0, none⟩ : Addr).add j = ⟨g, j, none⟩ := by unfold Addr.add; split <;> simp_all
/-- where a row of terms lies -/
theorem own_terms {w : World} {base : Nat} {e : TypeId} {v : Value} {l : List PTerm} (h : w.ownsRow base e 3 v l.length (termsV l)) : (v = .slice none 0 0 ∧ l = []) ∨ ∃ g cap, v = .slice (some ⟨g, 0, none⟩) l.length cap ∧ base ≤ g ∧ g < w.heap.size ∧ ∀ k (hk : k < l.length), w.cell? ⟨g, k * 3, none⟩ = some (.bool l[k].isVar) ∧ w.cell? ⟨g, k * 3 + 1, none⟩ = some (.string (str l[k].text)) ∧ w.cell? ⟨g, k * 3 + 2, none⟩ = some (.int .i64 (l[k].place : Nat)) := by
  rcases h.2 with ⟨rfl, h0⟩ | ⟨g, cap, cur, rfl, hb, hg, rest⟩
  · exact Or.inl ⟨rfl, List.eq_nil_of_length_eq_zero h0⟩
  · refine Or.inr ⟨g, cap, rfl, hb, (Array.getElem?_eq_some_iff.1 hg).1, fun k hk => ⟨?_, ?_, ?_⟩⟩
    · have := h.cells rfl (k * 3 + 0) _ (by rw [termsV_at l k 0 hk (by omega)]; rfl)
      rw [add_zero] at this; exact this
    · have := h.cells rfl (k * 3 + 1) _ (by rw [termsV_at l k 1 hk (by omega)]; rfl)
      rw [add_zero] at this; exact this
    · have := h.cells rfl (k * 3 + 2) _ (by rw [termsV_at l k 2 hk (by omega)]; rfl)
      rw [add_zero] at this; exact this
/-- what lay there lies there still -/
theorem grown_cell {w w' : World} (hg : w.grownBy w' none) {x : Addr} {v : Value} (h : w.cell? x = some v) : w'.cell? x = some v :=
  (World.cell?_of_block (hg.block x.block (World.block_lt_of_cell? w x h) (by simp))).trans h
end Go.Proofs.YtgllfcoafgphbaaGreatDoor

/-
  The law's own words on parts: 'sameParts', walked.
-/
namespace Go.Proofs.YtgllfcoafgphbaaGreatDoor
open Go.ChangeShapes Go.WideShapes Go.ChangeAt Go.RowKit
set_option linter.unusedVariables false
/-- the same part, with its places or without -/
structure SameP (pl : Bool) (p q : PPart) : Prop where
  kind : p.kind = q.kind
  atom : SameA pl p.atom q.atom
  left : SameT pl p.left q.left
  right : SameT pl p.right q.right
theorem SameP.refl (pl : Bool) (p : PPart) : SameP pl p p := ⟨rfl, SameA.refl pl _, SameT.refl pl _, SameT.refl pl _⟩
/-- the same parts -/
structure SamePs (pl : Bool) (ps qs : List PPart) : Prop where
  len : ps.length = qs.length
  parts : ∀ (i : Nat) (p q : PPart), ps[i]? = some p → qs[i]? = some q → SameP pl p q
theorem SamePs.refl (pl : Bool) (ps : List PPart) : SamePs pl ps ps := ⟨rfl, fun i p q h1 h2 => by rw [h1] at h2; cases h2; exact SameP.refl pl p⟩
theorem partsV_at : ∀ (ps : List PPart) (vs : List Value) (k j : Nat) (p : PPart) (v : Value), ps[k]? = some p → vs[k]? = some v → j < 10 → (partsV ps vs)[k * 10 + j]? = (partV p v)[j]? := by
  intro ps
  induction ps with
  | nil => intro vs k j p v h; simp at h
  | cons x ps ih =>
    intro vs k j p v h1 h2 hj
    cases vs with
    | nil => simp at h2
    | cons y vs =>
      cases k with
      | zero => simp at h1 h2; subst h1 h2; simp only [partsV, Nat.zero_mul, Nat.zero_add]; rw [List.getElem?_append_left (by simp [partV]; exact hj)]
      | succ k =>
        simp only [partsV]
        rw [List.getElem?_append_right (by simp [partV]; omega), ← ih vs k j p v (by simpa using h1) (by simpa using h2) hj]
        congr 1
        simp [partV]; omega
/-- a row of one's own may be written -/
theorem own_soft {w : World} {base : Nat} {e : TypeId} {size g n cap : Nat} {xs : List Value} (h : w.ownsRow base e size (.slice (some ⟨g, 0, none⟩) n cap) n xs) (j : Nat) : w.frozen? ⟨g, j, none⟩ = false := by
  rcases h.2 with ⟨hv, _⟩ | ⟨g', cap', cur, hv, hb, hg, hn, hc, hs, ht⟩
  · cases hv
  · cases hv
    unfold World.frozen?
    simp only [hg]
    simp
/-- where parts lie -/
theorem own_parts {tT tP : TypeId} {base : Nat} {w : World} {v : Value} {ps : List PPart} {vs : List Value} (h : PartsAt tT tP base w v ps vs) : (v = .slice none 0 0 ∧ ps = []) ∨ ∃ g cap, v = .slice (some ⟨g, 0, none⟩) ps.length cap ∧ base ≤ g ∧ g < w.heap.size ∧ (∀ k p u, ps[k]? = some p → vs[k]? = some u → ∀ (j : Nat) (x : Value), (partV p u)[j]? = some x → w.cell? ⟨g, k * 10 + j, none⟩ = some x) ∧ ∀ i, w.frozen? ⟨g, i, none⟩ = false := by
  rcases h.own.2 with ⟨rfl, h0⟩ | ⟨g, cap, cur, rfl, hb, hg, rest⟩
  · exact Or.inl ⟨rfl, List.eq_nil_of_length_eq_zero h0⟩
  · refine Or.inr ⟨g, cap, rfl, hb, (Array.getElem?_eq_some_iff.1 hg).1, fun k p u hp hu j x hx => ?_, fun i => own_soft h.own i⟩
    have hj : j < 10 := by
      rcases Nat.lt_or_ge j 10 with h | h
      · exact h
      · rw [List.getElem?_eq_none (by simp [partV]; omega)] at hx; cases hx
    have := h.own.cells rfl (k * 10 + j) x (by rw [partsV_at ps vs k j p u hp hu hj]; exact hx)
    rw [add_zero] at this; exact this
end Go.Proofs.YtgllfcoafgphbaaGreatDoor
