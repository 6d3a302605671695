import Derived.Test.YtgllfcoafgphbaaGreatDoorM13
import Derived.Test.YtgllfcoafgphbaaGreatDoorM21
import Derived.Test.YtgllfcoafgphbaaGreatDoorM23
import Derived.Test.YtgllfcoafgphbaaGreatDoorM20
import Derived.Test.YtgllfcoafgphbaaGreatDoorM19
import Derived.Test.YtgllfcoafgphbaaGreatDoorM12
/-
  Chapter 5 in plain words of lists: what Check and Levels answer; rules in another order, and rules that differ in their places alone. Nothing of the program.
-/
namespace Go.Proofs.YtgllfcoafgphbaaGreatDoor
/-- E1, of rules that were read -/
noncomputable def followR (rs : List PRule) : Except PErr (List PRule) := match arityF rs with
  | some a => .error (9, a.place)
  | none => match safeF rs with
    | some t => .error (10, t.place)
    | none => match ringF rs with
      | some p => .error (11, p.atom.place)
      | none => .ok rs
noncomputable def checkF (l : List UInt8) : Except PErr (List PRule) := match parseF l with
  | .error e => .error e
  | .ok rs => followR rs
def errOf {α : Type} : Except PErr α → Nat
  | .error e => e.1
  | .ok _ => 0
def placeE {α : Type} : Except PErr α → Nat
  | .error e => e.2
  | .ok _ => 0
/-- all names, rising -/
def namesF (rs : List PRule) : List (List UInt8) := (sortU ((atomsAll rs).map (fun a => [a.name]))).map (fun r => r.headD [])
/-- E2, of rules that can be followed -/
noncomputable def levelsL (rs : List PRule) : List (List UInt8 × Nat) := (namesF rs).map (fun n => (n, levelsF rs n))
theorem followR_ok {rs qs : List PRule} (h : followR rs = .ok qs) : qs = rs ∧ arityF rs = none ∧ safeF rs = none ∧ ringF rs = none := by
  unfold followR at h
  cases h1 : arityF rs with
  | some a => rw [h1] at h; exact absurd h (by simp)
  | none =>
    cases h2 : safeF rs with
    | some t => rw [h1, h2] at h; exact absurd h (by simp)
    | none =>
      cases h3 : ringF rs with
      | some p => rw [h1, h2, h3] at h; exact absurd h (by simp)
      | none => rw [h1, h2, h3] at h; exact ⟨(Except.ok.inj h).symm, rfl, rfl, rfl⟩
theorem followR_is {rs : List PRule} (h1 : arityF rs = none) (h2 : safeF rs = none) (h3 : ringF rs = none) : followR rs = .ok rs := by
  unfold followR; rw [h1, h2, h3]
/-- the error's number hangs on whether there is one of a kind -/
theorem followR_err {rs qs : List PRule} (h1 : arityF rs = none ↔ arityF qs = none) (h2 : safeF rs = none ↔ safeF qs = none) (h3 : ringF rs = none ↔ ringF qs = none) : errOf (followR rs) = errOf (followR qs) := by
  unfold followR
  cases a1 : arityF rs with
  | some a =>
    cases b1 : arityF qs with
    | some b => rfl
    | none => rw [h1.2 b1] at a1; exact absurd a1 (by simp)
  | none =>
    rw [h1.1 a1]
    cases a2 : safeF rs with
    | some a =>
      cases b2 : safeF qs with
      | some b => rfl
      | none => rw [h2.2 b2] at a2; exact absurd a2 (by simp)
    | none =>
      rw [h2.1 a2]
      cases a3 : ringF rs with
      | some a =>
        cases b3 : ringF qs with
        | some b => rfl
        | none => rw [h3.2 b3] at a3; exact absurd a3 (by simp)
      | none => rw [h3.1 a3]; rfl
/-- rules in another order -/
theorem mem_atomsAll {rs qs : List PRule} (h : ∀ r, r ∈ qs ↔ r ∈ rs) (a : PAtom) : a ∈ atomsAll qs ↔ a ∈ atomsAll rs := by
  simp only [atomsAll, List.mem_flatMap, h]
theorem arity_perm {rs qs : List PRule} (h : ∀ r, r ∈ qs ↔ r ∈ rs) (hr : arityF rs = none) : arityF qs = none :=
  (arity_none qs).2 fun a ha b hb => (arity_none rs).1 hr a ((mem_atomsAll h a).1 ha) b ((mem_atomsAll h b).1 hb)
theorem safe_perm {rs qs : List PRule} (h : ∀ r, r ∈ qs ↔ r ∈ rs) (hr : safeF rs = none) : safeF qs = none :=
  (safe_none qs).2 fun r hq => (safe_none rs).1 hr r ((h r).1 hq)
theorem ring_perm {rs qs : List PRule} (h : ∀ r, r ∈ qs ↔ r ∈ rs) (hr : ringF rs = none) : ringF qs = none :=
  (ring_none qs).2 fun r hq p hp hk hh => (ring_none rs).1 hr r ((h r).1 hq) p hp hk (hh.mono fun x hx => (h x).1 hx)
theorem follow_perm {rs qs : List PRule} (h : ∀ r, r ∈ qs ↔ r ∈ rs) (hr : followR rs = .ok rs) : followR qs = .ok qs := by
  obtain ⟨-, h1, h2, h3⟩ := followR_ok hr
  exact followR_is (arity_perm h h1) (safe_perm h h2) (ring_perm h h3)
/-- rules that differ in their places alone -/
theorem bodyAtoms_n (r : PRule) : bodyAtoms (nR r) = (bodyAtoms r).map nP := by
  simp only [bodyAtoms, nR, List.filter_map]; rfl
theorem atomsR_n (r : PRule) : atomsR (nR r) = (atomsR r).map nA := by
  simp only [atomsR, bodyAtoms_n, List.map_cons, List.map_map]; rfl
theorem atomsAll_n : ∀ (rs : List PRule), atomsAll (rs.map nR) = (atomsAll rs).map nA
  | [] => rfl
  | r :: rs => by
    have := atomsAll_n rs
    simp only [atomsAll, List.map_cons, List.flatMap_cons, List.map_append, atomsR_n] at this ⊢
    rw [this]
theorem arity_n (rs : List PRule) : arityF rs = none ↔ arityF (rs.map nR) = none := by
  rw [arity_none, arity_none, atomsAll_n]
  unfold OneArity
  simp only [List.forall_mem_map, nA, List.length_map]
theorem boundV_n (body : List PPart) (v : List UInt8) : boundV (body.map nP) v = boundV body v := by
  unfold boundV
  rw [List.any_map]
  congr 1
  funext p
  simp only [Function.comp, nP, nA, List.any_map]
  rfl
theorem partTerms_n (p : PPart) : partTerms (nP p) = (partTerms p).map nT := by
  unfold partTerms nP
  by_cases h : p.kind < 2
  · simp [h, nA]
  · simp [h]
theorem partsTerms_n : ∀ (ps : List PPart), ((ps.map nP).filter (fun p => p.kind != 0)).flatMap partTerms = ((ps.filter (fun p => p.kind != 0)).flatMap partTerms).map nT
  | [] => rfl
  | p :: ps => by
    have ih := partsTerms_n ps
    by_cases h : p.kind = 0
    · have h' : (nP p).kind = 0 := h
      simpa [h, h'] using ih
    · have h' : (nP p).kind ≠ 0 := h
      simp only [List.map_cons, bne_iff_ne, ne_eq, h, h', not_false_eq_true, List.filter_cons_of_pos, List.flatMap_cons, List.map_append, partTerms_n, ih]
theorem wantsF_n (r : PRule) : wantsF (nR r) = (wantsF r).map nT := by
  simp only [wantsF, nR, nA, List.map_append, partsTerms_n]
theorem safe_n (rs : List PRule) : safeF rs = none ↔ safeF (rs.map nR) = none := by
  rw [safe_none, safe_none]
  constructor
  · intro h q hq t ht hv
    obtain ⟨r, hr, rfl⟩ := List.mem_map.1 hq
    rw [wantsF_n] at ht
    obtain ⟨u, hu, rfl⟩ := List.mem_map.1 ht
    exact (boundV_n r.body u.text).trans (h r hr u hu hv)
  · intro h r hr t ht hv
    exact (boundV_n r.body t.text).symm.trans (h (nR r) (List.mem_map_of_mem hr) (nT t) (by rw [wantsF_n]; exact List.mem_map_of_mem ht) hv)
theorem edgeK_n (rs : List PRule) (a : List UInt8) (k : Nat) (b : List UInt8) : EdgeK (rs.map nR) a k b ↔ EdgeK rs a k b := by
  unfold EdgeK
  constructor
  · rintro ⟨r, hr, ha, p, hp, hk, hb⟩
    obtain ⟨r, hr', rfl⟩ := List.mem_map.1 hr
    obtain ⟨p, hp', rfl⟩ := List.mem_map.1 hp
    exact ⟨r, hr', ha, p, hp', hk, hb⟩
  · rintro ⟨r, hr, ha, p, hp, hk, hb⟩
    exact ⟨nR r, List.mem_map_of_mem hr, ha, nP p, List.mem_map_of_mem hp, hk, hb⟩
theorem hangs_edges {rs qs : List PRule} (h : ∀ a b, Edge rs a b → Edge qs a b) {a b : List UInt8} (k : Hangs rs a b) : Hangs qs a b := by
  induction k with
  | one e => exact .one (h _ _ e)
  | more e _ ih => exact .more (h _ _ e) ih
theorem hangs_n (rs : List PRule) (a b : List UInt8) : Hangs (rs.map nR) a b ↔ Hangs rs a b :=
  ⟨hangs_edges fun _ _ ⟨k, hk, e⟩ => ⟨k, hk, (edgeK_n rs _ k _).1 e⟩, hangs_edges fun _ _ ⟨k, hk, e⟩ => ⟨k, hk, (edgeK_n rs _ k _).2 e⟩⟩
theorem ring_n (rs : List PRule) : ringF rs = none ↔ ringF (rs.map nR) = none := by
  rw [ring_none, ring_none]
  simp only [hangs_n]
  constructor
  · intro h r hr p hp hk
    obtain ⟨r, hr', rfl⟩ := List.mem_map.1 hr
    obtain ⟨p, hp', rfl⟩ := List.mem_map.1 hp
    exact h r hr' p hp' hk
  · intro h r hr p hp hk
    exact h (nR r) (List.mem_map_of_mem hr) (nP p) (List.mem_map_of_mem hp) hk
theorem follow_n (rs : List PRule) : errOf (followR rs) = errOf (followR (rs.map nR)) := followR_err (arity_n rs) (safe_n rs) (ring_n rs)
theorem follow_same {rs qs : List PRule} (h : rs.map nR = qs.map nR) : errOf (followR rs) = errOf (followR qs) := by rw [follow_n rs, h, ← follow_n qs]
theorem sol_n (rs : List PRule) (f : List UInt8 → Nat) : Sol (rs.map nR) f ↔ Sol rs f := by
  constructor
  · intro h r hr p hp hk
    exact h (nR r) (List.mem_map_of_mem hr) (nP p) (List.mem_map_of_mem hp) hk
  · intro h r hr p hp hk
    obtain ⟨r, hr', rfl⟩ := List.mem_map.1 hr
    obtain ⟨p, hp', rfl⟩ := List.mem_map.1 hp
    exact h r hr' p hp' hk
theorem least_n (rs : List PRule) (f : List UInt8 → Nat) : Least (rs.map nR) f ↔ Least rs f := by
  unfold Least; simp only [sol_n]
theorem errOf_ok {α : Type} {r : Except PErr α} {a : α} (h : r = .ok a) : errOf r = 0 := by rw [h]; rfl
theorem follow_zero {rs : List PRule} (h : errOf (followR rs) = 0) : followR rs = .ok rs := by
  unfold followR at h ⊢
  cases h1 : arityF rs with
  | some a => rw [h1] at h; exact absurd h (by simp [errOf])
  | none =>
    cases h2 : safeF rs with
    | some t => rw [h1, h2] at h; exact absurd h (by simp [errOf])
    | none =>
      cases h3 : ringF rs with
      | some p => rw [h1, h2, h3] at h; exact absurd h (by simp [errOf])
      | none => rfl
theorem names_n (rs : List PRule) : namesF (rs.map nR) = namesF rs := by
  unfold namesF; rw [atomsAll_n, List.map_map]; rfl
theorem names_perm {rs qs : List PRule} (h : ∀ r, r ∈ qs ↔ r ∈ rs) : namesF qs = namesF rs := by
  unfold namesF
  have hm : ∀ (l : List PAtom), ∀ r ∈ l.map (fun a => [a.name]), r.length = 1 := by
    intro l r hr
    obtain ⟨a, _, rfl⟩ := List.mem_map.1 hr
    rfl
  rw [sortU_congr 1 _ ((atomsAll rs).map (fun a => [a.name])) (hm _) (hm _) fun x => ?_]
  simp only [List.mem_map, mem_atomsAll h]
/-- CheckOrder: rules that can be followed, turned and read again -/
theorem turned_levels {rs qs : List PRule} (hr : followR rs = .ok rs) (h : qs.map nR = rs.reverse.map nR) : followR qs = .ok qs ∧ levelsL qs = levelsL rs := by
  have hp : ∀ r, r ∈ rs.reverse ↔ r ∈ rs := fun r => List.mem_reverse
  have ht := follow_perm hp hr
  have hq : followR qs = .ok qs := follow_zero ((follow_same h).trans (errOf_ok ht))
  refine ⟨hq, ?_⟩
  have l1 : Least qs (levelsF qs) := levels_least (followR_ok hq).2.2.2
  have l2 : Least rs.reverse (levelsF rs) := (levels_least (followR_ok hr).2.2.2).perm hp
  have l3 : Least qs (levelsF rs) := (least_n qs _).1 (h ▸ (least_n rs.reverse _).2 l2)
  have hn : namesF qs = namesF rs := by rw [← names_n qs, h, names_n, names_perm hp]
  unfold levelsL
  rw [hn, l1.unique l3]
/-- CheckForm: rules and their one form can be followed alike -/
theorem form_follow {l : List UInt8} {rs : List PRule} (h : parseF l = .ok rs) (hl : (rulesTextF rs).length ≤ 20000) : errOf (checkF (rulesTextF rs)) = errOf (checkF l) := by
  obtain ⟨h200, hw⟩ := parseF_wf l rs h
  obtain ⟨qs, hq, hp⟩ := parse_again rs h200 hw hl
  unfold checkF
  rw [h, hp]
  exact follow_same hq
/-- CheckOrder: the turned text -/
theorem order_follow {l : List UInt8} {rs : List PRule} (h : checkF l = .ok rs) (hl : (rulesTextF rs.reverse).length ≤ 20000) : ∃ qs, checkF (rulesTextF rs.reverse) = .ok qs ∧ levelsL qs = levelsL rs := by
  unfold checkF at h
  cases hp : parseF l with
  | error e => rw [hp] at h; exact absurd h (by simp)
  | ok ps =>
    rw [hp] at h
    obtain ⟨rfl, -⟩ := followR_ok h
    obtain ⟨h200, hw⟩ := parseF_wf l rs hp
    obtain ⟨qs, hq, hpp⟩ := parse_again rs.reverse (by simpa using h200) (fun r hr => hw r (List.mem_reverse.1 hr)) hl
    obtain ⟨h1, h2⟩ := turned_levels h hq
    exact ⟨qs, by unfold checkF; rw [hpp]; exact h1, h2⟩
end Go.Proofs.YtgllfcoafgphbaaGreatDoor

/-
  How long things are in rules that were read, as the program's walks ask for it; where their parts lie.
-/
namespace Go.Proofs.YtgllfcoafgphbaaGreatDoor
open Go.ChangeShapes Go.WideShapes Go.ChangeAt Go.RowKit Go.Hands
set_option linter.unusedVariables false
theorem isName_len {n : List UInt8} (h : isName n = true) : n.length ≤ 30 := by
  cases n with
  | nil => simp
  | cons c t =>
    simp only [isName, Bool.and_eq_true, decide_eq_true_eq] at h
    exact h.1.1.1
theorem isVarB_len {n : List UInt8} (h : isVarB n = true) : n.length ≤ 30 := by
  cases n with
  | nil => simp
  | cons c t =>
    simp only [isVarB, Bool.and_eq_true, decide_eq_true_eq] at h
    exact h.1
theorem wfT_len {t : PTerm} (h : WfT t) : t.text.length ≤ 200 := by
  cases hv : t.isVar with
  | true => have := isVarB_len (h.1 hv).1; omega
  | false => exact h.2 hv
theorem wfP_len {p : PPart} (h : WfP p) : p.kind ≤ 4 ∧ p.atom.name.length ≤ 30 ∧ p.atom.args.length ≤ 8 ∧ (∀ t ∈ p.atom.args, t.text.length ≤ 200) ∧ ((partTerms p).length ≤ 8 ∧ ∀ t ∈ partTerms p, t.text.length ≤ 200) := by
  rcases h with ⟨hk, ha, _, _⟩ | ⟨h2, h4, ha, hl, hr⟩
  · refine ⟨by omega, isName_len ha.1, ha.2.1, fun t ht => wfT_len (ha.2.2 t ht), ?_⟩
    have e : partTerms p = p.atom.args := by unfold partTerms; rw [if_pos hk]
    rw [e]; exact ⟨ha.2.1, fun t ht => wfT_len (ha.2.2 t ht)⟩
  · rw [ha]
    refine ⟨h4, by simp [noAtom], by simp [noAtom], fun t ht => by simp [noAtom] at ht, ?_⟩
    have e : partTerms p = [p.left, p.right] := by unfold partTerms; rw [if_neg (by omega)]
    rw [e]
    refine ⟨by simp, fun t ht => ?_⟩
    rcases List.mem_cons.1 ht with rfl | ht
    · exact wfT_len hl
    · rw [List.mem_singleton.1 ht]; exact wfT_len hr
theorem wants_bounds (hts : List PTerm) (hh : ∀ t ∈ hts, t.text.length ≤ 200) : ∀ (ps : List PPart), (∀ p ∈ ps, WfP p) → (wantsL hts ps).length ≤ hts.length + ps.length * 8 ∧ ∀ t ∈ wantsL hts ps, t.text.length ≤ 200 := by
  intro ps hps
  have h1 : ∀ (l : List PPart), (∀ p ∈ l, WfP p) → ((l.filter (fun p => p.kind != 0)).flatMap partTerms).length ≤ l.length * 8 := by
    intro l
    induction l with
    | nil => intro _; simp
    | cons p l ih =>
      intro hl
      have ih2 := ih (fun q hq => hl q (List.mem_cons_of_mem _ hq))
      have hp := (wfP_len (hl p (List.mem_cons_self ..))).2.2.2.2.1
      rw [List.filter_cons]
      split
      · rw [List.flatMap_cons, List.length_append, List.length_cons]; omega
      · rw [List.length_cons]; omega
  refine ⟨?_, fun t ht => ?_⟩
  · unfold wantsL; rw [List.length_append]; have := h1 ps hps; omega
  · unfold wantsL at ht
    rcases List.mem_append.1 ht with h | h
    · exact hh t h
    · obtain ⟨p, hp, ht2⟩ := List.mem_flatMap.1 h
      exact (wfP_len (hps p (List.mem_filter.1 hp).1)).2.2.2.2.2 t ht2
theorem wf_ring {rs : List PRule} (h : ∀ r ∈ rs, WfR r) : ∀ r ∈ rs, r.body.length ≤ 1000 ∧ r.head.name.length ≤ 1000000 ∧ ∀ p ∈ r.body, p.kind ≤ 1000 ∧ p.atom.name.length ≤ 1000000 := by
  intro r hr
  obtain ⟨ha, hb, hp⟩ := h r hr
  refine ⟨by omega, by have := isName_len ha.1; omega, fun p hp2 => ?_⟩
  have := wfP_len (hp p hp2)
  exact ⟨by omega, by omega⟩
theorem wf_tame {rs : List PRule} (hl : rs.length ≤ 200) (h : ∀ r ∈ rs, WfR r) : Tame rs := by
  refine ⟨by omega, fun r hr => ?_⟩
  obtain ⟨h1, _, h3⟩ := wf_ring h r hr
  exact ⟨by omega, fun p hp => (h3 p hp).1⟩
theorem atoms_bounds : ∀ (rs : List PRule), (∀ r ∈ rs, WfR r) → (atomsAll rs).length ≤ rs.length * 13 ∧ ∀ a ∈ atomsAll rs, a.name.length ≤ 30 ∧ a.args.length ≤ 8
  | [], _ => by simp [atomsAll]
  | r :: rs, h => by
    obtain ⟨ih1, ih2⟩ := atoms_bounds rs (fun x hx => h x (List.mem_cons_of_mem _ hx))
    obtain ⟨ha, hb, hp⟩ := h r (List.mem_cons_self ..)
    have e : atomsAll (r :: rs) = atomsR r ++ atomsAll rs := by simp [atomsAll]
    rw [e]
    refine ⟨?_, fun a hm => ?_⟩
    · have h2 : (bodyAtoms r).length ≤ r.body.length := List.length_filter_le _ _
      rw [List.length_append, List.length_cons]
      unfold atomsR
      rw [List.length_cons, List.length_map]; omega
    · rcases List.mem_append.1 hm with hm | hm
      · unfold atomsR at hm
        rcases List.mem_cons.1 hm with rfl | hm
        · exact ⟨isName_len ha.1, ha.2.1⟩
        · obtain ⟨p, hp2, rfl⟩ := List.mem_map.1 hm
          have := wfP_len (hp p (List.mem_filter.1 hp2).1)
          exact ⟨this.2.1, this.2.2.1⟩
      · exact ih2 a hm
theorem LA_bounds (rs : List PRule) (hs : List Value) (V : Nat → List Value) (hl : hs.length = rs.length) (hV : ∀ (i : Nat) (r : PRule), rs[i]? = some r → (V i).length = r.body.length) (hrl : rs.length ≤ 200) (h : ∀ r ∈ rs, WfR r) :
    (∀ x ∈ upto (LA rs hs V) rs.length, x.name.length ≤ 1000000 ∧ x.n ≤ 1000000) ∧ (upto (LA rs hs V) rs.length).length ≤ 1000000000 := by
  have hk := keys_all rs hs V hl hV rs.length (Nat.le_refl _)
  rw [List.take_length] at hk
  obtain ⟨b1, b2⟩ := atoms_bounds rs h
  refine ⟨fun x hx => ?_, ?_⟩
  · have hm : x.key ∈ (atomsAll rs).map keyA := by rw [← hk]; exact List.mem_map_of_mem hx
    obtain ⟨a, ha, e⟩ := List.mem_map.1 hm
    obtain ⟨h1, h2⟩ := b2 a ha
    unfold keyA BX.key at e
    injection e with e1 e2
    injection e2 with e2 e3
    exact ⟨by rw [← e1]; omega, by rw [← e2]; omega⟩
  · have hlen := congrArg List.length hk
    rw [List.length_map, List.length_map] at hlen
    omega
/-- where each rule's parts lie -/
theorem rules_V {tT tP tR : TypeId} {base : Nat} {w : World} {v : Value} {rs : List PRule} {hs bs : List Value} (h : RulesAt tT tP tR base w v rs hs bs) : ∃ V : Nat → List Value, (∀ (i : Nat) (r : PRule) (u : Value), rs[i]? = some r → bs[i]? = some u → PartsAt tT tP base w u r.body (V i)) ∧ ∀ (i : Nat) (r : PRule), rs[i]? = some r → (V i).length = r.body.length := by
  have hx : ∀ i : Nat, ∃ vs, ∀ (r : PRule) (u : Value), rs[i]? = some r → bs[i]? = some u → PartsAt tT tP base w u r.body vs := by
    intro i
    cases hr : rs[i]? with
    | none => exact ⟨[], fun r u h1 => by cases h1⟩
    | some r =>
      cases hb : bs[i]? with
      | none => exact ⟨[], fun r u h1 h2 => by cases h2⟩
      | some u =>
        obtain ⟨vs, hvs⟩ := h.bodies i r u hr hb
        exact ⟨vs, fun r' u' h1 h2 => by cases h1; cases h2; exact hvs⟩
  refine ⟨fun i => Classical.choose (hx i), fun i r u h1 h2 => Classical.choose_spec (hx i) r u h1 h2, fun i r hr => ?_⟩
  have hi : i < bs.length := by rw [h.lb]; exact (List.getElem?_eq_some_iff.1 hr).1
  exact (Classical.choose_spec (hx i) r bs[i] hr (List.getElem?_eq_getElem hi)).len
end Go.Proofs.YtgllfcoafgphbaaGreatDoor

/-
  The program's check.least, walked.
-/
namespace Go.Proofs.YtgllfcoafgphbaaGreatDoor
open Go.ChangeShapes Go.WideShapes Go.ChangeAt Go.RowKit Go.Hands Go.WideMaps Go.Maps
set_option linter.unusedVariables false
attribute [local go_sem] Oper.semAt_some
theorem setN_zero (x : List UInt8) : setN (fun _ => 0) x 0 = fun _ => 0 := by
  funext y; unfold setN; split <;> rfl
/-- the names that were met -/
def metX (l : List BX) (n : List UInt8) : Bool := l.any (fun x => x.name == n)
theorem metX_snoc (l : List BX) (x : BX) : metX (l ++ [x]) = fun n => metX l n || n == x.name := by
  funext n
  unfold metX
  rw [List.any_append]
  congr 1
  simp [Bool.beq_comm]
theorem metX_all (rs : List PRule) (hs : List Value) (V : Nat → List Value) (hl : hs.length = rs.length) (hV : ∀ (i : Nat) (r : PRule), rs[i]? = some r → (V i).length = r.body.length) (n : List UInt8) : metX (upto (LA rs hs V) rs.length) n = true ↔ ∃ a ∈ atomsAll rs, a.name = n := by
  have hk := keys_all rs hs V hl hV rs.length (Nat.le_refl _)
  rw [List.take_length] at hk
  have hk2 := congrArg (List.map (fun q : List UInt8 × Nat × Nat => q.1)) hk
  rw [List.map_map, List.map_map] at hk2
  have h1 : metX (upto (LA rs hs V) rs.length) n = true ↔ n ∈ (upto (LA rs hs V) rs.length).map (fun x => x.name) := by
    unfold metX
    rw [List.any_eq_true, List.mem_map]
    constructor
    · rintro ⟨x, hx, e⟩; exact ⟨x, hx, by simpa using e⟩
    · rintro ⟨x, hx, e⟩; exact ⟨x, hx, by simpa using e⟩
  rw [h1]
  have e1 : (upto (LA rs hs V) rs.length).map (fun x => x.name) = (upto (LA rs hs V) rs.length).map ((fun q : List UInt8 × Nat × Nat => q.1) ∘ BX.key) := rfl
  rw [e1, hk2, List.mem_map]
  exact ⟨fun ⟨a, ha, e⟩ => ⟨a, ha, e⟩, fun ⟨a, ha, e⟩ => ⟨a, ha, e⟩⟩
theorem rank_lenP (rs : List PRule) (x : List UInt8) : rank rs x ≤ (bodyNames rs).length := by
  unfold rank
  refine Nat.le_trans (List.length_filter_le _ _) ?_
  have : ∀ (n : Nat) (l : List (List UInt8)), l.length ≤ n → l.eraseDups.length ≤ l.length := by
    intro n
    induction n with
    | zero => intro l h; rw [List.eq_nil_of_length_eq_zero (Nat.le_zero.1 h)]; simp
    | succ n ih =>
      intro l h
      cases l with
      | nil => simp
      | cons a l =>
        rw [List.eraseDups_cons]
        have h1 := List.length_filter_le (fun b => !b == a) l
        have h2 := ih (l.filter (fun b => !b == a)) (by simp only [List.length_cons] at h; omega)
        simp only [List.length_cons]; omega
  exact this _ _ (Nat.le_refl _)
theorem sumH_len (c : Nat) (f : List UInt8 → Nat) (h : ∀ x, f x ≤ c) : ∀ (rs : List PRule), sumH rs f ≤ rs.length * c
  | [] => by simp [sumH]
  | r :: rs => by
    have ih := sumH_len c f h rs
    have h1 := h r.head.name
    unfold sumH at ih ⊢
    rw [List.map_cons, List.sum_cons, List.length_cons, Nat.add_mul, Nat.one_mul]; omega
open Classical in
/-- the numbers that lie in a world's map -/
noncomputable def numsOf (W : World) (b : Nat) : List UInt8 → Nat := if h : ∃ f, ∃ (N : List UInt8 → Bool) (nn : Nat) (D : DataW Unit), W.ownsMap Tryz.prog 9 (plainElem Tryz.prog 3) b nn D ∧ NumD D f N then Classical.choose h else fun _ => 0
theorem numsOf_is {W : World} {b nn : Nat} {D : DataW Unit} {f : List UInt8 → Nat} {N : List UInt8 → Bool} (h1 : W.ownsMap Tryz.prog 9 (plainElem Tryz.prog 3) b nn D) (h2 : NumD D f N) : numsOf W b = f := by
  have hx : ∃ f, ∃ (N : List UInt8 → Bool) (nn : Nat) (D : DataW Unit), W.ownsMap Tryz.prog 9 (plainElem Tryz.prog 3) b nn D ∧ NumD D f N := ⟨f, N, nn, D, h1, h2⟩
  unfold numsOf
  rw [dif_pos hx]
  obtain ⟨N', nn', D', h3, h4⟩ := Classical.choose_spec hx
  have e : D' = D := by
    obtain ⟨es, cl, hb, _, _, hD⟩ := h1
    obtain ⟨es', cl', hb', _, _, hD'⟩ := h3
    rw [hb] at hb'
    injection hb' with hb'
    injection hb' with e1 e2
    rw [hD', hD, e1]
  funext n
  have a1 := h2.at' n
  have a2 := h4.at' n
  rw [e, a1] at a2
  injection a2 with e1
  injection e1 with e2 e3
  omega
set_option maxRecDepth 100000 in
set_option maxHeartbeats 4000000 in
theorem least_any (base : Nat) (v : Value) (rs : List PRule) (hs bs : List Value) (V : Nat → List Value) (w : World)
    (hrules : RulesAt 76 164 112 base w v rs hs bs)
    (hV : ∀ (i : Nat) (r : PRule) (u : Value), rs[i]? = some r → bs[i]? = some u → PartsAt 76 164 base w u r.body (V i)) (hVl : ∀ (i : Nat) (r : PRule), rs[i]? = some r → (V i).length = r.body.length)
    (hrl : rs.length ≤ 200) (hwf : ∀ r ∈ rs, WfR r) (hring : ringF rs = none) :
    Calls Tryz.prog 22 #[v] w fun e w' => e = .returned (.map (some w.heap.size)) ∧ (∃ (nn : Nat) (D : DataW Unit), w'.ownsMap Tryz.prog 9 (plainElem Tryz.prog 3) w.heap.size nn D ∧ NumD D (levelsF rs) (metX (upto (LA rs hs V) rs.length))) ∧ Below w.heap.size w w' := by
  have hmm := @run_makeMap Tryz.prog
  obtain ⟨b1, b2⟩ := LA_bounds rs hs V hrules.lh hVl hrl hwf
  have HB1 := hide b1
  have HMA := hide (metX_all rs hs V hrules.lh hVl)
  have hvv := own_slice hrules.own
  obtain ⟨va, HVA⟩ : ∃ a, Hid (a = sliceA v) := ⟨_, rfl⟩
  obtain ⟨vc, HVC⟩ : ∃ c, Hid (c = sliceC v) := ⟨_, rfl⟩
  rw [← HVA.out, ← HVC.out] at hvv
  have HRL := hide hrules
  have HVV := hide hV
  have HT := hide (wf_tame hrl hwf)
  have HWR := hide (wf_ring hwf)
  have HSO : Hid (Sol rs (rank rs)) := rank_sol hring
  have HLE : Hid (Least rs (levelsF rs)) := levels_least hring
  have HRB : Hid (∀ x, rank rs x ≤ 200000) := fun x => by
    have h1 := rank_lenP rs x
    have h2 := bodyNames_lenC 1000 rs (fun r hr => (HWR.out r hr).1)
    omega
  have HSB : Hid (sumH rs (rank rs) ≤ 200 * 200000) := Nat.le_trans (sumH_len 200000 _ HRB.out rs) (Nat.mul_le_mul_right _ hrl)
  have HNH : Hid (∀ r ∈ rs, metX (upto (LA rs hs V) rs.length) r.head.name = true) := fun r hr => (HMA.out _).2 ⟨r.head, List.mem_flatMap.2 ⟨r, hr, List.mem_cons_self ..⟩, rfl⟩
  clear hrules hV hVl b1 hwf hring
  obtain ⟨W2, HW2⟩ : ∃ W2, Hid (W2 = (w.alloc (.map #[] 0)).alloc (.cells #[.map (some w.heap.size)] 56)) := ⟨_, rfl⟩
  have HB2 : Hid (Below w.heap.size w W2) := by rw [HW2.out]; exact ((Below.refl _ _).alloc (Nat.le_refl _) _).alloc (by simp) _
  have HS2 : Hid (W2.heap.size = w.heap.size + 2) := by show _ = _; rw [HW2.out]; simp
  have m2 : W2.cell? ⟨w.heap.size + 1, 0, none⟩ = some (.map (some w.heap.size)) := by
    rw [HW2.out, World.cell?_alloc_at _ _ _ _ (by simp)]; rfl
  have HM2 : Hid (W2.ownsMap (H := Unit) Tryz.prog 9 (plainElem Tryz.prog 3) w.heap.size 0 (.map [])) := by
    refine mapAt (World.ownsMap_made w Tryz.prog 9 (plainElem Tryz.prog 3)) ?_
    rw [HW2.out]
    exact Below.heap_alloc _ _ _ (by simp)
  have hW2 := HW2.out.symm
  rw [hvv]
  obtain ⟨n, hn1⟩ : ∃ n : Nat, 40 ≤ n := ⟨40, by omega⟩
  refine (callsIn_wide (n := n)).1 ?_
  refine callsIn_of_wp_marks Tryz.func22 rfl trivial ?_ rfl
  simp only [Tryz.ntmps22, List.size_toArray, List.length_cons, List.length_nil, Nat.reduceAdd, Nat.reduceSub, Array.replicate_succ, Array.replicate_zero, List.push_toArray, List.append_toArray, List.nil_append, List.cons_append]
  gi_wp2_with fail
  clear hW2
  refine ⟨trivial, fun h => (by cases h), ?_⟩
  refine (callsIn_wide.2 (each_any _ va rs.length vc 47 #[] W2 rfl)).mono ?_
  rintro e W4 ⟨rfl, hW4⟩
  have HR24 : Hid (Rnd (fun _ => False) W2 W4) := by rw [hW4]; exact ((Rnd.refl _ _).alloc _).alloc _
  have HS4 : Hid (W4.heap.size = W2.heap.size + 2) := by show _ = _; rw [hW4]; simp
  have b4 : W4.cell? ⟨W2.heap.size, 0, none⟩ = some v := by
    rw [hW4, hvv]
    have h1 : Rnd (fun _ => False) (W2.alloc (.cells #[.slice va rs.length vc] 52)) ((W2.alloc (.cells #[.slice va rs.length vc] 52)).alloc (.cells #[.func (.func 47) #[] #[]] 99)) := (Rnd.refl _ _).alloc _
    exact h1.cell (by rw [World.cell?_alloc_at _ _ _ _ rfl]; rfl) (fun h => h)
  have o4 : W4.cell? ⟨W2.heap.size + 1, 0, none⟩ = some (.func (.func 47) #[] #[]) := by
    rw [hW4, World.cell?_alloc_at _ _ _ _ (by simp)]; rfl
  have HM4 : Hid (W4.ownsMap (H := Unit) Tryz.prog 9 (plainElem Tryz.prog 3) w.heap.size 0 (.map [])) := mapAt HM2.out (HR24.out.block _ (by have := HS2.out; omega) (fun h => h))
  have m4 := HR24.out.cell m2 (fun h => h)
  have HB4 : Hid (Below w.heap.size w W4) := HB2.out.trans (HR24.out.below HB2.out.size (fun _ h => h.elim))
  clear hW4 m2 HM2
  gi_wp2
  refine range_hands rfl (by omega) (gf := 78) (lb := #[.pointer (some ⟨W2.heap.size, 0, none⟩), .pointer (some ⟨W2.heap.size + 1, 0, none⟩)]) rfl trivial (enters_of Tryz.func78 (by kernel_rfl) rfl)
    (allA_hands (n - 1) base W2.heap.size (W2.heap.size + 1) v rs hs bs V (fun k => k = w.heap.size) w W4 (Rnd.weak (Rnd.of_below HB4.out)) b4 o4 HRL.out HVV.out (fun k hm => by have := HS4.out; have := HS2.out; subst hm; omega) HT.out (by omega))
    (Rnd.refl _ _) (fun k hm => by have := HS4.out; have := HS2.out; have hm2 : k = w.heap.size := hm; omega) (fun _ => False) (fun _ h => h.elim) (fun _ => rfl)
    (fun pre W' => Below w.heap.size w W' ∧ W'.cell? ⟨w.heap.size + 1, 0, none⟩ = some (.map (some w.heap.size)) ∧ ∃ (nn : Nat) (D : DataW Unit), W'.ownsMap Tryz.prog 9 (plainElem Tryz.prog 3) w.heap.size nn D ∧ NumD D (fun _ => 0) (metX pre) ∧ nn ≤ pre.length)
    (fun _ _ _ => False)
    (fun s A C h hb => ⟨h.1.trans (hb.mono (by have := HS4.out; have := HS2.out; omega)), (hb.cell (p := ⟨w.heap.size + 1, 0, none⟩) (by have := HS4.out; have := HS2.out; show w.heap.size + 1 < _; omega)).trans h.2.1, by
      obtain ⟨nn, D, h1, h2, h3⟩ := h.2.2
      exact ⟨nn, D, mapAt h1 (hb.block _ (by have := HS4.out; have := HS2.out; omega)), h2, h3⟩⟩)
    (fun c s A C h hb => h)
    ⟨HB4.out, m4, 0, _, HM4.out, NumD.nil, Nat.le_refl _⟩
    (fun x a' W' => ∃ Bx, W'.cell? ⟨Bx, 0, none⟩ = some (.string (str x.name)) ∧ W'.cell? ⟨Bx, 1, none⟩ = some (.slice x.ua x.n x.uc) ∧ W'.cell? ⟨Bx, 2, none⟩ = some (.int .i64 (x.place : Nat)) ∧ a' = { tmps := #[.slice va rs.length vc, undef, .map none, .pointer (some ⟨w.heap.size + 1, 0, none⟩), .pointer (some ⟨Bx, 0, none⟩), .map (some w.heap.size), .slice va rs.length vc, .func (.func 78) #[] #[.pointer (some ⟨W2.heap.size, 0, none⟩), .pointer (some ⟨W2.heap.size + 1, 0, none⟩)], x.atomV, undef, undef, undef, undef, undef, undef, undef], defers := [] })
    ?hAx ?assign ?body ?done ?stop
  case hAx =>
    rintro x a' W' l' r o hl' ⟨Bx, h0, h1, h2, rfl⟩
    exact ⟨Bx, cell_put_loop hl' h0, cell_put_loop hl' h1, cell_put_loop hl' h2, rfl⟩
  case assign =>
    rintro l' pre ⟨xk, xn, xl, xa, xc, xp, xts⟩ W' K hsz hi hK
    have HK := hide hK
    clear hK hi
    dsimp only [BX.atomV]
    gi_wp2
    refine HK.out _ _ ((Rnd.refl _ _).alloc _) ⟨W'.heap.size, ?_, ?_, ?_, rfl⟩ <;> (rw [World.cell?_alloc_at _ _ _ _ rfl]; rfl)
  case body =>
    rintro l' pre x a' W' hsz ⟨hbw, hcc, nn, D, hown, hD, hnn⟩ ⟨Bx, h0, h1, h2, rfl⟩ hlen
    have hpl : pre.length ≤ 1000000000 := by have := hlen.length_le; simp at this; omega
    have hxl := (HB1.out x (hlen.subset (by simp))).1
    have hkx := keyS x.name hxl
    obtain ⟨sx, HSX⟩ : ∃ sx, Hid (sx = str x.name) := ⟨_, rfl⟩
    rw [← HSX.out] at hkx h0
    have HDD := hide hD
    have HBW := hide hbw
    clear hlen hD hbw
    gi_wp2_with (first
      | (gi_at_mapUpdate; refine wpListIn_mapUpdate_own _ rfl _ _ _ 56 rfl 9 3 keyedS Tryz.underlying56 _ w.heap.size nn D rfl hown (by unfold maxLen; omega) _ _ _ rfl rfl hkx _ [] (plainElem_int Tryz.underlying3 (WalkArith.wf_i64 (by omega))) ?_; intro w1 hown1 hgrow1)
      | fail)
    have r6 : Rnd (fun k => k = w.heap.size) W' w1 := Rnd.grown hgrow1 (fun q e => by cases e; rfl)
    refine ⟨r6, HBW.out.trans (r6.below HBW.out.size (fun k hk => Nat.le_of_eq (Eq.symm hk))), r6.cell hcc (by show ¬ (w.heap.size + 1 = w.heap.size); omega), nn + 1, _, hown1, ?_, by simp; omega⟩
    have := HDD.out.put x.name 0
    rw [setN_zero] at this
    rw [metX_snoc]
    exact this
  case done =>
    rintro D5 xs W' hD5 rfl ⟨hbw, hcc, nn, D, hown, hD, hnn⟩ hdd
    have HBW := hide hbw
    have HCC := hide hcc
    have HOW := hide hown
    have HND := hide hD
    have HDD := hide hdd
    have hD6 : w.heap.size + 2 ≤ D5 := by have := HS4.out; have := HS2.out; omega
    have hn0 : nn ≤ 1000000000 := by omega
    clear hbw hcc hown hD hdd
    gi_wp2
    obtain ⟨N, HN⟩ : ∃ N, Hid (metX (upto (LA rs hs V) rs.length) = N) := ⟨_, (rfl : _ = _)⟩
    rw [HN.out] at HND HNH
    refine wpIn_loop (fun a' w' => ∃ (u12 u13 u14 : Value) (f : List UInt8 → Nat) (nk : Nat) (Dk : DataW Unit), Hid (w'.ownsMap Tryz.prog 9 (plainElem Tryz.prog 3) w.heap.size nk Dk) ∧ Hid (NumD Dk f N) ∧ Hid (∀ g, Sol rs g → ∀ x, f x ≤ g x) ∧ nk ≤ 1000000000 + sumH rs f * 200000000 ∧ Hid (Below w.heap.size w w') ∧ Hid (w'.cell? ⟨w.heap.size + 1, 0, none⟩ = some (.map (some w.heap.size))) ∧ Hid (w'.heap[D5]? = some (.deferred (some []))) ∧ a' = { tmps := #[.slice va rs.length vc, undef, .map none, .pointer (some ⟨w.heap.size + 1, 0, none⟩), undef, .map (some w.heap.size), .slice va rs.length vc, .func (.func 78) #[] #[.pointer (some ⟨W2.heap.size, 0, none⟩), .pointer (some ⟨W2.heap.size + 1, 0, none⟩)], undef, undef, undef, undef, u12, u13, u14, undef], defers := [{ target := Target.collected D5, args := #[] }] })
      (fun _ w' => sumH rs (rank rs) - sumH rs (numsOf w' w.heap.size)) ?start ?round
    case start => exact ⟨_, _, _, fun _ => 0, nn, D, HOW, HND, (fun _ _ _ => Nat.zero_le _), by omega, HBW, HCC, HDD, rfl⟩
    case round =>
      rintro a' wr ⟨u12, u13, u14, f, nk, Dk, HOK, HNK, HLK, hnk, HBK, HCK, HDK, rfl⟩
      have HSF : Hid (sumH rs f ≤ sumH rs (rank rs)) := sumH_le (HLK.out _ HSO.out) rs
      have hnk2 : nk ≤ 10000000000000000 := by have := HSF.out; have := HSB.out; omega
      have HCA := hide (raise_any base w.heap.size nk Dk f (rank rs) N v rs hs bs V wr HOK.out HNK.out (HRL.out.kept (below_none HBK.out) (fun g e => by cases e)) (fun i r u h1 h2 => (HVV.out i r u h1 h2).kept (below_none HBK.out) (fun g e => by cases e)) HSO.out (HLK.out _ HSO.out) (fun x => by have := HRB.out x; omega) HNH.out (by omega) hnk2 (fun r hr => ⟨by have := (HWR.out r hr).1; omega, (HWR.out r hr).2.1, (HWR.out r hr).2.2⟩))
      rw [hvv] at HCA
      have cx := HCK.out
      gi_wp2_with fail
      refine ⟨trivial, fun h => (by cases h), ?_⟩
      refine (callsIn_wide.2 HCA.out).mono ?_
      rintro e w1 ⟨rfl, ⟨nn', D', hown1, hD1, hnn1⟩, hr1⟩
      have HO1 := hide hown1
      have HN1 := hide hD1
      have HB1 : Hid (Below w.heap.size w w1) := HBK.out.trans (hr1.below HBK.out.size (fun k hk => Nat.le_of_eq (Eq.symm hk)))
      have HC1 : Hid (w1.cell? ⟨w.heap.size + 1, 0, none⟩ = some (.map (some w.heap.size))) := hr1.cell HCK.out (by show ¬ (w.heap.size + 1 = w.heap.size); omega)
      have HD1 : Hid (w1.heap[D5]? = some (.deferred (some []))) := (hr1.block D5 (Array.getElem?_eq_some_iff.1 HDK.out).1 (by show ¬ (D5 = w.heap.size); omega)).trans HDK.out
      have HU1 : Hid (∀ g, Sol rs g → ∀ x, (liftR rs (f, false)).1 x ≤ g x) := fun g hg => liftR_under rs (f, false) hg (HLK.out g hg)
      clear hown1 hD1 hr1 HCA cx
      cases hm : (liftR rs (f, false)).2 with
      | true =>
        have HLT : Hid (sumH rs f < sumH rs (liftR rs (f, false)).1) := liftR_sum rs f hm
        have HSU : Hid (sumH rs (liftR rs (f, false)).1 ≤ sumH rs (rank rs)) := sumH_le (HU1.out _ HSO.out) rs
        have HE0 : Hid (numsOf wr w.heap.size = f) := numsOf_is HOK.out HNK.out
        have HE1 : Hid (numsOf w1 w.heap.size = (liftR rs (f, false)).1) := numsOf_is HO1.out HN1.out
        obtain ⟨f1, HF1⟩ : ∃ f1, Hid ((liftR rs (f, false)).1 = f1) := ⟨_, (rfl : _ = _)⟩
        rw [HF1.out] at HN1 HU1 HLT HSU HE1
        have hn1 : nn' ≤ 1000000000 + sumH rs f1 * 200000000 := by have := HLT.out; omega
        clear HF1
        gi_wp2
        exact ⟨⟨_, _, _, f1, nn', D', HO1, HN1, HU1, hn1, HB1, HC1, HD1, rfl⟩, by rw [HE0.out, HE1.out]; have := HLT.out; have := HSU.out; omega⟩
      | false =>
        obtain ⟨hs1, hs2⟩ := liftR_still rs f hm
        have HEQ : Hid (f = levelsF rs) := Least.unique ⟨hs2, HLK.out⟩ HLE.out
        rw [hs1, HEQ.out] at HN1
        clear hs1 hs2
        have cx := HC1.out
        gi_wp2
        refine ⟨by simp, .inl ⟨_, _, rfl, run_takeDeferred HD1.out, ?_⟩⟩
        exact ⟨_, results_tmp rfl _ _ _, rfl, ⟨nn', D', mapAt HO1.out (World.putObj_heap_other (by omega)), by rw [HN.out]; exact HN1.out⟩, HB1.out.trans (below_put (by omega))⟩
  case stop =>
    rintro D5 c pre W' hD5 hpre h hdd
    exact h.elim
end Go.Proofs.YtgllfcoafgphbaaGreatDoor
