import Derived.Test.YtgllfcoafgphbaaGreatDoorM32
import Derived.Test.YtgllfcoafgphbaaGreatDoorM24
import Derived.Test.YtgllfcoafgphbaaGreatDoorM28
/-
  The program's errors, told.
-/
namespace Go.Proofs.YtgllfcoafgphbaaGreatDoor
open Go.ChangeShapes Go.WideShapes Go.ChangeAt Go.RowKit
set_option linter.unusedVariables false
/-- the errors' own blocks -/
structure ErrB (w : World) (L T M : Addr) : Prop where
  l : ∃ c t, w.heap[L.block]? = some (.cells c t (0, 0))
  t : ∃ c t, w.heap[T.block]? = some (.cells c t (0, 0))
  m : ∃ c t, w.heap[M.block]? = some (.cells c t (0, 0))
theorem blk_kept {w w' : World} {a : Addr} {row : Option Nat} (h : ∃ c t, w.heap[a.block]? = some (.cells c t (0, 0))) (hg : w.grownBy w' row) (hne : some a.block ≠ row) : ∃ c t, w'.heap[a.block]? = some (.cells c t (0, 0)) := by
  obtain ⟨c, t, h⟩ := h
  exact ⟨c, t, by rw [hg.block _ (Array.getElem?_eq_some_iff.1 h).1 hne]; exact h⟩
theorem ErrB.fresh {w w' : World} {L T M : Addr} (h : ErrB w L T M) (hg : w.grownBy w' none) : ErrB w' L T M := ⟨blk_kept h.l hg (by simp), blk_kept h.t hg (by simp), blk_kept h.m hg (by simp)⟩
theorem blk_lt {w : World} {a : Addr} (h : ∃ c t, w.heap[a.block]? = some (.cells c t (0, 0))) : a.block < w.heap.size := by
  obtain ⟨c, t, h⟩ := h
  exact (Array.getElem?_eq_some_iff.1 h).1
theorem ErrB.set {w w' : World} {L T M : Addr} (h : ErrB w L T M) {N : Nat} {w0 : World} (h0 : ErrB w0 L T M) (hN : w0.heap.size ≤ N) (hg : w.grownBy w' (some N)) : ErrB w' L T M := by
  have a := blk_lt h0.l
  have b := blk_lt h0.t
  have c := blk_lt h0.m
  exact ⟨blk_kept h.l hg (by simp; omega), blk_kept h.t hg (by simp; omega), blk_kept h.m hg (by simp; omega)⟩
/-- an error's number, as it is told -/
def errN (e : Nat) : Nat := if e = 1 then 1 else if e = 7 then 7 else 2
/-- errors.Is of a placed error -/
theorem is_placed (a b : Addr) (x : Int) (w : World) (ha : ∃ c t, w.heap[a.block]? = some (.cells c t (0, 0))) (hb : ∃ c t, w.heap[b.block]? = some (.cells c t (0, 0))) :
    Calls Tryz.prog 93 #[.iface 158 (.agg #[.iface 250 (.pointer (some a)), .int .i64 x]), .iface 250 (.pointer (some b))] w fun e w' => e = .returned (.bool (decide (a = b))) ∧ w.grownBy w' none := by
  by_cases h : a = b
  · subst h
    refine (is_placed_same a x w).mono ?_
    rintro e w' ⟨rfl, g⟩
    exact ⟨by simp, g⟩
  · obtain ⟨ca, ta, ha⟩ := ha
    obtain ⟨cb, tb, hb⟩ := hb
    refine (is_placed_other a b x ca cb ta tb w h ha hb).mono ?_
    rintro e w' ⟨rfl, g⟩
    exact ⟨by simp [h], g⟩
set_option maxRecDepth 100000 in
set_option maxHeartbeats 2000000 in
theorem tell_nil (L T M : Addr) (w : World) (hE : Errs w L T M) :
    Calls Tryz.prog 57 #[.nilIface] w fun en w' => en = .returned (.tuple #[.int .i64 0, .int .i64 0]) ∧ w.grownBy w' none := by
  have HE := hide hE
  clear hE
  go_enter Tryz.func57, Tryz.ntmps57
  go_wp2_with fail
  generalize hw0 : World.alloc _ _ = w0
  have HE0 : Hid (Errs w0 L T M) := by rw [← hw0]; exact HE.out.fresh (fr_alloc _ _ _)
  have HN0 : Hid (w.grownBy w0 none) := by rw [← hw0]; exact fr_alloc _ _ _
  clear hw0
  refine (as_nil _ _).mono ?_
  rintro e w1 ⟨rfl, rfl⟩
  have g0 := HE0.out.gl
  have g1 := HE0.out.gt
  have g2 := HE0.out.gm
  go_wp2_with fail
  refine (is_nil L _).mono ?_
  rintro e w1 ⟨rfl, rfl⟩
  go_wp2_with fail
  refine (is_nil T _).mono ?_
  rintro e w1 ⟨rfl, rfl⟩
  go_wp2_with fail
  refine (is_nil M _).mono ?_
  rintro e w1 ⟨rfl, rfl⟩
  go_wp2
  go_ret2
  exact ⟨rfl, HN0.out⟩
set_option maxRecDepth 100000 in
set_option maxHeartbeats 2000000 in
theorem tell_long (L T M : Addr) (w : World) (hE : Errs w L T M) :
    Calls Tryz.prog 57 #[.iface 250 (.pointer (some L))] w fun en w' => en = .returned (.tuple #[.int .i64 1, .int .i64 0]) ∧ w.grownBy w' none := by
  have HE := hide hE
  clear hE
  go_enter Tryz.func57, Tryz.ntmps57
  go_wp2_with fail
  generalize hw0 : World.alloc _ _ = w0
  have HE0 : Hid (Errs w0 L T M) := by rw [← hw0]; exact HE.out.fresh (fr_alloc _ _ _)
  have HN0 : Hid (w.grownBy w0 none) := by rw [← hw0]; exact fr_alloc _ _ _
  clear hw0
  refine (as_miss L w.heap.size _ HE0.out.gh).mono ?_
  rintro e w1 ⟨rfl, hg⟩
  have HE1 : Hid (Errs w1 L T M) := HE0.out.fresh hg
  have HN1 : Hid (w.grownBy w1 none) := fr_both HN0.out hg
  clear hg
  have g0 := HE1.out.gl
  go_wp2_with fail
  refine (is_same L _).mono ?_
  rintro e w2 ⟨rfl, rfl⟩
  go_wp2
  go_ret2
  exact ⟨rfl, HN1.out⟩
set_option maxRecDepth 100000 in
set_option maxHeartbeats 4000000 in
theorem tell_err (L T M : Addr) (ec x : Nat) (w : World) (hE : Errs w L T M) (hB : ErrB w L T M) (hgt : gTop ≤ w.heap.size) :
    Calls Tryz.prog 57 #[errV L T M ec x] w fun en w' => en = .returned (.tuple #[.int .i64 (errN ec : Nat), .int .i64 (x : Nat)]) ∧ w.grownBy w' none := by
  have HE := hide hE
  have HB := hide hB
  obtain ⟨A, HA⟩ : ∃ A, Hid (errA L T M ec = A) := ⟨_, (rfl : _ = _)⟩
  have HAB : Hid (∀ w', ErrB w' L T M → ∃ c t, w'.heap[A.block]? = some (.cells c t (0, 0))) := by
    intro w' h
    rw [← HA.out]; unfold errA
    split
    · exact h.l
    · split
      · exact h.m
      · exact h.t
  have HCASE : Hid ((A = L ∧ errN ec = 1) ∨ (¬ A = L ∧ A = T ∧ errN ec = 2) ∨ (¬ A = L ∧ ¬ A = T ∧ A = M ∧ errN ec = 7)) := by
    have hh := HA.out
    have e1 := hE.lt
    have e2 := hE.lm
    have e3 := hE.tm
    show _ ∨ _
    unfold errA at hh
    unfold errN
    by_cases h1 : ec = 1
    · left; rw [if_pos h1] at hh ⊢; exact ⟨hh.symm, rfl⟩
    · rw [if_neg h1] at hh ⊢
      by_cases h7 : ec = 7
      · right; right
        rw [if_pos h7] at hh ⊢
        exact ⟨fun g => e2 (g.symm.trans hh.symm), fun g => e3 (g.symm.trans hh.symm), hh.symm, rfl⟩
      · right; left
        rw [if_neg h7] at hh ⊢
        exact ⟨fun g => e1 (g.symm.trans hh.symm), hh.symm, rfl⟩
  unfold errV
  rw [HA.out]
  clear hE hB
  go_enter Tryz.func57, Tryz.ntmps57
  go_wp2_with fail
  generalize hw0 : World.alloc _ _ = w0
  have HE0 : Hid (Errs w0 L T M) := by rw [← hw0]; exact HE.out.fresh (fr_alloc _ _ _)
  have HB0 : Hid (ErrB w0 L T M) := by rw [← hw0]; exact HB.out.fresh (fr_alloc _ _ _)
  have HX0 : Hid (Box w0 w.heap.size [.nilIface, .int .i64 0]) := by rw [← hw0]; exact Box.new _ _ _
  have HW0 := hide hw0.symm
  clear hw0
  refine (as_hit A x w.heap.size _ _ _ HE0.out.gh (HX0.out.c 0 _ rfl) (HX0.out.c 1 _ rfl) (HX0.out.f 0 _ rfl) (HX0.out.f 1 _ rfl)).mono ?_
  rintro e w1 ⟨rfl, hg, hx⟩
  have HE1 : Hid (Errs w1 L T M) := HE0.out.grown hg hgt
  have HB1 : Hid (ErrB w1 L T M) := HB0.out.set HB.out (Nat.le_refl _) hg
  have HN1 : Hid (w.grownBy w1 none) := fr_fresh rfl (by rw [← HW0.out]; exact hg)
  clear hg
  have g0 := HE1.out.gl
  go_wp2_with fail
  refine (is_placed A L x _ (HAB.out _ HB1.out) HB1.out.l).mono ?_
  rintro e w2 ⟨rfl, hg⟩
  have HE2 : Hid (Errs w2 L T M) := HE1.out.fresh hg
  have HB2 : Hid (ErrB w2 L T M) := HB1.out.fresh hg
  have HN2 : Hid (w.grownBy w2 none) := fr_both HN1.out hg
  clear hg g0 hx
  rcases HCASE.out with ⟨h1, hn⟩ | ⟨h1, h2, hn⟩ | ⟨h1, h2, h3, hn⟩
  · have HNN := hide hn
    rw [show decide (A = L) = true from by simp [h1]]
    clear h1 hn
    go_wp2
    go_ret2
    exact ⟨by rw [HNN.out]; rfl, HN2.out⟩
  · have HNN := hide hn
    rw [show decide (A = L) = false from by simp [h1]]
    have g1 := HE2.out.gt
    have HAT := hide h2
    clear h1 hn h2
    go_wp2_with fail
    refine (is_placed A T x _ (HAB.out _ HB2.out) HB2.out.t).mono ?_
    rintro e w3 ⟨rfl, hg⟩
    have HN3 : Hid (w.grownBy w3 none) := fr_both HN2.out hg
    clear hg g1
    rw [show decide (A = T) = true from by simp [HAT.out]]
    go_wp2
    go_ret2
    exact ⟨by rw [HNN.out]; rfl, HN3.out⟩
  · have HNN := hide hn
    rw [show decide (A = L) = false from by simp [h1]]
    have g1 := HE2.out.gt
    have HAT := hide h2
    have HAM := hide h3
    clear h1 hn h2 h3
    go_wp2_with fail
    refine (is_placed A T x _ (HAB.out _ HB2.out) HB2.out.t).mono ?_
    rintro e w3 ⟨rfl, hg⟩
    have HE3 : Hid (Errs w3 L T M) := HE2.out.fresh hg
    have HB3 : Hid (ErrB w3 L T M) := HB2.out.fresh hg
    have HN3 : Hid (w.grownBy w3 none) := fr_both HN2.out hg
    clear hg g1
    rw [show decide (A = T) = false from by simp [HAT.out]]
    have g2 := HE3.out.gm
    go_wp2_with fail
    refine (is_placed A M x _ (HAB.out _ HB3.out) HB3.out.m).mono ?_
    rintro e w4 ⟨rfl, hg⟩
    have HN4 : Hid (w.grownBy w4 none) := fr_both HN3.out hg
    clear hg g2
    rw [show decide (A = M) = true from by simp [HAM.out]]
    go_wp2
    go_ret2
    exact ⟨by rw [HNN.out]; rfl, HN4.out⟩
end Go.Proofs.YtgllfcoafgphbaaGreatDoor

/-
  The program's Query, whole.
-/
namespace Go.Proofs.YtgllfcoafgphbaaGreatDoor
open Go.ChangeShapes Go.WideShapes Go.ChangeAt Go.RowKit
set_option linter.unusedVariables false
theorem queryF_is (l : List UInt8) : queryF l = if 20000 < l.length then .error (1, 0) else queryP l (skipTo l 0) := rfl
/-- the errors are of three numbers -/
def Coded (e : Nat) : Prop := e = 1 ∨ e = 2 ∨ e = 7
theorem termF_code (l : List UInt8) (p : Nat) (e x : Nat) (h : termF l p = .error (e, x)) : Coded e := by
  unfold termF at h
  split at h
  · cases hg : strGo (l.drop (p + 1)) (p + 1) [] with
    | error er => rw [hg] at h; cases h; exact Or.inr (Or.inl (strGo_err _ _ _ _ _ _ (Nat.le_refl _) hg))
    | ok v =>
      obtain ⟨o, q⟩ := v
      rw [hg] at h
      simp only [] at h
      split at h
      · cases h; exact Or.inl rfl
      · cases h
  · split at h
    · cases h
    · cases h; exact Or.inr (Or.inl rfl)
theorem listF_code {α : Type} (bg : Nat → Bool) (one : Nat → Except PErr (α × Nat)) (go : Nat → Option Nat) (h1 : ∀ p e x, one p = .error (e, x) → Coded e) : ∀ (n p e x : Nat), listF bg one go n p = .error (e, x) → Coded e := by
  intro n
  induction n with
  | zero => intro p e x h; unfold listF at h; split at h <;> cases h; exact Or.inr (Or.inr rfl); exact Or.inr (Or.inl rfl)
  | succ n ih =>
    intro p e x h
    unfold listF at h
    split at h
    · cases ho : one p with
      | error er => rw [ho] at h; cases h; exact h1 p e x ho
      | ok v =>
        obtain ⟨y, q⟩ := v
        rw [ho] at h
        simp only [] at h
        cases hg : go q with
        | none => rw [hg] at h; cases h
        | some r =>
          rw [hg] at h
          simp only [] at h
          cases hl : listF bg one go n r with
          | error er => rw [hl] at h; cases h; exact ih r e x hl
          | ok v => obtain ⟨ys, r2⟩ := v; rw [hl] at h; cases h
    · cases h; exact Or.inr (Or.inl rfl)
theorem atomF_code (l : List UInt8) (p e x : Nat) (h : atomF l p = .error (e, x)) : Coded e := by
  rw [atomF_is] at h
  split at h
  · unfold restF at h
    cases h1 : signF l [40] (skipTo l (p + (wordAt l p).length)) with
    | none => rw [h1] at h; cases h
    | some q =>
      rw [h1] at h
      simp only [] at h
      cases h2 : listF (atTermB l) (termF l) (signF l [44]) 8 q with
      | error er => rw [h2] at h; cases h; exact listF_code _ _ _ (fun p e x h => termF_code l p e x h) _ _ _ _ h2
      | ok v =>
        obtain ⟨xs, r⟩ := v
        rw [h2] at h
        simp only [] at h
        cases h3 : signF l [41] r with
        | none => rw [h3] at h; cases h; exact Or.inr (Or.inl rfl)
        | some r2 => rw [h3] at h; cases h
  · cases h; exact Or.inr (Or.inl rfl)
theorem compP_code (l : List UInt8) (p e x : Nat) (h : compP l p = .error (e, x)) : Coded e := by
  unfold compP at h
  cases h1 : termF l p with
  | error er => rw [h1] at h; cases h; exact termF_code l p e x h1
  | ok v =>
    obtain ⟨t, q⟩ := v
    rw [h1] at h
    simp only [] at h
    cases h2 : compF l q with
    | none => rw [h2] at h; cases h; exact Or.inr (Or.inl rfl)
    | some kq =>
      obtain ⟨k, r⟩ := kq
      rw [h2] at h
      simp only [] at h
      cases h3 : termF l r with
      | error er => rw [h3] at h; cases h; exact termF_code l r e x h3
      | ok v => obtain ⟨u, r2⟩ := v; rw [h3] at h; cases h
theorem partF_code (l : List UInt8) (p e x : Nat) (h : partF l p = .error (e, x)) : Coded e := by
  by_cases h1 : wordAt l p = [110, 111, 116]
  · rw [partF_nots _ _ h1] at h
    cases h2 : atomF l (skipTo l (p + 3)) with
    | error er => rw [h2] at h; cases h; exact atomF_code l _ e x h2
    | ok v => obtain ⟨a, q⟩ := v; rw [h2] at h; cases h
  · cases h3 : (atNameB l p && (compF l (skipTo l (p + (wordAt l p).length))).isNone) with
    | true =>
      rw [partF_atom _ _ h1 h3] at h
      cases h2 : atomF l p with
      | error er => rw [h2] at h; cases h; exact atomF_code l _ e x h2
      | ok v => obtain ⟨a, q⟩ := v; rw [h2] at h; cases h
    | false => rw [partF_cmp _ _ h1 h3] at h; exact compP_code l p e x h
theorem queryP_code (l : List UInt8) (p e x : Nat) (h : queryP l p = .error (e, x)) : Coded e := by
  unfold queryP at h
  cases h1 : partsF l p with
  | error er => rw [h1] at h; cases h; exact listF_code _ _ _ (fun p e x h => partF_code l p e x h) _ _ _ _ h1
  | ok v =>
    obtain ⟨ps, q⟩ := v
    rw [h1] at h
    simp only [] at h
    cases h2 : signF l [46] q with
    | none => rw [h2] at h; cases h; exact Or.inr (Or.inl rfl)
    | some r =>
      rw [h2] at h
      simp only [] at h
      split at h
      · cases h
      · cases h; exact Or.inr (Or.inl rfl)
theorem errN_coded {e : Nat} (h : Coded e) : errN e = e := by rcases h with rfl | rfl | rfl <;> rfl
/-- an answer of parts, or an error and its place -/
def PartsQ (base : Nat) (r : Except PErr (List PPart)) (en : Ending) (w : World) : Prop := match r with
  | .error (e, x) => en = .returned (.tuple #[.slice none 0 0, .int .i64 (e : Nat), .int .i64 (x : Nat)])
  | .ok ps => ∃ v vs, en = .returned (.tuple #[v, .int .i64 0, .int .i64 0]) ∧ PartsAt 76 164 base w v ps vs
end Go.Proofs.YtgllfcoafgphbaaGreatDoor

/-
  The program's Parse, whole.
-/
namespace Go.Proofs.YtgllfcoafgphbaaGreatDoor
open Go.ChangeShapes Go.WideShapes Go.ChangeAt Go.RowKit
set_option linter.unusedVariables false
/-- a program from a place on -/
def programP (l : List UInt8) (p : Nat) : Except PErr (List PRule) := if p = l.length then .ok [] else match listF (atNameB l) (ruleF l) (moreF l) 200 p with
  | .error e => .error e
  | .ok (rs, _) => .ok rs
theorem parseF_is (l : List UInt8) : parseF l = if 20000 < l.length then .error (1, 0) else programP l (skipTo l 0) := rfl
def ProgP (L T M : Addr) (base : Nat) (r : Except PErr (List PRule)) (en : Ending) (w' : World) : Prop := match r with
  | .error (e, x) => en = .returned (.tuple #[.slice none 0 0, errV L T M e x])
  | .ok rs => ∃ v hs bs, en = .returned (.tuple #[v, .nilIface]) ∧ RulesAt 76 164 112 base w' v rs hs bs
theorem ruleF_code (l : List UInt8) (p e x : Nat) (h : ruleF l p = .error (e, x)) : Coded e := by
  rw [ruleF_is] at h
  split at h
  · rename_i heq; cases h; exact atomF_code l p e x heq
  · split at h
    · rename_i heq
      cases h
      split at heq
      · cases heq
      · exact listF_code _ _ _ (fun p e x h => partF_code l p e x h) _ _ _ _ heq
    · split at h
      · cases h; exact Or.inr (Or.inl rfl)
      · cases h
theorem programP_code (l : List UInt8) (p e x : Nat) (h : programP l p = .error (e, x)) : Coded e := by
  unfold programP at h
  split at h
  · cases h
  · split at h
    · rename_i heq; cases h; exact listF_code _ _ _ (fun p e x h => ruleF_code l p e x h) _ _ _ _ heq
    · cases h
set_option maxRecDepth 100000 in
set_option maxHeartbeats 4000000 in
theorem pprogram_any (b : Nat) (s : ByteArray) (p : Nat) (L T M : Addr) (w : World) (h : Rd w b s p) (hE : Errs w L T M) (hb : gTop ≤ b) (hp : p ≤ s.size) (hs : s.size ≤ 1073741824) :
    Calls Tryz.prog 56 #[.pointer (some ⟨b, 0, none⟩)] w fun en w' => ProgP L T M w.heap.size (programP s.data.toList p) en w' ∧ w.grownBy w' (some b) := by
  have hl0 : s.data.toList.length = s.size := by simp
  obtain ⟨Q, HQ⟩ : ∃ Q, Hid (programP s.data.toList p = Q) := ⟨_, (rfl : _ = _)⟩
  rw [HQ.out]
  unfold programP at HQ
  rw [hl0] at HQ
  clear hl0
  have HR := hide h
  have HE := hide hE
  clear h hE
  go_enter Tryz.func56, Tryz.ntmps56
  go_wp2_with fail
  refine (pended_any b s p _ HR.out).mono ?_
  rintro e w1 ⟨rfl, n1, rfl⟩
  have HG1 : Hid (w.grownBy (w.drewN n1) (some b)) := fr_draws _ _ _
  have HE1 : Hid (Errs (w.drewN n1) L T M) := HE.out.drewN _
  have HR1 : Hid (Rd (w.drewN n1) b s p) := HR.out.drewN _
  have hz1 : w.heap.size ≤ (w.drewN n1).heap.size := Nat.le_refl _
  generalize w.drewN n1 = w1 at *
  clear HR HE
  by_cases hps : p = s.size
  · rw [if_pos hps] at HQ
    rw [show decide (p = s.size) = true from by simp [hps]]
    clear hps
    go_wp2
    go_ret2
    rw [← HQ.out]
    exact ⟨⟨_, [], [], rfl, RulesAt.nil _ _ _ _ _⟩, HG1.out⟩
  · rw [if_neg hps] at HQ
    rw [show decide (p = s.size) = false from by simp [hps]]
    clear hps
    have HL := hide (plistR_any b s p 200 L T M w1 HR1.out HE1.out hb hp hs (by omega))
    obtain ⟨F, HF⟩ : ∃ F, Hid (listF (atNameB s.data.toList) (ruleF s.data.toList) (moreF s.data.toList) 200 p = F) := ⟨_, (rfl : _ = _)⟩
    rw [HF.out] at HL HQ
    go_wp2_with fail
    refine HL.out.mono ?_
    rintro e w2 ⟨hl, HFR⟩
    have HG2 : Hid (w.grownBy w2 (some b)) := fr_both HG1.out HFR
    clear HFR HL
    cases F with
    | error er =>
      obtain ⟨ec, x⟩ := er
      have hl' : e = .returned (.tuple #[.slice none 0 0, errV L T M ec x]) := hl
      subst hl'
      have HQ2 : Hid (.error (ec, x) = Q) := HQ.out
      unfold errV
      go_wp2
      go_ret2
      rw [← HQ2.out]
      exact ⟨rfl, HG2.out⟩
    | ok v =>
      obtain ⟨rs, q⟩ := v
      obtain ⟨v, hs2, bs, rfl, hra, hrd⟩ := hl
      have HP := hide (hra.lower hz1)
      have HQ2 : Hid (.ok rs = Q) := HQ.out
      clear hra hrd
      go_wp2
      go_ret2
      rw [← HQ2.out]
      exact ⟨⟨v, hs2, bs, rfl, HP.out⟩, HG2.out⟩
set_option maxRecDepth 100000 in
set_option maxHeartbeats 4000000 in
theorem preadR_any (s : ByteArray) (L T M : Addr) (w : World) (hE : Errs w L T M) (hgt : gTop ≤ w.heap.size) :
    Calls Tryz.prog 55 #[.string s, .func (.func 56) #[] #[]] w fun en w' =>
      (if 20000 < s.size then en = .returned (.tuple #[.slice none 0 0, .iface 250 (.pointer (some L))]) else ProgP L T M w.heap.size (programP s.data.toList (skipTo s.data.toList 0)) en w') ∧ w.grownBy w' none := by
  have E1 : ∀ args w, (callFunc 56 args).run Tryz.prog w = .ok (.enter 56 args) w := enters_of Tryz.func56 (by kernel_rfl) rfl
  have HE := hide hE
  have g0 := hE.gl
  clear hE
  go_enter Tryz.func55, Tryz.ntmps55
  by_cases hl : 20000 < s.size
  · go_wp2_with fail
    go_quiet (fail)
    go_wp2
    go_ret2
    try rw [if_pos hl]
    exact ⟨rfl, fr_draws _ _ _⟩
  · have hl2 : s.size ≤ 20000 := by omega
    have hs : s.size ≤ 1073741824 := by omega
    have HL := hide hl
    clear hl g0
    go_wp2_with fail
    refine (pnewLexer_any s _ hs).mono ?_
    rintro e w1 ⟨rfl, hg⟩
    have HE1 : Hid (Errs w1 L T M) := HE.out.fresh hg
    have HN1 := hide hg
    have hz1 : w.heap.size ≤ w1.heap.size := hg.size
    clear hg
    obtain ⟨p, HP⟩ : ∃ p, Hid (skipTo s.data.toList 0 = p) := ⟨_, (rfl : _ = _)⟩
    have hp : p ≤ s.size := by rw [← HP.out]; exact skip_le s 0 (Nat.zero_le _)
    rw [HP.out]
    go_wp2_with fail
    generalize hw2 : World.alloc _ _ = w2
    obtain ⟨b, HBB⟩ : ∃ b, Hid (w1.heap.size = b) := ⟨_, (rfl : _ = _)⟩
    have hb : gTop ≤ b := by rw [← HBB.out]; omega
    have HW2 := hide hw2.symm
    have HR2 : Hid (Rd w2 b s p) := by
      rw [← hw2]
      have hbx := Box.at w1 b [.string s, .int .i64 (p : Nat)] 151 HBB.out.symm
      exact ⟨hbx.c 0 _ rfl, hbx.c 1 _ rfl, hbx.f 1 _ rfl⟩
    have HE2 : Hid (Errs w2 L T M) := by rw [← hw2]; exact HE1.out.fresh (fr_alloc _ _ _)
    have hz2 : w1.heap.size < w2.heap.size := by rw [← hw2]; simp
    clear hw2
    rw [HBB.out]
    refine (pprogram_any b s p L T M _ HR2.out HE2.out hb hp hs).mono ?_
    rintro e w3 ⟨hq, hg⟩
    have HN3 : Hid (w.grownBy w3 none) := fr_both HN1.out (fr_fresh HBB.out (by rw [← HW2.out]; exact hg))
    clear hg
    obtain ⟨Q, HQ⟩ : ∃ Q, Hid (programP s.data.toList p = Q) := ⟨_, (rfl : _ = _)⟩
    rw [HQ.out] at hq
    cases Q with
    | error er =>
      obtain ⟨ec, x⟩ := er
      have hq' : e = .returned (.tuple #[.slice none 0 0, errV L T M ec x]) := hq
      subst hq'
      unfold errV
      go_wp2
      go_ret2
      try rw [if_neg HL.out]
      rw [HP.out, HQ.out]
      exact ⟨rfl, HN3.out⟩
    | ok ps =>
      obtain ⟨v, hs2, bs, rfl, hpa⟩ := hq
      have HPA := hide hpa
      clear hpa
      go_wp2
      go_ret2
      try rw [if_neg HL.out]
      rw [HP.out, HQ.out]
      exact ⟨⟨v, hs2, bs, rfl, HPA.out.lower (by omega)⟩, HN3.out⟩
/-- an answer of rules, or an error and its place -/
def RulesQ (base : Nat) (r : Except PErr (List PRule)) (en : Ending) (w : World) : Prop := match r with
  | .error (e, x) => en = .returned (.tuple #[.slice none 0 0, .int .i64 (e : Nat), .int .i64 (x : Nat)])
  | .ok rs => ∃ v hs bs, en = .returned (.tuple #[v, .int .i64 0, .int .i64 0]) ∧ RulesAt 76 164 112 base w v rs hs bs
set_option maxRecDepth 100000 in
set_option maxHeartbeats 4000000 in
theorem pParse_any (s : ByteArray) (L T M : Addr) (w : World) (hE : Errs w L T M) (hB : ErrB w L T M) (hgt : gTop ≤ w.heap.size) :
    Calls Tryz.prog 28 #[.string s] w fun en w' => RulesQ w.heap.size (parseF s.data.toList) en w' ∧ w.grownBy w' none := by
  have HE := hide hE
  have HB := hide hB
  have HRD := hide (preadR_any s L T M w hE hgt)
  have hl0 : s.data.toList.length = s.size := by simp
  have HQF := hide (parseF_is s.data.toList)
  rw [hl0] at HQF
  clear hE hB hl0
  go_enter Tryz.func28, Tryz.ntmps28
  go_wp2_with fail
  refine HRD.out.mono ?_
  rintro e w1 ⟨hq, hg⟩
  have HE1 : Hid (Errs w1 L T M) := HE.out.fresh hg
  have HB1 : Hid (ErrB w1 L T M) := HB.out.fresh hg
  have HN1 := hide hg
  have hz1 : gTop ≤ w1.heap.size := Nat.le_trans hgt hg.size
  clear hg HRD
  by_cases hl : 20000 < s.size
  · rw [if_pos hl] at hq HQF
    subst hq
    clear hl
    go_wp2_with fail
    refine (tell_long L T M _ HE1.out).mono ?_
    rintro e w2 ⟨rfl, hg⟩
    have HN2 : Hid (w.grownBy w2 none) := fr_both HN1.out hg
    clear hg
    go_wp2
    go_ret3
    rw [HQF.out]
    exact ⟨rfl, HN2.out⟩
  · rw [if_neg hl] at hq HQF
    clear hl
    obtain ⟨Q, HQ⟩ : ∃ Q, Hid (programP s.data.toList (skipTo s.data.toList 0) = Q) := ⟨_, (rfl : _ = _)⟩
    rw [HQ.out] at hq HQF
    cases Q with
    | error er =>
      obtain ⟨ec, x⟩ := er
      have hq' : e = .returned (.tuple #[.slice none 0 0, errV L T M ec x]) := hq
      subst hq'
      have HEN : Hid (errN ec = ec) := errN_coded (programP_code _ _ _ _ HQ.out)
      go_wp2_with fail
      refine (tell_err L T M ec x _ HE1.out HB1.out hz1).mono ?_
      rintro e w2 ⟨rfl, hg⟩
      have HN2 : Hid (w.grownBy w2 none) := fr_both HN1.out hg
      rw [HEN.out]
      clear hg
      go_wp2
      go_ret3
      rw [HQF.out]
      exact ⟨rfl, HN2.out⟩
    | ok ps =>
      obtain ⟨v, hs2, bs, rfl, hpa⟩ := hq
      have HPA := hide hpa
      clear hpa
      go_wp2_with fail
      refine (tell_nil L T M _ HE1.out).mono ?_
      rintro e w2 ⟨rfl, hg⟩
      have HN2 : Hid (w.grownBy w2 none) := fr_both HN1.out hg
      have HP2 : Hid (RulesAt 76 164 112 w.heap.size w2 v ps hs2 bs) := HPA.out.kept hg (fun g hg => by cases hg)
      clear hg
      go_wp2
      go_ret3
      rw [HQF.out]
      exact ⟨⟨v, hs2, bs, rfl, HP2.out⟩, HN2.out⟩
end Go.Proofs.YtgllfcoafgphbaaGreatDoor

/-
  The program's check.checked and check.Check, walked.
-/
namespace Go.Proofs.YtgllfcoafgphbaaGreatDoor
open Go.ChangeShapes Go.WideShapes Go.ChangeAt Go.RowKit Go.Hands
set_option linter.unusedVariables false
attribute [local go_sem] Oper.semAt_some
section
variable (base : Nat) (v : Value) (rs : List PRule) (hs bs : List Value) (V : Nat → List Value) (w0 w : World)
/-- first(misfits(rules)) -/
theorem mis_hands_any (hw0 : Rnd (fun _ => False) w0 w) (hrules : RulesAt 76 164 112 base w0 v rs hs bs)
    (hV : ∀ (i : Nat) (r : PRule) (u : Value), rs[i]? = some r → bs[i]? = some u → PartsAt 76 164 base w0 u r.body (V i)) (hVl : ∀ (i : Nat) (r : PRule), rs[i]? = some r → (V i).length = r.body.length) (hrl : rs.length ≤ 200) (hwf : ∀ r ∈ rs, WfR r) (m : Nat) :
    Hands Fence.wide m Tryz.prog 58 #[.pointer (some ⟨w.heap.size, 0, none⟩)] (fun x : BX => #[x.atomV]) (fun _ => False) (fun ys => ys = (misX (upto (LA rs hs V) rs.length)).2) (fun pre => pre <+: (misX (upto (LA rs hs V) rs.length)).2) (w.alloc (.cells #[v] 52)) := by
  obtain ⟨b1, b2⟩ := LA_bounds rs hs V hrules.lh hVl hrl hwf
  exact Hands.any (misfits_hands 30 base w.heap.size v rs hs bs V w0 _ (hw0.alloc _) (by rw [World.cell?_alloc_at _ _ _ _ rfl]; rfl) hrules hV (wf_tame hrl hwf) b1 b2 (by omega)) m
def unbI (rs : List PRule) (i : Nat) : List PTerm := match rs[i]? with
  | some r => unbL r.head.args r.body
  | none => []
/-- first(walk.Each(rules, walk.Unbound)) -/
theorem unb_hands_any (hw0 : Rnd (fun _ => False) w0 w) (hrules : RulesAt 76 164 112 base w0 v rs hs bs)
    (hV : ∀ (i : Nat) (r : PRule) (u : Value), rs[i]? = some r → bs[i]? = some u → PartsAt 76 164 base w0 u r.body (V i)) (hrl : rs.length ≤ 200) (hwf : ∀ r ∈ rs, WfR r) (m : Nat) :
    Hands Fence.wide m Tryz.prog 59 #[.pointer (some ⟨w.heap.size, 0, none⟩), .pointer (some ⟨w.heap.size + 1, 0, none⟩)] (fun x : PTerm => #[aggT x]) (fun _ => False) (fun ys => ys = upto (unbI rs) rs.length) (fun pre => pre <+: upto (unbI rs) rs.length) ((w.alloc (.cells #[v] 52)).alloc (.cells #[.func (.func 33) #[] #[]] 82)) := by
  obtain ⟨W4, HW4⟩ : ∃ W4, W4 = (w.alloc (.cells #[v] 52)).alloc (.cells #[.func (.func 33) #[] #[]] 82) := ⟨_, rfl⟩
  have hR : Rnd (fun _ => False) w0 W4 := by rw [HW4]; exact (hw0.alloc _).alloc _
  have b4 : W4.cell? ⟨w.heap.size, 0, none⟩ = some v := by
    rw [HW4]
    have h1 : Rnd (fun _ => False) (w.alloc (.cells #[v] 52)) ((w.alloc (.cells #[v] 52)).alloc (.cells #[.func (.func 33) #[] #[]] 82)) := (Rnd.refl _ _).alloc _
    exact h1.cell (by rw [World.cell?_alloc_at _ _ _ _ rfl]; rfl) (fun h => h)
  have o4 : W4.cell? ⟨w.heap.size + 1, 0, none⟩ = some (.func (.func 33) #[] #[]) := by
    rw [HW4, World.cell?_alloc_at _ _ _ _ (by simp)]; rfl
  rw [← HW4]
  refine Hands.any (eachT_hands 30 base w.heap.size (w.heap.size + 1) w0.heap.size 33 #[] v rs hs bs (fun _ => False) w0 W4 (unbI rs) hR b4 o4 hrules (fun g hg => own_lt hrules.own hg) (fun _ h => h.elim) (by omega) (by omega) (enters_of Tryz.func33 (by kernel_rfl) rfl) ?_) m
  intro i r aa ac ba bc W hr ha hb hW
  have hmem : r ∈ rs := List.mem_of_getElem? hr
  obtain ⟨hwa, hwb, hwp⟩ := hwf r hmem
  have hL : unbI rs i = unbL r.head.args r.body := by unfold unbI; rw [hr]
  refine (unbound_any (str r.head.name) aa r.head.args.length ac (r.head.place : Nat) ba r.body.length bc W).mono ?_
  rintro e W' ⟨rfl, rfl⟩
  refine ⟨_, _, rfl, (Rnd.refl _ _).alloc _, enters_of Tryz.func60 (by kernel_rfl) rfl, fun m => ?_⟩
  rw [hL]
  obtain ⟨c1, c2⟩ := wants_bounds r.head.args (fun t ht => wfT_len (hwa.2.2 t ht)) r.body hwp
  have hal := hwa.2.1
  refine Hands.any (unbound_hands 30 base W.heap.size r.head.name aa ac r.head.place r.head.args (.slice ba r.body.length bc) r.body (V i) w0 _ (hR.trans (hW.alloc _)) ⟨?_, ?_, ?_, ?_⟩ (hrules.heads i r _ hr ha) (hV i r _ hr hb) (by omega) (by omega) (fun p hp => ?_) (fun t ht => by have := c2 t ht; omega) (by omega) (by omega)) m
  · rw [World.cell?_alloc_at _ _ _ _ rfl]; rfl
  · rw [World.cell?_alloc_at _ _ _ _ rfl]; rfl
  · rw [World.cell?_alloc_at _ _ _ _ rfl]; rfl
  · rw [World.cell?_alloc_at _ _ _ _ rfl]; rfl
  · obtain ⟨d1, d2, d3, d4, d5⟩ := wfP_len (hwp p hp)
    exact ⟨by omega, by omega, fun t ht => by have := d4 t ht; omega⟩
end
theorem below_ofNone {w w' : World} (h : w.grownBy w' none) : Below w.heap.size w w' := ⟨h.os, h.tape, h.output, h.size, fun k hk => h.block k hk (by simp)⟩
theorem firstA_nil {L : List BX} (h : L.head? = none) : firstA L = .tuple #[.agg #[.string ⟨#[]⟩, .slice none 0 0, .int .i64 0], .bool false] := by
  cases L with
  | nil => rfl
  | cons x l => simp at h
theorem rnd_drewN {M : Nat → Prop} {A B : World} (h : Rnd M A B) (n : Nat) : Rnd M A (B.drewN n) := ⟨h.os, h.tape, h.output, h.size, h.block⟩
theorem firstA_cons {L : List BX} {pl : Nat} (h : L.head?.map (·.place) = some pl) : ∃ n a k c, firstA L = .tuple #[.agg #[.string n, .slice a k c, .int .i64 (pl : Nat)], .bool true] := by
  cases L with
  | nil => simp at h
  | cons x l =>
    simp at h
    subst h
    exact ⟨_, _, _, _, rfl⟩
theorem firstT_nil {L : List PTerm} (h : L.head? = none) : firstT L = .tuple #[.agg #[.bool false, .string ⟨#[]⟩, .int .i64 0], .bool false] := by
  cases L with
  | nil => rfl
  | cons x l => simp at h
theorem firstT_cons {L : List PTerm} {t : PTerm} (h : L.head? = some t) : firstT L = .tuple #[.agg #[.bool t.isVar, .string (str t.text), .int .i64 (t.place : Nat)], .bool true] := by
  cases L with
  | nil => simp at h
  | cons x l =>
    simp at h
    subst h; rfl
set_option maxRecDepth 100000 in
set_option maxHeartbeats 4000000 in
theorem checked_any (s : ByteArray) (L T M : Addr) (w : World) (hE : Errs w L T M) (hB : ErrB w L T M) (hgt : gTop ≤ w.heap.size) :
    Calls Tryz.prog 17 #[.string s] w fun en w' => RulesQ w.heap.size (checkF s.data.toList) en w' ∧ Below w.heap.size w w' := by
  have HRD := hide (pParse_any s L T M w hE hB hgt)
  obtain ⟨Q, HQ⟩ : ∃ Q, Hid (parseF s.data.toList = Q) := ⟨_, (rfl : _ = _)⟩
  rw [HQ.out] at HRD
  obtain ⟨R, HT⟩ : ∃ R, Hid (checkF s.data.toList = R) := ⟨_, (rfl : _ = _)⟩
  rw [HT.out]
  clear hE hB
  go_enter Tryz.func17, Tryz.ntmps17
  go_wp2_with fail
  refine HRD.out.mono ?_
  rintro e w1 ⟨hq, hg⟩
  have HB1 : Hid (Below w.heap.size w w1) := below_ofNone hg
  clear hg HRD
  cases Q with
  | error er =>
    obtain ⟨ec, x⟩ := er
    have hq' : e = .returned (.tuple #[.slice none 0 0, .int .i64 (ec : Nat), .int .i64 (x : Nat)]) := hq
    subst hq'
    have hne : (((ec : Nat) : Int) != 0) = true := by
      rw [bne_iff_ne]
      have := parse_err0 s ec x HQ.out
      omega
    have HR : Hid (R = .error (ec, x)) := by show _ = _; rw [← HT.out]; unfold checkF; rw [HQ.out]
    clear hq
    go_wp2
    go_ret3
    rw [HR.out]
    exact ⟨rfl, HB1.out⟩
  | ok rs =>
    obtain ⟨v, hs, bs, rfl, hra⟩ := hq
    have HRA := hide hra
    obtain ⟨V, hV, hVl⟩ := rules_V hra
    have HV := hide hV
    have HVL := hide hVl
    obtain ⟨va, vc, hv⟩ := own_form hra.own
    clear hra hV hVl
    have hwf := parseF_wf _ _ HQ.out
    have hrl := hwf.1
    have HWF := hide hwf.2
    have HFR : Hid (R = followR rs) := by show _ = _; rw [← HT.out]; exact checkF_ok HQ.out
    have HMF := hide (mis_first rs hs V HRA.out.lh HVL.out)
    have HUF := hide (unb_first rs (unbI rs) (fun i r hr => by unfold unbI; rw [hr]))
    have HGF := hide (ring_first rs V HVL.out)
    have HMH : Hid (∀ wx, Rnd (fun _ => False) w1 wx → Calls Tryz.prog 29 #[.func (.func 58) #[] #[.pointer (some ⟨wx.heap.size, 0, none⟩)]] (wx.alloc (.cells #[v] 52)) fun e w' => e = .returned (firstA (misX (upto (LA rs hs V) rs.length)).2) ∧ Below (wx.alloc (.cells #[v] 52)).heap.size (wx.alloc (.cells #[v] 52)) w') := fun wx hx =>
      first_any _ _ _ _ (enters_of Tryz.func58 (by kernel_rfl) rfl) (fun m => mis_hands_any w.heap.size v rs hs bs V w1 wx hx HRA.out HV.out HVL.out hrl HWF.out m)
    have HUH : Hid (∀ wx, Rnd (fun _ => False) w1 wx → Calls Tryz.prog 31 #[.func (.func 59) #[] #[.pointer (some ⟨wx.heap.size, 0, none⟩), .pointer (some ⟨wx.heap.size + 1, 0, none⟩)]] ((wx.alloc (.cells #[v] 52)).alloc (.cells #[.func (.func 33) #[] #[]] 82)) fun e w' => e = .returned (firstT (upto (unbI rs) rs.length)) ∧ Below (wx.heap.size + 2) ((wx.alloc (.cells #[v] 52)).alloc (.cells #[.func (.func 33) #[] #[]] 82)) w') := fun wx hx => by
      have := firstT_any _ _ _ _ (enters_of Tryz.func59 (by kernel_rfl) rfl) (fun m => unb_hands_any w.heap.size v rs hs bs V w1 wx hx HRA.out HV.out hrl HWF.out m)
      simpa using this
    have HCH : Hid (∀ wx, Rnd (fun _ => False) w1 wx → Calls Tryz.prog 34 #[v] wx fun e w' => (∃ (lb : Array Value), e = .returned (.func (.func 78) #[] lb) ∧ ∀ m, Hands Fence.wide m Tryz.prog 78 lb (fun x : BX => #[x.atomV]) (fun _ => False) (fun ys => ys = upto (ringL rs V) rs.length) (fun pre => pre <+: upto (ringL rs V) rs.length) w') ∧ Below wx.heap.size wx w') := fun wx hx =>
      circular_any w.heap.size v rs hs bs V wx (HRA.out.kept (rnd_none hx) (fun g e => by cases e)) (fun i r u h1 h2 => (HV.out i r u h1 h2).kept (rnd_none hx) (fun g e => by cases e)) (by omega) (wf_ring HWF.out)
    subst hv
    obtain ⟨LM, HLM⟩ : ∃ LM, Hid ((misX (upto (LA rs hs V) rs.length)).2 = LM) := ⟨_, (rfl : _ = _)⟩
    obtain ⟨LU, HLU⟩ : ∃ LU, Hid (upto (unbI rs) rs.length = LU) := ⟨_, (rfl : _ = _)⟩
    obtain ⟨LR, HLR⟩ : ∃ LR, Hid (upto (ringL rs V) rs.length = LR) := ⟨_, (rfl : _ = _)⟩
    rw [HLM.out] at HMF HMH
    rw [HLU.out] at HUF HUH
    rw [HLR.out] at HGF HCH
    obtain ⟨N, HN⟩ : ∃ N, Hid (rs.length = N) := ⟨_, (rfl : _ = _)⟩
    rw [HN.out] at HMH HUH HCH ⊢
    clear hwf
    go_wp2_with fail
    refine (misfits_any va N vc w1).mono ?_
    rintro e w2 ⟨rfl, hw2⟩
    have HM1 := hide (HMH.out w1 (Rnd.refl _ _))
    rw [← hw2] at HM1
    have HR2 : Hid (Rnd (fun _ => False) w1 w2) := by rw [hw2]; exact (Rnd.refl _ _).alloc _
    clear hw2
    go_wp2_with fail
    refine HM1.out.mono ?_
    rintro e w3 ⟨rfl, hb3⟩
    have HR3 : Hid (Rnd (fun _ => False) w1 w3) := HR2.out.trans (Rnd.of_below hb3)
    clear hb3 HM1
    cases ho1 : arityF rs with
    | some a =>
      rw [ho1] at HMF
      obtain ⟨pl, HPL⟩ : ∃ pl, Hid (a.place = pl) := ⟨_, (rfl : _ = _)⟩
      have HR : Hid (R = .error (9, pl)) := by show _ = _; rw [HFR.out, ← HPL.out]; unfold followR; rw [ho1]
      obtain ⟨fn, fa, fk, fc, hfa⟩ := firstA_cons (pl := pl) (by rw [← HPL.out]; exact HMF.out)
      rw [hfa]
      go_wp2_with fail
      obtain ⟨wz, HWZ⟩ : ∃ wz, Hid (wz = w3.alloc (.cells #[.string fn, .slice fa fk fc, .int .i64 (pl : Nat)] 70)) := ⟨_, rfl⟩
      rw [← HWZ.out]
      have HRZ : Hid (Rnd (fun _ => False) w1 wz) := by rw [HWZ.out]; exact HR3.out.alloc _
      have cz : wz.cell? ⟨w3.heap.size, 2, none⟩ = some (.int .i64 (pl : Nat)) := by rw [HWZ.out, World.cell?_alloc_at _ _ _ _ rfl]; rfl
      clear HWZ
      go_quiet (fail)
      go_wp2
      go_ret3
      rw [HR.out]
      exact ⟨rfl, HB1.out.trans ((rnd_drewN HRZ.out _).below HB1.out.size (fun _ h => h.elim))⟩
    | none =>
      rw [ho1] at HMF
      have hnil : LM.head? = none := by have := HMF.out; simpa using this
      rw [firstA_nil hnil]
      go_wp2_with fail
      obtain ⟨w4, HW4⟩ : ∃ w4, Hid (w4 = w3.alloc (.cells #[.string ⟨#[]⟩, .slice none 0 0, .int .i64 0] 70)) := ⟨_, rfl⟩
      rw [← HW4.out]
      have HR4 : Hid (Rnd (fun _ => False) w1 w4) := by rw [HW4.out]; exact HR3.out.alloc _
      clear HW4
      refine (eachT_any _ va N vc 33 #[] w4 rfl).mono ?_
      rintro e w5 ⟨rfl, hw5⟩
      have HU1 := hide (HUH.out w4 HR4.out)
      rw [← hw5] at HU1
      have HR5 : Hid (Rnd (fun _ => False) w1 w5) := by rw [hw5]; exact (HR4.out.alloc _).alloc _
      have HS5 : Hid (w5.heap.size = w4.heap.size + 2) := by show _ = _; rw [hw5]; simp
      clear hw5
      go_wp2_with fail
      refine HU1.out.mono ?_
      rintro e w6 ⟨rfl, hb6⟩
      rw [← HS5.out] at hb6
      have HR6 : Hid (Rnd (fun _ => False) w1 w6) := HR5.out.trans (Rnd.of_below hb6)
      clear hb6 HU1
      cases ho2 : safeF rs with
      | some t =>
        rw [ho2] at HUF
        obtain ⟨pl, HPL⟩ : ∃ pl, Hid (t.place = pl) := ⟨_, (rfl : _ = _)⟩
        obtain ⟨tx, HTX⟩ : ∃ tx, Hid (str t.text = tx) := ⟨_, (rfl : _ = _)⟩
        obtain ⟨tv, HTV⟩ : ∃ tv, Hid (t.isVar = tv) := ⟨_, (rfl : _ = _)⟩
        have HR : Hid (R = .error (10, pl)) := by show _ = _; rw [HFR.out, ← HPL.out]; unfold followR; rw [ho1, ho2]
        rw [firstT_cons HUF.out, HPL.out, HTX.out, HTV.out]
        go_wp2_with fail
        obtain ⟨wz, HWZ⟩ : ∃ wz, Hid (wz = w6.alloc (.cells #[.bool tv, .string tx, .int .i64 (pl : Nat)] 76)) := ⟨_, rfl⟩
        rw [← HWZ.out]
        have HRZ : Hid (Rnd (fun _ => False) w1 wz) := by rw [HWZ.out]; exact HR6.out.alloc _
        have cz : wz.cell? ⟨w6.heap.size, 2, none⟩ = some (.int .i64 (pl : Nat)) := by rw [HWZ.out, World.cell?_alloc_at _ _ _ _ rfl]; rfl
        clear HWZ
        go_quiet (fail)
        go_wp2
        go_ret3
        rw [HR.out]
        exact ⟨rfl, HB1.out.trans ((rnd_drewN HRZ.out _).below HB1.out.size (fun _ h => h.elim))⟩
      | none =>
        rw [ho2] at HUF
        rw [firstT_nil HUF.out]
        go_wp2_with fail
        obtain ⟨w7, HW7⟩ : ∃ w7, Hid (w7 = w6.alloc (.cells #[.bool false, .string ⟨#[]⟩, .int .i64 0] 76)) := ⟨_, rfl⟩
        rw [← HW7.out]
        have HR7 : Hid (Rnd (fun _ => False) w1 w7) := by rw [HW7.out]; exact HR6.out.alloc _
        clear HW7
        refine (HCH.out w7 HR7.out).mono ?_
        rintro e w8 ⟨⟨lb, rfl, hH⟩, hb8⟩
        have HR8 : Hid (Rnd (fun _ => False) w1 w8) := HR7.out.trans (Rnd.of_below hb8)
        have HF8 := hide (first_any _ _ _ _ (enters_of Tryz.func78 (by kernel_rfl) rfl) hH)
        clear hH hb8
        go_wp2_with fail
        refine HF8.out.mono ?_
        rintro e w9 ⟨rfl, hb9⟩
        have HR9 : Hid (Rnd (fun _ => False) w1 w9) := HR8.out.trans (Rnd.of_below hb9)
        clear hb9 HF8
        cases ho3 : ringF rs with
        | some p =>
          rw [ho3] at HGF
          obtain ⟨pl, HPL⟩ : ∃ pl, Hid (p.atom.place = pl) := ⟨_, (rfl : _ = _)⟩
          have HR : Hid (R = .error (11, pl)) := by show _ = _; rw [HFR.out, ← HPL.out]; unfold followR; rw [ho1, ho2, ho3]
          obtain ⟨fn, fa, fk, fc, hfa⟩ := firstA_cons (pl := pl) (by rw [← HPL.out]; exact HGF.out)
          rw [hfa]
          go_wp2_with fail
          obtain ⟨wz, HWZ⟩ : ∃ wz, Hid (wz = w9.alloc (.cells #[.string fn, .slice fa fk fc, .int .i64 (pl : Nat)] 70)) := ⟨_, rfl⟩
          rw [← HWZ.out]
          have HRZ : Hid (Rnd (fun _ => False) w1 wz) := by rw [HWZ.out]; exact HR9.out.alloc _
          have cz : wz.cell? ⟨w9.heap.size, 2, none⟩ = some (.int .i64 (pl : Nat)) := by rw [HWZ.out, World.cell?_alloc_at _ _ _ _ rfl]; rfl
          clear HWZ
          go_quiet (fail)
          go_wp2
          go_ret3
          rw [HR.out]
          exact ⟨rfl, HB1.out.trans ((rnd_drewN HRZ.out _).below HB1.out.size (fun _ h => h.elim))⟩
        | none =>
          rw [ho3] at HGF
          have hnil3 : LR.head? = none := by have := HGF.out; simpa using this
          rw [firstA_nil hnil3]
          have HR : Hid (R = .ok rs) := by show _ = _; rw [HFR.out]; unfold followR; rw [ho1, ho2, ho3]
          have HB9 : Hid (∀ o, Below w.heap.size w (w9.alloc o)) := fun o => HB1.out.trans ((HR9.out.alloc o).below HB1.out.size (fun _ h => h.elim))
          have HRA9 : Hid (∀ o, RulesAt 76 164 112 w.heap.size (w9.alloc o) (.slice va N vc) rs hs bs) := fun o => by
            have := HRA.out.kept (rnd_none (HR9.out.alloc o)) (fun g e => by cases e)
            rwa [HN.out] at this
          go_wp2
          go_ret3
          rw [HR.out]
          exact ⟨⟨_, hs, bs, rfl, HRA9.out _⟩, HB9.out _⟩
theorem rulesQ_is {base : Nat} {r : Except PErr (List PRule)} {en : Ending} {w : World} (h : RulesQ base r en w) : ∃ v, en = .returned (.tuple #[v, .int .i64 (errOf r : Nat), .int .i64 (placeE r : Nat)]) := by
  cases r with
  | error er => obtain ⟨e, x⟩ := er; exact ⟨_, h⟩
  | ok rs => obtain ⟨v, hs, bs, h1, _⟩ := h; exact ⟨v, h1⟩
set_option maxRecDepth 100000 in
set_option maxHeartbeats 1000000 in
theorem check_any (s : ByteArray) (L T M : Addr) (w : World) (hE : Errs w L T M) (hB : ErrB w L T M) (hgt : gTop ≤ w.heap.size) :
    Calls Tryz.prog 8 #[.string s] w fun en w' => en = .returned (.tuple #[.int .i64 (errOf (checkF s.data.toList) : Nat), .int .i64 (placeE (checkF s.data.toList) : Nat)]) ∧ Below w.heap.size w w' := by
  have HRD := hide (checked_any s L T M w hE hB hgt)
  clear hE hB
  obtain ⟨e0, HE⟩ : ∃ e0, Hid (errOf (checkF s.data.toList) = e0) := ⟨_, (rfl : _ = _)⟩
  obtain ⟨x0, HX⟩ : ∃ x0, Hid (placeE (checkF s.data.toList) = x0) := ⟨_, (rfl : _ = _)⟩
  rw [HE.out, HX.out]
  go_enter Tryz.func8, Tryz.ntmps8
  go_wp2_with fail
  refine HRD.out.mono ?_
  rintro e w1 ⟨hq, hb⟩
  have HB := hide hb
  obtain ⟨v, rfl⟩ := rulesQ_is hq
  rw [HE.out, HX.out]
  clear hq hb HRD
  go_wp2
  go_ret2
  exact ⟨rfl, HB.out⟩
end Go.Proofs.YtgllfcoafgphbaaGreatDoor
