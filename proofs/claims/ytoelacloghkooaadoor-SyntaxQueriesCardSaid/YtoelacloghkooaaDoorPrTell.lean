/-
  The program's errors, told.
-/
import Derived.Test.YtoelacloghkooaaDoorPrAs
namespace Go.Proofs.YtoelacloghkooaaDoor
open Go.ChangeShapes Go.WideShapes Go.ChangeAt Go.RowKit
set_option linter.unusedVariables false
/-- the errors' own blocks -/
structure ErrB (w : World) (L T M : Addr) : Prop where
  l : ∃ c t, w.heap[L.block]? = some (.cells c t (0, 0))
  t : ∃ c t, w.heap[T.block]? = some (.cells c t (0, 0))
  m : ∃ c t, w.heap[M.block]? = some (.cells c t (0, 0))
theorem blk_kept {w w' : World} {a : Addr} {row : Option Nat} (h : ∃ c t, w.heap[a.block]? = some (.cells c t (0, 0))) (hg : w.grownBy w' row) (hne : some a.block ≠ row) : ∃ c t, w'.heap[a.block]? = some (.cells c t (0, 0)) := by
  obtain ⟨c, t, h⟩ := h
  exact ⟨c, t, by rw [hg.block _ (Array.getElem?_eq_some_iff.1 h).1 hne]; exact h⟩
theorem ErrB.fresh {w w' : World} {L T M : Addr} (h : ErrB w L T M) (hg : w.grownBy w' none) : ErrB w' L T M := ⟨blk_kept h.l hg (by simp), blk_kept h.t hg (by simp), blk_kept h.m hg (by simp)⟩
theorem blk_lt {w : World} {a : Addr} (h : ∃ c t, w.heap[a.block]? = some (.cells c t (0, 0))) : a.block < w.heap.size := by
  obtain ⟨c, t, h⟩ := h
  exact (Array.getElem?_eq_some_iff.1 h).1
theorem ErrB.set {w w' : World} {L T M : Addr} (h : ErrB w L T M) {N : Nat} {w0 : World} (h0 : ErrB w0 L T M) (hN : w0.heap.size ≤ N) (hg : w.grownBy w' (some N)) : ErrB w' L T M := by
  have a := blk_lt h0.l
  have b := blk_lt h0.t
  have c := blk_lt h0.m
  exact ⟨blk_kept h.l hg (by simp; omega), blk_kept h.t hg (by simp; omega), blk_kept h.m hg (by simp; omega)⟩
/-- an error's number, as it is told -/
def errN (e : Nat) : Nat := if e = 1 then 1 else if e = 7 then 7 else 2
/-- errors.Is of a placed error -/
theorem is_placed (a b : Addr) (x : Int) (w : World) (ha : ∃ c t, w.heap[a.block]? = some (.cells c t (0, 0))) (hb : ∃ c t, w.heap[b.block]? = some (.cells c t (0, 0))) :
    Calls Tryd.prog 32 #[.iface 91 (.agg #[.iface 160 (.pointer (some a)), .int .i64 x]), .iface 160 (.pointer (some b))] w fun e w' => e = .returned (.bool (decide (a = b))) ∧ w.grownBy w' none := by
  by_cases h : a = b
  · subst h
    refine (is_placed_same a x w).mono ?_
    rintro e w' ⟨rfl, g⟩
    exact ⟨by simp, g⟩
  · obtain ⟨ca, ta, ha⟩ := ha
    obtain ⟨cb, tb, hb⟩ := hb
    refine (is_placed_other a b x ca cb ta tb w h ha hb).mono ?_
    rintro e w' ⟨rfl, g⟩
    exact ⟨by simp [h], g⟩
set_option maxRecDepth 100000 in
set_option maxHeartbeats 2000000 in
theorem tell_nil (L T M : Addr) (w : World) (hE : Errs w L T M) :
    Calls Tryd.prog 14 #[.nilIface] w fun en w' => en = .returned (.tuple #[.int .i64 0, .int .i64 0]) ∧ w.grownBy w' none := by
  have HE := hide hE
  clear hE
  go_enter Tryd.func14, Tryd.ntmps14
  go_wp2_with fail
  generalize hw0 : World.alloc _ _ = w0
  have HE0 : Hid (Errs w0 L T M) := by rw [← hw0]; exact HE.out.fresh (fr_alloc _ _ _)
  have HN0 : Hid (w.grownBy w0 none) := by rw [← hw0]; exact fr_alloc _ _ _
  clear hw0
  refine (as_nil _ _).mono ?_
  rintro e w1 ⟨rfl, rfl⟩
  have g0 := HE0.out.gl
  have g1 := HE0.out.gt
  have g2 := HE0.out.gm
  go_wp2_with fail
  refine (is_nil L _).mono ?_
  rintro e w1 ⟨rfl, rfl⟩
  go_wp2_with fail
  refine (is_nil T _).mono ?_
  rintro e w1 ⟨rfl, rfl⟩
  go_wp2_with fail
  refine (is_nil M _).mono ?_
  rintro e w1 ⟨rfl, rfl⟩
  go_wp2
  go_ret2
  exact ⟨rfl, HN0.out⟩
set_option maxRecDepth 100000 in
set_option maxHeartbeats 2000000 in
theorem tell_long (L T M : Addr) (w : World) (hE : Errs w L T M) :
    Calls Tryd.prog 14 #[.iface 160 (.pointer (some L))] w fun en w' => en = .returned (.tuple #[.int .i64 1, .int .i64 0]) ∧ w.grownBy w' none := by
  have HE := hide hE
  clear hE
  go_enter Tryd.func14, Tryd.ntmps14
  go_wp2_with fail
  generalize hw0 : World.alloc _ _ = w0
  have HE0 : Hid (Errs w0 L T M) := by rw [← hw0]; exact HE.out.fresh (fr_alloc _ _ _)
  have HN0 : Hid (w.grownBy w0 none) := by rw [← hw0]; exact fr_alloc _ _ _
  clear hw0
  refine (as_miss L w.heap.size _ HE0.out.gh).mono ?_
  rintro e w1 ⟨rfl, hg⟩
  have HE1 : Hid (Errs w1 L T M) := HE0.out.fresh hg
  have HN1 : Hid (w.grownBy w1 none) := fr_both HN0.out hg
  clear hg
  have g0 := HE1.out.gl
  go_wp2_with fail
  refine (is_same L _).mono ?_
  rintro e w2 ⟨rfl, rfl⟩
  go_wp2
  go_ret2
  exact ⟨rfl, HN1.out⟩
set_option maxRecDepth 100000 in
set_option maxHeartbeats 4000000 in
theorem tell_err (L T M : Addr) (ec x : Nat) (w : World) (hE : Errs w L T M) (hB : ErrB w L T M) (hgt : gTop ≤ w.heap.size) :
    Calls Tryd.prog 14 #[errV L T M ec x] w fun en w' => en = .returned (.tuple #[.int .i64 (errN ec : Nat), .int .i64 (x : Nat)]) ∧ w.grownBy w' none := by
  have HE := hide hE
  have HB := hide hB
  obtain ⟨A, HA⟩ : ∃ A, Hid (errA L T M ec = A) := ⟨_, (rfl : _ = _)⟩
  have HAB : Hid (∀ w', ErrB w' L T M → ∃ c t, w'.heap[A.block]? = some (.cells c t (0, 0))) := by
    intro w' h
    rw [← HA.out]; unfold errA
    split
    · exact h.l
    · split
      · exact h.m
      · exact h.t
  have HCASE : Hid ((A = L ∧ errN ec = 1) ∨ (¬ A = L ∧ A = T ∧ errN ec = 2) ∨ (¬ A = L ∧ ¬ A = T ∧ A = M ∧ errN ec = 7)) := by
    have hh := HA.out
    have e1 := hE.lt
    have e2 := hE.lm
    have e3 := hE.tm
    show _ ∨ _
    unfold errA at hh
    unfold errN
    by_cases h1 : ec = 1
    · left; rw [if_pos h1] at hh ⊢; exact ⟨hh.symm, rfl⟩
    · rw [if_neg h1] at hh ⊢
      by_cases h7 : ec = 7
      · right; right
        rw [if_pos h7] at hh ⊢
        exact ⟨fun g => e2 (g.symm.trans hh.symm), fun g => e3 (g.symm.trans hh.symm), hh.symm, rfl⟩
      · right; left
        rw [if_neg h7] at hh ⊢
        exact ⟨fun g => e1 (g.symm.trans hh.symm), hh.symm, rfl⟩
  unfold errV
  rw [HA.out]
  clear hE hB
  go_enter Tryd.func14, Tryd.ntmps14
  go_wp2_with fail
  generalize hw0 : World.alloc _ _ = w0
  have HE0 : Hid (Errs w0 L T M) := by rw [← hw0]; exact HE.out.fresh (fr_alloc _ _ _)
  have HB0 : Hid (ErrB w0 L T M) := by rw [← hw0]; exact HB.out.fresh (fr_alloc _ _ _)
  have HX0 : Hid (Box w0 w.heap.size [.nilIface, .int .i64 0]) := by rw [← hw0]; exact Box.new _ _ _
  have HW0 := hide hw0.symm
  clear hw0
  refine (as_hit A x w.heap.size _ _ _ HE0.out.gh (HX0.out.c 0 _ rfl) (HX0.out.c 1 _ rfl) (HX0.out.f 0 _ rfl) (HX0.out.f 1 _ rfl)).mono ?_
  rintro e w1 ⟨rfl, hg, hx⟩
  have HE1 : Hid (Errs w1 L T M) := HE0.out.grown hg hgt
  have HB1 : Hid (ErrB w1 L T M) := HB0.out.set HB.out (Nat.le_refl _) hg
  have HN1 : Hid (w.grownBy w1 none) := fr_fresh rfl (by rw [← HW0.out]; exact hg)
  clear hg
  have g0 := HE1.out.gl
  go_wp2_with fail
  refine (is_placed A L x _ (HAB.out _ HB1.out) HB1.out.l).mono ?_
  rintro e w2 ⟨rfl, hg⟩
  have HE2 : Hid (Errs w2 L T M) := HE1.out.fresh hg
  have HB2 : Hid (ErrB w2 L T M) := HB1.out.fresh hg
  have HN2 : Hid (w.grownBy w2 none) := fr_both HN1.out hg
  clear hg g0 hx
  rcases HCASE.out with ⟨h1, hn⟩ | ⟨h1, h2, hn⟩ | ⟨h1, h2, h3, hn⟩
  · have HNN := hide hn
    rw [show decide (A = L) = true from by simp [h1]]
    clear h1 hn
    go_wp2
    go_ret2
    exact ⟨by rw [HNN.out]; rfl, HN2.out⟩
  · have HNN := hide hn
    rw [show decide (A = L) = false from by simp [h1]]
    have g1 := HE2.out.gt
    have HAT := hide h2
    clear h1 hn h2
    go_wp2_with fail
    refine (is_placed A T x _ (HAB.out _ HB2.out) HB2.out.t).mono ?_
    rintro e w3 ⟨rfl, hg⟩
    have HN3 : Hid (w.grownBy w3 none) := fr_both HN2.out hg
    clear hg g1
    rw [show decide (A = T) = true from by simp [HAT.out]]
    go_wp2
    go_ret2
    exact ⟨by rw [HNN.out]; rfl, HN3.out⟩
  · have HNN := hide hn
    rw [show decide (A = L) = false from by simp [h1]]
    have g1 := HE2.out.gt
    have HAT := hide h2
    have HAM := hide h3
    clear h1 hn h2 h3
    go_wp2_with fail
    refine (is_placed A T x _ (HAB.out _ HB2.out) HB2.out.t).mono ?_
    rintro e w3 ⟨rfl, hg⟩
    have HE3 : Hid (Errs w3 L T M) := HE2.out.fresh hg
    have HB3 : Hid (ErrB w3 L T M) := HB2.out.fresh hg
    have HN3 : Hid (w.grownBy w3 none) := fr_both HN2.out hg
    clear hg g1
    rw [show decide (A = T) = false from by simp [HAT.out]]
    have g2 := HE3.out.gm
    go_wp2_with fail
    refine (is_placed A M x _ (HAB.out _ HB3.out) HB3.out.m).mono ?_
    rintro e w4 ⟨rfl, hg⟩
    have HN4 : Hid (w.grownBy w4 none) := fr_both HN3.out hg
    clear hg g2
    rw [show decide (A = M) = true from by simp [HAM.out]]
    go_wp2
    go_ret2
    exact ⟨by rw [HNN.out]; rfl, HN4.out⟩
end Go.Proofs.YtoelacloghkooaaDoor
