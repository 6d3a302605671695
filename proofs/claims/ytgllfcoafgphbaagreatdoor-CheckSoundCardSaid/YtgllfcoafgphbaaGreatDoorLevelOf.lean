import Derived.Test.YtgllfcoafgphbaaGreatDoorLevelsWalk
/-
  The laws' levelOf, walked; what CheckSound counts, in plain lists.
-/
namespace Go.Proofs.YtgllfcoafgphbaaGreatDoor
open Go.ChangeShapes Go.WideShapes Go.ChangeAt Go.RowKit
set_option linter.unusedVariables false
set_option maxRecDepth 100000 in
set_option maxHeartbeats 4000000 in
theorem levelOf_any (F : List (List UInt8)) (f : List UInt8 → Nat) (x : List UInt8) (v : Value) (B N : Nat) (w : World) (h : w.ownsRow B 37 2 v N (levelsV (F.map fun n => (n, f n)))) (hN : F.length = N) (hx : x ∈ F) (hl : N ≤ 1073741824) :
    Calls Tryz.prog 14 #[v, .string (str x)] w fun e w' => e = .returned (.int .i64 (f x : Nat)) ∧ w.grownBy w' none := by
  have HO := hide h
  obtain ⟨va, vc, hv⟩ := own_form h
  subst hv
  have HN := hide hN
  obtain ⟨i0, hi0, hix⟩ := List.getElem_of_mem hx
  have HIX : Hid (∃ h : i0 < F.length, F[i0] = x) := ⟨hi0, hix⟩
  obtain ⟨sn, HSN⟩ : ∃ sn, Hid (str x = sn) := ⟨_, (rfl : _ = _)⟩
  rw [HSN.out]
  clear h hN hx hix hi0
  go_enter Tryz.func14, Tryz.ntmps14
  go_wp2_with fail
  go_loopw [5] (fun iv wr => ∃ k : Nat, k ≤ i0 ∧ iv = .int .i64 k ∧ Hid (w.grownBy wr none)) (fun iv _ => N - (intOf iv).toNat)
  case atStart => exact ⟨0, by omega, rfl, fr_refl _ _⟩
  case round =>
    obtain ⟨k, hk, rfl, HG⟩ := hrel
    obtain ⟨hi0, hix⟩ := HIX.out
    have hlt : k < N := by have := HN.out; omega
    have hkF : k < F.length := by omega
    have h1 := HO.out
    have e1 : N = (F.map fun n => (n, f n)).length := by rw [List.length_map]; exact HN.out.symm
    have h2 : w.ownsRow B 37 2 (.slice va (F.map fun n => (n, f n)).length vc) (F.map fun n => (n, f n)).length (levelsV (F.map fun n => (n, f n))) := by rw [← e1]; exact h1
    rcases own_levels h2 with ⟨h0, h3⟩ | ⟨ga, cap1, hv1, hc1⟩
    · have := congrArg List.length h3
      rw [← e1] at this
      simp at this; omega
    cases hv1
    obtain ⟨a0, a1⟩ := hc1 k (by rw [← e1]; exact hlt)
    rw [List.getElem_map] at a0 a1
    dsimp only at a0 a1
    replace a0 := grown_cell HG.out a0
    replace a1 := grown_cell HG.out a1
    have HEQ : Hid (F[k] = x → f F[k] = f x) := fun e => by rw [e]
    have hcmp : ((str F[k]).toList == sn.toList) = (F[k] == x) := by rw [← HSN.out]; exact str_beq _ _
    have HKI : Hid (¬ F[k] = x → k < i0) := fun hne => by
      rcases Nat.lt_or_ge k i0 with h | h
      · exact h
      · exfalso
        apply hne
        have e : k = i0 := by omega
        subst e; exact hix
    clear hc1 h1 h2
    by_cases hq : F[k] = x
    · have hcm : ((str F[k]).toList == sn.toList) = true := by rw [hcmp]; simpa using hq
      have HV := hide (HEQ.out hq)
      clear hcmp HKI HEQ hq hix HIX
      generalize str F[k] = sk at *
      generalize f F[k] = nk at *
      go_wp2
      go_ret
      exact ⟨by rw [HV.out]; rfl, HG.out⟩
    · have hcm : ((str F[k]).toList == sn.toList) = false := by rw [hcmp]; simpa using hq
      have hki := HKI.out hq
      clear hcmp HKI HEQ hq hix HIX
      generalize str F[k] = sk at *
      go_wp2
      exact ⟨⟨k + 1, by omega, by go_num, HG⟩, by simp [intOf]; omega⟩
/-- a part asks for that level -/
def needP (f : List UInt8 → Nat) (x : List UInt8) (ps : List PPart) : Bool := ps.any fun p => decide (p.kind ≤ 1) && (f p.atom.name + p.kind == f x)
def needR (f : List UInt8 → Nat) (x : List UInt8) (rs : List PRule) : Bool := rs.any fun r => (r.head.name == x) && needP f x r.body
theorem needP_next (f : List UInt8 → Nat) (x : List UInt8) (ps : List PPart) (j : Nat) (h : j < ps.length) : needP f x (ps.take (j + 1)) = (needP f x (ps.take j) || (decide (ps[j].kind ≤ 1) && (f ps[j].atom.name + ps[j].kind == f x))) := by
  unfold needP
  rw [List.take_succ_eq_append_getElem h, List.any_append]; simp
theorem needR_next (f : List UInt8 → Nat) (x : List UInt8) (rs : List PRule) (k : Nat) (h : k < rs.length) : needR f x (rs.take (k + 1)) = (needR f x (rs.take k) || ((rs[k].head.name == x) && needP f x rs[k].body)) := by
  unfold needR
  rw [List.take_succ_eq_append_getElem h, List.any_append]; simp
theorem need_all {rs : List PRule} {f : List UInt8 → Nat} (h : Least rs f) (x : List UInt8) : ((f x == 0) || needR f x rs) = true := by
  by_cases h0 : f x = 0
  · simp [h0]
  · obtain ⟨r, hr, hn, p, hp, hk, he⟩ := h.needed (x := x) (by omega)
    have : needR f x rs = true := List.any_eq_true.2 ⟨r, hr, by
      rw [Bool.and_eq_true]
      refine ⟨by simpa using hn, List.any_eq_true.2 ⟨p, hp, ?_⟩⟩
      rw [Bool.and_eq_true]
      exact ⟨by simpa using (by omega : p.kind ≤ 1), by simpa using he⟩⟩
    rw [this]; simp
end Go.Proofs.YtgllfcoafgphbaaGreatDoor
