/-
  The document's ReadQuery, walked.
-/
import Derived.Test.YtoelacloghkooaaDoorRdRules
namespace Go.Proofs.YtoelacloghkooaaDoor
open Go.ChangeShapes Go.WideShapes Go.ChangeAt Go.RowKit
set_option linter.unusedVariables false
/-- an answer of parts, or an error and its place -/
def PartsR (tT tP : TypeId) (base : Nat) (r : Except PErr (List PPart)) (en : Ending) (w : World) : Prop := match r with
  | .error (e, x) => en = .returned (.tuple #[.slice none 0 0, .int .i64 (e : Nat), .int .i64 (x : Nat)])
  | .ok ps => ∃ v vs, en = .returned (.tuple #[v, .int .i64 0, .int .i64 0]) ∧ PartsAt tT tP base w v ps vs
set_option maxRecDepth 100000 in
set_option maxHeartbeats 4000000 in
theorem readQuery_any (s : ByteArray) (w : World) :
    Calls Tryd.prog 10 #[.string s] w fun en w' => PartsR 76 78 w.heap.size (readQueryS s) en w' ∧ Below w.heap.size w w' := by
  go_enter Tryd.func10, Tryd.ntmps10
  by_cases hl : 20000 < s.size
  · have HF : Hid (readQueryS s = .error (1, 0)) := by show _ = _; unfold readQueryS; rw [if_pos hl]
    go_wp2
    go_ret3
    rw [HF.out]
    exact ⟨rfl, Below.refl _ _⟩
  · have HF : Hid (readQueryS s = if (if (partsS s (nextS s startS)).2.kd = 0 then (partsS s (nextS s startS)).2 else failS 2 (partsS s (nextS s startS)).2.a (partsS s (nextS s startS)).2).e = 0 then .ok (partsS s (nextS s startS)).1 else .error ((if (partsS s (nextS s startS)).2.kd = 0 then (partsS s (nextS s startS)).2 else failS 2 (partsS s (nextS s startS)).2.a (partsS s (nextS s startS)).2).e, (if (partsS s (nextS s startS)).2.kd = 0 then (partsS s (nextS s startS)).2 else failS 2 (partsS s (nextS s startS)).2.a (partsS s (nextS s startS)).2).x)) := by show _ = _; unfold readQueryS; rw [if_neg hl]
    have hl2 : s.size ≤ 20000 := by omega
    have hs : s.size ≤ 1073741824 := by omega
    clear hl
    go_wp2_with fail
    generalize hw0 : World.alloc _ _ = w0
    have HW0 := hide hw0.symm
    have HS0 : Hid (RP w0 w.heap.size s startS) := by rw [← hw0]; exact start_rp w s
    have HZ0 : Hid (w0.heap.size = w.heap.size + 1) := by show _ = _; rw [← hw0]; simp
    clear hw0
    refine (rnext_any w.heap.size s startS _ HS0.out (Nat.zero_le _) hs).mono ?_
    rintro en w1 ⟨rfl, HN, HFR⟩
    have HN1 : Hid (RP w1 w.heap.size s (nextS s startS)) := HN
    have HG1 : Hid (w0.grownBy w1 (some w.heap.size)) := HFR.g
    have HZ1 : Hid (w1.heap.size = w.heap.size + 1) := by show _ = _; rw [HFR.size]; exact HZ0.out
    clear HN HFR HS0
    go_wp2_with fail
    refine (rparts_any w.heap.size s (nextS s startS) _ HN1.out (nextS_fit s startS (Nat.zero_le _)) hs).mono ?_
    rintro en w2 ⟨⟨v, vs, rfl, hpa⟩, HN, HFR⟩
    obtain ⟨va, vc, hv⟩ := own_form hpa.own
    subst hv
    have HP2 := hide hpa
    have HG2 : Hid (w0.grownBy w2 (some w.heap.size)) := fr_both HG1.out HFR
    obtain ⟨r, HRR⟩ : ∃ r, Hid (partsS s (nextS s startS) = r) := ⟨_, (rfl : _ = _)⟩
    rw [HRR.out] at HN HP2 HF ⊢
    obtain ⟨ps, q⟩ := r
    simp only [] at HF HP2 ⊢
    have HN2 : Hid (RP w2 w.heap.size s q) := HN
    clear HN HFR hpa HN1 HG1
    have hz1 : w.heap.size < w1.heap.size := by have := HZ1.out; omega
    obtain ⟨np, HNP⟩ : ∃ np, Hid (ps.length = np) := ⟨_, (rfl : _ = _)⟩
    rw [HNP.out] at HP2 ⊢
    obtain ⟨c0, c1, c2, c3, c4, c5, c6, f1, f2, f3, f4, f5, f6⟩ := HN2.out
    by_cases hk : q.kd = 0
    · have hk1 : ((q.kd : Int) != 0) = false := by simp [hk]
      rw [if_pos hk] at HF
      clear hk
      by_cases he : q.e = 0
      · have he1 : ((q.e : Int) != 0) = false := by simp [he]
        rw [if_pos he] at HF
        clear he
        go_wp2
        go_ret3
        rw [HF.out]
        exact ⟨⟨_, vs, rfl, HP2.out.lower (by omega)⟩, below_of HW0.out HG2.out⟩
      · have he1 : ((q.e : Int) != 0) = true := by rw [bne_iff_ne]; omega
        rw [if_neg he] at HF
        clear he
        go_wp2_with fail
        go_quiet (fail)
        go_wp2
        go_ret3
        rw [HF.out]
        exact ⟨rfl, below_of HW0.out (fr_both HG2.out (fr_draws _ _ _))⟩
    · have hk1 : ((q.kd : Int) != 0) = true := by rw [bne_iff_ne]; omega
      rw [if_neg hk] at HF
      have HE5 : Hid ((((failS 2 q.a q).e : Int) != 0) = true) := by
        show _ = _
        rw [bne_iff_ne]
        unfold failS; split
        · simp
        · rename_i h; omega
      have h2 : ¬ (failS 2 q.a q).e = 0 := by have := HE5.out; rw [bne_iff_ne] at this; omega
      rw [if_neg h2] at HF
      clear hk h2
      go_wp2_with fail
      refine (rfailS_any w.heap.size s q 2 q.a _ HN2.out).mono ?_
      rintro en w3 ⟨rfl, HN, HFR⟩
      have HN3 : Hid (RP w3 w.heap.size s (failS 2 q.a q)) := HN
      have HG3 : Hid (w0.grownBy w3 (some w.heap.size)) := fr_both HG2.out HFR.g
      clear HN HFR c0 c1 c2 c3 c4 c5 c6 f1 f2 f3 f4 f5 f6
      obtain ⟨c0, c1, c2, c3, c4, c5, c6, f1, f2, f3, f4, f5, f6⟩ := HN3.out
      have hb1 := HE5.out
      generalize failS 2 q.a q = qq at *
      go_wp2_with fail
      go_quiet (fail)
      go_wp2
      go_ret3
      rw [HF.out]
      exact ⟨rfl, below_of HW0.out (fr_both HG3.out (fr_draws _ _ _))⟩
end Go.Proofs.YtoelacloghkooaaDoor
