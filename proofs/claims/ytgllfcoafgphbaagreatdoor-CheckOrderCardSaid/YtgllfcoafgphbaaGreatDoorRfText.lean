import Derived.Test.YtgllfcoafgphbaaGreatDoorFormLen
import Derived.Test.YtgllfcoafgphbaaGreatDoorRfConst
import Derived.Test.YtgllfcoafgphbaaGreatDoorM08
/-
  The document's termText and AtomText, walked.
-/
namespace Go.Proofs.YtgllfcoafgphbaaGreatDoor
open Go.ChangeShapes Go.WideShapes Go.ChangeAt Go.RowKit
set_option linter.unusedVariables false
set_option maxRecDepth 100000 in
set_option maxHeartbeats 2000000 in
theorem rterm_raw (v : Bool) (x : ByteArray) (p : Int) (w : World) (hs : x.size ≤ 1073741824) :
    Calls Tryz.prog 85 #[.agg #[.bool v, .string x, .int .i64 p]] w fun e w' => e = .returned (.string (str (if v then x.data.toList else constF x.data.toList))) ∧ w.grownBy w' none := by
  cases v with
  | true =>
    go_enter Tryz.func85, Tryz.ntmps85
    go_wp2
    go_ret
    exact ⟨ret_str (by simp [str_data]), fr_alloc _ _ _⟩
  | false =>
    go_enter Tryz.func85, Tryz.ntmps85
    go_wp2_with fail
    refine (rconst_any x _ hs).mono ?_
    rintro e w1 ⟨rfl, hg⟩
    have HG := hide (fr_both (fr_alloc w _ none) hg)
    clear hg
    obtain ⟨R, HR⟩ : ∃ R, Hid (str (constF x.data.toList) = R) := ⟨_, (rfl : _ = _)⟩
    rw [HR.out]
    go_wp2
    go_ret
    exact ⟨ret_str (by rw [← HR.out]), HG.out⟩
theorem rtermText_any (t : PTerm) (w : World) (hs : t.text.length ≤ 1073741824) :
    Calls Tryz.prog 85 #[.agg #[.bool t.isVar, .string (str t.text), .int .i64 (t.place : Nat)]] w fun e w' => e = .returned (.string (str (termTextF t))) ∧ w.grownBy w' none := by
  have := rterm_raw t.isVar (str t.text) (t.place : Nat) w (by rw [str_size]; exact hs)
  rw [data_str] at this
  exact this
theorem wfT_small {t : PTerm} (h : WfT t) : t.text.length ≤ 1073741824 := by
  cases hv : t.isVar with
  | true => have := var_len (h.1 hv).1; omega
  | false => have := h.2 hv; omega
set_option maxRecDepth 100000 in
set_option maxHeartbeats 4000000 in
theorem ratomText_any (a : PAtom) (va : Value) (B : Nat) (w : World) (ha : w.ownsRow B 45 3 va a.args.length (termsV a.args)) (hwf : WfA a) :
    Calls Tryz.prog 53 #[.agg #[.string (str a.name), va, .int .i64 (a.place : Nat)]] w fun e w' => e = .returned (.string (str (atomTextF a))) ∧ w.grownBy w' none := by
  obtain ⟨aa, ca, hva⟩ := own_form ha
  subst hva
  have HA := hide ha
  have HWT := hide hwf.2.2
  have HLEN : Hid (∀ k, (str (atomPre a k)).size ≤ 4000) := fun k => by rw [str_size]; have := atomPre_len hwf k; omega
  have h8 := hwf.2.1
  have HFIN := hide (atomText_pre a)
  obtain ⟨N, HN⟩ : ∃ N, Hid (a.args.length = N) := ⟨_, (rfl : _ = _)⟩
  rw [HN.out] at h8 HFIN ⊢
  have HZ := hide (show str a.name = str (atomPre a 0) from by rw [atomPre_zero])
  have hx0 := HLEN.out 0
  rw [HZ.out]
  obtain ⟨X0, HX0⟩ : ∃ X, Hid (str (atomPre a 0) = X) := ⟨_, (rfl : _ = _)⟩
  rw [HX0.out] at hx0 ⊢
  generalize ((a.place : Nat) : Int) = pl
  clear ha hwf HZ
  go_enter Tryz.func53, Tryz.ntmps53
  go_wp2_with fail
  generalize hw1 : World.alloc _ _ = w1
  have HC1 : Hid (w1.cell? ⟨w.heap.size, 1, none⟩ = some (.slice aa N ca)) := by show _ = _; rw [← hw1]; simp
  have HG1 : Hid (w.grownBy w1 none) := by rw [← hw1]; exact fr_alloc _ _ _
  have HZ1 : Hid (w1.heap.size = w.heap.size + 1) := by show _ = _; rw [← hw1]; simp
  clear hw1
  go_loopw [3, 4, 5] (fun o iv tv wr => ∃ (k : Nat) (X : ByteArray), k ≤ N ∧ iv = .int .i64 k ∧ o = .string X ∧ X.size ≤ 4000 ∧ Hid (str (atomPre a k) = X) ∧ Hid (w1.grownBy wr none)) (fun _ iv _ _ => N - (intOf iv).toNat)
  case atStart => exact ⟨0, X0, by omega, rfl, rfl, hx0, HX0, fr_refl _ _⟩
  case round =>
    obtain ⟨k, X, hk, rfl, rfl, hX, HX, HG⟩ := hrel
    have hz0 : w.heap.size < w1.heap.size := by have := HZ1.out; omega
    have c1 := grown_cell HG.out HC1.out
    by_cases hlt : k < N
    · have hka : k < a.args.length := by have := HN.out; omega
      have HWK := hide (HWT.out a.args[k] (List.getElem_mem hka))
      have hoa := HA.out
      rcases own_terms hoa with ⟨h0, h1⟩ | ⟨ga, ca', hva, -, hga, hca⟩
      · rw [h1] at hka; simp at hka
      cases hva
      obtain ⟨a0, a1, a2⟩ := hca k hka
      have kp : ∀ (x : Addr) (v : Value), w.cell? x = some v → wr.cell? x = some v := fun x v hx => grown_cell (fr_both HG1.out HG.out) hx
      replace a0 := kp _ _ a0; replace a1 := kp _ _ a1; replace a2 := kp _ _ a2
      have HLN := hide (HLEN.out (k + 1))
      have HST : Hid (str (atomPre a (k + 1)) = if k = 0 then X ++ str [40] ++ str (termTextF a.args[k]) else X ++ str [44, 32] ++ str (termTextF a.args[k])) := by
        show _ = _
        by_cases h0 : k = 0
        · subst h0
          rw [if_pos rfl, ← HX.out, atomPre_one a hka, str_app, str_app]
        · rw [if_neg h0, ← HX.out, atomPre_step a k h0 hka, str_app, str_app]
      clear kp hca hoa hga
      have HTL := hide (termText_len HWK.out)
      generalize a.args[k] = t at *
      obtain ⟨Y, HY⟩ : ∃ Y, Hid (str (termTextF t) = Y) := ⟨_, (rfl : _ = _)⟩
      have hY : Y.size ≤ 402 := by rw [← HY.out, str_size]; exact HTL.out
      rw [HY.out] at HST
      go_wp2_with fail
      refine (rtermText_any t _ (wfT_small HWK.out)).mono ?_
      rintro e w2 ⟨rfl, hg2⟩
      rw [HY.out]
      have HGN : Hid (w1.grownBy w2 none) := fr_both HG.out hg2
      clear hg2 a0 a1 a2
      by_cases h0 : k = 0
      · rw [if_pos h0] at HST
        have e0 : ((k : Int) == 0) = true := by simp [h0]
        clear h0
        go_wp2
        go_roundw
        case rel => exact ⟨k + 1, _, by omega, by go_num, rfl, by have h := HLN.out; rw [HST.out] at h; exact h, HST, HGN⟩
        case measure => simp [intOf]; omega
      · rw [if_neg h0] at HST
        have e0 : ((k : Int) == 0) = false := by rw [beq_eq_false_iff_ne]; omega
        clear h0
        go_wp2
        go_roundw
        case rel => exact ⟨k + 1, _, by omega, by go_num, rfl, by have h := HLN.out; rw [HST.out] at h; exact h, HST, HGN⟩
        case measure => simp [intOf]; omega
    · have hkN : k = N := by omega
      subst hkN
      by_cases h0 : k = 0
      · rw [if_pos h0] at HFIN
        have HR : Hid (str (atomTextF a) = X) := by show _ = _; rw [HFIN.out, ← HX.out, h0]
        subst h0
        go_wp2
        go_ret
        exact ⟨ret_str HR.out.symm, fr_both HG1.out HG.out⟩
      · rw [if_neg h0] at HFIN
        have HR : Hid (str (atomTextF a) = X ++ str [41]) := by show _ = _; rw [HFIN.out, ← HX.out, str_app]
        have hpos : 0 < k := by omega
        go_wp2
        go_ret
        exact ⟨ret_str HR.out.symm, fr_both HG1.out HG.out⟩
end Go.Proofs.YtgllfcoafgphbaaGreatDoor
