/-
  The law's own words on rows: 'sameRows', 'sameRelation', 'relation', walked.
-/
import Derived.Test.YtnnldpccagajbaaDoorRowsWalk
import Derived.Test.YtnnldpccagajbaaDoorRefTidy
namespace Go.Proofs.YtnnldpccagajbaaDoor
open Go.ChangeShapes Go.WideShapes Go.ChangeAt Go.RowKit
set_option linter.unusedVariables false
theorem rows_next (L : List (List (List UInt8))) (k : Nat) (h : k < L.length) : L.take (k + 1) = L.take k ++ [L[k]] := List.take_succ_eq_append_getElem h
set_option maxRecDepth 100000 in
set_option maxHeartbeats 1000000 in
theorem sameRows_any (va vb : Value) (xs ys : List Value) (la lb : List (List (List UInt8))) (w : World) (ha : Rows2 w va xs la) (hb : Rows2 w vb ys lb) (hl : la.length ≤ 1099511627776) (hl2 : lb.length ≤ 1099511627776)
    (hr : ∀ r ∈ la, r.length ≤ 1099511627776) (hr2 : ∀ r ∈ lb, r.length ≤ 1099511627776) :
    Calls Tryd.prog 21 #[va, vb] w fun e w' => e = .returned (.bool (la == lb)) ∧ ∃ n, w' = w.drewN n := by
  obtain ⟨⟨aa, ca, rfl, ha⟩, hxa, hia⟩ := ha
  obtain ⟨⟨ab, cb, rfl, hb⟩, hyb, hib⟩ := hb
  have HXA : Hid (xs.length = la.length) := hxa
  have HYB : Hid (ys.length = lb.length) := hyb
  have hx1 : xs.length ≤ 1099511627776 := by omega
  have hy1 : ys.length ≤ 1099511627776 := by omega
  have HIA : Hid (∀ (i : Nat) (x : Value) (r : List (List UInt8)), xs[i]? = some x → la[i]? = some r → Strs w x r) := hia
  have HIB : Hid (∀ (i : Nat) (x : Value) (r : List (List UInt8)), ys[i]? = some x → lb[i]? = some r → Strs w x r) := hib
  have HR : Hid (∀ r ∈ la, r.length ≤ 1099511627776) := hr
  have HR2 : Hid (∀ r ∈ lb, r.length ≤ 1099511627776) := hr2
  clear hia hib hr hr2
  by_cases hlen : xs.length = ys.length
  · rcases ha with ⟨rfl, _⟩ | ⟨ba, oa, rfl, ha⟩
    · have hy0 : ys = [] := List.eq_nil_of_length_eq_zero (by simpa using hlen.symm)
      subst hy0
      have hb0 : lb = [] := List.eq_nil_of_length_eq_zero (by simp at hyb; omega)
      have ha0 : la = [] := List.eq_nil_of_length_eq_zero (by simp at hxa; omega)
      subst hb0 ha0
      clear hxa hyb hb
      go_enter Tryd.func21, Tryd.ntmps21
      go_wp2
      refine wp_loop_rounds 1 ?_
      rw [rounds_succ]
      go_wp2
      go_ret
      exact ⟨rfl, 0, rfl⟩
    · rcases hb with ⟨hb, _⟩ | ⟨bb, ob, rfl, hb⟩
      · subst hb
        have hx0 : xs = [] := List.eq_nil_of_length_eq_zero (by simpa using hlen)
        subst hx0
        have hb0 : lb = [] := List.eq_nil_of_length_eq_zero (by simp at hyb; omega)
        have ha0 : la = [] := List.eq_nil_of_length_eq_zero (by simp at hxa; omega)
        subst hb0 ha0
        clear hxa hyb ha
        go_enter Tryd.func21, Tryd.ntmps21
        go_wp2
        refine wp_loop_rounds 1 ?_
        rw [rounds_succ]
        go_wp2
        go_ret
        exact ⟨rfl, 0, rfl⟩
      · rw [← hlen]
        have HL : Hid (xs.length = ys.length) := hlen
        have HA : Hid (∀ (i : Nat) (x : Value), xs[i]? = some x → w.cell? ⟨ba, oa + i, none⟩ = some x) := ha
        have HB : Hid (∀ (i : Nat) (x : Value), ys[i]? = some x → w.cell? ⟨bb, ob + i, none⟩ = some x) := hb
        clear ha hb hlen hxa hyb
        go_enter Tryd.func21, Tryd.ntmps21
        go_wp2
        go_loopw [5] (fun i wr => ∃ k n : Nat, k ≤ xs.length ∧ i = .int .i64 k ∧ wr = w.drewN n ∧ Hid (la.take k = lb.take k)) (fun i _ => xs.length - (intOf i).toNat)
        case atStart => exact ⟨0, 0, by omega, rfl, rfl, rfl⟩
        case round =>
          obtain ⟨k, n, hk, rfl, rfl, HT⟩ := hrel
          by_cases hlt : k < xs.length
          · have hlt2 : k < ys.length := by have := HL.out; omega
            have hla : k < la.length := by have := HXA.out; omega
            have hlb : k < lb.length := by have := HYB.out; omega
            have c1 : (w.drewN n).cell? ⟨ba, oa + k, none⟩ = some xs[k] := HA.out k xs[k] (val_at hlt)
            have c2 : (w.drewN n).cell? ⟨bb, ob + k, none⟩ = some ys[k] := HB.out k ys[k] (val_at hlt2)
            have s1 := HIA.out k xs[k] la[k] (val_at hlt) (row_at hla)
            have s2 := HIB.out k ys[k] lb[k] (val_at hlt2) (row_at hlb)
            have HC : Hid (∀ m : Nat, Calls Tryd.prog 38 #[xs[k], ys[k]] ((w.drewN n).drewN m) fun e w' => e = .returned (.bool (la[k] == lb[k])) ∧ ∃ j, w' = ((w.drewN n).drewN m).drewN j) := fun m =>
              texts_any xs[k] ys[k] la[k] lb[k] _ ((s1.drewN n).drewN m) ((s2.drewN n).drewN m) (by have := HR.out _ (List.getElem_mem hla); omega) (by have := HR2.out _ (List.getElem_mem hlb); omega)
            clear s1 s2
            by_cases he : la[k] = lb[k]
            · have HE : Hid (la.take (k + 1) = lb.take (k + 1)) := by show _ = _; rw [rows_next la k hla, rows_next lb k hlb, HT.out, he]
              have HC2 : Hid (∀ m : Nat, Calls Tryd.prog 38 #[xs[k], ys[k]] ((w.drewN n).drewN m) fun e w' => e = .returned (.bool true) ∧ ∃ j, w' = ((w.drewN n).drewN m).drewN j) := by
                have := HC.out
                rw [show (la[k] == lb[k]) = true from by rw [he]; simp] at this
                exact this
              clear he HC hla hlb
              generalize xs[k] = x at *
              generalize ys[k] = y at *
              obtain ⟨w0, HW0⟩ : ∃ w0, Hid (w0 = w.drewN n) := ⟨_, rfl⟩
              rw [← HW0.out] at c1 c2 HC2 ⊢
              go_wp2_with fail
              go_quiet ((go_at_call 38; refine Calls.quiet_of (HC2.out _)))
              go_wp2
              go_roundw
              case rel => exact ⟨k + 1, _, by omega, by go_num, by rw [HW0.out, World.drewN_drewN], HE⟩
              case measure => simp [intOf]; omega
            · have HE : Hid ((la == lb) = false) := by
                show _ = _
                rw [beq_eq_false_iff_ne]
                intro h; subst h; exact he rfl
              have HC2 : Hid (∀ m : Nat, Calls Tryd.prog 38 #[xs[k], ys[k]] ((w.drewN n).drewN m) fun e w' => e = .returned (.bool false) ∧ ∃ j, w' = ((w.drewN n).drewN m).drewN j) := by
                have := HC.out
                rw [show (la[k] == lb[k]) = false from by rw [beq_eq_false_iff_ne]; exact he] at this
                exact this
              clear he HC hla hlb
              generalize xs[k] = x at *
              generalize ys[k] = y at *
              obtain ⟨w0, HW0⟩ : ∃ w0, Hid (w0 = w.drewN n) := ⟨_, rfl⟩
              rw [← HW0.out] at c1 c2 HC2 ⊢
              go_wp2_with fail
              go_quiet ((go_at_call 38; refine Calls.quiet_of (HC2.out _)))
              go_wp2
              go_ret
              exact ⟨ret_bool HE.out.symm, _, by rw [HW0.out, World.drewN_drewN]⟩
          · have HE : Hid ((la == lb) = true) := by
              show _ = _
              rw [beq_iff_eq]
              have := HT.out
              rw [List.take_of_length_le (by have := HXA.out; omega), List.take_of_length_le (by have := HYB.out; have := HL.out; omega)] at this
              exact this
            go_wp2
            go_ret
            refine ⟨ret_bool HE.out.symm, ?_⟩
            first | exact ⟨_, rfl⟩ | exact two_draws _ _ _
  · have hne : ((xs.length : Int) != (ys.length : Int)) = true := by simp; omega
    have HE : Hid ((la == lb) = false) := by
      show _ = _
      rw [beq_eq_false_iff_ne]
      intro h; subst h; exact hlen (by omega)
    clear ha hb hlen hxa hyb
    go_enter Tryd.func21, Tryd.ntmps21
    go_wp2
    go_ret
    exact ⟨ret_bool HE.out.symm, 0, rfl⟩
end Go.Proofs.YtnnldpccagajbaaDoor
