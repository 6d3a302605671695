import Derived.Test.YtdfbjnachakkhaaGreatDoorM11
import Derived.Test.YtdfbjnachakkhaaGreatDoorM38
import Derived.Test.YtdfbjnachakkhaaGreatDoorM37
namespace Go.Proofs.YtdfbjnachakkhaaGreatDoor
open Go.ChangeShapes Go.WideShapes Go.ChangeAt Go.RowKit
set_option linter.unusedVariables false
theorem rows_next (L : List (List (List UInt8))) (k : Nat) (h : k < L.length) : L.take (k + 1) = L.take k ++ [L[k]] := List.take_succ_eq_append_getElem h
set_option maxRecDepth 100000 in
set_option maxHeartbeats 1000000 in
theorem sameRows_any (va vb : Value) (xs ys : List Value) (la lb : List (List (List UInt8))) (w : World) (ha : Rows2 w va xs la) (hb : Rows2 w vb ys lb) (hl : la.length ≤ 1099511627776) (hl2 : lb.length ≤ 1099511627776)
    (hr : ∀ r ∈ la, r.length ≤ 1099511627776) (hr2 : ∀ r ∈ lb, r.length ≤ 1099511627776) :
    Calls Tryz.prog 8 #[va, vb] w fun e w' => e = .returned (.bool (la == lb)) ∧ ∃ n, w' = w.drewN n := by
  obtain ⟨⟨aa, ca, rfl, ha⟩, hxa, hia⟩ := ha
  obtain ⟨⟨ab, cb, rfl, hb⟩, hyb, hib⟩ := hb
  have HXA : Hid (xs.length = la.length) := hxa
  have HYB : Hid (ys.length = lb.length) := hyb
  have hx1 : xs.length ≤ 1099511627776 := by omega
  have hy1 : ys.length ≤ 1099511627776 := by omega
  have HIA : Hid (∀ (i : Nat) (x : Value) (r : List (List UInt8)), xs[i]? = some x → la[i]? = some r → Strs w x r) := hia
  have HIB : Hid (∀ (i : Nat) (x : Value) (r : List (List UInt8)), ys[i]? = some x → lb[i]? = some r → Strs w x r) := hib
  have HR : Hid (∀ r ∈ la, r.length ≤ 1099511627776) := hr
  have HR2 : Hid (∀ r ∈ lb, r.length ≤ 1099511627776) := hr2
  clear hia hib hr hr2
  by_cases hlen : xs.length = ys.length
  · rcases ha with ⟨rfl, _⟩ | ⟨ba, oa, rfl, ha⟩
    · have hy0 : ys = [] := List.eq_nil_of_length_eq_zero (by simpa using hlen.symm)
      subst hy0
      have hb0 : lb = [] := List.eq_nil_of_length_eq_zero (by simp at hyb; omega)
      have ha0 : la = [] := List.eq_nil_of_length_eq_zero (by simp at hxa; omega)
      subst hb0 ha0
      clear hxa hyb hb
      go_enter Tryz.func8, Tryz.ntmps8
      go_wp2
      refine wp_loop_rounds 1 ?_
      rw [rounds_succ]
      go_wp2
      go_ret
      exact ⟨rfl, 0, rfl⟩
    · rcases hb with ⟨hb, _⟩ | ⟨bb, ob, rfl, hb⟩
      · subst hb
        have hx0 : xs = [] := List.eq_nil_of_length_eq_zero (by simpa using hlen)
        subst hx0
        have hb0 : lb = [] := List.eq_nil_of_length_eq_zero (by simp at hyb; omega)
        have ha0 : la = [] := List.eq_nil_of_length_eq_zero (by simp at hxa; omega)
        subst hb0 ha0
        clear hxa hyb ha
        go_enter Tryz.func8, Tryz.ntmps8
        go_wp2
        refine wp_loop_rounds 1 ?_
        rw [rounds_succ]
        go_wp2
        go_ret
        exact ⟨rfl, 0, rfl⟩
      · rw [← hlen]
        have HL : Hid (xs.length = ys.length) := hlen
        have HA : Hid (∀ (i : Nat) (x : Value), xs[i]? = some x → w.cell? ⟨ba, oa + i, none⟩ = some x) := ha
        have HB : Hid (∀ (i : Nat) (x : Value), ys[i]? = some x → w.cell? ⟨bb, ob + i, none⟩ = some x) := hb
        clear ha hb hlen hxa hyb
        go_enter Tryz.func8, Tryz.ntmps8
        go_wp2
        go_loopw [5] (fun i wr => ∃ k n : Nat, k ≤ xs.length ∧ i = .int .i64 k ∧ wr = w.drewN n ∧ Hid (la.take k = lb.take k)) (fun i _ => xs.length - (intOf i).toNat)
        case atStart => exact ⟨0, 0, by omega, rfl, rfl, rfl⟩
        case round =>
          obtain ⟨k, n, hk, rfl, rfl, HT⟩ := hrel
          by_cases hlt : k < xs.length
          · have hlt2 : k < ys.length := by have := HL.out; omega
            have hla : k < la.length := by have := HXA.out; omega
            have hlb : k < lb.length := by have := HYB.out; omega
            have c1 : (w.drewN n).cell? ⟨ba, oa + k, none⟩ = some xs[k] := HA.out k xs[k] (val_at hlt)
            have c2 : (w.drewN n).cell? ⟨bb, ob + k, none⟩ = some ys[k] := HB.out k ys[k] (val_at hlt2)
            have s1 := HIA.out k xs[k] la[k] (val_at hlt) (row_at hla)
            have s2 := HIB.out k ys[k] lb[k] (val_at hlt2) (row_at hlb)
            have HC : Hid (∀ m : Nat, Calls Tryz.prog 18 #[xs[k], ys[k]] ((w.drewN n).drewN m) fun e w' => e = .returned (.bool (la[k] == lb[k])) ∧ ∃ j, w' = ((w.drewN n).drewN m).drewN j) := fun m =>
              texts_any xs[k] ys[k] la[k] lb[k] _ ((s1.drewN n).drewN m) ((s2.drewN n).drewN m) (by have := HR.out _ (List.getElem_mem hla); omega) (by have := HR2.out _ (List.getElem_mem hlb); omega)
            clear s1 s2
            by_cases he : la[k] = lb[k]
            · have HE : Hid (la.take (k + 1) = lb.take (k + 1)) := by show _ = _; rw [rows_next la k hla, rows_next lb k hlb, HT.out, he]
              have HC2 : Hid (∀ m : Nat, Calls Tryz.prog 18 #[xs[k], ys[k]] ((w.drewN n).drewN m) fun e w' => e = .returned (.bool true) ∧ ∃ j, w' = ((w.drewN n).drewN m).drewN j) := by
                have := HC.out
                rw [show (la[k] == lb[k]) = true from by rw [he]; simp] at this
                exact this
              clear he HC hla hlb
              generalize xs[k] = x at *
              generalize ys[k] = y at *
              obtain ⟨w0, HW0⟩ : ∃ w0, Hid (w0 = w.drewN n) := ⟨_, rfl⟩
              rw [← HW0.out] at c1 c2 HC2 ⊢
              go_wp2_with fail
              go_quiet ((go_at_call 18; refine Calls.quiet_of (HC2.out _)))
              go_wp2
              go_roundw
              case rel => exact ⟨k + 1, _, by omega, by go_num, by rw [HW0.out, World.drewN_drewN], HE⟩
              case measure => simp [intOf]; omega
            · have HE : Hid ((la == lb) = false) := by
                show _ = _
                rw [beq_eq_false_iff_ne]
                intro h; subst h; exact he rfl
              have HC2 : Hid (∀ m : Nat, Calls Tryz.prog 18 #[xs[k], ys[k]] ((w.drewN n).drewN m) fun e w' => e = .returned (.bool false) ∧ ∃ j, w' = ((w.drewN n).drewN m).drewN j) := by
                have := HC.out
                rw [show (la[k] == lb[k]) = false from by rw [beq_eq_false_iff_ne]; exact he] at this
                exact this
              clear he HC hla hlb
              generalize xs[k] = x at *
              generalize ys[k] = y at *
              obtain ⟨w0, HW0⟩ : ∃ w0, Hid (w0 = w.drewN n) := ⟨_, rfl⟩
              rw [← HW0.out] at c1 c2 HC2 ⊢
              go_wp2_with fail
              go_quiet ((go_at_call 18; refine Calls.quiet_of (HC2.out _)))
              go_wp2
              go_ret
              exact ⟨ret_bool HE.out.symm, _, by rw [HW0.out, World.drewN_drewN]⟩
          · have HE : Hid ((la == lb) = true) := by
              show _ = _
              rw [beq_iff_eq]
              have := HT.out
              rw [List.take_of_length_le (by have := HXA.out; omega), List.take_of_length_le (by have := HYB.out; have := HL.out; omega)] at this
              exact this
            go_wp2
            go_ret
            refine ⟨ret_bool HE.out.symm, ?_⟩
            first | exact ⟨_, rfl⟩ | exact two_draws _ _ _
  · have hne : ((xs.length : Int) != (ys.length : Int)) = true := by simp; omega
    have HE : Hid ((la == lb) = false) := by
      show _ = _
      rw [beq_eq_false_iff_ne]
      intro h; subst h; exact hlen (by omega)
    clear ha hb hlen hxa hyb
    go_enter Tryz.func8, Tryz.ntmps8
    go_wp2
    go_ret
    exact ⟨ret_bool HE.out.symm, 0, rfl⟩
end Go.Proofs.YtdfbjnachakkhaaGreatDoor

namespace Go.Proofs.YtdfbjnachakkhaaGreatDoor
open Go.ChangeShapes Go.WideShapes Go.ChangeAt Go.RowKit
set_option linter.unusedVariables false
theorem tidy_fault (name : List UInt8) (ar : Int) (rows : List (List (List UInt8))) (h : (faultOf name ar rows).1 ≠ 0) : tidy name ar rows = ((faultOf name ar rows).1, (faultOf name ar rows).2, []) := by
  unfold faultOf at h ⊢
  unfold tidy
  split
  · rfl
  · rename_i h1
    rw [if_neg h1] at h
    split
    · rfl
    · rename_i h2
      rw [if_neg h2] at h
      split
      · rename_i e i he; rw [he]; rfl
      · rename_i he; rw [he] at h; exact absurd rfl h
theorem bad_ok (m : Nat) (i : Nat) (rows : List (List (List UInt8))) (h : ((bad m i rows).getD (0, 0)).1 = 0) : bad m i rows = none ∧ ∀ r ∈ rows, r.length = m ∧ ∀ t ∈ r, t.length ≤ 200 := by
  induction rows generalizing i with
  | nil => exact ⟨rfl, by simp⟩
  | cons r rest ih =>
    rw [bad] at h ⊢
    by_cases h1 : r.length = m
    · rw [if_pos h1] at h ⊢
      by_cases h2 : r.all (fun t => decide (t.length ≤ 200)) = true
      · rw [if_pos h2] at h ⊢
        obtain ⟨h3, h4⟩ := ih (i + 1) h
        refine ⟨h3, fun x hx => ?_⟩
        rcases List.mem_cons.1 hx with rfl | hx
        · exact ⟨h1, fun t ht => by simpa using List.all_eq_true.1 h2 t ht⟩
        · exact h4 x hx
      · rw [if_neg h2] at h; simp at h
    · rw [if_neg h1] at h; simp at h
theorem tidy_sound (name : List UInt8) (ar : Int) (rows : List (List (List UInt8))) (h : (faultOf name ar rows).1 = 0) :
    isName name = true ∧ 0 ≤ ar ∧ ar ≤ 8 ∧ (∀ r ∈ rows, r.length = ar.toNat ∧ ∀ t ∈ r, t.length ≤ 200) ∧ tidy name ar rows = if 2000 < (sortU rows).length then (7, 0, []) else (0, 0, sortU rows) := by
  unfold faultOf at h
  split at h
  · simp at h
  · rename_i h1
    split at h
    · simp at h
    · rename_i h2
      obtain ⟨h3, h4⟩ := bad_ok _ _ _ h
      refine ⟨by simpa using h1, by omega, by omega, h4, ?_⟩
      unfold tidy
      rw [if_neg h1, if_neg h2, h3]
/-- what the program's Tidy leaves -/
def PTidied (base : Nat) (name : ByteArray) (ar : Int) (t : Nat × Nat × List (List (List UInt8))) (e : Ending) (w' : World) : Prop :=
  if t.1 = 0 then ∃ v us, e = .returned (.tuple #[.agg #[.string name, .int .i64 ar, v], .int .i64 0, .int .i64 0]) ∧ Deep base w' v us t.2.2
  else e = .returned (.tuple #[.agg #[.string { data := #[] }, .int .i64 0, .slice none 0 0], .int .i64 (t.1 : Nat), .int .i64 (t.2.1 : Nat)])
theorem ptidied_bad {base : Nat} {name : ByteArray} {ar : Int} {t : Nat × Nat × List (List (List UInt8))} {w' : World} {a b : Int} (e i : Nat) (l : List (List (List UInt8))) (h : t = (e, i, l)) (he : e ≠ 0) (ha : a = e) (hb : b = i) :
    PTidied base name ar t (.returned (.tuple #[.agg #[.string { data := #[] }, .int .i64 0, .slice none 0 0], .int .i64 a, .int .i64 b])) w' := by
  subst h ha hb; unfold PTidied; rw [if_neg he]
theorem Deep.setBelow {base : Nat} {w : World} {v : Value} {vs : List Value} {L : List (List (List UInt8))} (h : Deep base w v vs L) {a : Addr} (ha : a.block < base) (u : Value) : Deep base (w.setCell a u) v vs L :=
  ⟨ownsRow_setCell_below h.1 ha u, h.2.1, fun i x r hx hr => ownsRow_setCell_below (h.2.2 i x r hx hr) ha u⟩
theorem Deep.mono {base base2 : Nat} {w : World} {v : Value} {vs : List Value} {L : List (List (List UInt8))} (h : Deep base w v vs L) (hb : base2 ≤ base) : Deep base2 w v vs L :=
  ⟨own_mono h.1 hb, h.2.1, fun i x r hx hr => own_mono (h.2.2 i x r hx hr) hb⟩
set_option maxRecDepth 100000 in
set_option maxHeartbeats 2000000 in
theorem ptidy_any (name : ByteArray) (ar : Int) (rv : Value) (vs : List Value) (rows : List (List (List UInt8))) (w : World) (h : Rows2 w rv vs rows) (hn : name.size ≤ 140737488355328) (hrl : rows.length ≤ 1073741824) (hrr : ∀ r ∈ rows, r.length ≤ 1099511627776) :
    Calls Tryz.prog 25 #[.agg #[.string name, .int .i64 ar, rv]] w fun e w' => PTidied w.heap.size name ar (tidy name.data.toList ar rows) e w' ∧ Below w.heap.size w w' := by
  have HH : Hid (Rows2 w rv vs rows) := h
  have HRR : Hid (∀ r ∈ rows, r.length ≤ 1099511627776) := hrr
  clear hrr
  obtain ⟨⟨a, cap, rfl, -⟩, -, -⟩ := h
  obtain ⟨fe, fi, HF⟩ : ∃ fe fi, Hid (faultOf name.data.toList ar rows = (fe, fi)) := ⟨_, _, rfl⟩
  go_enter Tryz.func25, Tryz.ntmps25
  obtain ⟨W0, HW0⟩ : ∃ W0, Hid (W0 = (w.alloc (.cells #[.string name, .int .i64 ar, .slice a vs.length cap] 32)).alloc (.cells #[.string { data := #[] }, .int .i64 0, .slice none 0 0] 32)) := ⟨_, rfl⟩
  have HB0 : Hid (Below w.heap.size w W0) := by rw [HW0.out]; exact ((Below.refl _ _).alloc (Nat.le_refl _) _).alloc (by simp) _
  have HZ0 : Hid (W0.heap.size = w.heap.size + 2) := by show _ = _; rw [HW0.out]; simp
  have HQ : Hid (W0.cell? ⟨w.heap.size, 0, none⟩ = some (.string name) ∧ W0.cell? ⟨w.heap.size, 1, none⟩ = some (.int .i64 ar) ∧ W0.cell? ⟨w.heap.size, 2, none⟩ = some (.slice a vs.length cap)) := by
    rw [HW0.out]; exact ⟨by simp, by simp, by simp⟩
  have HP : Hid (W0.cell? ⟨w.heap.size + 1, 0, none⟩ = some (.string { data := #[] }) ∧ W0.cell? ⟨w.heap.size + 1, 1, none⟩ = some (.int .i64 0) ∧ W0.cell? ⟨w.heap.size + 1, 2, none⟩ = some (.slice none 0 0)) := by
    rw [HW0.out]; exact ⟨by simp, by simp, by simp⟩
  have HFZ : Hid (∀ i, W0.frozen? ⟨w.heap.size + 1, i, none⟩ = false) := by
    rw [HW0.out]; exact fun i => World.frozen?_alloc_at _ _ _ _ (by simp)
  go_wp2_with fail
  rw [← HW0.out]
  clear HW0
  refine (fault_any name ar _ vs rows W0 (HH.out.kept HB0.out) hn hrl HRR.out).mono ?_
  rintro e w1 ⟨rfl, hb1⟩
  rw [HF.out]
  simp only
  have HB1 : Hid (Below (w.heap.size + 2) W0 w1) := by rw [← HZ0.out]; exact hb1
  have HBW1 : Hid (Below w.heap.size w w1) := HB0.out.trans (HB1.out.mono (by omega))
  have hz1 : w.heap.size + 2 ≤ w1.heap.size := by have := HB1.out.size; have := HZ0.out; omega
  clear hb1
  by_cases hfe : fe = 0
  · obtain ⟨hnm, har0, har8, hrows, htidy⟩ := tidy_sound name.data.toList ar rows (by rw [HF.out]; exact hfe)
    have HTD : Hid (tidy name.data.toList ar rows = if 2000 < (sortU rows).length then (7, 0, []) else (0, 0, sortU rows)) := htidy
    have HRM : Hid (∀ r ∈ rows, r.length = ar.toNat) := fun r hr => (hrows r hr).1
    have hne : ((fe : Int) != 0) = false := by simp [hfe]
    clear hnm hrows htidy hfe
    have q0 := (HB1.out.cell (p := ⟨w.heap.size, 0, none⟩) (show w.heap.size < w.heap.size + 2 by omega)).trans HQ.out.1
    have q1 := (HB1.out.cell (p := ⟨w.heap.size, 1, none⟩) (show w.heap.size < w.heap.size + 2 by omega)).trans HQ.out.2.1
    have q2 := (HB1.out.cell (p := ⟨w.heap.size, 2, none⟩) (show w.heap.size < w.heap.size + 2 by omega)).trans HQ.out.2.2
    go_wp2_with fail
    refine (rising_any ar.toNat _ vs rows _ (HH.out.kept HBW1.out) hrl HRM.out (by omega)).mono ?_
    rintro e w2 ⟨⟨v2, us, rfl, hdeep⟩, hb2⟩
    obtain ⟨a2, c2, rfl⟩ := own_shape' hdeep.1
    have hul : us.length = (sortU rows).length := hdeep.2.1
    have HUL : Hid (us.length = (sortU rows).length) := hul
    have hul2 : us.length ≤ 140737488355328 := by have := sortU_len rows; omega
    have HDP : Hid (Deep w1.heap.size w2 (.slice a2 us.length c2) us (sortU rows)) := hdeep
    have HB2 : Hid (Below (w.heap.size + 2) W0 w2) := HB1.out.trans (hb2.mono hz1)
    have HBW2 : Hid (Below w.heap.size w w2) := HB0.out.trans (HB2.out.mono (by omega))
    clear hdeep hb2 q0 q1 q2 hul
    have q0 := (HB2.out.cell (p := ⟨w.heap.size, 0, none⟩) (show w.heap.size < w.heap.size + 2 by omega)).trans HQ.out.1
    have q1 := (HB2.out.cell (p := ⟨w.heap.size, 1, none⟩) (show w.heap.size < w.heap.size + 2 by omega)).trans HQ.out.2.1
    have q2 := (HB2.out.cell (p := ⟨w.heap.size, 2, none⟩) (show w.heap.size < w.heap.size + 2 by omega)).trans HQ.out.2.2
    have p0 := (HB2.out.cell (p := ⟨w.heap.size + 1, 0, none⟩) (show w.heap.size + 1 < w.heap.size + 2 by omega)).trans HP.out.1
    have p1 := (HB2.out.cell (p := ⟨w.heap.size + 1, 1, none⟩) (show w.heap.size + 1 < w.heap.size + 2 by omega)).trans HP.out.2.1
    have p2 := (HB2.out.cell (p := ⟨w.heap.size + 1, 2, none⟩) (show w.heap.size + 1 < w.heap.size + 2 by omega)).trans HP.out.2.2
    have f0 := (HB2.out.frozen (p := ⟨w.heap.size + 1, 0, none⟩) (show w.heap.size + 1 < w.heap.size + 2 by omega)).trans (HFZ.out 0)
    have f1 := (HB2.out.frozen (p := ⟨w.heap.size + 1, 1, none⟩) (show w.heap.size + 1 < w.heap.size + 2 by omega)).trans (HFZ.out 1)
    have f2 := (HB2.out.frozen (p := ⟨w.heap.size + 1, 2, none⟩) (show w.heap.size + 1 < w.heap.size + 2 by omega)).trans (HFZ.out 2)
    by_cases h2000 : 2000 < us.length
    · have HE : Hid (tidy name.data.toList ar rows = (7, 0, [])) := by show _ = _; rw [HTD.out, if_pos (by rw [← HUL.out]; exact h2000)]
      go_wp2
      refine bodyPost_ret (v := .tuple #[.agg #[.string { data := #[] }, .int .i64 0, .slice none 0 0], .int .i64 7, .int .i64 0]) (by simp [results, Tryz.results25, go_sem, p0, p1, p2]) rfl ⟨ptidied_bad 7 0 [] HE.out (by decide) rfl rfl, ?_⟩
      exact ((HBW2.out.setCell (p := ⟨w.heap.size + 1, 0, none⟩) (Nat.le_succ _) _).setCell (p := ⟨w.heap.size + 1, 1, none⟩) (Nat.le_succ _) _).setCell (p := ⟨w.heap.size + 1, 2, none⟩) (Nat.le_succ _) _
    · have HE : Hid (tidy name.data.toList ar rows = (0, 0, sortU rows)) := by show _ = _; rw [HTD.out, if_neg (by rw [← HUL.out]; exact h2000)]
      go_wp2
      refine bodyPost_ret (v := .tuple #[.agg #[.string name, .int .i64 ar, .slice a2 us.length c2], .int .i64 0, .int .i64 0]) (by simp [results, Tryz.results25, go_sem, p0, p1, p2]) rfl ⟨?_, ?_⟩
      · rw [HE.out]
        refine ⟨_, us, rfl, Deep.mono (base := w1.heap.size) ?_ (by omega)⟩
        exact ((HDP.out.setBelow (a := ⟨w.heap.size + 1, 0, none⟩) (show w.heap.size + 1 < w1.heap.size by omega) _).setBelow (a := ⟨w.heap.size + 1, 1, none⟩) (show w.heap.size + 1 < w1.heap.size by omega) _).setBelow (a := ⟨w.heap.size + 1, 2, none⟩) (show w.heap.size + 1 < w1.heap.size by omega) _
      · exact ((HBW2.out.setCell (p := ⟨w.heap.size + 1, 0, none⟩) (Nat.le_succ _) _).setCell (p := ⟨w.heap.size + 1, 1, none⟩) (Nat.le_succ _) _).setCell (p := ⟨w.heap.size + 1, 2, none⟩) (Nat.le_succ _) _
  · have HE : Hid (tidy name.data.toList ar rows = (fe, fi, [])) := by
      show _ = _
      have := tidy_fault name.data.toList ar rows (by rw [HF.out]; exact hfe)
      rw [this, HF.out]
    have HFE : Hid (fe ≠ 0) := hfe
    have hne : ((fe : Int) != 0) = true := by simp [hfe]
    clear hfe
    have p0 := (HB1.out.cell (p := ⟨w.heap.size + 1, 0, none⟩) (show w.heap.size + 1 < w.heap.size + 2 by omega)).trans HP.out.1
    have p1 := (HB1.out.cell (p := ⟨w.heap.size + 1, 1, none⟩) (show w.heap.size + 1 < w.heap.size + 2 by omega)).trans HP.out.2.1
    have p2 := (HB1.out.cell (p := ⟨w.heap.size + 1, 2, none⟩) (show w.heap.size + 1 < w.heap.size + 2 by omega)).trans HP.out.2.2
    have f0 := (HB1.out.frozen (p := ⟨w.heap.size + 1, 0, none⟩) (show w.heap.size + 1 < w.heap.size + 2 by omega)).trans (HFZ.out 0)
    have f1 := (HB1.out.frozen (p := ⟨w.heap.size + 1, 1, none⟩) (show w.heap.size + 1 < w.heap.size + 2 by omega)).trans (HFZ.out 1)
    have f2 := (HB1.out.frozen (p := ⟨w.heap.size + 1, 2, none⟩) (show w.heap.size + 1 < w.heap.size + 2 by omega)).trans (HFZ.out 2)
    go_wp2
    refine bodyPost_ret (v := .tuple #[.agg #[.string { data := #[] }, .int .i64 0, .slice none 0 0], .int .i64 fe, .int .i64 fi]) (by simp [results, Tryz.results25, go_sem, p0, p1, p2]) rfl ⟨ptidied_bad fe fi [] HE.out HFE.out rfl rfl, ?_⟩
    exact ((HBW1.out.setCell (p := ⟨w.heap.size + 1, 0, none⟩) (Nat.le_succ _) _).setCell (p := ⟨w.heap.size + 1, 1, none⟩) (Nat.le_succ _) _).setCell (p := ⟨w.heap.size + 1, 2, none⟩) (Nat.le_succ _) _
end Go.Proofs.YtdfbjnachakkhaaGreatDoor
