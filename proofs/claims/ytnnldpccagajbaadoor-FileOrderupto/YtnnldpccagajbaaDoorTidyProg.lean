/-
  The program's file.fault and file.Tidy, walked.
-/
import Derived.Test.YtnnldpccagajbaaDoorRisingF
import Derived.Test.YtnnldpccagajbaaDoorNameProg
namespace Go.Proofs.YtnnldpccagajbaaDoor
open Go.ChangeShapes Go.WideShapes Go.ChangeAt Go.RowKit
set_option linter.unusedVariables false
def fits (r : List (List UInt8)) : Bool := r.all (fun t => decide (t.length ≤ 200))
set_option maxRecDepth 100000 in
set_option maxHeartbeats 400000 in
theorem tooLong_any (s : ByteArray) (w : World) : Calls Tryd.prog 41 #[.string s] w fun e w' => e = .returned (.bool (decide (200 < s.size))) ∧ w = w' := by
  go_enter Tryd.func41, Tryd.ntmps41
  go_wp2
  go_ret
  exact ⟨ret_bool (by simp; omega), rfl⟩
theorem fits_no (r : List (List UInt8)) (k : Nat) (h : k < r.length) (h2 : 200 < r[k].length) : fits r = false := by
  unfold fits
  rw [List.all_eq_false]
  exact ⟨r[k], List.getElem_mem h, by simp; omega⟩
theorem fits_yes (r : List (List UInt8)) (h : ∀ t ∈ r, t.length ≤ 200) : fits r = true := by
  unfold fits
  rw [List.all_eq_true]
  intro t ht
  simpa using h t ht
set_option maxRecDepth 100000 in
set_option maxHeartbeats 1000000 in
theorem indexLong_any (v : Value) (l : List (List UInt8)) (w : World) (h : Strs w v l) (hl : l.length ≤ 140737488355328) :
    Calls Tryd.prog 58 #[v, .func (.func 41) #[] #[]] w fun e w' => (∃ i : Int, e = .returned (.int .i64 i) ∧ decide (0 ≤ i) = !(fits l) ∧ -1 ≤ i ∧ i ≤ 140737488355328) ∧ w = w' := by
  have EG : ∀ args w, (callFunc 41 args).run Tryd.prog w = .ok (.enter 41 args) w := enters_of Tryd.func41 (by kernel_rfl) rfl
  obtain ⟨a, cap, rfl, h⟩ := h
  rcases h with ⟨rfl, _⟩ | ⟨b, off, rfl, hc⟩
  · go_enter Tryd.func58, Tryd.ntmps58
    go_wp2
    refine wp_loop_rounds 1 ?_
    rw [rounds_succ]
    go_wp2
    go_ret
    exact ⟨⟨_, rfl, by decide, by omega, by omega⟩, rfl⟩
  · have HC : Hid (∀ (i : Nat) (x : List UInt8), l[i]? = some x → w.cell? ⟨b, off + i, none⟩ = some (.string (str x))) := hc
    clear hc
    go_enter Tryd.func58, Tryd.ntmps58
    go_wp2
    go_loopw [8] (fun i wr => ∃ k : Nat, k ≤ l.length ∧ i = .int .i64 k ∧ wr = w ∧ Hid (∀ t ∈ l.take k, t.length ≤ 200)) (fun i _ => l.length - (intOf i).toNat)
    case atStart => exact ⟨0, by omega, rfl, rfl, fun t ht => by simp at ht⟩
    case round =>
      obtain ⟨k, hk, rfl, rfl, HN⟩ := hrel
      by_cases hlt : k < l.length
      · have c1 := HC.out k l[k] (get_at hlt)
        obtain ⟨sx, HSX⟩ : ∃ sx, Hid (sx = str l[k]) := ⟨str l[k], (rfl : str l[k] = str l[k])⟩
        rw [← HSX.out] at c1
        by_cases h200 : 200 < l[k].length
        · have HF : Hid (fits l = false) := fits_no l k hlt h200
          have d1 : decide (200 < sx.size) = true := by rw [HSX.out, str_size]; simpa using h200
          clear h200
          go_wp2_with fail
          refine (tooLong_any sx _).mono ?_
          rintro e w1 ⟨rfl, rfl⟩
          rw [d1]
          go_wp2
          go_ret
          exact ⟨⟨_, rfl, by rw [HF.out]; simp, by omega, by omega⟩, rfl⟩
        · have HF : Hid (∀ t ∈ l.take (k + 1), t.length ≤ 200) := by
            intro t ht
            rw [take_next l k hlt] at ht
            rcases List.mem_append.1 ht with ht | ht
            · exact HN.out t ht
            · simp at ht; subst ht; omega
          have d1 : decide (200 < sx.size) = false := by rw [HSX.out, str_size]; simpa using h200
          clear h200
          go_wp2_with fail
          refine (tooLong_any sx _).mono ?_
          rintro e w1 ⟨rfl, rfl⟩
          rw [d1]
          go_wp2
          go_roundw
          case rel => exact ⟨k + 1, by omega, by go_num, by first | trivial | rfl, HF⟩
          case measure => simp [intOf]; omega
      · have HF : Hid (fits l = true) := by
          have := HN.out
          rw [List.take_of_length_le (by omega)] at this
          exact fits_yes l this
        go_wp2
        go_ret
        exact ⟨⟨_, rfl, by rw [HF.out]; decide, by omega, by omega⟩, rfl⟩
set_option maxRecDepth 100000 in
set_option maxHeartbeats 400000 in
theorem hasLong_any (v : Value) (l : List (List UInt8)) (w : World) (h : Strs w v l) (hl : l.length ≤ 140737488355328) :
    Calls Tryd.prog 40 #[v, .func (.func 41) #[] #[]] w fun e w' => e = .returned (.bool (!(fits l))) ∧ w = w' := by
  have HS : Hid (Strs w v l) := h
  obtain ⟨a, cap, rfl, -⟩ := h
  go_enter Tryd.func40, Tryd.ntmps40
  go_wp2_with fail
  refine (indexLong_any _ l _ HS.out hl).mono ?_
  rintro e w1 ⟨⟨i, rfl, hi, h1, h2⟩, rfl⟩
  have HI : Hid (decide (0 ≤ i) = !(fits l)) := hi
  clear hi
  go_wp2
  go_ret
  exact ⟨ret_bool (by rw [← HI.out]), rfl⟩
/-- the first error of a relation, but for how many rows differ -/
def faultOf (name : List UInt8) (ar : Int) (rows : List (List (List UInt8))) : Nat × Nat :=
  if isName name = false then (8, 0) else if ar < 0 ∨ 8 < ar then (3, 0) else (bad ar.toNat 0 rows).getD (0, 0)
theorem ret_pair {a b : Int} {p : Nat × Nat} (h : p = (a.toNat, b.toNat)) (ha : 0 ≤ a) (hb : 0 ≤ b) : Ending.returned (.tuple #[.int .i64 a, .int .i64 b]) = .returned (.tuple #[.int .i64 (p.1 : Nat), .int .i64 (p.2 : Nat)]) := by
  subst h; simp only
  rw [Int.toNat_of_nonneg ha, Int.toNat_of_nonneg hb]
set_option maxRecDepth 100000 in
set_option maxHeartbeats 2000000 in
theorem fault_any (name : ByteArray) (ar : Int) (rv : Value) (vs : List Value) (rows : List (List (List UInt8))) (w : World) (h : Rows2 w rv vs rows) (hn : name.size ≤ 140737488355328) (hrl : rows.length ≤ 1073741824) (hrr : ∀ r ∈ rows, r.length ≤ 1099511627776) :
    Calls Tryd.prog 22 #[.agg #[.string name, .int .i64 ar, rv]] w fun e w' => e = .returned (.tuple #[.int .i64 ((faultOf name.data.toList ar rows).1 : Nat), .int .i64 ((faultOf name.data.toList ar rows).2 : Nat)]) ∧ Below w.heap.size w w' := by
  have HH : Hid (Rows2 w rv vs rows) := h
  have HRR : Hid (∀ r ∈ rows, r.length ≤ 1099511627776) := hrr
  clear hrr
  obtain ⟨⟨a, cap, rfl, -⟩, -, -⟩ := h
  cases hnm : isName name.data.toList with
  | false =>
    have HT : Hid (faultOf name.data.toList ar rows = (8, 0)) := by show _ = _; unfold faultOf; rw [hnm]; rfl
    have HNM : Hid (isName name.data.toList = false) := hnm
    clear hnm
    go_enter Tryd.func22, Tryd.ntmps22
    go_wp2_with fail
    refine (name_any name _ hn).mono ?_
    rintro e w1 ⟨rfl, rfl⟩
    rw [HNM.out]
    go_wp2
    go_ret2
    exact ⟨ret_pair HT.out (by decide) (by decide), (Below.refl _ _).alloc (Nat.le_refl _) _⟩
  | true =>
    have HNM : Hid (isName name.data.toList = true) := hnm
    by_cases har : ar < 0 ∨ 8 < ar
    · have HT : Hid (faultOf name.data.toList ar rows = (3, 0)) := by show _ = _; unfold faultOf; rw [hnm, if_pos har]; rfl
      clear hnm
      have har' : decide (ar < 0) = true ∨ (decide (ar < 0) = false ∧ decide (8 < ar) = true) := by
        by_cases h0 : ar < 0
        · exact Or.inl (by simpa using h0)
        · exact Or.inr ⟨by simpa using h0, by simp; omega⟩
      clear har
      rcases har' with h0 | ⟨h0, h8⟩
      all_goals
        go_enter Tryd.func22, Tryd.ntmps22
        go_wp2_with fail
        refine (name_any name _ hn).mono ?_
        rintro e w1 ⟨rfl, rfl⟩
        rw [HNM.out]
        go_wp2
        go_ret2
        exact ⟨ret_pair HT.out (by decide) (by decide), (Below.refl _ _).alloc (Nat.le_refl _) _⟩
    · obtain ⟨m, rfl⟩ := Int.eq_ofNat_of_zero_le (by omega : 0 ≤ ar)
      have hm8 : m ≤ 8 := by omega
      have HT : Hid (faultOf name.data.toList m rows = (bad m 0 rows).getD (0, 0)) := by
        show _ = _; unfold faultOf; rw [hnm, if_neg har, Int.toNat_natCast]; rfl
      clear hnm har
      have d0 : decide ((m : Int) < 0) = false := by simp
      have d8 : decide (8 < (m : Int)) = false := by simp; omega
      rcases HH.out.1 with ⟨a2, cap2, hv2, hvs⟩
      cases hv2
      rcases hvs with ⟨rfl, _⟩ | ⟨b, off, rfl, hc⟩
      · have hr0 : rows = [] := List.eq_nil_of_length_eq_zero (by have := HH.out.2.1; simpa using this.symm)
        subst hr0
        go_enter Tryd.func22, Tryd.ntmps22
        go_wp2_with fail
        refine (name_any name _ hn).mono ?_
        rintro e w1 ⟨rfl, rfl⟩
        rw [HNM.out]
        go_wp2
        refine wp_loop_rounds 1 ?_
        rw [rounds_succ]
        go_wp2
        go_ret2
        exact ⟨ret_pair HT.out (by decide) (by decide), (Below.refl _ _).alloc (Nat.le_refl _) _⟩
      · have HC : Hid (∀ (i : Nat) (x : Value), vs[i]? = some x → w.cell? ⟨b, off + i, none⟩ = some x) := hc
        have HLE : Hid (vs.length = rows.length) := HH.out.2.1
        have HIN : Hid (∀ (i : Nat) (x : Value) (r : List (List UInt8)), vs[i]? = some x → rows[i]? = some r → Strs w x r) := HH.out.2.2
        have hvl : vs.length ≤ 1073741824 := by have := HLE.out; omega
        clear hc
        go_enter Tryd.func22, Tryd.ntmps22
        go_wp2_with fail
        refine (name_any name _ hn).mono ?_
        rintro e w1 ⟨rfl, rfl⟩
        rw [HNM.out]
        go_wp2
        obtain ⟨W0, HW0⟩ : ∃ W0, Hid (W0 = w.alloc (.cells #[.string name, .int .i64 m, .slice (some ⟨b, off, none⟩) vs.length cap] 25)) := ⟨_, rfl⟩
        have HB0 : Hid (Below w.heap.size w W0) := by rw [HW0.out]; exact (Below.refl _ _).alloc (Nat.le_refl _) _
        have q1 : W0.cell? ⟨w.heap.size, 1, none⟩ = some (.int .i64 m) := by rw [HW0.out]; simp
        rw [← HW0.out]
        clear HW0
        go_loopw [21] (fun iv wr => ∃ (k n : Nat), k ≤ vs.length ∧ iv = .int .i64 k ∧ wr = W0.drewN n ∧ Hid (bad m 0 rows = bad m k (rows.drop k))) (fun iv _ => vs.length - (intOf iv).toNat)
        case atStart => exact ⟨0, 0, by omega, rfl, rfl, (rfl : bad m 0 rows = bad m 0 rows)⟩
        case round =>
          obtain ⟨k, n, hk, rfl, rfl, HBD⟩ := hrel
          by_cases hlt : k < vs.length
          · have hkr : k < rows.length := by have := HLE.out; omega
            have cx0 := HC.out k vs[k] (val_at hlt)
            have cx : W0.cell? ⟨b, off + k, none⟩ = some vs[k] := (HB0.out.cell (p := ⟨b, off + k, none⟩) (World.block_lt_of_cell? w ⟨b, off + k, none⟩ cx0)).trans cx0
            have HST : Hid (∀ j : Nat, Strs (W0.drewN j) vs[k] rows[k]) := fun j => ((HIN.out k _ _ (val_at hlt) (row_at hkr)).kept HB0.out).drewN j
            have HBK : Hid (bad m 0 rows = if rows[k].length = m then (if fits rows[k] then bad m (k + 1) (rows.drop (k + 1)) else some (1, k)) else some (9, k)) := by
              show _ = _
              rw [HBD.out, List.drop_eq_getElem_cons hkr, bad]; rfl
            have hrowl : rows[k].length ≤ 1099511627776 := HRR.out _ (List.getElem_mem hkr)
            clear cx0
            generalize vs[k] = x at *
            generalize rows[k] = row at *
            obtain ⟨xa, xc, hxe, -⟩ := HST.out 0
            subst hxe
            by_cases hrm : row.length = m
            · have hne : ((row.length : Int) != (m : Int)) = false := by simp [hrm]
              have HRM : Hid (row.length = m) := hrm
              clear hrm
              cases hf : fits row with
              | true =>
                have HN : Hid (bad m 0 rows = bad m (k + 1) (rows.drop (k + 1))) := by show _ = _; rw [HBK.out, if_pos HRM.out, hf]; rfl
                have HF : Hid (fits row = true) := hf
                clear hf
                go_wp2_with fail
                refine (hasLong_any _ row _ (HST.out _) (by omega)).mono ?_
                rintro e w2 ⟨rfl, rfl⟩
                rw [HF.out]
                go_wp2
                go_roundw
                case rel => exact ⟨k + 1, _, by omega, by go_num, rfl, HN⟩
                case measure => simp [intOf]; omega
              | false =>
                have HN : Hid (faultOf name.data.toList m rows = (1, k)) := by show _ = _; rw [HT.out, HBK.out, if_pos HRM.out, hf]; rfl
                have HF : Hid (fits row = false) := hf
                clear hf
                go_wp2_with fail
                refine (hasLong_any _ row _ (HST.out _) (by omega)).mono ?_
                rintro e w2 ⟨rfl, rfl⟩
                rw [HF.out]
                go_wp2
                go_ret2
                exact ⟨ret_pair HN.out (by decide) (by omega), below_drewN HB0.out _⟩
            · have hne : ((row.length : Int) != (m : Int)) = true := by simp; omega
              have HN : Hid (faultOf name.data.toList m rows = (9, k)) := by show _ = _; rw [HT.out, HBK.out, if_neg hrm]; rfl
              clear hrm
              go_wp2
              go_ret2
              exact ⟨ret_pair HN.out (by decide) (by omega), below_drewN HB0.out _⟩
          · have HN : Hid (faultOf name.data.toList m rows = (0, 0)) := by
              show _ = _
              rw [HT.out, HBD.out, List.drop_of_length_le (by have := HLE.out; omega)]; rfl
            go_wp2
            go_ret2
            exact ⟨ret_pair HN.out (by decide) (by decide), below_drewN HB0.out _⟩
end Go.Proofs.YtnnldpccagajbaaDoor
