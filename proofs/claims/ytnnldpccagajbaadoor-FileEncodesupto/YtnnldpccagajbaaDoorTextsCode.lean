/-
  The program's file.texts, walked.
-/
import Derived.Test.YtnnldpccagajbaaDoorConcat
import Derived.Test.YtnnldpccagajbaaDoorPacks
import Derived.Test.YtnnldpccagajbaaDoorDedup
import Derived.Test.YtnnldpccagajbaaDoorCompact
import Derived.Sort.EncStr
import Derived.Lib.SlicesCompact
import Derived.Lib.RowBridge
import Derived.Lib.OwnBridge
import Derived.Lib.AppendIntMem
namespace Go.Proofs.YtnnldpccagajbaaDoor
open Go.ChangeShapes Go.WideShapes Go.ChangeAt Go.RowKit
set_option linter.unusedVariables false
theorem less_dec : ∀ (x y : List UInt8), Op.bytesLess x y = decide (x < y)
  | [], [] => by simp [Op.bytesLess]
  | _ :: _, [] => by simp [Op.bytesLess]
  | [], _ :: _ => by simp [Op.bytesLess]
  | a :: x, b :: y => by
    have ih := less_dec x y
    simp only [Op.bytesLess, ih]
    rw [Bool.eq_iff_iff]
    simp [List.cons_lt_cons_iff]
theorem leT (x y : List UInt8) : decide (x ≤ y) = !(Op.bytesLess y x) := by
  rw [less_dec]
  by_cases h : y < x
  · have h2 : ¬ x ≤ y := fun hh => (List.not_lt.2 hh) h
    rw [decide_eq_true h, decide_eq_false h2]; rfl
  · have h2 : x ≤ y := List.not_lt.1 h
    rw [decide_eq_false h, decide_eq_true h2]; rfl
def sortT (l : List (List UInt8)) : List (List UInt8) := l.mergeSort fun x y => decide (x ≤ y)
theorem sortT_mem (l : List (List UInt8)) (x : List UInt8) : x ∈ sortT l ↔ x ∈ l := (List.mergeSort_perm l _).mem_iff
theorem sortT_len (l : List (List UInt8)) : (sortT l).length = l.length := (List.mergeSort_perm l _).length_eq
theorem sortT_sorted (l : List (List UInt8)) : (sortT l).Pairwise fun a b => Op.bytesLess b a = false := by
  have h := List.pairwise_mergeSort (le := fun x y : List UInt8 => decide (x ≤ y)) (fun a b c h1 h2 => by
      rw [leT] at *
      simp only [Bool.not_eq_true'] at *
      rw [Bool.eq_false_iff]
      intro h3
      rcases Bool.eq_false_or_eq_true (Op.bytesLess a b) with e | e
      · have := less_trans c a b h3 e
        rw [h2] at this; cases this
      · have := less_eq e h1
        subst this
        rw [h2] at h3; cases h3) (fun a b => by
      rw [leT, leT]
      cases h1 : Op.bytesLess b a with
      | false => rfl
      | true => rw [less_asymm h1]; rfl) l
  refine h.imp fun {a b} hab => ?_
  rw [leT] at hab
  simpa using hab
theorem ordR_one (a b : List UInt8) (h : Op.bytesLess a b = false) : ordR [a] [b] ≠ -1 := by
  rw [ordR, h]
  simp only [Bool.false_eq_true, if_false]
  split
  · omega
  · simp [ordR]
theorem compact_dk (S : List (List UInt8)) (k : Nat) (hk : k ≤ S.length) : (dk (S.map fun t => ((.bool true : Value), [t])) k).map (·.2) = (Lib.compactUpTo S.toArray k).map fun t => [t] := by
  induction k with
  | zero => simp [dk, Lib.compactUpTo]
  | succ k ih =>
    have hlt : k < S.length := by omega
    have hy : (S.map fun t => ((.bool true : Value), [t]))[k]? = some (.bool true, [S[k]]) := by simp [hlt]
    have gk : S.toArray[k]! = S[k] := by simp [hlt]
    rw [Lib.compactUpTo_succ]
    by_cases h0 : k = 0
    · subst h0
      rw [dk_one _ _ hy, Lib.keeps_lt_one _ 0 (by decide)]
      simp [Lib.compactUpTo, hlt]
    · have hx : (S.map fun t => ((.bool true : Value), [t]))[k - 1]? = some (.bool true, [S[k - 1]]) := by simp [show k - 1 < S.length by omega]
      have gp : S.toArray[k - 1]! = S[k - 1] := by simp [show k - 1 < S.length by omega]
      by_cases he : S[k] = S[k - 1]
      · rw [dk_same _ k _ _ (by omega) hx hy (by simp [he]), Lib.keeps_neg (by omega) (by rw [gk, gp, he])]
        simpa using ih (by omega)
      · rw [dk_other _ k _ _ hx hy (by simpa using he), Lib.keeps_pos (by rw [gk, gp]; exact he), List.map_append, ih (by omega)]
        simp [hlt]
theorem compact_all (rows : List (List (List UInt8))) : Lib.compact (sortT rows.flatten) = allT rows := by
  have h1 := compact_dk (sortT rows.flatten) _ (Nat.le_refl _)
  have h2 := dk_sortU 1 ((sortT rows.flatten).map fun t => ((.bool true : Value), [t])) (rows.flatten.map fun t => [t]) (fun p hp => by obtain ⟨t, _, rfl⟩ := List.mem_map.1 hp; rfl)
    (fun i j a b hij ha hb => by
      rw [List.getElem?_map] at ha hb
      obtain ⟨x, hx, rfl⟩ := Option.map_eq_some_iff.1 ha
      obtain ⟨y, hy, rfl⟩ := Option.map_eq_some_iff.1 hb
      obtain ⟨hi, rfl⟩ := List.getElem?_eq_some_iff.1 hx
      obtain ⟨hj, rfl⟩ := List.getElem?_eq_some_iff.1 hy
      exact ordR_one _ _ (List.pairwise_iff_getElem.1 (sortT_sorted rows.flatten) i j hi hj hij))
    (fun r hr => by obtain ⟨t, _, rfl⟩ := List.mem_map.1 hr; rfl)
    (fun x => by
      rw [List.map_map]
      constructor
      · intro h
        obtain ⟨t, ht, rfl⟩ := List.mem_map.1 h
        exact List.mem_map.2 ⟨t, (sortT_mem _ t).1 ht, rfl⟩
      · intro h
        obtain ⟨t, ht, rfl⟩ := List.mem_map.1 h
        exact List.mem_map.2 ⟨t, (sortT_mem _ t).2 ht, rfl⟩)
  rw [List.length_map] at h2
  rw [h1] at h2
  unfold allT
  rw [← h2, List.map_map]
  unfold Lib.compact
  conv => lhs; rw [← List.map_id (Lib.compactUpTo (sortT rows.flatten).toArray (sortT rows.flatten).length)]
  rfl
theorem ts_enc (l : List (List UInt8)) : ts l = l.map encStr := rfl
theorem grown_putRow {α : Type} [Inhabited α] (enc : α → Value) {w : World} {g n : Nat} (d : Array α) : w.grownBy (Sort.putRow enc (Sort.ahead w n) g 0 d) (some g) := by
  refine ⟨rfl, rfl, rfl, by simp, fun k hk hne => ?_⟩
  have : g ≠ k := fun e => hne (by rw [e])
  simp [Sort.putRow, Sort.mapBlock, Sort.ahead, Array.getElem?_modify, this]
set_option maxRecDepth 100000 in
set_option maxHeartbeats 2000000 in
theorem ptexts_any (v : Value) (vs : List Value) (rows : List (List (List UInt8))) (w : World) (h : Rows2 w v vs rows) (hl : rows.length ≤ 1073741824) (hf : rows.flatten.length ≤ 67108864) :
    Calls Tryd.prog 24 #[v] w fun e w' => (∃ v', e = .returned v' ∧ w'.ownsRow w.heap.size 9 1 v' (allT rows).length (ts (allT rows))) ∧ Below w.heap.size w w' := by
  have HH : Hid (Rows2 w v vs rows) := h
  obtain ⟨⟨a, cap, rfl, -⟩, -, -⟩ := h
  go_enter Tryd.func24, Tryd.ntmps24
  go_wp2_with fail
  refine (concat_any _ vs rows _ HH.out hl hf).mono ?_
  rintro e w1 ⟨⟨v1, rfl, hown1⟩, hb1⟩
  obtain ⟨a1, c1, rfl⟩ := own_shape2 hown1
  obtain ⟨fl, HFL⟩ : ∃ fl, Hid (fl = rows.flatten) := ⟨_, (rfl : rows.flatten = _)⟩
  rw [← HFL.out] at hown1 hf ⊢
  have HALL : Hid (Lib.compact (sortT fl) = allT rows) := by rw [HFL.out]; exact compact_all rows
  by_cases h0 : fl.length = 0
  · have hf0 : fl = [] := List.eq_nil_of_length_eq_zero h0
    subst hf0
    have HE : Hid (allT rows = []) := by show _ = _; rw [← HALL.out]; simp [sortT, Lib.compact, Lib.compactUpTo]
    have HO : Hid (w1.ownsRow w.heap.size 9 1 (.slice a1 0 c1) 0 []) := hown1
    clear hown1 h0
    go_wp2_with fail
    refine (Tryd.slices_Sort_string_none a1 c1 _).mono ?_
    rintro e w2 ⟨rfl, rfl⟩
    go_wp2_with fail
    refine (Tryd.slices_Compact_string_empty a1 c1 _).mono ?_
    rintro e w2 ⟨rfl, rfl⟩
    go_wp2
    go_ret
    rw [HE.out]
    exact ⟨⟨_, rfl, HO.out⟩, hb1⟩
  · rw [ts_enc] at hown1
    obtain ⟨g, c', hv, hbg, hgw, hnc, hcm, _, hH⟩ := Lib.holds_of_ownsRow hown1 (by intro h; injection h with _ h2 _; exact h0 h2)
    cases hv
    have hslen : (sortT fl).length = fl.length := sortT_len fl
    have hclen := Lib.compact_length_le (sortT fl)
    have HS : Hid (Calls Tryd.prog 46 #[.slice (some ⟨g, 0, none⟩) fl.length c1] w1 fun e w' => e = .returned (.tuple #[]) ∧ w'.ownsRow w.heap.size 9 1 (.slice (some ⟨g, 0, none⟩) fl.length c1) fl.length ((sortT fl).map encStr) ∧ w1.grownBy w' (some g)) := by
      refine (Tryd.slices_Sort_string g 0 c1 fl w1 hH hgw (by omega)).mono ?_
      rintro e w2 ⟨rfl, n, os, rfl⟩
      have ho := Lib.ownsRow_putRow (enc := encStr) (q := n) (k := fl.length) (ys := sortT fl) hown1 hslen (Nat.le_refl _)
      rw [List.take_of_length_le (by omega)] at ho
      exact ⟨rfl, Lib.ownsRow_grow ho 0 os, grown_sorted encStr (sortT fl).toArray⟩
    clear hH hown1
    go_wp2_with fail
    refine HS.out.mono ?_
    rintro e w2 ⟨rfl, hown2, hg2⟩
    obtain ⟨g2, c2, hv2, _, hgw2, _, _, _, hH2⟩ := Lib.holds_of_ownsRow hown2 (by intro h; cases h)
    cases hv2
    have HC : Hid (Calls Tryd.prog 47 #[.slice (some ⟨g, 0, none⟩) fl.length c1] w2 fun e w' => (e = .returned (.slice (some ⟨g, 0, none⟩) (allT rows).length c1) ∧ w'.ownsRow w.heap.size 9 1 (.slice (some ⟨g, 0, none⟩) (allT rows).length c1) (allT rows).length (ts (allT rows))) ∧ w2.grownBy w' (some g)) := by
      have hcon := Tryd.slices_Compact_string g 0 c1 (sortT fl) w2 hH2 (by omega) (by omega)
      rw [hslen] at hcon
      refine hcon.mono ?_
      rintro e w3 ⟨rfl, q, rfl⟩
      have ho := Lib.ownsRow_putRow (enc := encStr) (q := q) (k := (Lib.compact (sortT fl)).length) (ys := Lib.compact (sortT fl) ++ List.replicate (fl.length - (Lib.compact (sortT fl)).length) []) hown2 (by simp; omega) (by omega)
      rw [List.take_left] at ho
      rw [HALL.out] at ho ⊢
      exact ⟨⟨rfl, ho⟩, grown_putRow encStr _⟩
    have HB2 : Hid (Below w.heap.size w w2) := hb1.grown hg2 hb1.size (fun k hk => by cases hk; exact hbg)
    clear hown2 hg2 hH2 HS hb1
    go_wp2_with fail
    refine HC.out.mono ?_
    rintro e w3 ⟨⟨rfl, hown3⟩, hg3⟩
    have HB3 : Hid (Below w.heap.size w w3) := HB2.out.grown hg3 HB2.out.size (fun k hk => by cases hk; exact hbg)
    have HO3 : Hid (w3.ownsRow w.heap.size 9 1 (.slice (some ⟨g, 0, none⟩) (allT rows).length c1) (allT rows).length (ts (allT rows))) := hown3
    clear hown3 hg3
    go_wp2
    go_ret
    exact ⟨⟨_, rfl, HO3.out⟩, HB3.out⟩
end Go.Proofs.YtnnldpccagajbaaDoor
