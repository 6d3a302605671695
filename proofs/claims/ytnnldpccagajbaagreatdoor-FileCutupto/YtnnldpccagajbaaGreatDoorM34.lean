import Derived.Test.YtnnldpccagajbaaGreatDoorM33
import Derived.Test.YtnnldpccagajbaaGreatDoorM10
import Derived.Test.YtnnldpccagajbaaGreatDoorM30
import Derived.Sort.EncStr
import Derived.Lib.SlicesCompact
import Derived.Lib.RowBridge
import Derived.Lib.OwnBridge
import Derived.Lib.AppendIntMem
import Derived.Test.YtnnldpccagajbaaGreatDoorM13
import Derived.Maps.OwnOps
import Derived.Maps.Views
import Derived.Test.YtnnldpccagajbaaGreatDoorM25
/-
  The program's file.texts, walked.
-/
namespace Go.Proofs.YtnnldpccagajbaaGreatDoor
open Go.ChangeShapes Go.WideShapes Go.ChangeAt Go.RowKit
set_option linter.unusedVariables false
theorem less_dec : ∀ (x y : List UInt8), Op.bytesLess x y = decide (x < y)
  | [], [] => by simp [Op.bytesLess]
  | _ :: _, [] => by simp [Op.bytesLess]
  | [], _ :: _ => by simp [Op.bytesLess]
  | a :: x, b :: y => by
    have ih := less_dec x y
    simp only [Op.bytesLess, ih]
    rw [Bool.eq_iff_iff]
    simp [List.cons_lt_cons_iff]
theorem leT (x y : List UInt8) : decide (x ≤ y) = !(Op.bytesLess y x) := by
  rw [less_dec]
  by_cases h : y < x
  · have h2 : ¬ x ≤ y := fun hh => (List.not_lt.2 hh) h
    rw [decide_eq_true h, decide_eq_false h2]; rfl
  · have h2 : x ≤ y := List.not_lt.1 h
    rw [decide_eq_false h, decide_eq_true h2]; rfl
def sortT (l : List (List UInt8)) : List (List UInt8) := l.mergeSort fun x y => decide (x ≤ y)
theorem sortT_mem (l : List (List UInt8)) (x : List UInt8) : x ∈ sortT l ↔ x ∈ l := (List.mergeSort_perm l _).mem_iff
theorem sortT_len (l : List (List UInt8)) : (sortT l).length = l.length := (List.mergeSort_perm l _).length_eq
theorem sortT_sorted (l : List (List UInt8)) : (sortT l).Pairwise fun a b => Op.bytesLess b a = false := by
  have h := List.pairwise_mergeSort (le := fun x y : List UInt8 => decide (x ≤ y)) (fun a b c h1 h2 => by
      rw [leT] at *
      simp only [Bool.not_eq_true'] at *
      rw [Bool.eq_false_iff]
      intro h3
      rcases Bool.eq_false_or_eq_true (Op.bytesLess a b) with e | e
      · have := less_trans c a b h3 e
        rw [h2] at this; cases this
      · have := less_eq e h1
        subst this
        rw [h2] at h3; cases h3) (fun a b => by
      rw [leT, leT]
      cases h1 : Op.bytesLess b a with
      | false => rfl
      | true => rw [less_asymm h1]; rfl) l
  refine h.imp fun {a b} hab => ?_
  rw [leT] at hab
  simpa using hab
theorem ordR_one (a b : List UInt8) (h : Op.bytesLess a b = false) : ordR [a] [b] ≠ -1 := by
  rw [ordR, h]
  simp only [Bool.false_eq_true, if_false]
  split
  · omega
  · simp [ordR]
theorem compact_dk (S : List (List UInt8)) (k : Nat) (hk : k ≤ S.length) : (dk (S.map fun t => ((.bool true : Value), [t])) k).map (·.2) = (Lib.compactUpTo S.toArray k).map fun t => [t] := by
  induction k with
  | zero => simp [dk, Lib.compactUpTo]
  | succ k ih =>
    have hlt : k < S.length := by omega
    have hy : (S.map fun t => ((.bool true : Value), [t]))[k]? = some (.bool true, [S[k]]) := by simp [hlt]
    have gk : S.toArray[k]! = S[k] := by simp [hlt]
    rw [Lib.compactUpTo_succ]
    by_cases h0 : k = 0
    · subst h0
      rw [dk_one _ _ hy, Lib.keeps_lt_one _ 0 (by decide)]
      simp [Lib.compactUpTo, hlt]
    · have hx : (S.map fun t => ((.bool true : Value), [t]))[k - 1]? = some (.bool true, [S[k - 1]]) := by simp [show k - 1 < S.length by omega]
      have gp : S.toArray[k - 1]! = S[k - 1] := by simp [show k - 1 < S.length by omega]
      by_cases he : S[k] = S[k - 1]
      · rw [dk_same _ k _ _ (by omega) hx hy (by simp [he]), Lib.keeps_neg (by omega) (by rw [gk, gp, he])]
        simpa using ih (by omega)
      · rw [dk_other _ k _ _ hx hy (by simpa using he), Lib.keeps_pos (by rw [gk, gp]; exact he), List.map_append, ih (by omega)]
        simp [hlt]
theorem compact_all (rows : List (List (List UInt8))) : Lib.compact (sortT rows.flatten) = allT rows := by
  have h1 := compact_dk (sortT rows.flatten) _ (Nat.le_refl _)
  have h2 := dk_sortU 1 ((sortT rows.flatten).map fun t => ((.bool true : Value), [t])) (rows.flatten.map fun t => [t]) (fun p hp => by obtain ⟨t, _, rfl⟩ := List.mem_map.1 hp; rfl)
    (fun i j a b hij ha hb => by
      rw [List.getElem?_map] at ha hb
      obtain ⟨x, hx, rfl⟩ := Option.map_eq_some_iff.1 ha
      obtain ⟨y, hy, rfl⟩ := Option.map_eq_some_iff.1 hb
      obtain ⟨hi, rfl⟩ := List.getElem?_eq_some_iff.1 hx
      obtain ⟨hj, rfl⟩ := List.getElem?_eq_some_iff.1 hy
      exact ordR_one _ _ (List.pairwise_iff_getElem.1 (sortT_sorted rows.flatten) i j hi hj hij))
    (fun r hr => by obtain ⟨t, _, rfl⟩ := List.mem_map.1 hr; rfl)
    (fun x => by
      rw [List.map_map]
      constructor
      · intro h
        obtain ⟨t, ht, rfl⟩ := List.mem_map.1 h
        exact List.mem_map.2 ⟨t, (sortT_mem _ t).1 ht, rfl⟩
      · intro h
        obtain ⟨t, ht, rfl⟩ := List.mem_map.1 h
        exact List.mem_map.2 ⟨t, (sortT_mem _ t).2 ht, rfl⟩)
  rw [List.length_map] at h2
  rw [h1] at h2
  unfold allT
  rw [← h2, List.map_map]
  unfold Lib.compact
  conv => lhs; rw [← List.map_id (Lib.compactUpTo (sortT rows.flatten).toArray (sortT rows.flatten).length)]
  rfl
theorem ts_enc (l : List (List UInt8)) : ts l = l.map encStr := rfl
theorem grown_putRow {α : Type} [Inhabited α] (enc : α → Value) {w : World} {g n : Nat} (d : Array α) : w.grownBy (Sort.putRow enc (Sort.ahead w n) g 0 d) (some g) := by
  refine ⟨rfl, rfl, rfl, by simp, fun k hk hne => ?_⟩
  have : g ≠ k := fun e => hne (by rw [e])
  simp [Sort.putRow, Sort.mapBlock, Sort.ahead, Array.getElem?_modify, this]
set_option maxRecDepth 100000 in
set_option maxHeartbeats 2000000 in
theorem ptexts_any (v : Value) (vs : List Value) (rows : List (List (List UInt8))) (w : World) (h : Rows2 w v vs rows) (hl : rows.length ≤ 1073741824) (hf : rows.flatten.length ≤ 67108864) :
    Calls Tryz.prog 49 #[v] w fun e w' => (∃ v', e = .returned v' ∧ w'.ownsRow w.heap.size 9 1 v' (allT rows).length (ts (allT rows))) ∧ Below w.heap.size w w' := by
  have HH : Hid (Rows2 w v vs rows) := h
  obtain ⟨⟨a, cap, rfl, -⟩, -, -⟩ := h
  go_enter Tryz.func49, Tryz.ntmps49
  go_wp2_with fail
  refine (concat_any _ vs rows _ HH.out hl hf).mono ?_
  rintro e w1 ⟨⟨v1, rfl, hown1⟩, hb1⟩
  obtain ⟨a1, c1, rfl⟩ := own_shape2 hown1
  obtain ⟨fl, HFL⟩ : ∃ fl, Hid (fl = rows.flatten) := ⟨_, (rfl : rows.flatten = _)⟩
  rw [← HFL.out] at hown1 hf ⊢
  have HALL : Hid (Lib.compact (sortT fl) = allT rows) := by rw [HFL.out]; exact compact_all rows
  by_cases h0 : fl.length = 0
  · have hf0 : fl = [] := List.eq_nil_of_length_eq_zero h0
    subst hf0
    have HE : Hid (allT rows = []) := by show _ = _; rw [← HALL.out]; simp [sortT, Lib.compact, Lib.compactUpTo]
    have HO : Hid (w1.ownsRow w.heap.size 9 1 (.slice a1 0 c1) 0 []) := hown1
    clear hown1 h0
    go_wp2_with fail
    refine (Tryz.slices_Sort_string_none a1 c1 _).mono ?_
    rintro e w2 ⟨rfl, rfl⟩
    go_wp2_with fail
    refine (Tryz.slices_Compact_string_empty a1 c1 _).mono ?_
    rintro e w2 ⟨rfl, rfl⟩
    go_wp2
    go_ret
    rw [HE.out]
    exact ⟨⟨_, rfl, HO.out⟩, hb1⟩
  · rw [ts_enc] at hown1
    obtain ⟨g, c', hv, hbg, hgw, hnc, hcm, _, hH⟩ := Lib.holds_of_ownsRow hown1 (by intro h; injection h with _ h2 _; exact h0 h2)
    cases hv
    have hslen : (sortT fl).length = fl.length := sortT_len fl
    have hclen := Lib.compact_length_le (sortT fl)
    have HS : Hid (Calls Tryz.prog 81 #[.slice (some ⟨g, 0, none⟩) fl.length c1] w1 fun e w' => e = .returned (.tuple #[]) ∧ w'.ownsRow w.heap.size 9 1 (.slice (some ⟨g, 0, none⟩) fl.length c1) fl.length ((sortT fl).map encStr) ∧ w1.grownBy w' (some g)) := by
      refine (Tryz.slices_Sort_string g 0 c1 fl w1 hH hgw (by omega)).mono ?_
      rintro e w2 ⟨rfl, n, os, rfl⟩
      have ho := Lib.ownsRow_putRow (enc := encStr) (q := n) (k := fl.length) (ys := sortT fl) hown1 hslen (Nat.le_refl _)
      rw [List.take_of_length_le (by omega)] at ho
      exact ⟨rfl, Lib.ownsRow_grow ho 0 os, grown_sorted encStr (sortT fl).toArray⟩
    clear hH hown1
    go_wp2_with fail
    refine HS.out.mono ?_
    rintro e w2 ⟨rfl, hown2, hg2⟩
    obtain ⟨g2, c2, hv2, _, hgw2, _, _, _, hH2⟩ := Lib.holds_of_ownsRow hown2 (by intro h; cases h)
    cases hv2
    have HC : Hid (Calls Tryz.prog 82 #[.slice (some ⟨g, 0, none⟩) fl.length c1] w2 fun e w' => (e = .returned (.slice (some ⟨g, 0, none⟩) (allT rows).length c1) ∧ w'.ownsRow w.heap.size 9 1 (.slice (some ⟨g, 0, none⟩) (allT rows).length c1) (allT rows).length (ts (allT rows))) ∧ w2.grownBy w' (some g)) := by
      have hcon := Tryz.slices_Compact_string g 0 c1 (sortT fl) w2 hH2 (by omega) (by omega)
      rw [hslen] at hcon
      refine hcon.mono ?_
      rintro e w3 ⟨rfl, q, rfl⟩
      have ho := Lib.ownsRow_putRow (enc := encStr) (q := q) (k := (Lib.compact (sortT fl)).length) (ys := Lib.compact (sortT fl) ++ List.replicate (fl.length - (Lib.compact (sortT fl)).length) []) hown2 (by simp; omega) (by omega)
      rw [List.take_left] at ho
      rw [HALL.out] at ho ⊢
      exact ⟨⟨rfl, ho⟩, grown_putRow encStr _⟩
    have HB2 : Hid (Below w.heap.size w w2) := hb1.grown hg2 hb1.size (fun k hk => by cases hk; exact hbg)
    clear hown2 hg2 hH2 HS hb1
    go_wp2_with fail
    refine HC.out.mono ?_
    rintro e w3 ⟨⟨rfl, hown3⟩, hg3⟩
    have HB3 : Hid (Below w.heap.size w w3) := HB2.out.grown hg3 HB2.out.size (fun k hk => by cases hk; exact hbg)
    have HO3 : Hid (w3.ownsRow w.heap.size 9 1 (.slice (some ⟨g, 0, none⟩) (allT rows).length c1) (allT rows).length (ts (allT rows))) := hown3
    clear hown3 hg3
    go_wp2
    go_ret
    exact ⟨⟨_, rfl, HO3.out⟩, HB3.out⟩
end Go.Proofs.YtnnldpccagajbaaGreatDoor

/-
  The program's file.numbers, walked: a map that the call makes.
-/
namespace Go.Proofs.YtnnldpccagajbaaGreatDoor
open Go.ChangeShapes Go.WideShapes Go.ChangeAt Go.RowKit Go.WideMaps Go.Maps
set_option linter.unusedVariables false
/-- the map of the first k texts' numbers, as read -/
def numD (l : List (List UInt8)) : Nat → DataW Unit
  | 0 => .map []
  | k + 1 => (numD l k).put (.string (l.getD k [])) (.lit (.int .i64 (k : Nat)))
theorem numD_isMap (l : List (List UInt8)) : ∀ k, IsMap (numD l k)
  | 0 => isMap_empty
  | k + 1 => (numD_isMap l k).put _ _
theorem numD_step (l : List (List UInt8)) (k : Nat) (x : List UInt8) (h : l[k]? = some x) : numD l (k + 1) = (numD l k).put (.string x) (.lit (.int .i64 (k : Nat))) := by
  rw [numD]; simp [List.getD, h]
theorem numD_at (l : List (List UInt8)) (i : Nat) (t : List UInt8) (hi : l[i]? = some t) (z : DataW Unit) : ∀ k, i < k → k ≤ l.length → (∀ j, i < j → j < k → l[j]? ≠ some t) → (numD l k).atKey (.string t) z = .lit (.int .i64 (i : Nat))
  | 0, h, _, _ => by omega
  | k + 1, h, hk, hne => by
    have hx : l[k]? = some l[k] := List.getElem?_eq_getElem (by omega)
    rw [numD_step l k _ hx]
    by_cases e : i = k
    · subst e
      rw [hi] at hx
      cases hx
      exact atKey_put_same (numD_isMap l i) (by simp [WideAt.IsKeyLit]) _ _
    · have hn := hne k (by omega) (by omega)
      rw [atKey_put_other (by intro e2; injection e2 with e3; exact hn (by rw [hx, ← e3]))]
      exact numD_at l i t hi z k (by omega) (by omega) (fun j h1 h2 => hne j h1 (by omega))
theorem strKeyed : Keyed Tryz.prog 9 := string_keyed Tryz.underlying9
theorem zeroInt (w : World) : (zeroValue 3).run Tryz.prog w = .ok (.int .i64 0) w := by kernel_rfl
set_option maxRecDepth 100000 in
set_option maxHeartbeats 1000000 in
theorem numbers_any (v : Value) (l : List (List UInt8)) (w : World) (h : Strs w v l) (hl : l.length ≤ 1073741824) (hs : ∀ t ∈ l, t.length ≤ 1000) :
    Calls Tryz.prog 51 #[v] w fun e w' => e = .returned (.map (some w.heap.size)) ∧ w'.ownsMap Tryz.prog 9 (plainElem Tryz.prog 3) w.heap.size l.length (numD l l.length) ∧ Below w.heap.size w w' := by
  have hmm := @run_makeMap Tryz.prog
  obtain ⟨a, cap, rfl, h⟩ := h
  rcases h with ⟨rfl, _⟩ | ⟨b, off, rfl, hc⟩
  · go_enter Tryz.func51, Tryz.ntmps51
    go_wp2
    refine wp_loop_rounds 1 ?_
    rw [rounds_succ]
    go_wp2
    go_ret
    exact ⟨rfl, World.ownsMap_made _ _ _ _, (Below.refl _ _).alloc (Nat.le_refl _) _⟩
  · have HC : Hid (∀ (i : Nat) (x : List UInt8), l[i]? = some x → w.cell? ⟨b, off + i, none⟩ = some (.string (str x))) := hc
    have HS : Hid (∀ t ∈ l, t.length ≤ 1000) := hs
    clear hc hs
    go_enter Tryz.func51, Tryz.ntmps51
    go_wp2
    go_loopw [9] (fun i wr => ∃ k : Nat, k ≤ l.length ∧ i = .int .i64 k ∧ wr.ownsMap Tryz.prog 9 (plainElem Tryz.prog 3) w.heap.size k (numD l k) ∧ Below w.heap.size w wr) (fun i _ => l.length - (intOf i).toNat)
    case atStart => exact ⟨0, Nat.zero_le _, rfl, World.ownsMap_made _ _ _ _, (Below.refl _ _).alloc (Nat.le_refl _) _⟩
    case round =>
      obtain ⟨k, hk, rfl, hown, hnx⟩ := hrel
      by_cases hlt : k < l.length
      · have c0 := HC.out k l[k] (get_at hlt)
        have c1 := (hnx.cell (p := ⟨b, off + k, none⟩) (World.block_lt_of_cell? w ⟨b, off + k, none⟩ c0)).trans c0
        have HX : Hid (l[k]? = some l[k]) := get_at hlt
        have hxs : l[k].length ≤ 1000 := HS.out _ (List.getElem_mem hlt)
        obtain ⟨x, HXE⟩ : ∃ x, Hid (x = l[k]) := ⟨l[k], rfl⟩
        rw [← HXE.out] at c1 HX hxs
        have hkey : keyOf Tryz.prog 9 (.string (str x)) = some (.string x) := by
          have := keyOf_string_mk Tryz.underlying9 (s := str x) (by rw [str_size]; unfold maxLen; omega)
          rw [data_str] at this; exact this
        obtain ⟨sx, HSX⟩ : ∃ sx, Hid (sx = str x) := ⟨_, (rfl : str x = _)⟩
        rw [← HSX.out] at c1 hkey
        clear c0 hxs
        go_wp2_with (first
          | (at_mapUpdate; refine wpList_mapUpdate_own _ rfl _ _ _ 92 rfl 9 3 strKeyed Tryz.underlying92 _ w.heap.size k _ rfl hown (by unfold maxLen; omega) _ _ _ rfl rfl hkey _ [] (plainElem_int Tryz.underlying3 (WalkArith.wf_i64 (by omega))) ?_)
          | go_in)
        intro w1 hown1 hgrow1
        have R1 := (numD_step l k x HX.out).symm ▸ hown1
        have R2 := hnx.grown hgrow1 hnx.size (fun j hj => by cases hj; exact Nat.le_refl _)
        clear hown1 hgrow1 hown c1
        go_wp2
        go_roundw
        case rel => exact ⟨k + 1, by omega, by go_num, R1, R2⟩
        case measure => simp [intOf]; omega
      · have hkl : k = l.length := by omega
        have HO : Hid (wr.ownsMap Tryz.prog 9 (plainElem Tryz.prog 3) w.heap.size l.length (numD l l.length)) := by show _; rw [← hkl]; exact hown
        clear hown
        go_wp2
        go_ret
        exact ⟨rfl, HO.out, hnx⟩
end Go.Proofs.YtnnldpccagajbaaGreatDoor

/-
  The program's file.columnText, walked.
-/
namespace Go.Proofs.YtnnldpccagajbaaGreatDoor
open Go.ChangeShapes Go.WideShapes Go.ChangeAt Go.RowKit Go.WideMaps Go.Maps
set_option linter.unusedVariables false
theorem ownsMap_below {H : Type} {P : Program} {k : TypeId} {R : Value → Option (DataW H × List MemPlace)} {m n : Nat} {D : DataW H} {w w' : World} {b : Nat} (h : w.ownsMap P k R m n D) (hb : Below b w w') (hm : m < b) : w'.ownsMap P k R m n D := by
  obtain ⟨es, clock, he, hr⟩ := h
  exact ⟨es, clock, by rw [hb.block m hm]; exact he, hr⟩
theorem find_once (l : List (List UInt8)) (hn : l.Nodup) (i : Nat) (t : List UInt8) (hi : l[i]? = some t) : find l t = i := by
  refine find_at l t i (fun j hj h => ?_) hi
  obtain ⟨h1, e1⟩ := List.getElem?_eq_some_iff.1 hi
  obtain ⟨h2, e2⟩ := List.getElem?_eq_some_iff.1 h
  exact List.pairwise_iff_getElem.1 hn j i h2 h1 hj (e2.trans e1.symm)
theorem numD_find (l : List (List UInt8)) (hn : l.Nodup) (t : List UInt8) (ht : t ∈ l) (z : DataW Unit) : (numD l l.length).atKey (.string t) z = .lit (.int .i64 (find l t)) := by
  obtain ⟨i, hi, e⟩ := List.getElem_of_mem ht
  have hi' : l[i]? = some t := by rw [← e]; exact List.getElem?_eq_getElem hi
  rw [find_once l hn i t hi', numD_at l i t hi' z l.length hi (Nat.le_refl _)]
  intro j h1 h2 h
  obtain ⟨h3, e2⟩ := List.getElem?_eq_some_iff.1 h
  exact List.pairwise_iff_getElem.1 hn i j hi h3 h1 (e.trans e2.symm)
set_option maxRecDepth 100000 in
set_option maxHeartbeats 2000000 in
theorem pcolumn_any (v : Value) (vs : List Value) (rows : List (List (List UInt8))) (c m nb : Nat) (all : List (List UInt8)) (w : World) (h : Rows2 w v vs rows) (hm : w.ownsMap Tryz.prog 9 (plainElem Tryz.prog 3) m nb (numD all all.length)) (hl : rows.length ≤ 67108864) (hal : all.length ≤ 1073741824) (hc : ∀ r ∈ rows, c < r.length) (hr : ∀ r ∈ rows, r.length ≤ 1099511627776)
    (hin0 : ∀ r ∈ rows, ∀ t ∈ r, t ∈ all) (hnd : all.Nodup) (hs : ∀ t ∈ all, t.length ≤ 1000) :
    Calls Tryz.prog 55 #[v, .int .i64 c, .map (some m)] w fun e w' => e = .returned (.string (str (colF all c 0 rows))) ∧ Below w.heap.size w w' := by
  have hvl : vs.length ≤ 67108864 := by have := h.2.1; omega
  have hmw : m < w.heap.size := hm.lt
  have HM : Hid (w.ownsMap Tryz.prog 9 (plainElem Tryz.prog 3) m nb (numD all all.length)) := hm
  obtain ⟨⟨a, cap, rfl, hv⟩, hlen, hin⟩ := h
  have HLE : Hid (vs.length = rows.length) := hlen
  have HIN : Hid (∀ (i : Nat) (x : Value) (r : List (List UInt8)), vs[i]? = some x → rows[i]? = some r → Strs w x r) := hin
  have HCL : Hid (∀ r ∈ rows, c < r.length) := hc
  have HRR : Hid (∀ r ∈ rows, r.length ≤ 1099511627776) := hr
  have HIA : Hid (∀ r ∈ rows, ∀ t ∈ r, t ∈ all) := hin0
  have HND : Hid (all.Nodup) := hnd
  have HSS : Hid (∀ t ∈ all, t.length ≤ 1000) := hs
  have HV : Hid (∀ k, k < vs.length → ∃ b off, a = some ⟨b, off, none⟩ ∧ ∀ (i : Nat) (x : Value), vs[i]? = some x → w.cell? ⟨b, off + i, none⟩ = some x) := by
    intro k hk
    rcases hv with ⟨rfl, _⟩ | ⟨b, off, rfl, hc⟩
    · simp at hk
    · exact ⟨b, off, rfl, hc⟩
  clear hv hlen hin hc hr hin0 hnd hs hm
  go_enter Tryz.func55, Tryz.ntmps55
  go_wp2
  go_loopw [8, 14] (fun lastv iv wr => ∃ (i : Nat) (last : Int) (out : List UInt8), i ≤ vs.length ∧ iv = .int .i64 i ∧ lastv = .int .i64 last ∧ -1 ≤ last ∧ last ≤ 1073741824 ∧ out.length ≤ 9 * i ∧ Hid (Wr wr w.heap.size out) ∧ Hid (Below w.heap.size w wr) ∧ Hid (out ++ colF all c last (rows.drop i) = colF all c 0 rows)) (fun _ iv _ => vs.length - (intOf iv).toNat)
  case atStart => exact ⟨0, 0, [], by omega, rfl, rfl, by omega, by omega, by simp, Wr.new w _ rfl, (Below.refl _ _).alloc (Nat.le_refl _) _, by simp [Hid]⟩
  case round =>
    obtain ⟨i, last, out, hi2, rfl, rfl, hl1, hl2, hol, HW, HB, HE⟩ := hrel
    by_cases hlt : i < vs.length
    · have hir : i < rows.length := by have := HLE.out; omega
      obtain ⟨b, off, rfl, hcc⟩ := HV.out i hlt
      have cx0 := hcc i vs[i] (val_at hlt)
      have cx1 := (HB.out.cell (p := ⟨b, off + i, none⟩) (World.block_lt_of_cell? w ⟨b, off + i, none⟩ cx0)).trans cx0
      have hcr : c < rows[i].length := HCL.out _ (List.getElem_mem hir)
      obtain ⟨xa, xc, hxe, hxs⟩ := HIN.out i _ _ (val_at hlt) (row_at hir)
      have hrl : rows[i].length ≤ 1099511627776 := HRR.out _ (List.getElem_mem hir)
      obtain ⟨bx, ox, hxa, hcx⟩ : ∃ bx ox, xa = some ⟨bx, ox, none⟩ ∧ w.cell? ⟨bx, ox + c, none⟩ = some (.string (str rows[i][c])) := by
        rcases hxs with ⟨hn, _⟩ | ⟨bx, ox, rfl, hcx⟩
        · rw [hn] at hcr; simp at hcr
        · exact ⟨bx, ox, rfl, hcx c _ (get_at hcr)⟩
      subst hxa
      have ct := (HB.out.cell (p := ⟨bx, ox + c, none⟩) (World.block_lt_of_cell? w ⟨bx, ox + c, none⟩ hcx)).trans hcx
      rw [hxe] at cx1
      have HDR : Hid (rows.drop i = rows[i] :: rows.drop (i + 1)) := List.drop_eq_getElem_cons hir
      have HGD : Hid (rows[i].getD c [] = rows[i][c]) := by show _ = _; simp [List.getD, List.getElem?_eq_getElem hcr]
      have HTA : Hid (rows[i][c] ∈ all) := HIA.out _ (List.getElem_mem hir) _ (List.getElem_mem hcr)
      obtain ⟨t, HT⟩ : ∃ t, Hid (t = rows[i][c]) := ⟨_, (rfl : rows[i][c] = _)⟩
      rw [← HT.out] at ct HTA
      obtain ⟨rl, HRL⟩ : ∃ rl, Hid (rl = rows[i].length) := ⟨_, (rfl : rows[i].length = _)⟩
      rw [← HRL.out] at cx1 hcr hrl
      have HE2 : Hid (out ++ (vb (fold (find all t - last)).toNat ++ colF all c (find all t) (rows.drop (i + 1))) = colF all c 0 rows) := by
        show _ = _
        rw [← HE.out, HDR.out, colF_cons, HGD.out, HT.out]
      obtain ⟨hf1, hf2⟩ := find_bd all t
      have hown : wr.ownsMap Tryz.prog 9 (plainElem Tryz.prog 3) m nb (numD all all.length) := ownsMap_below HM.out HB.out hmw
      have htl : t.length ≤ 1000 := HSS.out _ HTA.out
      have hkey : keyOf Tryz.prog 9 (.string (str t)) = some (.string t) := by
        have := keyOf_string_mk Tryz.underlying9 (s := str t) (by rw [str_size]; unfold maxLen; omega)
        rw [data_str] at this; exact this
      have HAT : Hid ((numD all all.length).atKey (.string t) (.lit (.int .i64 0)) = .lit (.int .i64 (find all t))) := numD_find all HND.out t HTA.out _
      clear hcc cx0 hxs hxe hcx htl
      obtain ⟨fn, HFN⟩ : ∃ fn, Hid (fn = find all t) := ⟨_, (rfl : find all t = _)⟩
      rw [← HFN.out] at hf1 hf2 HE2 HAT
      have hrun : (Instr.lookup 92 (.map (some m)) (.string (str t)) false).run Tryz.prog wr = .ok (.int .i64 fn) wr := by
        obtain ⟨cc, hr1, hat, _⟩ := hown.lookup_int strKeyed Tryz.underlying92 Tryz.underlying3 (zeroInt _) hkey
        rw [HAT.out] at hat
        injection hat with hat; injection hat with _ hat
        subst hat
        exact hr1
      obtain ⟨hq1, hq2⟩ := fold_bd (fn - last)
      have h9 := vb_length9 (fold (fn - last)).toNat (by omega)
      obtain ⟨st, HST⟩ : ∃ st, Hid (st = str t) := ⟨_, (rfl : str t = _)⟩
      rw [← HST.out] at ct hrun
      clear hown hkey
      go_wp2_with fail
      refine (pfold_any (fn - last) _ (by omega) (by omega)).mono ?_
      rintro e w3 ⟨rfl, rfl⟩
      go_wp2_with fail
      refine (wnumber_at w.heap.size out (fold (fn - last)) _ HW.out hq1 (by omega) (by omega)).mono ?_
      rintro e w4 ⟨rfl, hw4, hb4⟩
      have HB4 : Hid (Below w.heap.size w w4) := HB.out.trans hb4
      generalize (fold (fn - last)).toNat = fv at *
      have HW4 : Hid (Wr w4 w.heap.size (out ++ vb fv)) := hw4
      have hol2 : (out ++ vb fv).length ≤ 9 * (i + 1) := by rw [List.length_append]; omega
      have HE3 : Hid ((out ++ vb fv) ++ colF all c fn (rows.drop (i + 1)) = colF all c 0 rows) := by show _ = _; rw [← HE2.out, List.append_assoc]
      clear hb4 hw4
      go_wp2
      go_roundw
      case rel => exact ⟨i + 1, fn, out ++ vb fv, by omega, by go_num, rfl, hf1, by omega, hol2, HW4, HB4, HE3⟩
      case measure => simp [intOf]; omega
    · have HF : Hid (out = colF all c 0 rows) := by
        show _ = _
        rw [← HE.out, List.drop_of_length_le (by have := HLE.out; omega)]; simp [colF]
      go_wp2_with fail
      refine (written_any w.heap.size _ _ HW.out).mono ?_
      rintro e w2 ⟨rfl, rfl⟩
      go_wp2
      go_ret
      exact ⟨ret_str (by rw [HF.out]), HB.out⟩
end Go.Proofs.YtnnldpccagajbaaGreatDoor
