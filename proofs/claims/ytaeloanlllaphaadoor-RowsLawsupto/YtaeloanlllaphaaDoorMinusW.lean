/-
  The program's Rise and Minus, walked.
-/
import Derived.Test.YtaeloanlllaphaaDoorDelFunc
namespace Go.Proofs.YtaeloanlllaphaaDoor
open Go.ChangeShapes Go.WideShapes Go.ChangeAt Go.RowKit
set_option linter.unusedVariables false
set_option maxRecDepth 100000 in
set_option maxHeartbeats 400000 in
theorem delete_none (fv : Value) (w : World) : Calls Tryd.prog 22 #[.slice none 0 0, fv] w fun e w' => e = .returned (.slice none 0 0) ∧ w = w' := by
  have HI : Hid (Calls Tryd.prog 37 #[.slice none 0 0, fv] w fun e w' => e = .returned (.int .i64 (-1)) ∧ w = w') := by
    go_enter Tryd.func37, Tryd.ntmps37
    go_wp2
    refine wp_loop_rounds 1 ?_
    rw [rounds_succ]
    go_wp2
    go_ret
    exact ⟨rfl, rfl⟩
  go_enter Tryd.func22, Tryd.ntmps22
  go_wp2_with fail
  refine HI.out.mono ?_
  rintro e w2 ⟨rfl, rfl⟩
  go_wp2
  go_ret
  exact ⟨rfl, rfl⟩
set_option maxRecDepth 100000 in
set_option maxHeartbeats 400000 in
theorem rise_any (v : Value) (vs : List Value) (rows : List (List (List UInt8))) (w : World) (h : Rows2 w v vs rows) (hl : rows.length ≤ 1073741824) (hm : ∀ r ∈ rows, r.length ≤ 1099511627776) :
    Calls Tryd.prog 7 #[v] w fun e w' => (∃ v' us, e = .returned v' ∧ Deep w.heap.size w' v' us (sortL rows)) ∧ Below w.heap.size w w' := by
  have HC : Hid (Calls Tryd.prog 19 #[v] w fun e w' => (∃ v' us, e = .returned v' ∧ Deep w.heap.size w' v' us (sortL rows)) ∧ Below w.heap.size w w') := rising_any v vs rows w h hl hm
  obtain ⟨⟨a, cap, rfl, -⟩, -, -⟩ := h
  go_enter Tryd.func7, Tryd.ntmps7
  go_wp2_with fail
  refine HC.out.mono ?_
  rintro e w2 ⟨⟨v2, us2, rfl, hd2⟩, hb2⟩
  go_wp2
  go_ret
  exact ⟨⟨_, us2, rfl, hd2⟩, hb2⟩
/-- rows that are left, in memory of one's own -/
theorem deleted_any (base g cap pb : Nat) (us : List Value) (L : List (List (List UInt8))) (q : List (List UInt8) → Bool) (w : World) (hd : Deep base w (.slice (some ⟨g, 0, none⟩) us.length cap) us L) (hl : L.length ≤ 1099511627776)
    (hq : ∀ (W : World), w.grownBy W (some g) → ∀ (x : Value) (r : List (List UInt8)), W.ownsRow base 9 1 x r.length (ts r) → r ∈ L → Calls Tryd.prog 23 #[x, .pointer (some ⟨pb, 0, none⟩)] W fun e w' => e = .returned (.bool (q r)) ∧ W.grownBy w' none) :
    Calls Tryd.prog 22 #[.slice (some ⟨g, 0, none⟩) us.length cap, .func (.func 23) #[] #[.pointer (some ⟨pb, 0, none⟩)]] w fun e w' =>
      (∃ v' us', e = .returned v' ∧ Deep base w' v' us' (L.filter fun r => !q r)) ∧ w.grownBy w' (some g) := by
  have hul := hd.2.1
  have hz : (us.zip L).length = us.length := by rw [List.length_zip]; omega
  have hf : (us.zip L).map (·.1) = us := List.map_fst_zip (by omega)
  have hs : (us.zip L).map (·.2) = L := List.map_snd_zip (by omega)
  have hin : ∀ p ∈ us.zip L, w.ownsRow base 9 1 p.1 p.2.length (ts p.2) := by
    rintro ⟨x, r⟩ hp
    obtain ⟨i, hi, he⟩ := List.getElem_of_mem hp
    have hiu : i < us.length := by omega
    have hir : i < L.length := by omega
    rw [List.getElem_zip] at he
    cases he
    exact hd.2.2 i _ _ (val_at hiu) (row_at hir)
  have ho : w.ownsRow base 33 1 (.slice (some ⟨g, 0, none⟩) (us.zip L).length cap) (us.zip L).length ((us.zip L).map (·.1)) := by rw [hz, hf]; exact hd.1
  have := delete_any base g cap pb (us.zip L) q w ho (fun W hW i hi => hq W hW _ _ (inner_kept (hin _ (List.getElem_mem hi)) hd.1 hW) (List.of_mem_zip (List.getElem_mem hi)).2) (by omega) (fun p hp => by
    obtain ⟨a, c, h⟩ := own_shape' (hin p hp); exact ⟨a, _, c, h⟩)
  rw [hz] at this
  refine this.mono ?_
  rintro e w' ⟨c, rfl, ho', hg⟩
  refine ⟨⟨_, ((us.zip L).filter fun p => !q p.2).map (·.1), rfl, ?_⟩, hg⟩
  have hD : ((us.zip L).filter fun p => !q p.2).map (·.2) = L.filter fun r => !q r := by
    conv => rhs; rw [← hs, List.filter_map]
    rfl
  refine ⟨by rw [List.length_map]; exact ho', by rw [← hD]; simp, fun i x r hx hr => ?_⟩
  rw [← hD] at hr
  rw [List.getElem?_map] at hx hr
  obtain ⟨p, hp, rfl⟩ := Option.map_eq_some_iff.1 hx
  rw [hp] at hr
  cases hr
  exact inner_kept (hin p (List.mem_filter.1 (List.mem_of_getElem? hp)).1) hd.1 hg
set_option maxRecDepth 100000 in
set_option maxHeartbeats 1000000 in
theorem minus_any (va vb : Value) (xs ys : List Value) (la lb : List (List (List UInt8))) (w : World) (ha : Rows2 w va xs la) (hb : Rows2 w vb ys lb) (ht : Tab w) (hla : la.length ≤ 1073741824) (hlb : lb.length ≤ 1073741824)
    (hra : ∀ r ∈ la, r.length ≤ 1048576 ∧ ∀ t ∈ r, t.length ≤ 1048576) (hrb : ∀ r ∈ lb, r.length ≤ 1048576 ∧ ∀ t ∈ r, t.length ≤ 1048576) :
    Calls Tryd.prog 9 #[va, vb] w fun e w' => (∃ v us, e = .returned v ∧ Deep w.heap.size w' v us (sortL (la.filter fun r => !decide (r ∈ lb)))) ∧ Below w.heap.size w w' := by
  have HA : Hid (Rows2 w va xs la) := ha
  have HB : Hid (Rows2 w vb ys lb) := hb
  have HT : Hid (Tab w) := ht
  have HRA : Hid (∀ r ∈ la, r.length ≤ 1048576 ∧ ∀ t ∈ r, t.length ≤ 1048576) := hra
  have HRB : Hid (∀ r ∈ lb, r.length ≤ 1048576 ∧ ∀ t ∈ r, t.length ≤ 1048576) := hrb
  obtain ⟨aa, ca, rfl, -⟩ := rows_cell ha
  obtain ⟨ab, cb, rfl, -⟩ := rows_cell hb
  clear ha hb ht hra hrb
  go_enter Tryd.func9, Tryd.ntmps9
  go_wp2_with fail
  refine (keysOf_any _ ys lb _ HB.out HT.out hlb HRB.out).mono ?_
  rintro e w1 ⟨rfl, hm1, hb1⟩
  have hmlt := ownsMap_lt hm1
  go_wp2_with fail
  obtain ⟨w2, HW2⟩ : ∃ w2, Hid (w2 = w1.alloc (.cells #[.map (some w.heap.size)] 36)) := ⟨_, rfl⟩
  obtain ⟨pb, HPB⟩ : ∃ pb, Hid (pb = w1.heap.size) := ⟨_, rfl⟩
  have HM2 : Hid (w2.ownsMap Tryd.prog 9 unitElem w.heap.size lb.length (keyD lb)) := by rw [HW2.out]; exact ownsMap_at hm1 (Below.heap_alloc _ _ _ hmlt)
  have HB2 : Hid (Below w.heap.size w w2) := by rw [HW2.out]; exact hb1.alloc hb1.size _
  have HP2 : Hid (w2.cell? ⟨pb, 0, none⟩ = some (.map (some w.heap.size))) := by show _ = _; rw [HW2.out, HPB.out]; simp
  rw [← HW2.out, ← HPB.out]
  clear hm1 hb1 hmlt HW2 HPB
  refine (rising_any _ xs la _ (HA.out.kept HB2.out) hla (fun r hr => by have := (HRA.out r hr).1; omega)).mono ?_
  rintro e w3 ⟨⟨v3, us3, rfl, hd3⟩, hb3⟩
  have HB3 : Hid (Below w.heap.size w w3) := HB2.out.trans (hb3.mono HB2.out.size)
  have hmlt2 := ownsMap_lt HM2.out
  have hplt := World.block_lt_of_cell? w2 ⟨pb, 0, none⟩ HP2.out
  have HM3 : Hid (w3.ownsMap Tryd.prog 9 unitElem w.heap.size lb.length (keyD lb)) := ownsMap_at HM2.out (hb3.block _ hmlt2)
  have HP3 : Hid (w3.cell? ⟨pb, 0, none⟩ = some (.map (some w.heap.size))) := (hb3.cell (p := ⟨pb, 0, none⟩) hplt).trans HP2.out
  have HFS : Hid ((sortL la).filter (fun r => !decide (r ∈ lb)) = sortL (la.filter fun r => !decide (r ∈ lb))) := sortL_filter la _
  have hsl := sortL_len la
  rcases hd3.1.2 with ⟨rfl, h0⟩ | ⟨g, cap, cur, rfl, hbg, hrest⟩
  · have hL0 : sortL la = [] := List.eq_nil_of_length_eq_zero (by have := hd3.2.1; omega)
    have HE : Hid (sortL (la.filter fun r => !decide (r ∈ lb)) = []) := by show _ = _; rw [← HFS.out, hL0]; rfl
    clear hd3 hb3 hL0
    go_wp2_with fail
    refine (delete_none _ _).mono ?_
    rintro e w4 ⟨rfl, rfl⟩
    go_wp2
    go_ret
    refine ⟨⟨_, [], rfl, ?_⟩, HB3.out⟩
    rw [HE.out]
    exact ⟨World.ownsRow_nil _ _ _ _, rfl, fun i x r hx => by simp at hx⟩
  · have HDL : Hid (Calls Tryd.prog 22 #[.slice (some ⟨g, 0, none⟩) us3.length cap, .func (.func 23) #[] #[.pointer (some ⟨pb, 0, none⟩)]] w3 fun e w' =>
      (∃ v' us', e = .returned v' ∧ Deep w2.heap.size w' v' us' ((sortL la).filter fun r => !decide (r ∈ lb))) ∧ w3.grownBy w' (some g)) := by
      refine deleted_any w2.heap.size g cap pb us3 (sortL la) (fun r => decide (r ∈ lb)) w3 hd3 (by omega) (fun W hW x r hx hr => ?_)
      have hBW : Below w.heap.size w W := HB3.out.grown hW HB3.out.size (fun k hk => by cases hk; have := HB2.out.size; omega)
      have hrl := HRA.out r ((mem_sortL la r).1 hr)
      refine (minus1_any x r lb pb w.heap.size W (own_strs hx) (HT.out.kept hBW) hrl.1 hrl.2 ?_ ⟨_, ownsMap_at HM3.out (hW.block _ (ownsMap_lt HM3.out) (fun e => by cases e; omega))⟩).mono ?_
      · exact hW.cell HP3.out (fun e => by cases e; omega)
      · rintro e w' ⟨rfl, hb⟩
        exact ⟨rfl, grown_of_below hb⟩
    have hbg2 : w.heap.size ≤ g := by have := HB2.out.size; omega
    clear hd3 hb3 hrest
    go_wp2_with fail
    refine HDL.out.mono ?_
    rintro e w4 ⟨⟨v4, us4, rfl, hd4⟩, hg4⟩
    have HD4 : Hid (Deep w.heap.size w4 v4 us4 (sortL (la.filter fun r => !decide (r ∈ lb)))) := by
      rw [HFS.out] at hd4
      exact ⟨own_mono hd4.1 HB2.out.size, hd4.2.1, fun i x r hx hr => own_mono (hd4.2.2 i x r hx hr) HB2.out.size⟩
    have HB4 : Hid (Below w.heap.size w w4) := HB3.out.grown hg4 HB3.out.size (fun k hk => by cases hk; exact hbg2)
    clear hd4 hg4
    go_wp2
    go_ret
    exact ⟨⟨_, us4, rfl, HD4.out⟩, HB4.out⟩
end Go.Proofs.YtaeloanlllaphaaDoor
