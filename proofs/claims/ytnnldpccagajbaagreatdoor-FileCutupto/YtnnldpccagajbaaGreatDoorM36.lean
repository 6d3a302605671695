import Derived.Test.YtnnldpccagajbaaGreatDoorM30
import Derived.Test.YtnnldpccagajbaaGreatDoorM35
import Derived.Test.YtnnldpccagajbaaGreatDoorM25
/-
  The program's order.Settle and order.Rising, walked: rows of one length.
-/
namespace Go.Proofs.YtnnldpccagajbaaGreatDoor
open Go.ChangeShapes Go.WideShapes Go.ChangeAt Go.RowKit
set_option linter.unusedVariables false
theorem own_shape' {w : World} {base : Nat} {e : TypeId} {size : Nat} {v : Value} {n : Nat} {xs : List Value} (h : w.ownsRow base e size v n xs) : ∃ a c, v = .slice a n c := by
  rcases h.2 with ⟨rfl, h0⟩ | ⟨g, cap, cur, rfl, _⟩
  · exact ⟨none, 0, by rw [h0]⟩
  · exact ⟨_, cap, rfl⟩
theorem inner_kept {w w' : World} {B B2 g n k cap : Nat} {x : Value} {xs ys : List Value} (h : w.ownsRow B 9 1 x k xs) (ho : w.ownsRow B2 45 1 (.slice (some ⟨g, 0, none⟩) n cap) n ys) (hg : w.grownBy w' (some g)) : w'.ownsRow B 9 1 x k xs :=
  h.kept hg (by
    rcases kind_ne h ho (by decide) with e | e
    · exact Or.inl e
    · exact Or.inr e)
theorem inner_apart {w : World} {B B2 g n k cap : Nat} {x : Value} {xs ys : List Value} (h : w.ownsRow B 9 1 x k xs) (ho : w.ownsRow B2 45 1 (.slice (some ⟨g, 0, none⟩) n cap) n ys) : ∀ b off c j, x = .slice (some ⟨b, off, none⟩) j c → b ≠ g := by
  intro b off c j hx he
  subst he hx
  rcases h.2 with ⟨e, _⟩ | ⟨g', cap', cur, e, _⟩
  · cases e
  · cases e
    rcases kind_ne h ho (by decide) with e | e
    · cases e
    · exact e rfl
set_option maxRecDepth 100000 in
set_option maxHeartbeats 400000 in
theorem compact_none (a : Option Addr) (cap : Nat) (fv : Value) (w : World) :
    Calls Tryz.prog 96 #[.slice a 0 cap, fv] w fun e w' => e = .returned (.slice a 0 cap) ∧ w = w' := by
  go_enter Tryz.func96, Tryz.ntmps96
  go_wp2
  go_ret
  exact ⟨rfl, rfl⟩
theorem sort_none (a : Option Addr) (cap : Nat) (fv : Value) (w : World) :
    Calls Tryz.prog 94 #[.slice a 0 cap, fv] w fun e w' => e = .returned (.tuple #[]) ∧ w = w' :=
  (Tryz.slices_SortFunc_none (α := Nat) a cap fv w).mono fun e w' h => ⟨h.1, h.2.symm⟩
set_option maxRecDepth 100000 in
set_option maxHeartbeats 2000000 in
theorem settle_any (base m : Nat) (v : Value) (us : List Value) (rows : List (List (List UInt8))) (w : World) (h : Deep base w v us rows) (hl : rows.length ≤ 1073741824) (hm : ∀ r ∈ rows, r.length = m) (hm8 : m ≤ 1099511627776) :
    Calls Tryz.prog 79 #[v] w fun e w' => (∃ v' us', e = .returned v' ∧ Deep base w' v' us' (sortU rows)) ∧ w.grownBy w' v.ownBlock := by
  have HH : Hid (Deep base w v us rows) := h
  have HM : Hid (∀ r ∈ rows, r.length = m) := hm
  have hul : us.length ≤ 1073741824 := by have := h.2.1; omega
  obtain ⟨a1, c1, hv⟩ := own_shape' h.1
  subst hv
  clear hm
  by_cases h0 : us.length = 0
  · have hv0 : us = [] := List.eq_nil_of_length_eq_zero h0
    have hr0 : rows = [] := List.eq_nil_of_length_eq_zero (by have := HH.out.2.1; omega)
    subst hv0 hr0
    have HO : Hid (w.ownsRow base 45 1 (.slice a1 0 c1) 0 []) := HH.out.1
    clear h0 h
    go_enter Tryz.func79, Tryz.ntmps79
    go_wp2_with fail
    refine (sort_none a1 c1 _ _).mono ?_
    rintro e w2 ⟨rfl, rfl⟩
    go_wp2_with fail
    refine (compact_none a1 c1 _ _).mono ?_
    rintro e w2 ⟨rfl, rfl⟩
    go_wp2
    go_ret
    exact ⟨⟨_, [], rfl, HO.out, rfl, fun i x r hx => by simp at hx⟩, ⟨rfl, rfl, rfl, Nat.le_refl _, fun _ _ _ => rfl⟩⟩
  · obtain ⟨g, hbg, rfl⟩ : ∃ g, base ≤ g ∧ a1 = some ⟨g, 0, none⟩ := by
      rcases h.1.2 with ⟨e, e0⟩ | ⟨g, cap', cur, e, hb, _⟩
      · exact absurd e0 h0
      · cases e; exact ⟨g, hb, rfl⟩
    have hur : us.length = rows.length := h.2.1
    have HO : Hid (w.ownsRow base 45 1 (.slice (some ⟨g, 0, none⟩) us.length c1) us.length us) := h.1
    have HIN3 : Hid (∀ p ∈ us.zip rows, w.ownsRow base 9 1 p.1 p.2.length (ts p.2)) := by
      rintro ⟨x, r⟩ hp
      obtain ⟨i, hi, he⟩ := List.getElem_of_mem hp
      have hiu : i < us.length := by rw [List.length_zip] at hi; omega
      have hir : i < rows.length := by omega
      rw [List.getElem_zip] at he
      cases he
      exact HH.out.2.2 i _ _ (val_at hiu) (row_at hir)
    have HOK : Hid (∀ p ∈ us.zip rows, RowOK w g m p) := by
      intro p hp
      have ho := HIN3.out p hp
      exact ⟨own_strs ho, HM.out _ (List.of_mem_zip hp).2, inner_apart ho HO.out⟩
    have hne : 0 < (us.zip rows).length := by rw [List.length_zip]; omega
    haveI : Inhabited (RowIn w g m) := ⟨⟨(us.zip rows)[0], HOK.out _ (List.getElem_mem hne)⟩⟩
    have HSO : Hid (Calls Tryz.prog 94 #[.slice (some ⟨g, 0, none⟩) us.length c1, .func (.func 95) #[] #[]] w fun e w' =>
      e = .returned (.tuple #[]) ∧ (∃ (ps : List (Value × List (List UInt8))), ps.Perm (us.zip rows) ∧ (∀ (i j : Nat) (a b : Value × List (List UInt8)), i < j → ps[i]? = some a → ps[j]? = some b → ordR b.2 a.2 ≠ -1)
        ∧ w'.ownsRow base 45 1 (.slice (some ⟨g, 0, none⟩) us.length c1) us.length (ps.map (·.1))) ∧ w.grownBy w' (some g)) := sorted_in base g c1 m us rows w HO.out hur (by omega) (by omega) HOK.out
    have HUR : Hid (us.length = rows.length) := hur
    clear hur hne h h0
    go_enter Tryz.func79, Tryz.ntmps79
    go_wp2_with fail
    refine HSO.out.mono ?_
    rintro e w4 ⟨rfl, ⟨ps, hperm, hsrt, hown4⟩, hg4⟩
    have hpl : ps.length = us.length := by rw [hperm.length_eq, List.length_zip]; have := HUR.out; omega
    have HPM : Hid (ps.Perm (us.zip rows)) := hperm
    have HSR : Hid (∀ (i j : Nat) (a b : Value × List (List UInt8)), i < j → ps[i]? = some a → ps[j]? = some b → ordR b.2 a.2 ≠ -1) := hsrt
    have HG4 : Hid (w.grownBy w4 (some g)) := hg4
    have HIN4 : Hid (∀ p ∈ ps, w4.ownsRow base 9 1 p.1 p.2.length (ts p.2)) := fun p hp => inner_kept (HIN3.out p (hperm.mem_iff.1 hp)) HO.out hg4
    have HO4 : Hid (w4.ownsRow base 45 1 (.slice (some ⟨g, 0, none⟩) ps.length c1) ps.length (ps.map (·.1))) := by rw [hpl]; exact hown4
    have HOK4 : Hid (∀ p ∈ ps, RowOK w4 g m p) := by
      intro p hp
      have ho := HIN4.out p hp
      exact ⟨own_strs ho, HM.out _ (List.of_mem_zip (hperm.mem_iff.1 hp)).2, inner_apart ho HO4.out⟩
    have hpl2 : ps.length ≤ 1073741824 := by omega
    clear hperm hsrt hown4 hg4
    rw [← hpl]
    clear hpl
    go_wp2_with fail
    refine (compact_any base g c1 m ps _ HO4.out HOK4.out hpl2 (by omega)).mono ?_
    rintro e w5 ⟨⟨rfl, hown5⟩, hg5⟩
    go_wp2
    go_ret
    refine ⟨⟨_, (dk ps ps.length).map (·.1), rfl, ?_⟩, HG4.out.trans hg5⟩
    have hD : (dk ps ps.length).map (·.2) = sortU rows := dk_sortU m ps rows (fun p hp => (HOK4.out p hp).2.1) HSR.out HM.out (fun x => by
        rw [(HPM.out.map (·.2)).mem_iff, List.map_snd_zip (by have := HUR.out; omega)])
    refine ⟨by rw [List.length_map]; exact hown5, by rw [← hD]; simp, ?_⟩
    intro i x r hx hr
    rw [← hD] at hr
    rw [List.getElem?_map] at hx hr
    obtain ⟨p, hp, rfl⟩ := Option.map_eq_some_iff.1 hx
    rw [hp] at hr
    cases hr
    obtain ⟨i', _, hi'⟩ := dk_mem ps _ p (List.mem_of_getElem? hp)
    exact inner_kept (HIN4.out p (List.mem_of_getElem? hi')) HO4.out hg5
theorem settle_below (base m : Nat) (v : Value) (us : List Value) (rows : List (List (List UInt8))) (w0 w : World) (h : Deep base w v us rows) (hb : Below base w0 w) (hbs : base ≤ w.heap.size) (hl : rows.length ≤ 1073741824) (hm : ∀ r ∈ rows, r.length = m) (hm8 : m ≤ 1099511627776) :
    Calls Tryz.prog 79 #[v] w fun e w' => (∃ v' us', e = .returned v' ∧ Deep base w' v' us' (sortU rows)) ∧ Below base w0 w' :=
  (settle_any base m v us rows w h hl hm hm8).mono fun e w' ⟨h1, hg⟩ => ⟨h1, hb.grown hg hbs (fun k hk => (h.1.lt k hk).1)⟩
set_option maxRecDepth 100000 in
set_option maxHeartbeats 2000000 in
theorem rising_any (m : Nat) (v : Value) (vs : List Value) (rows : List (List (List UInt8))) (w : World) (h : Rows2 w v vs rows) (hl : rows.length ≤ 1073741824) (hm : ∀ r ∈ rows, r.length = m) (hm8 : m ≤ 1099511627776) :
    Calls Tryz.prog 48 #[v] w fun e w' => (∃ v' us, e = .returned v' ∧ Deep w.heap.size w' v' us (sortU rows)) ∧ Below w.heap.size w w' := by
  have HH : Hid (Rows2 w v vs rows) := h
  have HM : Hid (∀ r ∈ rows, r.length = m) := hm
  have H1 : Hid (∀ x ∈ vs, x.oneCell' = true) := by
    intro x hx
    obtain ⟨i, hi, rfl⟩ := List.getElem_of_mem hx
    have hir : i < rows.length := by have := h.2.1; omega
    obtain ⟨a, c, e, _⟩ := h.2.2 i vs[i] rows[i] (val_at hi) (row_at hir)
    rw [e]; rfl
  have hvl : vs.length ≤ 1073741824 := by have := h.2.1; omega
  clear hm
  obtain ⟨⟨a, cap, rfl, -⟩, -, -⟩ := h
  go_enter Tryz.func48, Tryz.ntmps48
  go_wp2_with fail
  refine (cloneVals_any _ vs _ HH.out.1 hvl H1.out).mono ?_
  rintro e w1 ⟨⟨v1, rfl, hown1⟩, hb1⟩
  obtain ⟨a1, c1, rfl⟩ := own_shape' hown1
  by_cases h0 : vs.length = 0
  · have hv0 : vs = [] := List.eq_nil_of_length_eq_zero h0
    have hr0 : rows = [] := List.eq_nil_of_length_eq_zero (by have := HH.out.2.1; omega)
    subst hv0 hr0
    have HD0 : Hid (Deep w.heap.size w1 (.slice a1 0 c1) [] []) := ⟨hown1, rfl, fun i x r hx => by simp at hx⟩
    have HB1 : Hid (Below w.heap.size w w1) := hb1
    clear hown1 h0 hb1
    go_wp2
    refine wp_loop_rounds 1 ?_
    rw [rounds_succ]
    go_wp2_with fail
    refine (settle_below w.heap.size m _ [] [] w _ HD0.out HB1.out HB1.out.size (by simp) (by simp) hm8).mono ?_
    rintro e w2 ⟨⟨v2, us2, rfl, hd2⟩, hb2⟩
    go_wp2
    go_ret
    exact ⟨⟨_, us2, rfl, hd2⟩, hb2⟩
  · obtain ⟨g, hbg, rfl⟩ : ∃ g, w.heap.size ≤ g ∧ a1 = some ⟨g, 0, none⟩ := by
      rcases hown1.2 with ⟨e, e0⟩ | ⟨g, cap', cur, e, hb, _⟩
      · exact absurd e0 h0
      · cases e; exact ⟨g, hb, rfl⟩
    have HLE : Hid (vs.length = rows.length) := HH.out.2.1
    have HIN : Hid (∀ (i : Nat) (x : Value) (r : List (List UInt8)), vs[i]? = some x → rows[i]? = some r → Strs w x r) := HH.out.2.2
    have HO1 : Hid (w1.ownsRow w.heap.size 45 1 (.slice (some ⟨g, 0, none⟩) vs.length c1) vs.length vs) := hown1
    have HB1 : Hid (Below w.heap.size w w1) := hb1
    have hpos : 0 < vs.length := by omega
    clear hown1 hb1 h0
    go_wp2
    go_loopw [10] (fun iv wr => ∃ (k : Nat) (us : List Value), k ≤ vs.length ∧ iv = .int .i64 k ∧ Hid (us.length = vs.length) ∧ Hid (wr.ownsRow w.heap.size 45 1 (.slice (some ⟨g, 0, none⟩) vs.length c1) vs.length us) ∧ Hid (∀ (i : Nat) (x : Value) (r : List (List UInt8)), i < k → us[i]? = some x → rows[i]? = some r → wr.ownsRow w.heap.size 9 1 x r.length (ts r)) ∧ Hid (∀ i, k ≤ i → us[i]? = vs[i]?) ∧ Hid (Below w.heap.size w wr)) (fun iv _ => vs.length - (intOf iv).toNat)
    case atStart => exact ⟨0, vs, by omega, rfl, (rfl : _ = _), HO1, fun i x r hi => absurd hi (by omega), fun i _ => rfl, HB1⟩
    case round =>
      obtain ⟨k, us, hk, rfl, HUL, HO, HI, HV, HB⟩ := hrel
      by_cases hlt : k < vs.length
      · have hkr : k < rows.length := by have := HLE.out; omega
        have cx : wr.cell? ⟨g, k, none⟩ = some vs[k] := own_get HO.out k _ (by rw [HV.out k (Nat.le_refl _)]; exact val_at hlt)
        have fx : wr.frozen? ⟨g, k, none⟩ = false := own_thaw HO.out k
        have HS : Hid (Strs wr vs[k] rows[k]) := (HIN.out k _ _ (val_at hlt) (row_at hkr)).kept HB.out
        have HRL : Hid (rows[k].length ≤ 1099511627776) := by
          have := HM.out _ (List.getElem_mem hkr)
          show _ ≤ _; omega
        generalize vs[k] = x at *
        obtain ⟨xa, xc, hxe, -⟩ := HS.out
        subst hxe
        go_wp2_with fail
        refine (cloneStrs_any _ rows[k] _ HS.out HRL.out).mono ?_
        rintro e w2 ⟨⟨x2, rfl, hown2⟩, hb2⟩
        obtain ⟨x2a, x2c, rfl⟩ := own_shape' hown2
        have ho2 := own_below HO.out hb2
        have cx2 : w2.cell? ⟨g, k, none⟩ = some (.slice xa rows[k].length xc) := by rw [hb2.cell (p := ⟨g, k, none⟩) (World.block_lt_of_cell? wr ⟨g, k, none⟩ cx)]; exact cx
        have fx2 : w2.frozen? ⟨g, k, none⟩ = false := own_thaw ho2 k
        have HO2 : Hid (w2.ownsRow w.heap.size 45 1 (.slice (some ⟨g, 0, none⟩) vs.length c1) vs.length us) := ho2
        have HX2 : Hid (w2.ownsRow w.heap.size 9 1 (.slice x2a rows[k].length x2c) rows[k].length (ts rows[k])) := own_mono hown2 HB.out.size
        have HB2 : Hid (Below w.heap.size w w2) := HB.out.trans (hb2.mono HB.out.size)
        have HI2 : Hid (∀ (i : Nat) (x : Value) (r : List (List UInt8)), i < k → us[i]? = some x → rows[i]? = some r → w2.ownsRow w.heap.size 9 1 x r.length (ts r)) := fun i x r hi hx hr => own_below (HI.out i x r hi hx hr) hb2
        clear hown2 hb2 ho2 cx fx
        go_wp2
        go_roundw
        case rel =>
          refine ⟨k + 1, us.set k (.slice x2a rows[k].length x2c), by omega, by go_num, by show _ = _; rw [List.length_set]; exact HUL.out, own_set HO2.out k _, ?_, ?_, HB2.out.setCell (p := ⟨g, k, none⟩) hbg _⟩
          · intro i x r hi hx hr
            by_cases hik : i = k
            · subst hik
              have hkx : i < us.length := by have := HUL.out; omega
              rw [List.getElem?_set_self hkx] at hx
              rw [row_at hkr] at hr
              cases hx; cases hr
              exact inner_kept HX2.out HO2.out (grown_set _)
            · rw [List.getElem?_set_ne (by omega)] at hx
              exact inner_kept (HI2.out i x r (by omega) hx hr) HO2.out (grown_set _)
          · intro i hi
            rw [List.getElem?_set_ne (by omega)]
            exact HV.out i (by omega)
        case measure => simp [intOf]; omega
      · have hul : us.length = vs.length := HUL.out
        have HDP : Hid (Deep w.heap.size wr (.slice (some ⟨g, 0, none⟩) vs.length c1) us rows) := by
          refine ⟨by rw [hul]; exact HO.out, by have := HLE.out; omega, fun i x r hx hr => HI.out i x r ?_ hx hr⟩
          have := lt_of_some hx
          omega
        go_wp2_with fail
        refine (settle_below w.heap.size m _ us rows w _ HDP.out HB.out HB.out.size hl HM.out hm8).mono ?_
        rintro e w2 ⟨⟨v2, us2, rfl, hd2⟩, hb2⟩
        go_wp2
        go_ret
        exact ⟨⟨_, us2, rfl, hd2⟩, hb2⟩
end Go.Proofs.YtnnldpccagajbaaGreatDoor

/-
  The program's file.fault and file.Tidy, walked.
-/
namespace Go.Proofs.YtnnldpccagajbaaGreatDoor
open Go.ChangeShapes Go.WideShapes Go.ChangeAt Go.RowKit
set_option linter.unusedVariables false
def fits (r : List (List UInt8)) : Bool := r.all (fun t => decide (t.length ≤ 200))
set_option maxRecDepth 100000 in
set_option maxHeartbeats 400000 in
theorem tooLong_any (s : ByteArray) (w : World) : Calls Tryz.prog 76 #[.string s] w fun e w' => e = .returned (.bool (decide (200 < s.size))) ∧ w = w' := by
  go_enter Tryz.func76, Tryz.ntmps76
  go_wp2
  go_ret
  exact ⟨ret_bool (by simp; omega), rfl⟩
theorem fits_no (r : List (List UInt8)) (k : Nat) (h : k < r.length) (h2 : 200 < r[k].length) : fits r = false := by
  unfold fits
  rw [List.all_eq_false]
  exact ⟨r[k], List.getElem_mem h, by simp; omega⟩
theorem fits_yes (r : List (List UInt8)) (h : ∀ t ∈ r, t.length ≤ 200) : fits r = true := by
  unfold fits
  rw [List.all_eq_true]
  intro t ht
  simpa using h t ht
set_option maxRecDepth 100000 in
set_option maxHeartbeats 1000000 in
theorem indexLong_any (v : Value) (l : List (List UInt8)) (w : World) (h : Strs w v l) (hl : l.length ≤ 140737488355328) :
    Calls Tryz.prog 93 #[v, .func (.func 76) #[] #[]] w fun e w' => (∃ i : Int, e = .returned (.int .i64 i) ∧ decide (0 ≤ i) = !(fits l) ∧ -1 ≤ i ∧ i ≤ 140737488355328) ∧ w = w' := by
  have EG : ∀ args w, (callFunc 76 args).run Tryz.prog w = .ok (.enter 76 args) w := enters_of Tryz.func76 (by kernel_rfl) rfl
  obtain ⟨a, cap, rfl, h⟩ := h
  rcases h with ⟨rfl, _⟩ | ⟨b, off, rfl, hc⟩
  · go_enter Tryz.func93, Tryz.ntmps93
    go_wp2
    refine wp_loop_rounds 1 ?_
    rw [rounds_succ]
    go_wp2
    go_ret
    exact ⟨⟨_, rfl, by decide, by omega, by omega⟩, rfl⟩
  · have HC : Hid (∀ (i : Nat) (x : List UInt8), l[i]? = some x → w.cell? ⟨b, off + i, none⟩ = some (.string (str x))) := hc
    clear hc
    go_enter Tryz.func93, Tryz.ntmps93
    go_wp2
    go_loopw [8] (fun i wr => ∃ k : Nat, k ≤ l.length ∧ i = .int .i64 k ∧ wr = w ∧ Hid (∀ t ∈ l.take k, t.length ≤ 200)) (fun i _ => l.length - (intOf i).toNat)
    case atStart => exact ⟨0, by omega, rfl, rfl, fun t ht => by simp at ht⟩
    case round =>
      obtain ⟨k, hk, rfl, rfl, HN⟩ := hrel
      by_cases hlt : k < l.length
      · have c1 := HC.out k l[k] (get_at hlt)
        obtain ⟨sx, HSX⟩ : ∃ sx, Hid (sx = str l[k]) := ⟨str l[k], (rfl : str l[k] = str l[k])⟩
        rw [← HSX.out] at c1
        by_cases h200 : 200 < l[k].length
        · have HF : Hid (fits l = false) := fits_no l k hlt h200
          have d1 : decide (200 < sx.size) = true := by rw [HSX.out, str_size]; simpa using h200
          clear h200
          go_wp2_with fail
          refine (tooLong_any sx _).mono ?_
          rintro e w1 ⟨rfl, rfl⟩
          rw [d1]
          go_wp2
          go_ret
          exact ⟨⟨_, rfl, by rw [HF.out]; simp, by omega, by omega⟩, rfl⟩
        · have HF : Hid (∀ t ∈ l.take (k + 1), t.length ≤ 200) := by
            intro t ht
            rw [take_next l k hlt] at ht
            rcases List.mem_append.1 ht with ht | ht
            · exact HN.out t ht
            · simp at ht; subst ht; omega
          have d1 : decide (200 < sx.size) = false := by rw [HSX.out, str_size]; simpa using h200
          clear h200
          go_wp2_with fail
          refine (tooLong_any sx _).mono ?_
          rintro e w1 ⟨rfl, rfl⟩
          rw [d1]
          go_wp2
          go_roundw
          case rel => exact ⟨k + 1, by omega, by go_num, by first | trivial | rfl, HF⟩
          case measure => simp [intOf]; omega
      · have HF : Hid (fits l = true) := by
          have := HN.out
          rw [List.take_of_length_le (by omega)] at this
          exact fits_yes l this
        go_wp2
        go_ret
        exact ⟨⟨_, rfl, by rw [HF.out]; decide, by omega, by omega⟩, rfl⟩
set_option maxRecDepth 100000 in
set_option maxHeartbeats 400000 in
theorem hasLong_any (v : Value) (l : List (List UInt8)) (w : World) (h : Strs w v l) (hl : l.length ≤ 140737488355328) :
    Calls Tryz.prog 75 #[v, .func (.func 76) #[] #[]] w fun e w' => e = .returned (.bool (!(fits l))) ∧ w = w' := by
  have HS : Hid (Strs w v l) := h
  obtain ⟨a, cap, rfl, -⟩ := h
  go_enter Tryz.func75, Tryz.ntmps75
  go_wp2_with fail
  refine (indexLong_any _ l _ HS.out hl).mono ?_
  rintro e w1 ⟨⟨i, rfl, hi, h1, h2⟩, rfl⟩
  have HI : Hid (decide (0 ≤ i) = !(fits l)) := hi
  clear hi
  go_wp2
  go_ret
  exact ⟨ret_bool (by rw [← HI.out]), rfl⟩
/-- the first error of a relation, but for how many rows differ -/
def faultOf (name : List UInt8) (ar : Int) (rows : List (List (List UInt8))) : Nat × Nat :=
  if isName name = false then (8, 0) else if ar < 0 ∨ 8 < ar then (3, 0) else (bad ar.toNat 0 rows).getD (0, 0)
theorem ret_pair {a b : Int} {p : Nat × Nat} (h : p = (a.toNat, b.toNat)) (ha : 0 ≤ a) (hb : 0 ≤ b) : Ending.returned (.tuple #[.int .i64 a, .int .i64 b]) = .returned (.tuple #[.int .i64 (p.1 : Nat), .int .i64 (p.2 : Nat)]) := by
  subst h; simp only
  rw [Int.toNat_of_nonneg ha, Int.toNat_of_nonneg hb]
set_option maxRecDepth 100000 in
set_option maxHeartbeats 2000000 in
theorem fault_any (name : ByteArray) (ar : Int) (rv : Value) (vs : List Value) (rows : List (List (List UInt8))) (w : World) (h : Rows2 w rv vs rows) (hn : name.size ≤ 140737488355328) (hrl : rows.length ≤ 1073741824) (hrr : ∀ r ∈ rows, r.length ≤ 1099511627776) :
    Calls Tryz.prog 47 #[.agg #[.string name, .int .i64 ar, rv]] w fun e w' => e = .returned (.tuple #[.int .i64 ((faultOf name.data.toList ar rows).1 : Nat), .int .i64 ((faultOf name.data.toList ar rows).2 : Nat)]) ∧ Below w.heap.size w w' := by
  have HH : Hid (Rows2 w rv vs rows) := h
  have HRR : Hid (∀ r ∈ rows, r.length ≤ 1099511627776) := hrr
  clear hrr
  obtain ⟨⟨a, cap, rfl, -⟩, -, -⟩ := h
  cases hnm : isName name.data.toList with
  | false =>
    have HT : Hid (faultOf name.data.toList ar rows = (8, 0)) := by show _ = _; unfold faultOf; rw [hnm]; rfl
    have HNM : Hid (isName name.data.toList = false) := hnm
    clear hnm
    go_enter Tryz.func47, Tryz.ntmps47
    go_wp2_with fail
    refine (name_any name _ hn).mono ?_
    rintro e w1 ⟨rfl, rfl⟩
    rw [HNM.out]
    go_wp2
    go_ret2
    exact ⟨ret_pair HT.out (by decide) (by decide), (Below.refl _ _).alloc (Nat.le_refl _) _⟩
  | true =>
    have HNM : Hid (isName name.data.toList = true) := hnm
    by_cases har : ar < 0 ∨ 8 < ar
    · have HT : Hid (faultOf name.data.toList ar rows = (3, 0)) := by show _ = _; unfold faultOf; rw [hnm, if_pos har]; rfl
      clear hnm
      have har' : decide (ar < 0) = true ∨ (decide (ar < 0) = false ∧ decide (8 < ar) = true) := by
        by_cases h0 : ar < 0
        · exact Or.inl (by simpa using h0)
        · exact Or.inr ⟨by simpa using h0, by simp; omega⟩
      clear har
      rcases har' with h0 | ⟨h0, h8⟩
      all_goals
        go_enter Tryz.func47, Tryz.ntmps47
        go_wp2_with fail
        refine (name_any name _ hn).mono ?_
        rintro e w1 ⟨rfl, rfl⟩
        rw [HNM.out]
        go_wp2
        go_ret2
        exact ⟨ret_pair HT.out (by decide) (by decide), (Below.refl _ _).alloc (Nat.le_refl _) _⟩
    · obtain ⟨m, rfl⟩ := Int.eq_ofNat_of_zero_le (by omega : 0 ≤ ar)
      have hm8 : m ≤ 8 := by omega
      have HT : Hid (faultOf name.data.toList m rows = (bad m 0 rows).getD (0, 0)) := by
        show _ = _; unfold faultOf; rw [hnm, if_neg har, Int.toNat_natCast]; rfl
      clear hnm har
      have d0 : decide ((m : Int) < 0) = false := by simp
      have d8 : decide (8 < (m : Int)) = false := by simp; omega
      rcases HH.out.1 with ⟨a2, cap2, hv2, hvs⟩
      cases hv2
      rcases hvs with ⟨rfl, _⟩ | ⟨b, off, rfl, hc⟩
      · have hr0 : rows = [] := List.eq_nil_of_length_eq_zero (by have := HH.out.2.1; simpa using this.symm)
        subst hr0
        go_enter Tryz.func47, Tryz.ntmps47
        go_wp2_with fail
        refine (name_any name _ hn).mono ?_
        rintro e w1 ⟨rfl, rfl⟩
        rw [HNM.out]
        go_wp2
        refine wp_loop_rounds 1 ?_
        rw [rounds_succ]
        go_wp2
        go_ret2
        exact ⟨ret_pair HT.out (by decide) (by decide), (Below.refl _ _).alloc (Nat.le_refl _) _⟩
      · have HC : Hid (∀ (i : Nat) (x : Value), vs[i]? = some x → w.cell? ⟨b, off + i, none⟩ = some x) := hc
        have HLE : Hid (vs.length = rows.length) := HH.out.2.1
        have HIN : Hid (∀ (i : Nat) (x : Value) (r : List (List UInt8)), vs[i]? = some x → rows[i]? = some r → Strs w x r) := HH.out.2.2
        have hvl : vs.length ≤ 1073741824 := by have := HLE.out; omega
        clear hc
        go_enter Tryz.func47, Tryz.ntmps47
        go_wp2_with fail
        refine (name_any name _ hn).mono ?_
        rintro e w1 ⟨rfl, rfl⟩
        rw [HNM.out]
        go_wp2
        obtain ⟨W0, HW0⟩ : ∃ W0, Hid (W0 = w.alloc (.cells #[.string name, .int .i64 m, .slice (some ⟨b, off, none⟩) vs.length cap] 24)) := ⟨_, rfl⟩
        have HB0 : Hid (Below w.heap.size w W0) := by rw [HW0.out]; exact (Below.refl _ _).alloc (Nat.le_refl _) _
        have q1 : W0.cell? ⟨w.heap.size, 1, none⟩ = some (.int .i64 m) := by rw [HW0.out]; simp
        rw [← HW0.out]
        clear HW0
        go_loopw [21] (fun iv wr => ∃ (k n : Nat), k ≤ vs.length ∧ iv = .int .i64 k ∧ wr = W0.drewN n ∧ Hid (bad m 0 rows = bad m k (rows.drop k))) (fun iv _ => vs.length - (intOf iv).toNat)
        case atStart => exact ⟨0, 0, by omega, rfl, rfl, (rfl : bad m 0 rows = bad m 0 rows)⟩
        case round =>
          obtain ⟨k, n, hk, rfl, rfl, HBD⟩ := hrel
          by_cases hlt : k < vs.length
          · have hkr : k < rows.length := by have := HLE.out; omega
            have cx0 := HC.out k vs[k] (val_at hlt)
            have cx : W0.cell? ⟨b, off + k, none⟩ = some vs[k] := (HB0.out.cell (p := ⟨b, off + k, none⟩) (World.block_lt_of_cell? w ⟨b, off + k, none⟩ cx0)).trans cx0
            have HST : Hid (∀ j : Nat, Strs (W0.drewN j) vs[k] rows[k]) := fun j => ((HIN.out k _ _ (val_at hlt) (row_at hkr)).kept HB0.out).drewN j
            have HBK : Hid (bad m 0 rows = if rows[k].length = m then (if fits rows[k] then bad m (k + 1) (rows.drop (k + 1)) else some (1, k)) else some (9, k)) := by
              show _ = _
              rw [HBD.out, List.drop_eq_getElem_cons hkr, bad]; rfl
            have hrowl : rows[k].length ≤ 1099511627776 := HRR.out _ (List.getElem_mem hkr)
            clear cx0
            generalize vs[k] = x at *
            generalize rows[k] = row at *
            obtain ⟨xa, xc, hxe, -⟩ := HST.out 0
            subst hxe
            by_cases hrm : row.length = m
            · have hne : ((row.length : Int) != (m : Int)) = false := by simp [hrm]
              have HRM : Hid (row.length = m) := hrm
              clear hrm
              cases hf : fits row with
              | true =>
                have HN : Hid (bad m 0 rows = bad m (k + 1) (rows.drop (k + 1))) := by show _ = _; rw [HBK.out, if_pos HRM.out, hf]; rfl
                have HF : Hid (fits row = true) := hf
                clear hf
                go_wp2_with fail
                refine (hasLong_any _ row _ (HST.out _) (by omega)).mono ?_
                rintro e w2 ⟨rfl, rfl⟩
                rw [HF.out]
                go_wp2
                go_roundw
                case rel => exact ⟨k + 1, _, by omega, by go_num, rfl, HN⟩
                case measure => simp [intOf]; omega
              | false =>
                have HN : Hid (faultOf name.data.toList m rows = (1, k)) := by show _ = _; rw [HT.out, HBK.out, if_pos HRM.out, hf]; rfl
                have HF : Hid (fits row = false) := hf
                clear hf
                go_wp2_with fail
                refine (hasLong_any _ row _ (HST.out _) (by omega)).mono ?_
                rintro e w2 ⟨rfl, rfl⟩
                rw [HF.out]
                go_wp2
                go_ret2
                exact ⟨ret_pair HN.out (by decide) (by omega), below_drewN HB0.out _⟩
            · have hne : ((row.length : Int) != (m : Int)) = true := by simp; omega
              have HN : Hid (faultOf name.data.toList m rows = (9, k)) := by show _ = _; rw [HT.out, HBK.out, if_neg hrm]; rfl
              clear hrm
              go_wp2
              go_ret2
              exact ⟨ret_pair HN.out (by decide) (by omega), below_drewN HB0.out _⟩
          · have HN : Hid (faultOf name.data.toList m rows = (0, 0)) := by
              show _ = _
              rw [HT.out, HBD.out, List.drop_of_length_le (by have := HLE.out; omega)]; rfl
            go_wp2
            go_ret2
            exact ⟨ret_pair HN.out (by decide) (by decide), below_drewN HB0.out _⟩
end Go.Proofs.YtnnldpccagajbaaGreatDoor
