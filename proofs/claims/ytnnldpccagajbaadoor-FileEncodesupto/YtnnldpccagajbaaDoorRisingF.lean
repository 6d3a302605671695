/-
  The program's order.Settle and order.Rising, walked: rows of one length.
-/
import Derived.Test.YtnnldpccagajbaaDoorCompact
import Derived.Test.YtnnldpccagajbaaDoorCloneRows
namespace Go.Proofs.YtnnldpccagajbaaDoor
open Go.ChangeShapes Go.WideShapes Go.ChangeAt Go.RowKit
set_option linter.unusedVariables false
theorem own_shape' {w : World} {base : Nat} {e : TypeId} {size : Nat} {v : Value} {n : Nat} {xs : List Value} (h : w.ownsRow base e size v n xs) : ∃ a c, v = .slice a n c := by
  rcases h.2 with ⟨rfl, h0⟩ | ⟨g, cap, cur, rfl, _⟩
  · exact ⟨none, 0, by rw [h0]⟩
  · exact ⟨_, cap, rfl⟩
theorem inner_kept {w w' : World} {B B2 g n k cap : Nat} {x : Value} {xs ys : List Value} (h : w.ownsRow B 9 1 x k xs) (ho : w.ownsRow B2 35 1 (.slice (some ⟨g, 0, none⟩) n cap) n ys) (hg : w.grownBy w' (some g)) : w'.ownsRow B 9 1 x k xs :=
  h.kept hg (by
    rcases kind_ne h ho (by decide) with e | e
    · exact Or.inl e
    · exact Or.inr e)
theorem inner_apart {w : World} {B B2 g n k cap : Nat} {x : Value} {xs ys : List Value} (h : w.ownsRow B 9 1 x k xs) (ho : w.ownsRow B2 35 1 (.slice (some ⟨g, 0, none⟩) n cap) n ys) : ∀ b off c j, x = .slice (some ⟨b, off, none⟩) j c → b ≠ g := by
  intro b off c j hx he
  subst he hx
  rcases h.2 with ⟨e, _⟩ | ⟨g', cap', cur, e, _⟩
  · cases e
  · cases e
    rcases kind_ne h ho (by decide) with e | e
    · cases e
    · exact e rfl
set_option maxRecDepth 100000 in
set_option maxHeartbeats 400000 in
theorem compact_none (a : Option Addr) (cap : Nat) (fv : Value) (w : World) :
    Calls Tryd.prog 61 #[.slice a 0 cap, fv] w fun e w' => e = .returned (.slice a 0 cap) ∧ w = w' := by
  go_enter Tryd.func61, Tryd.ntmps61
  go_wp2
  go_ret
  exact ⟨rfl, rfl⟩
theorem sort_none (a : Option Addr) (cap : Nat) (fv : Value) (w : World) :
    Calls Tryd.prog 59 #[.slice a 0 cap, fv] w fun e w' => e = .returned (.tuple #[]) ∧ w = w' :=
  (Tryd.slices_SortFunc_none (α := Nat) a cap fv w).mono fun e w' h => ⟨h.1, h.2.symm⟩
set_option maxRecDepth 100000 in
set_option maxHeartbeats 2000000 in
theorem settle_any (base m : Nat) (v : Value) (us : List Value) (rows : List (List (List UInt8))) (w : World) (h : Deep base w v us rows) (hl : rows.length ≤ 1073741824) (hm : ∀ r ∈ rows, r.length = m) (hm8 : m ≤ 1099511627776) :
    Calls Tryd.prog 44 #[v] w fun e w' => (∃ v' us', e = .returned v' ∧ Deep base w' v' us' (sortU rows)) ∧ w.grownBy w' v.ownBlock := by
  have HH : Hid (Deep base w v us rows) := h
  have HM : Hid (∀ r ∈ rows, r.length = m) := hm
  have hul : us.length ≤ 1073741824 := by have := h.2.1; omega
  obtain ⟨a1, c1, hv⟩ := own_shape' h.1
  subst hv
  clear hm
  by_cases h0 : us.length = 0
  · have hv0 : us = [] := List.eq_nil_of_length_eq_zero h0
    have hr0 : rows = [] := List.eq_nil_of_length_eq_zero (by have := HH.out.2.1; omega)
    subst hv0 hr0
    have HO : Hid (w.ownsRow base 35 1 (.slice a1 0 c1) 0 []) := HH.out.1
    clear h0 h
    go_enter Tryd.func44, Tryd.ntmps44
    go_wp2_with fail
    refine (sort_none a1 c1 _ _).mono ?_
    rintro e w2 ⟨rfl, rfl⟩
    go_wp2_with fail
    refine (compact_none a1 c1 _ _).mono ?_
    rintro e w2 ⟨rfl, rfl⟩
    go_wp2
    go_ret
    exact ⟨⟨_, [], rfl, HO.out, rfl, fun i x r hx => by simp at hx⟩, ⟨rfl, rfl, rfl, Nat.le_refl _, fun _ _ _ => rfl⟩⟩
  · obtain ⟨g, hbg, rfl⟩ : ∃ g, base ≤ g ∧ a1 = some ⟨g, 0, none⟩ := by
      rcases h.1.2 with ⟨e, e0⟩ | ⟨g, cap', cur, e, hb, _⟩
      · exact absurd e0 h0
      · cases e; exact ⟨g, hb, rfl⟩
    have hur : us.length = rows.length := h.2.1
    have HO : Hid (w.ownsRow base 35 1 (.slice (some ⟨g, 0, none⟩) us.length c1) us.length us) := h.1
    have HIN3 : Hid (∀ p ∈ us.zip rows, w.ownsRow base 9 1 p.1 p.2.length (ts p.2)) := by
      rintro ⟨x, r⟩ hp
      obtain ⟨i, hi, he⟩ := List.getElem_of_mem hp
      have hiu : i < us.length := by rw [List.length_zip] at hi; omega
      have hir : i < rows.length := by omega
      rw [List.getElem_zip] at he
      cases he
      exact HH.out.2.2 i _ _ (val_at hiu) (row_at hir)
    have HOK : Hid (∀ p ∈ us.zip rows, RowOK w g m p) := by
      intro p hp
      have ho := HIN3.out p hp
      exact ⟨own_strs ho, HM.out _ (List.of_mem_zip hp).2, inner_apart ho HO.out⟩
    have hne : 0 < (us.zip rows).length := by rw [List.length_zip]; omega
    haveI : Inhabited (RowIn w g m) := ⟨⟨(us.zip rows)[0], HOK.out _ (List.getElem_mem hne)⟩⟩
    have HSO : Hid (Calls Tryd.prog 59 #[.slice (some ⟨g, 0, none⟩) us.length c1, .func (.func 60) #[] #[]] w fun e w' =>
      e = .returned (.tuple #[]) ∧ (∃ (ps : List (Value × List (List UInt8))), ps.Perm (us.zip rows) ∧ (∀ (i j : Nat) (a b : Value × List (List UInt8)), i < j → ps[i]? = some a → ps[j]? = some b → ordR b.2 a.2 ≠ -1)
        ∧ w'.ownsRow base 35 1 (.slice (some ⟨g, 0, none⟩) us.length c1) us.length (ps.map (·.1))) ∧ w.grownBy w' (some g)) := sorted_in base g c1 m us rows w HO.out hur (by omega) (by omega) HOK.out
    have HUR : Hid (us.length = rows.length) := hur
    clear hur hne h h0
    go_enter Tryd.func44, Tryd.ntmps44
    go_wp2_with fail
    refine HSO.out.mono ?_
    rintro e w4 ⟨rfl, ⟨ps, hperm, hsrt, hown4⟩, hg4⟩
    have hpl : ps.length = us.length := by rw [hperm.length_eq, List.length_zip]; have := HUR.out; omega
    have HPM : Hid (ps.Perm (us.zip rows)) := hperm
    have HSR : Hid (∀ (i j : Nat) (a b : Value × List (List UInt8)), i < j → ps[i]? = some a → ps[j]? = some b → ordR b.2 a.2 ≠ -1) := hsrt
    have HG4 : Hid (w.grownBy w4 (some g)) := hg4
    have HIN4 : Hid (∀ p ∈ ps, w4.ownsRow base 9 1 p.1 p.2.length (ts p.2)) := fun p hp => inner_kept (HIN3.out p (hperm.mem_iff.1 hp)) HO.out hg4
    have HO4 : Hid (w4.ownsRow base 35 1 (.slice (some ⟨g, 0, none⟩) ps.length c1) ps.length (ps.map (·.1))) := by rw [hpl]; exact hown4
    have HOK4 : Hid (∀ p ∈ ps, RowOK w4 g m p) := by
      intro p hp
      have ho := HIN4.out p hp
      exact ⟨own_strs ho, HM.out _ (List.of_mem_zip (hperm.mem_iff.1 hp)).2, inner_apart ho HO4.out⟩
    have hpl2 : ps.length ≤ 1073741824 := by omega
    clear hperm hsrt hown4 hg4
    rw [← hpl]
    clear hpl
    go_wp2_with fail
    refine (compact_any base g c1 m ps _ HO4.out HOK4.out hpl2 (by omega)).mono ?_
    rintro e w5 ⟨⟨rfl, hown5⟩, hg5⟩
    go_wp2
    go_ret
    refine ⟨⟨_, (dk ps ps.length).map (·.1), rfl, ?_⟩, HG4.out.trans hg5⟩
    have hD : (dk ps ps.length).map (·.2) = sortU rows := dk_sortU m ps rows (fun p hp => (HOK4.out p hp).2.1) HSR.out HM.out (fun x => by
        rw [(HPM.out.map (·.2)).mem_iff, List.map_snd_zip (by have := HUR.out; omega)])
    refine ⟨by rw [List.length_map]; exact hown5, by rw [← hD]; simp, ?_⟩
    intro i x r hx hr
    rw [← hD] at hr
    rw [List.getElem?_map] at hx hr
    obtain ⟨p, hp, rfl⟩ := Option.map_eq_some_iff.1 hx
    rw [hp] at hr
    cases hr
    obtain ⟨i', _, hi'⟩ := dk_mem ps _ p (List.mem_of_getElem? hp)
    exact inner_kept (HIN4.out p (List.mem_of_getElem? hi')) HO4.out hg5
theorem settle_below (base m : Nat) (v : Value) (us : List Value) (rows : List (List (List UInt8))) (w0 w : World) (h : Deep base w v us rows) (hb : Below base w0 w) (hbs : base ≤ w.heap.size) (hl : rows.length ≤ 1073741824) (hm : ∀ r ∈ rows, r.length = m) (hm8 : m ≤ 1099511627776) :
    Calls Tryd.prog 44 #[v] w fun e w' => (∃ v' us', e = .returned v' ∧ Deep base w' v' us' (sortU rows)) ∧ Below base w0 w' :=
  (settle_any base m v us rows w h hl hm hm8).mono fun e w' ⟨h1, hg⟩ => ⟨h1, hb.grown hg hbs (fun k hk => (h.1.lt k hk).1)⟩
set_option maxRecDepth 100000 in
set_option maxHeartbeats 2000000 in
theorem rising_any (m : Nat) (v : Value) (vs : List Value) (rows : List (List (List UInt8))) (w : World) (h : Rows2 w v vs rows) (hl : rows.length ≤ 1073741824) (hm : ∀ r ∈ rows, r.length = m) (hm8 : m ≤ 1099511627776) :
    Calls Tryd.prog 23 #[v] w fun e w' => (∃ v' us, e = .returned v' ∧ Deep w.heap.size w' v' us (sortU rows)) ∧ Below w.heap.size w w' := by
  have HH : Hid (Rows2 w v vs rows) := h
  have HM : Hid (∀ r ∈ rows, r.length = m) := hm
  have H1 : Hid (∀ x ∈ vs, x.oneCell' = true) := by
    intro x hx
    obtain ⟨i, hi, rfl⟩ := List.getElem_of_mem hx
    have hir : i < rows.length := by have := h.2.1; omega
    obtain ⟨a, c, e, _⟩ := h.2.2 i vs[i] rows[i] (val_at hi) (row_at hir)
    rw [e]; rfl
  have hvl : vs.length ≤ 1073741824 := by have := h.2.1; omega
  clear hm
  obtain ⟨⟨a, cap, rfl, -⟩, -, -⟩ := h
  go_enter Tryd.func23, Tryd.ntmps23
  go_wp2_with fail
  refine (cloneVals_any _ vs _ HH.out.1 hvl H1.out).mono ?_
  rintro e w1 ⟨⟨v1, rfl, hown1⟩, hb1⟩
  obtain ⟨a1, c1, rfl⟩ := own_shape' hown1
  by_cases h0 : vs.length = 0
  · have hv0 : vs = [] := List.eq_nil_of_length_eq_zero h0
    have hr0 : rows = [] := List.eq_nil_of_length_eq_zero (by have := HH.out.2.1; omega)
    subst hv0 hr0
    have HD0 : Hid (Deep w.heap.size w1 (.slice a1 0 c1) [] []) := ⟨hown1, rfl, fun i x r hx => by simp at hx⟩
    have HB1 : Hid (Below w.heap.size w w1) := hb1
    clear hown1 h0 hb1
    go_wp2
    refine wp_loop_rounds 1 ?_
    rw [rounds_succ]
    go_wp2_with fail
    refine (settle_below w.heap.size m _ [] [] w _ HD0.out HB1.out HB1.out.size (by simp) (by simp) hm8).mono ?_
    rintro e w2 ⟨⟨v2, us2, rfl, hd2⟩, hb2⟩
    go_wp2
    go_ret
    exact ⟨⟨_, us2, rfl, hd2⟩, hb2⟩
  · obtain ⟨g, hbg, rfl⟩ : ∃ g, w.heap.size ≤ g ∧ a1 = some ⟨g, 0, none⟩ := by
      rcases hown1.2 with ⟨e, e0⟩ | ⟨g, cap', cur, e, hb, _⟩
      · exact absurd e0 h0
      · cases e; exact ⟨g, hb, rfl⟩
    have HLE : Hid (vs.length = rows.length) := HH.out.2.1
    have HIN : Hid (∀ (i : Nat) (x : Value) (r : List (List UInt8)), vs[i]? = some x → rows[i]? = some r → Strs w x r) := HH.out.2.2
    have HO1 : Hid (w1.ownsRow w.heap.size 35 1 (.slice (some ⟨g, 0, none⟩) vs.length c1) vs.length vs) := hown1
    have HB1 : Hid (Below w.heap.size w w1) := hb1
    have hpos : 0 < vs.length := by omega
    clear hown1 hb1 h0
    go_wp2
    go_loopw [10] (fun iv wr => ∃ (k : Nat) (us : List Value), k ≤ vs.length ∧ iv = .int .i64 k ∧ Hid (us.length = vs.length) ∧ Hid (wr.ownsRow w.heap.size 35 1 (.slice (some ⟨g, 0, none⟩) vs.length c1) vs.length us) ∧ Hid (∀ (i : Nat) (x : Value) (r : List (List UInt8)), i < k → us[i]? = some x → rows[i]? = some r → wr.ownsRow w.heap.size 9 1 x r.length (ts r)) ∧ Hid (∀ i, k ≤ i → us[i]? = vs[i]?) ∧ Hid (Below w.heap.size w wr)) (fun iv _ => vs.length - (intOf iv).toNat)
    case atStart => exact ⟨0, vs, by omega, rfl, (rfl : _ = _), HO1, fun i x r hi => absurd hi (by omega), fun i _ => rfl, HB1⟩
    case round =>
      obtain ⟨k, us, hk, rfl, HUL, HO, HI, HV, HB⟩ := hrel
      by_cases hlt : k < vs.length
      · have hkr : k < rows.length := by have := HLE.out; omega
        have cx : wr.cell? ⟨g, k, none⟩ = some vs[k] := own_get HO.out k _ (by rw [HV.out k (Nat.le_refl _)]; exact val_at hlt)
        have fx : wr.frozen? ⟨g, k, none⟩ = false := own_thaw HO.out k
        have HS : Hid (Strs wr vs[k] rows[k]) := (HIN.out k _ _ (val_at hlt) (row_at hkr)).kept HB.out
        have HRL : Hid (rows[k].length ≤ 1099511627776) := by
          have := HM.out _ (List.getElem_mem hkr)
          show _ ≤ _; omega
        generalize vs[k] = x at *
        obtain ⟨xa, xc, hxe, -⟩ := HS.out
        subst hxe
        go_wp2_with fail
        refine (cloneStrs_any _ rows[k] _ HS.out HRL.out).mono ?_
        rintro e w2 ⟨⟨x2, rfl, hown2⟩, hb2⟩
        obtain ⟨x2a, x2c, rfl⟩ := own_shape' hown2
        have ho2 := own_below HO.out hb2
        have cx2 : w2.cell? ⟨g, k, none⟩ = some (.slice xa rows[k].length xc) := by rw [hb2.cell (p := ⟨g, k, none⟩) (World.block_lt_of_cell? wr ⟨g, k, none⟩ cx)]; exact cx
        have fx2 : w2.frozen? ⟨g, k, none⟩ = false := own_thaw ho2 k
        have HO2 : Hid (w2.ownsRow w.heap.size 35 1 (.slice (some ⟨g, 0, none⟩) vs.length c1) vs.length us) := ho2
        have HX2 : Hid (w2.ownsRow w.heap.size 9 1 (.slice x2a rows[k].length x2c) rows[k].length (ts rows[k])) := own_mono hown2 HB.out.size
        have HB2 : Hid (Below w.heap.size w w2) := HB.out.trans (hb2.mono HB.out.size)
        have HI2 : Hid (∀ (i : Nat) (x : Value) (r : List (List UInt8)), i < k → us[i]? = some x → rows[i]? = some r → w2.ownsRow w.heap.size 9 1 x r.length (ts r)) := fun i x r hi hx hr => own_below (HI.out i x r hi hx hr) hb2
        clear hown2 hb2 ho2 cx fx
        go_wp2
        go_roundw
        case rel =>
          refine ⟨k + 1, us.set k (.slice x2a rows[k].length x2c), by omega, by go_num, by show _ = _; rw [List.length_set]; exact HUL.out, own_set HO2.out k _, ?_, ?_, HB2.out.setCell (p := ⟨g, k, none⟩) hbg _⟩
          · intro i x r hi hx hr
            by_cases hik : i = k
            · subst hik
              have hkx : i < us.length := by have := HUL.out; omega
              rw [List.getElem?_set_self hkx] at hx
              rw [row_at hkr] at hr
              cases hx; cases hr
              exact inner_kept HX2.out HO2.out (grown_set _)
            · rw [List.getElem?_set_ne (by omega)] at hx
              exact inner_kept (HI2.out i x r (by omega) hx hr) HO2.out (grown_set _)
          · intro i hi
            rw [List.getElem?_set_ne (by omega)]
            exact HV.out i (by omega)
        case measure => simp [intOf]; omega
      · have hul : us.length = vs.length := HUL.out
        have HDP : Hid (Deep w.heap.size wr (.slice (some ⟨g, 0, none⟩) vs.length c1) us rows) := by
          refine ⟨by rw [hul]; exact HO.out, by have := HLE.out; omega, fun i x r hx hr => HI.out i x r ?_ hx hr⟩
          have := lt_of_some hx
          omega
        go_wp2_with fail
        refine (settle_below w.heap.size m _ us rows w _ HDP.out HB.out HB.out.size hl HM.out hm8).mono ?_
        rintro e w2 ⟨⟨v2, us2, rfl, hd2⟩, hb2⟩
        go_wp2
        go_ret
        exact ⟨⟨_, us2, rfl, hd2⟩, hb2⟩
end Go.Proofs.YtnnldpccagajbaaDoor
