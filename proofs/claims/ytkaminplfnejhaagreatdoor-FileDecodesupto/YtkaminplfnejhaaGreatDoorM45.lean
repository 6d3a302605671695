import Derived.Test.YtkaminplfnejhaaGreatDoorM44
import Derived.Test.YtkaminplfnejhaaGreatDoorM43
/-
  The law's 'spoil', walked: it writes over the rows' own blocks alone.
-/
namespace Go.Proofs.YtkaminplfnejhaaGreatDoor
open Go.ChangeShapes Go.WideShapes Go.ChangeAt Go.RowKit
set_option linter.unusedVariables false
/-- a row that may be written over -/
def Soft2 (g0 base lim : Nat) (w : World) (x : Value) : Prop :=
  ∃ (a : Option Addr) (n cap : Nat), x = .slice a n cap ∧ n ≤ 1099511627776 ∧ (n = 0 ∨ ∃ g, a = some ⟨g, 0, none⟩ ∧ base ≤ g ∧ g < lim ∧ g ≠ g0 ∧ (∀ i, i < n → ∃ s, w.cell? ⟨g, i, none⟩ = some (.string s)) ∧ ∀ i, w.frozen? ⟨g, i, none⟩ = false)
theorem Soft2.set {g0 base lim : Nat} {w : World} {x : Value} (h : Soft2 g0 base lim w x) (g k : Nat) (s : ByteArray) (hc : ∃ t, w.cell? ⟨g, k, none⟩ = some (.string t)) : Soft2 g0 base lim (w.setCell ⟨g, k, none⟩ (.string s)) x := by
  obtain ⟨a, n, cap, rfl, hn, h0 | ⟨g', rfl, hb, hlm, hne, hcs, hf⟩⟩ := h
  · exact ⟨a, n, cap, rfl, hn, Or.inl h0⟩
  · refine ⟨_, n, cap, rfl, hn, Or.inr ⟨g', rfl, hb, hlm, hne, fun i hi => ?_, fun i => by rw [World.frozen?_setCell]; exact hf i⟩⟩
    by_cases e : (⟨g', i, none⟩ : Addr) = ⟨g, k, none⟩
    · obtain ⟨t, ht⟩ := hc
      cases e
      exact ⟨s, World.cell?_setCell_same _ _ _ ht⟩
    · obtain ⟨t, ht⟩ := hcs i hi
      exact ⟨t, by rw [World.cell?_setCell_other _ _ _ _ (fun h => e h.symm)]; exact ht⟩
theorem Soft2.nil {g0 base lim : Nat} {w : World} : Soft2 g0 base lim w (.slice none 0 0) := ⟨none, 0, 0, rfl, by omega, Or.inl rfl⟩
theorem Soft2.outer {g0 base lim : Nat} {w : World} {x : Value} (h : Soft2 g0 base lim w x) (k : Nat) (u : Value) : Soft2 g0 base lim (w.setCell ⟨g0, k, none⟩ u) x := by
  obtain ⟨a, n, cap, rfl, hn, h0 | ⟨g', rfl, hb, hlm, hne, hcs, hf⟩⟩ := h
  · exact ⟨a, n, cap, rfl, hn, Or.inl h0⟩
  · refine ⟨_, n, cap, rfl, hn, Or.inr ⟨g', rfl, hb, hlm, hne, fun i hi => ?_, fun i => by rw [World.frozen?_setCell]; exact hf i⟩⟩
    obtain ⟨t, ht⟩ := hcs i hi
    exact ⟨t, by rw [World.cell?_setCell_other _ _ _ _ (fun h => by cases h; exact hne rfl)]; exact ht⟩
theorem soft2_of {base lim g0 n cap : Nat} {w : World} {x : Value} {r : List (List UInt8)} {ys : List Value} (h : w.ownsRow base 9 1 x r.length (ts r)) (ho : w.ownsRow base 35 1 (.slice (some ⟨g0, 0, none⟩) n cap) n ys) (hr : r.length ≤ 1099511627776) (hx : ∀ g, x.ownBlock = some g → g < lim) : Soft2 g0 base lim w x := by
  rcases own_lies h with ⟨rfl, rfl⟩ | ⟨g, cap', rfl, hb, hc, hf⟩
  · exact Soft2.nil
  · exact ⟨_, _, _, rfl, hr, Or.inr ⟨g, rfl, hb, hx g rfl, inner_apart h ho g 0 cap' _ rfl, hc, hf⟩⟩
set_option maxRecDepth 100000 in
set_option maxHeartbeats 2000000 in
theorem spoil_gen (base lim : Nat) (P : World → Prop) (v : Value) (us : List Value) (L : List (List (List UInt8))) (w : World) (h : Deep base w v us L) (hl : L.length ≤ 1073741824) (hr : ∀ r ∈ L, r.length ≤ 1099511627776) (hv : ∀ g, v.ownBlock = some g → g < lim) (hu : ∀ (i : Nat) (x : Value), us[i]? = some x → ∀ g, x.ownBlock = some g → g < lim) (hP0 : P w) (HPS : Hid (∀ (wx : World) (g i : Nat) (u : Value), P wx → base ≤ g → g < lim → P (wx.setCell ⟨g, i, none⟩ u))) :
    Calls Tryz.prog 8 #[v] w fun e w' => e = .returned (.tuple #[]) ∧ P w' := by
  have HP0 : Hid (P w) := hP0
  have hul : us.length ≤ 1073741824 := by have := h.2.1; omega
  rcases h.1.2 with ⟨rfl, h0⟩ | ⟨g0, cap, cur, rfl, hb, hg, hn, hc, hs, ht⟩
  · rw [h0] at *
    clear h hr hu hP0
    go_enter Tryz.func8, Tryz.ntmps8
    go_wp2
    refine wp_loop_rounds 1 ?_
    rw [rounds_succ]
    go_wp2
    go_end0
    exact ⟨rfl, HP0.out⟩
  · have hgl : g0 < lim := hv g0 rfl
    have HS : Hid (∀ i, i < us.length → ∃ x, w.cell? ⟨g0, i, none⟩ = some x ∧ Soft2 g0 base lim w x) := by
      intro i hi
      have hil : i < L.length := by have := h.2.1; omega
      exact ⟨us[i], own_get h.1 i _ (val_at hi), soft2_of (h.2.2 i _ _ (val_at hi) (row_at hil)) h.1 (hr _ (List.getElem_mem hil)) (hu i _ (val_at hi))⟩
    have HF : Hid (∀ i, w.frozen? ⟨g0, i, none⟩ = false) := fun i => own_thaw h.1 i
    clear h hr hg hn hc hs ht hu hv hP0
    go_enter Tryz.func8, Tryz.ntmps8
    go_wp2
    go_loopw [2] (fun iv wr => ∃ k : Nat, k ≤ us.length ∧ iv = .int .i64 k ∧ Hid (∀ i, i < us.length → ∃ x, wr.cell? ⟨g0, i, none⟩ = some x ∧ Soft2 g0 base lim wr x) ∧ Hid (∀ i, wr.frozen? ⟨g0, i, none⟩ = false) ∧ Hid (P wr)) (fun iv _ => us.length - (intOf iv).toNat)
    case atStart => exact ⟨0, by omega, rfl, HS, HF, HP0⟩
    case round =>
      obtain ⟨k, hk, rfl, HX, HZ, HB⟩ := hrel
      by_cases hlt : k < us.length
      · obtain ⟨x, hx, hsx⟩ := HX.out k hlt
        obtain ⟨xa, xn, xc, rfl, hxn, -⟩ := hsx
        have HCX : Hid (wr.cell? ⟨g0, k, none⟩ = some (.slice xa xn xc)) := hx
        clear hx
        go_wp2
        go_loopw [3] (fun jv w2 => ∃ j : Nat, j ≤ xn ∧ jv = .int .i64 j ∧ Hid (w2.cell? ⟨g0, k, none⟩ = some (.slice xa xn xc)) ∧ Hid (∀ i, i < us.length → ∃ x, w2.cell? ⟨g0, i, none⟩ = some x ∧ Soft2 g0 base lim w2 x) ∧ Hid (∀ i, w2.frozen? ⟨g0, i, none⟩ = false) ∧ Hid (P w2)) (fun jv _ => xn - (intOf jv).toNat)
        case atStart => exact ⟨0, by omega, rfl, HCX, HX, HZ, HB⟩
        case round =>
          obtain ⟨j, hj, rfl, HC2, HX2, HZ2, HB2⟩ := hrel
          have cx := HC2.out
          by_cases hjn : j < xn
          · obtain ⟨x', hx', hs'⟩ := HX2.out k hlt
            rw [cx] at hx'
            cases hx'
            obtain ⟨a', n', c', he, -, h0 | ⟨g, hag, hbg, hgl2, hgne, hcs, hfz⟩⟩ := hs'
            · cases he; omega
            · cases he
              subst hag
              obtain ⟨t, ct⟩ := hcs j hjn
              have ft := hfz j
              have HT : Hid (∃ t, wr.cell? ⟨g, j, none⟩ = some (.string t)) := ⟨t, ct⟩
              clear hcs hfz
              go_wp2
              go_roundw
              case rel =>
                refine ⟨j + 1, by omega, by go_num, ?_, fun i hi => ?_, fun i => by rw [World.frozen?_setCell]; exact HZ2.out i, HPS.out _ g j _ HB2.out hbg hgl2⟩
                · show _ = _
                  rw [World.cell?_setCell_other _ _ _ _ (fun h => by cases h; exact hgne rfl)]; exact HC2.out
                · obtain ⟨y, hy, hsy⟩ := HX2.out i hi
                  exact ⟨y, by rw [World.cell?_setCell_other _ _ _ _ (fun h => by cases h; exact hgne rfl)]; exact hy, hsy.set g j _ HT.out⟩
              case measure => simp [intOf]; omega
          · have fz := HZ2.out k
            go_wp2
            go_roundw
            case rel =>
              refine ⟨k + 1, by omega, by go_num, fun i hi => ?_, fun i => by rw [World.frozen?_setCell]; exact HZ2.out i, HPS.out _ g0 k _ HB2.out hb hgl⟩
              by_cases hik : i = k
              · subst hik
                exact ⟨_, World.cell?_setCell_same _ _ _ HC2.out, Soft2.nil⟩
              · obtain ⟨y, hy, hsy⟩ := HX2.out i hi
                exact ⟨y, by rw [World.cell?_setCell_other _ _ _ _ (fun h => by cases h; exact hik rfl)]; exact hy, hsy.outer k _⟩
            case measure => simp [intOf]; omega
      · go_wp2
        go_end0
        exact ⟨rfl, HB.out⟩
end Go.Proofs.YtkaminplfnejhaaGreatDoor

/-
  FileDecodes' walk.
-/
namespace Go.Proofs.YtkaminplfnejhaaGreatDoor
open Go.ChangeShapes Go.WideShapes Go.ChangeAt Go.RowKit
set_option linter.unusedVariables false
set_option maxHeartbeats 400000 in
theorem numX_at (n : Int) (w : World) : Calls Tryz.prog 7 #[.int .i64 n] w fun e w' => e = .returned (.int .i64 n) ∧ w = w' := by
  go_enter Tryz.func7, Tryz.ntmps7
  go_wp2
  go_ret
  exact ⟨rfl, rfl⟩
/-- what lies above a limit stays, and what lies below a base -/
structure Between (base lim : Nat) (w w' : World) : Prop where
  below : Below base w w'
  above : ∀ k, lim ≤ k → w'.heap[k]? = w.heap[k]?
theorem Between.set {base lim : Nat} {w w' : World} (h : Between base lim w w') (g i : Nat) (u : Value) (hb : base ≤ g) (hl : g < lim) : Between base lim w (w'.setCell ⟨g, i, none⟩ u) :=
  ⟨h.below.setCell (p := ⟨g, i, none⟩) hb u, fun k hk => (Below.heap_setCell w' ⟨g, i, none⟩ u k (fun e => by have e2 : k = g := e; omega)).trans (h.above k hk)⟩
theorem own_above {base lim b : Nat} {w w' : World} {e : TypeId} {size : Nat} {v : Value} {n : Nat} {xs : List Value} (h : w.ownsRow b e size v n xs) (hb : Between base lim w w') (hl : lim ≤ b) : w'.ownsRow b e size v n xs := by
  obtain ⟨h1, h2 | ⟨g, cap, cur, hv, hg, hh, hr⟩⟩ := h
  · exact ⟨h1, Or.inl h2⟩
  · exact ⟨h1, Or.inr ⟨g, cap, cur, hv, hg, by rw [hb.above g (by omega)]; exact hh, hr⟩⟩
theorem Deep.above {base lim b : Nat} {w w' : World} {v : Value} {us : List Value} {L : List (List (List UInt8))} (h : Deep b w v us L) (hb : Between base lim w w') (hl : lim ≤ b) : Deep b w' v us L :=
  ⟨own_above h.1 hb hl, h.2.1, fun i x r hx hr => own_above (h.2.2 i x r hx hr) hb hl⟩
theorem decode_bd (d : List UInt8) : (decode true d).2.2.2.2.length ≤ 2000 ∧ ∀ r ∈ (decode true d).2.2.2.2, r.length ≤ 8 := by
  obtain ⟨e, a, name, ar, rows, h⟩ : ∃ e a name ar rows, decode true d = (e, a, name, ar, rows) := ⟨_, _, _, _, _, rfl⟩
  rw [h]
  simp only
  by_cases he : e = 0
  · subst he
    have h1 := encode_decode true d name a ar rows h
    obtain ⟨L, -, hT, hd⟩ := decode_encode true name ar rows d h1
    rw [h] at hd
    cases hd
    refine ⟨hT.few, fun r hr => ?_⟩
    have := (hT.rows r hr).1
    have := hT.a8
    omega
  · have hrows : rows = [] := by
      unfold decode at h
      split at h
      · cases h; rfl
      · split at h
        · cases h; rfl
        · split at h
          · cases h; rfl
          · split at h
            · cases h; rfl
            · split at h
              · cases h; exact absurd rfl he
              · cases h; rfl
    subst hrows
    simp
set_option maxRecDepth 100000 in
set_option maxHeartbeats 4000000 in
theorem decodes_walk (d : ByteArray) (w : World) (hd : d.size ≤ 1073741824) (hT : Tab w) :
    Calls Tryz.prog 3 #[.string d] w fun e w' => e = .returned (.bool true) ∧ Below w.heap.size w w' := by
  obtain ⟨er, a, name, ar, rows, HD⟩ : ∃ er a name ar rows, Hid (decode true d.data.toList = (er, a, name, ar, rows)) := ⟨_, _, _, _, _, rfl⟩
  have HLN : Hid (rows.length ≤ 1073741824 ∧ ∀ r ∈ rows, r.length ≤ 1099511627776) := by
    obtain ⟨h1, h2⟩ := decode_bd d.data.toList
    rw [HD.out] at h1 h2
    simp only at h1 h2
    exact ⟨by omega, fun r hr => by have := h2 r hr; omega⟩
  have hw0 : 0 < w.heap.size := hT.pos
  go_enter Tryz.func3, Tryz.ntmps3
  go_wp2_with fail
  refine (pdecode_any d _ hd hT).mono ?_
  rintro e w1 ⟨⟨v1, us1, he1, hd1⟩, hb1⟩
  rw [HD.out] at he1 hd1
  simp only at he1 hd1
  subst he1
  obtain ⟨a1, c1, rfl⟩ := ownShape hd1.1
  have HD1 : Hid (Deep w.heap.size w1 (.slice a1 us1.length c1) us1 rows) := hd1
  have HB1 : Hid (Below w.heap.size w w1) := hb1
  have hs1 : w.heap.size ≤ w1.heap.size := hb1.size
  obtain ⟨nm, HNM⟩ : ∃ nm, Hid (nm = str name) := ⟨_, (rfl : str name = _)⟩
  rw [← HNM.out]
  obtain ⟨W1, HW1⟩ : ∃ W1, Hid (W1 = w1.alloc (.cells #[.string nm, .int .i64 (ar : Nat), .slice a1 us1.length c1] 24)) := ⟨_, rfl⟩
  have HBA1 : Hid (Below w1.heap.size w1 W1) := by rw [HW1.out]; exact (Below.refl _ _).alloc (Nat.le_refl _) _
  have HZ1 : Hid (W1.heap.size = w1.heap.size + 1) := by show _ = _; rw [HW1.out]; simp
  have HQ1 : Hid (W1.cell? ⟨w1.heap.size, 0, none⟩ = some (.string nm) ∧ W1.cell? ⟨w1.heap.size, 1, none⟩ = some (.int .i64 (ar : Nat)) ∧ W1.cell? ⟨w1.heap.size, 2, none⟩ = some (.slice a1 us1.length c1)) := by rw [HW1.out]; exact ⟨by simp, by simp, by simp⟩
  have hz1 : w1.heap.size < W1.heap.size := by have := HZ1.out; omega
  clear hd1 hb1
  go_wp2_with fail
  rw [← HW1.out]
  clear HW1
  refine (rdecode_any d _ hd).mono ?_
  rintro e w2 ⟨⟨v2, us2, he2, hd2⟩, hb2⟩
  rw [HD.out] at he2 hd2
  simp only at he2 hd2
  subst he2
  obtain ⟨a2, c2, rfl⟩ := ownShape hd2.1
  rw [← HNM.out]
  have hs2 : W1.heap.size ≤ w2.heap.size := hb2.size
  obtain ⟨W2, HW2⟩ : ∃ W2, Hid (W2 = w2.alloc (.cells #[.string nm, .int .i64 (ar : Nat), .slice a2 us2.length c2] 28)) := ⟨_, rfl⟩
  have HBA2 : Hid (Below w2.heap.size w2 W2) := by rw [HW2.out]; exact (Below.refl _ _).alloc (Nat.le_refl _) _
  have HZ2 : Hid (W2.heap.size = w2.heap.size + 1) := by show _ = _; rw [HW2.out]; simp
  have HQ2 : Hid (W2.cell? ⟨w2.heap.size, 0, none⟩ = some (.string nm) ∧ W2.cell? ⟨w2.heap.size, 1, none⟩ = some (.int .i64 (ar : Nat)) ∧ W2.cell? ⟨w2.heap.size, 2, none⟩ = some (.slice a2 us2.length c2)) := by rw [HW2.out]; exact ⟨by simp, by simp, by simp⟩
  have hz2 : w2.heap.size < W2.heap.size := by have := HZ2.out; omega
  have HB12 : Hid (Below W1.heap.size W1 W2) := hb2.trans (HBA2.out.mono hs2)
  have HB02 : Hid (Below w1.heap.size w1 W2) := HBA1.out.trans (HB12.out.mono (by omega))
  have r0 := (hb2.cell (p := ⟨w1.heap.size, 0, none⟩) hz1).trans HQ1.out.1
  have r1 := (hb2.cell (p := ⟨w1.heap.size, 1, none⟩) hz1).trans HQ1.out.2.1
  have r2 := (hb2.cell (p := ⟨w1.heap.size, 2, none⟩) hz1).trans HQ1.out.2.2
  have hlt12 : w1.heap.size < w2.heap.size := by omega
  have HR2 : Hid (W2.cell? ⟨w1.heap.size, 0, none⟩ = some (.string nm) ∧ W2.cell? ⟨w1.heap.size, 1, none⟩ = some (.int .i64 (ar : Nat)) ∧ W2.cell? ⟨w1.heap.size, 2, none⟩ = some (.slice a1 us1.length c1)) := ⟨(HBA2.out.cell (p := ⟨w1.heap.size, 0, none⟩) hlt12).trans r0, (HBA2.out.cell (p := ⟨w1.heap.size, 1, none⟩) hlt12).trans r1, (HBA2.out.cell (p := ⟨w1.heap.size, 2, none⟩) hlt12).trans r2⟩
  have HDR : Hid (Deep w.heap.size W2 (.slice a1 us1.length c1) us1 rows) := HD1.out.kept HB02.out
  have HDT : Hid (Deep W1.heap.size W2 (.slice a2 us2.length c2) us2 rows) := Deep.kept hd2 HBA2.out
  clear hd2 hb2
  go_wp2_with fail
  rw [← HW2.out]
  clear HW2 r0 r1 r2
  refine (sameRel_any nm ar _ _ us1 us2 rows _ HDR.out.rows HDT.out.rows HLN.out.1 HLN.out.2).mono ?_
  rintro e w3 ⟨rfl, hb3⟩
  have HB3 : Hid (Below W2.heap.size W2 w3) := hb3
  have hs3 : W2.heap.size ≤ w3.heap.size := hb3.size
  have HD3 : Hid (Deep w.heap.size w3 (.slice a1 us1.length c1) us1 rows) := HDR.out.kept hb3
  have HDT3 : Hid (Deep W1.heap.size w3 (.slice a2 us2.length c2) us2 rows) := HDT.out.kept hb3
  have hlt : w1.heap.size < W2.heap.size := by omega
  have r2 := (hb3.cell (p := ⟨w1.heap.size, 2, none⟩) hlt).trans HR2.out.2.2
  have e1 : ((er : Int) != (er : Int)) = false := by simp
  have e2 : ((a : Int) != (a : Int)) = false := by simp
  have HB03 : Hid (Below w.heap.size w w3) := (HB1.out.trans (HB02.out.mono hs1)).trans (hb3.mono (by omega))
  clear hb3
  go_wp2_with fail
  refine (numX_at er _).mono ?_
  rintro e w3' ⟨rfl, rfl⟩
  go_wp2_with fail
  have HVL : Hid (∀ g, (Value.slice a1 us1.length c1).ownBlock = some g → g < w1.heap.size) := fun g hg => (HD1.out.1.lt g hg).2
  have HUL : Hid (∀ (i : Nat) (x : Value), us1[i]? = some x → ∀ g, x.ownBlock = some g → g < w1.heap.size) := fun i x hx g hg => by
    have hil : i < rows.length := by rw [← HD1.out.2.1]; exact lt_of_some hx
    exact ((HD1.out.2.2 i x _ hx (row_at hil)).lt g hg).2
  refine (spoil_gen w.heap.size w1.heap.size (fun w' => Between w.heap.size w1.heap.size w3 w') _ us1 rows _ HD3.out HLN.out.1 HLN.out.2 HVL.out HUL.out ⟨Below.refl _ _, fun _ _ => rfl⟩ (fun wx g i u h hb hl => h.set g i u hb hl)).mono ?_
  rintro e w4 ⟨rfl, hbt⟩
  have HBT : Hid (Between w.heap.size w1.heap.size w3 w4) := hbt
  have HB04 : Hid (Below w.heap.size w w4) := HB03.out.trans hbt.below
  have HT4 : Hid (Tab w4) := hT.below HB04.out hw0
  have HDT4 : Hid (Deep W1.heap.size w4 (.slice a2 us2.length c2) us2 rows) := HDT3.out.above hbt (by omega)
  have HQ4 : Hid (w4.cell? ⟨w2.heap.size, 0, none⟩ = some (.string nm) ∧ w4.cell? ⟨w2.heap.size, 1, none⟩ = some (.int .i64 (ar : Nat)) ∧ w4.cell? ⟨w2.heap.size, 2, none⟩ = some (.slice a2 us2.length c2)) := by
    have hk := hbt.above w2.heap.size (by omega)
    refine ⟨?_, ?_, ?_⟩
    · rw [World.cell?_of_block (w := w3) (a := ⟨w2.heap.size, 0, none⟩) hk]; exact (HB3.out.cell (p := ⟨w2.heap.size, 0, none⟩) hz2).trans HQ2.out.1
    · rw [World.cell?_of_block (w := w3) (a := ⟨w2.heap.size, 1, none⟩) hk]; exact (HB3.out.cell (p := ⟨w2.heap.size, 1, none⟩) hz2).trans HQ2.out.2.1
    · rw [World.cell?_of_block (w := w3) (a := ⟨w2.heap.size, 2, none⟩) hk]; exact (HB3.out.cell (p := ⟨w2.heap.size, 2, none⟩) hz2).trans HQ2.out.2.2
  have hT4 : w2.heap.size < w4.heap.size := World.block_lt_of_cell? w4 ⟨w2.heap.size, 0, none⟩ HQ4.out.1
  clear hbt r2
  go_wp2_with fail
  refine (pdecode_any d _ hd HT4.out).mono ?_
  rintro e w5 ⟨⟨v5, us5, he5, hd5⟩, hb5⟩
  rw [HD.out] at he5 hd5
  simp only at he5 hd5
  subst he5
  obtain ⟨a5, c5, rfl⟩ := ownShape hd5.1
  rw [← HNM.out]
  have hs5 : w4.heap.size ≤ w5.heap.size := hb5.size
  obtain ⟨W5, HW5⟩ : ∃ W5, Hid (W5 = w5.alloc (.cells #[.string nm, .int .i64 (ar : Nat), .slice a5 us5.length c5] 24)) := ⟨_, rfl⟩
  have HBA5 : Hid (Below w5.heap.size w5 W5) := by rw [HW5.out]; exact (Below.refl _ _).alloc (Nat.le_refl _) _
  have HD5 : Hid (Deep w4.heap.size W5 (.slice a5 us5.length c5) us5 rows) := Deep.kept hd5 HBA5.out
  have HDT5 : Hid (Deep W1.heap.size W5 (.slice a2 us2.length c2) us2 rows) := (HDT4.out.kept hb5).kept HBA5.out
  have HB05 : Hid (Below w.heap.size w W5) := (HB04.out.trans (hb5.mono HB04.out.size)).trans (HBA5.out.mono (by have := HB04.out.size; omega))
  have t0 := (hb5.cell (p := ⟨w2.heap.size, 0, none⟩) hT4).trans HQ4.out.1
  have t1 := (hb5.cell (p := ⟨w2.heap.size, 1, none⟩) hT4).trans HQ4.out.2.1
  have t2 := (hb5.cell (p := ⟨w2.heap.size, 2, none⟩) hT4).trans HQ4.out.2.2
  have hT5 : w2.heap.size < w5.heap.size := by omega
  clear hd5 hb5
  go_wp2_with fail
  rw [← HW5.out]
  clear HW5
  refine (sameRel_any nm ar _ _ us5 us2 rows _ HD5.out.rows HDT5.out.rows HLN.out.1 HLN.out.2).mono ?_
  rintro e w6 ⟨rfl, hb6⟩
  have HB06 : Hid (Below w.heap.size w w6) := HB05.out.trans (hb6.mono HB05.out.size)
  clear hb6
  go_wp2
  go_ret
  exact ⟨rfl, HB06.out⟩
end Go.Proofs.YtkaminplfnejhaaGreatDoor
