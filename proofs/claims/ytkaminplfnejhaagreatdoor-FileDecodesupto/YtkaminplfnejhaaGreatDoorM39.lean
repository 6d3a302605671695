import Derived.Test.YtkaminplfnejhaaGreatDoorM38
import Derived.Test.YtkaminplfnejhaaGreatDoorM28
import Derived.Test.YtkaminplfnejhaaGreatDoorM15
import Derived.Test.YtkaminplfnejhaaGreatDoorM25
/-
  The program's file.columnText, walked.
-/
namespace Go.Proofs.YtkaminplfnejhaaGreatDoor
open Go.ChangeShapes Go.WideShapes Go.ChangeAt Go.RowKit Go.WideMaps Go.Maps
set_option linter.unusedVariables false
theorem ownsMap_below {H : Type} {P : Program} {k : TypeId} {R : Value → Option (DataW H × List MemPlace)} {m n : Nat} {D : DataW H} {w w' : World} {b : Nat} (h : w.ownsMap P k R m n D) (hb : Below b w w') (hm : m < b) : w'.ownsMap P k R m n D := by
  obtain ⟨es, clock, he, hr⟩ := h
  exact ⟨es, clock, by rw [hb.block m hm]; exact he, hr⟩
theorem find_once (l : List (List UInt8)) (hn : l.Nodup) (i : Nat) (t : List UInt8) (hi : l[i]? = some t) : find l t = i := by
  refine find_at l t i (fun j hj h => ?_) hi
  obtain ⟨h1, e1⟩ := List.getElem?_eq_some_iff.1 hi
  obtain ⟨h2, e2⟩ := List.getElem?_eq_some_iff.1 h
  exact List.pairwise_iff_getElem.1 hn j i h2 h1 hj (e2.trans e1.symm)
theorem numD_find (l : List (List UInt8)) (hn : l.Nodup) (t : List UInt8) (ht : t ∈ l) (z : DataW Unit) : (numD l l.length).atKey (.string t) z = .lit (.int .i64 (find l t)) := by
  obtain ⟨i, hi, e⟩ := List.getElem_of_mem ht
  have hi' : l[i]? = some t := by rw [← e]; exact List.getElem?_eq_getElem hi
  rw [find_once l hn i t hi', numD_at l i t hi' z l.length hi (Nat.le_refl _)]
  intro j h1 h2 h
  obtain ⟨h3, e2⟩ := List.getElem?_eq_some_iff.1 h
  exact List.pairwise_iff_getElem.1 hn i j hi h3 h1 (e.trans e2.symm)
set_option maxRecDepth 100000 in
set_option maxHeartbeats 2000000 in
theorem pcolumn_any (v : Value) (vs : List Value) (rows : List (List (List UInt8))) (c m nb : Nat) (all : List (List UInt8)) (w : World) (h : Rows2 w v vs rows) (hm : w.ownsMap Tryz.prog 9 (plainElem Tryz.prog 3) m nb (numD all all.length)) (hl : rows.length ≤ 67108864) (hal : all.length ≤ 1073741824) (hc : ∀ r ∈ rows, c < r.length) (hr : ∀ r ∈ rows, r.length ≤ 1099511627776)
    (hin0 : ∀ r ∈ rows, ∀ t ∈ r, t ∈ all) (hnd : all.Nodup) (hs : ∀ t ∈ all, t.length ≤ 1000) :
    Calls Tryz.prog 58 #[v, .int .i64 c, .map (some m)] w fun e w' => e = .returned (.string (str (colF all c 0 rows))) ∧ Below w.heap.size w w' := by
  have hvl : vs.length ≤ 67108864 := by have := h.2.1; omega
  have hmw : m < w.heap.size := hm.lt
  have HM : Hid (w.ownsMap Tryz.prog 9 (plainElem Tryz.prog 3) m nb (numD all all.length)) := hm
  obtain ⟨⟨a, cap, rfl, hv⟩, hlen, hin⟩ := h
  have HLE : Hid (vs.length = rows.length) := hlen
  have HIN : Hid (∀ (i : Nat) (x : Value) (r : List (List UInt8)), vs[i]? = some x → rows[i]? = some r → Strs w x r) := hin
  have HCL : Hid (∀ r ∈ rows, c < r.length) := hc
  have HRR : Hid (∀ r ∈ rows, r.length ≤ 1099511627776) := hr
  have HIA : Hid (∀ r ∈ rows, ∀ t ∈ r, t ∈ all) := hin0
  have HND : Hid (all.Nodup) := hnd
  have HSS : Hid (∀ t ∈ all, t.length ≤ 1000) := hs
  have HV : Hid (∀ k, k < vs.length → ∃ b off, a = some ⟨b, off, none⟩ ∧ ∀ (i : Nat) (x : Value), vs[i]? = some x → w.cell? ⟨b, off + i, none⟩ = some x) := by
    intro k hk
    rcases hv with ⟨rfl, _⟩ | ⟨b, off, rfl, hc⟩
    · simp at hk
    · exact ⟨b, off, rfl, hc⟩
  clear hv hlen hin hc hr hin0 hnd hs hm
  go_enter Tryz.func58, Tryz.ntmps58
  go_wp2
  go_loopw [8, 14] (fun lastv iv wr => ∃ (i : Nat) (last : Int) (out : List UInt8), i ≤ vs.length ∧ iv = .int .i64 i ∧ lastv = .int .i64 last ∧ -1 ≤ last ∧ last ≤ 1073741824 ∧ out.length ≤ 9 * i ∧ Hid (Wr wr w.heap.size out) ∧ Hid (Below w.heap.size w wr) ∧ Hid (out ++ colF all c last (rows.drop i) = colF all c 0 rows)) (fun _ iv _ => vs.length - (intOf iv).toNat)
  case atStart => exact ⟨0, 0, [], by omega, rfl, rfl, by omega, by omega, by simp, Wr.new w _ rfl, (Below.refl _ _).alloc (Nat.le_refl _) _, by simp [Hid]⟩
  case round =>
    obtain ⟨i, last, out, hi2, rfl, rfl, hl1, hl2, hol, HW, HB, HE⟩ := hrel
    by_cases hlt : i < vs.length
    · have hir : i < rows.length := by have := HLE.out; omega
      obtain ⟨b, off, rfl, hcc⟩ := HV.out i hlt
      have cx0 := hcc i vs[i] (val_at hlt)
      have cx1 := (HB.out.cell (p := ⟨b, off + i, none⟩) (World.block_lt_of_cell? w ⟨b, off + i, none⟩ cx0)).trans cx0
      have hcr : c < rows[i].length := HCL.out _ (List.getElem_mem hir)
      obtain ⟨xa, xc, hxe, hxs⟩ := HIN.out i _ _ (val_at hlt) (row_at hir)
      have hrl : rows[i].length ≤ 1099511627776 := HRR.out _ (List.getElem_mem hir)
      obtain ⟨bx, ox, hxa, hcx⟩ : ∃ bx ox, xa = some ⟨bx, ox, none⟩ ∧ w.cell? ⟨bx, ox + c, none⟩ = some (.string (str rows[i][c])) := by
        rcases hxs with ⟨hn, _⟩ | ⟨bx, ox, rfl, hcx⟩
        · rw [hn] at hcr; simp at hcr
        · exact ⟨bx, ox, rfl, hcx c _ (get_at hcr)⟩
      subst hxa
      have ct := (HB.out.cell (p := ⟨bx, ox + c, none⟩) (World.block_lt_of_cell? w ⟨bx, ox + c, none⟩ hcx)).trans hcx
      rw [hxe] at cx1
      have HDR : Hid (rows.drop i = rows[i] :: rows.drop (i + 1)) := List.drop_eq_getElem_cons hir
      have HGD : Hid (rows[i].getD c [] = rows[i][c]) := by show _ = _; simp [List.getD, List.getElem?_eq_getElem hcr]
      have HTA : Hid (rows[i][c] ∈ all) := HIA.out _ (List.getElem_mem hir) _ (List.getElem_mem hcr)
      obtain ⟨t, HT⟩ : ∃ t, Hid (t = rows[i][c]) := ⟨_, (rfl : rows[i][c] = _)⟩
      rw [← HT.out] at ct HTA
      obtain ⟨rl, HRL⟩ : ∃ rl, Hid (rl = rows[i].length) := ⟨_, (rfl : rows[i].length = _)⟩
      rw [← HRL.out] at cx1 hcr hrl
      have HE2 : Hid (out ++ (vb (fold (find all t - last)).toNat ++ colF all c (find all t) (rows.drop (i + 1))) = colF all c 0 rows) := by
        show _ = _
        rw [← HE.out, HDR.out, colF_cons, HGD.out, HT.out]
      obtain ⟨hf1, hf2⟩ := find_bd all t
      have hown : wr.ownsMap Tryz.prog 9 (plainElem Tryz.prog 3) m nb (numD all all.length) := ownsMap_below HM.out HB.out hmw
      have htl : t.length ≤ 1000 := HSS.out _ HTA.out
      have hkey : keyOf Tryz.prog 9 (.string (str t)) = some (.string t) := by
        have := keyOf_string_mk Tryz.underlying9 (s := str t) (by rw [str_size]; unfold maxLen; omega)
        rw [data_str] at this; exact this
      have HAT : Hid ((numD all all.length).atKey (.string t) (.lit (.int .i64 0)) = .lit (.int .i64 (find all t))) := numD_find all HND.out t HTA.out _
      clear hcc cx0 hxs hxe hcx htl
      obtain ⟨fn, HFN⟩ : ∃ fn, Hid (fn = find all t) := ⟨_, (rfl : find all t = _)⟩
      rw [← HFN.out] at hf1 hf2 HE2 HAT
      have hrun : (Instr.lookup 93 (.map (some m)) (.string (str t)) false).run Tryz.prog wr = .ok (.int .i64 fn) wr := by
        obtain ⟨cc, hr1, hat, _⟩ := hown.lookup_int strKeyed Tryz.underlying93 Tryz.underlying3 (zeroInt _) hkey
        rw [HAT.out] at hat
        injection hat with hat; injection hat with _ hat
        subst hat
        exact hr1
      obtain ⟨hq1, hq2⟩ := fold_bd (fn - last)
      have h9 := vb_length9 (fold (fn - last)).toNat (by omega)
      obtain ⟨st, HST⟩ : ∃ st, Hid (st = str t) := ⟨_, (rfl : str t = _)⟩
      rw [← HST.out] at ct hrun
      clear hown hkey
      go_wp2_with fail
      refine (pfold_any (fn - last) _ (by omega) (by omega)).mono ?_
      rintro e w3 ⟨rfl, rfl⟩
      go_wp2_with fail
      refine (wnumber_at w.heap.size out (fold (fn - last)) _ HW.out hq1 (by omega) (by omega)).mono ?_
      rintro e w4 ⟨rfl, hw4, hb4⟩
      have HB4 : Hid (Below w.heap.size w w4) := HB.out.trans hb4
      generalize (fold (fn - last)).toNat = fv at *
      have HW4 : Hid (Wr w4 w.heap.size (out ++ vb fv)) := hw4
      have hol2 : (out ++ vb fv).length ≤ 9 * (i + 1) := by rw [List.length_append]; omega
      have HE3 : Hid ((out ++ vb fv) ++ colF all c fn (rows.drop (i + 1)) = colF all c 0 rows) := by show _ = _; rw [← HE2.out, List.append_assoc]
      clear hb4 hw4
      go_wp2
      go_roundw
      case rel => exact ⟨i + 1, fn, out ++ vb fv, by omega, by go_num, rfl, hf1, by omega, hol2, HW4, HB4, HE3⟩
      case measure => simp [intOf]; omega
    · have HF : Hid (out = colF all c 0 rows) := by
        show _ = _
        rw [← HE.out, List.drop_of_length_le (by have := HLE.out; omega)]; simp [colF]
      go_wp2_with fail
      refine (written_any w.heap.size _ _ HW.out).mono ?_
      rintro e w2 ⟨rfl, rfl⟩
      go_wp2
      go_ret
      exact ⟨ret_str (by rw [HF.out]), HB.out⟩
end Go.Proofs.YtkaminplfnejhaaGreatDoor

/-
  The program's file.pack, walked.
-/
namespace Go.Proofs.YtkaminplfnejhaaGreatDoor
open Go.ChangeShapes Go.WideShapes Go.ChangeAt Go.RowKit Go.WideMaps Go.Maps
set_option linter.unusedVariables false
theorem ones_len (l : List (List UInt8)) : ∀ r ∈ l.map (fun t => [t]), r.length = 1 := fun r hr => by
  obtain ⟨t, _, rfl⟩ := List.mem_map.1 hr; rfl
theorem mem_allP (rows : List (List (List UInt8))) (t : List UInt8) : t ∈ allT rows ↔ t ∈ rows.flatten := by
  unfold allT
  constructor
  · intro h
    obtain ⟨r, hr, rfl⟩ := List.mem_map.1 h
    obtain ⟨x, hx, rfl⟩ := List.mem_map.1 ((mem_sortU 1 _ (ones_len _) r).1 hr)
    exact hx
  · intro h
    exact List.mem_map.2 ⟨[t], (mem_sortU 1 _ (ones_len _) [t]).2 (List.mem_map.2 ⟨t, h, rfl⟩), rfl⟩
theorem nodup_allT (rows : List (List (List UInt8))) : (allT rows).Nodup := by
  obtain ⟨h1, h2⟩ := sortU_rises 1 (rows.flatten.map fun t => [t]) (ones_len _)
  unfold allT
  refine List.pairwise_iff_getElem.2 fun i j hi hj hij => ?_
  rw [List.getElem_map, List.getElem_map]
  rw [List.length_map] at hi hj
  have h3 := h2 i j _ _ hij (List.getElem?_eq_getElem hi) (List.getElem?_eq_getElem hj)
  have l1 := h1 _ (List.getElem_mem hi)
  have l2 := h1 _ (List.getElem_mem hj)
  generalize (sortU (rows.flatten.map fun t => [t]))[i] = a at *
  generalize (sortU (rows.flatten.map fun t => [t]))[j] = b at *
  match a, b, l1, l2 with
  | [x], [y], _, _ =>
    intro e
    simp only [List.headD_cons] at e
    subst e
    rw [ordR_self] at h3
    cases h3
set_option maxRecDepth 100000 in
set_option maxHeartbeats 4000000 in
theorem pack_any (name : ByteArray) (m : Nat) (rv : Value) (vs : List Value) (tl : List (List (List UInt8))) (w : World) (h : Rows2 w rv vs tl) (hT : Tab w) (hF : Tidy name.data.toList m tl) :
    Calls Tryz.prog 28 #[.agg #[.string name, .int .i64 m, rv]] w fun e w' => e = .returned (.string (str (packF name.data.toList m tl))) ∧ Below w.heap.size w w' := by
  have HH : Hid (Rows2 w rv vs tl) := h
  have HTB : Hid (Tab w) := hT
  have HTF : Hid (Tidy name.data.toList m tl) := hF
  have hm8 : m ≤ 8 := by have := hF.a8; omega
  have hvs : vs.length ≤ 2000 := by have := h.2.1; have := hF.few; omega
  have HVL : Hid (vs.length = tl.length) := h.2.1
  obtain ⟨⟨a, cap, rfl, -⟩, -, -⟩ := h
  clear hT hF
  have HLT : Hid ((∀ r ∈ tl, r.length ≤ 1099511627776) ∧ (∀ r ∈ tl, r.length = m) ∧ tl.flatten.length ≤ 16000 ∧ tl.length ≤ 2000) := by
    have h1 : ∀ r ∈ tl, r.length = m := fun r hr => by have := (HTF.out.rows r hr).1; simpa using this
    have h2 := flat_len m tl h1
    have h3 := HTF.out.few
    have h4 : m * tl.length ≤ 8 * 2000 := Nat.mul_le_mul hm8 h3
    exact ⟨fun r hr => by rw [h1 r hr]; omega, h1, by omega, h3⟩
  have HSZ : Hid (∀ t ∈ allT tl, t.length ≤ 1000) := by
    intro t ht
    obtain ⟨r, hr, htr⟩ := List.mem_flatten.1 ((mem_allP tl t).1 ht)
    have := (HTF.out.rows r hr).2 t htr
    omega
  have hall : (allT tl).length ≤ 16000 := by have := allT_len tl; have := HLT.out.2.2.1; omega
  have hn30 : name.size ≤ 30 := by have := isName_len _ HTF.out.isn; simpa using this
  have HB0 : Hid (Below w.heap.size w (w.alloc (.cells #[.string name, .int .i64 m, .slice a vs.length cap] 24))) := (Below.refl _ _).alloc (Nat.le_refl _) _
  go_enter Tryz.func28, Tryz.ntmps28
  obtain ⟨W0, HW0⟩ : ∃ W0, Hid (W0 = w.alloc (.cells #[.string name, .int .i64 m, .slice a vs.length cap] 24)) := ⟨_, rfl⟩
  have HZ0 : Hid (W0.heap.size = w.heap.size + 1) := by show _ = _; rw [HW0.out]; simp
  have HQ : Hid (W0.cell? ⟨w.heap.size, 0, none⟩ = some (.string name) ∧ W0.cell? ⟨w.heap.size, 1, none⟩ = some (.int .i64 m) ∧ W0.cell? ⟨w.heap.size, 2, none⟩ = some (.slice a vs.length cap)) := by
    rw [HW0.out]; exact ⟨by simp, by simp, by simp⟩
  have HU0 : Hid (Rows2 W0 (.slice a vs.length cap) vs tl) := by rw [HW0.out]; exact HH.out.kept HB0.out
  have HT0 : Hid (Tab W0) := by rw [HW0.out]; exact HTB.out.below HB0.out HTB.out.pos
  have hb0 : w.heap.size < W0.heap.size := by have := HZ0.out; omega
  have HBW : Hid (Below w.heap.size w W0) := by rw [HW0.out]; exact HB0.out
  go_wp2_with fail
  rw [← HW0.out]
  clear HW0 HB0
  refine (ptexts_any _ vs tl _ HU0.out (by have := HLT.out.2.2.2; omega) (by have := HLT.out.2.2.1; omega)).mono ?_
  rintro e w1 ⟨⟨vl, rfl, hol⟩, hb1⟩
  obtain ⟨la, lc, rfl⟩ := own_shape2 hol
  have HB1 : Hid (Below W0.heap.size W0 w1) := hb1
  have HO1 : Hid (w1.ownsRow W0.heap.size 9 1 (.slice la (allT tl).length lc) (allT tl).length (ts (allT tl))) := hol
  clear hol hb1
  obtain ⟨rt, re, ri, HRB⟩ : ∃ rt re ri, Hid (build (allT tl) = (rt, re, ri)) := ⟨_, _, _, rfl⟩
  have HBV : Hid (built (build (allT tl)) = .tuple #[.string (str rt), .int .i64 (re : Nat), .int .i64 (ri : Nat)]) := by show _ = _; rw [HRB.out]; rfl
  have hrt : rt.length ≤ 3488009 := by have := build_len (allT tl) (by omega); rw [HRB.out] at this; simp only at this; omega
  go_wp2_with fail
  refine (build_said _ (allT tl) _ (own_strs HO1.out) (by omega)).mono ?_
  rintro e w2 ⟨rfl, hb2⟩
  rw [HBV.out]
  have HB2 : Hid (Below W0.heap.size W0 w2) := HB1.out.trans (hb2.mono HB1.out.size)
  have HO2 : Hid (w2.ownsRow W0.heap.size 9 1 (.slice la (allT tl).length lc) (allT tl).length (ts (allT tl))) := own_kept HO1.out hb2
  clear hb2 HB1 HO1
  go_wp2_with fail
  refine (numbers_any _ (allT tl) _ (own_strs HO2.out) (by omega) HSZ.out).mono ?_
  rintro e w3 ⟨rfl, hm3, hb3⟩
  have HB3 : Hid (Below W0.heap.size W0 w3) := HB2.out.trans (hb3.mono HB2.out.size)
  obtain ⟨M, HM⟩ : ∃ M, Hid (M = w2.heap.size) := ⟨_, (rfl : w2.heap.size = _)⟩
  rw [← HM.out] at hm3 ⊢
  have HM3 : Hid (w3.ownsMap Tryz.prog 9 (plainElem Tryz.prog 3) M (allT tl).length (numD (allT tl) (allT tl).length)) := hm3
  have hM3 : M < w3.heap.size := hm3.lt
  have HU3 : Hid (Rows2 w3 (.slice a vs.length cap) vs tl) := HU0.out.kept HB3.out
  have HT3 : Hid (Tab w3) := HT0.out.below HB3.out HT0.out.pos
  have hb3w : w.heap.size < w3.heap.size := by have := HB3.out.size; omega
  have HQ3 : Hid (w3.cell? ⟨w.heap.size, 0, none⟩ = some (.string name) ∧ w3.cell? ⟨w.heap.size, 1, none⟩ = some (.int .i64 m) ∧ w3.cell? ⟨w.heap.size, 2, none⟩ = some (.slice a vs.length cap)) :=
    ⟨(HB3.out.cell (p := ⟨w.heap.size, 0, none⟩) hb0).trans HQ.out.1, (HB3.out.cell (p := ⟨w.heap.size, 1, none⟩) hb0).trans HQ.out.2.1, (HB3.out.cell (p := ⟨w.heap.size, 2, none⟩) hb0).trans HQ.out.2.2⟩
  have HBW3 : Hid (Below w.heap.size w w3) := HBW.out.trans (HB3.out.mono (Nat.le_of_lt hb0))
  clear hb3 hm3 HB2 HO2 HB3 HBW HQ HU0 HT0 HM hb0
  obtain ⟨sr, HSR⟩ : ∃ sr, Hid (sr = str rt) := ⟨_, (rfl : str rt = _)⟩
  rw [← HSR.out]
  have zr : sr.size ≤ 3488009 := by rw [HSR.out, str_size]; exact hrt
  go_wp2_with fail
  have HB3a : Hid (Below w3.heap.size w3 (w3.alloc (.cells #[.slice none 0 0] 98))) := (Below.refl _ _).alloc (Nat.le_refl _) _
  refine (wtext_any w3.heap.size [] _ _ (Wr.newAt _ _ _ rfl) (by simp; decide)).mono ?_
  rintro e w4 ⟨rfl, hw4, hb4⟩
  rw [List.nil_append] at hw4
  have HB4 : Hid (Below w3.heap.size w3 w4) := HB3a.out.trans hb4
  have HW4 : Hid (Wr w4 w3.heap.size [82, 69, 76, 49]) := hw4
  clear hb4 hw4 HB3a
  obtain ⟨bb, HBB⟩ : ∃ bb, Hid (bb = w3.heap.size) := ⟨_, (rfl : w3.heap.size = _)⟩
  rw [← HBB.out] at HB4 HW4 hb3w hM3
  have t0 := (HB4.out.cell (p := ⟨w.heap.size, 0, none⟩) hb3w).trans HQ3.out.1
  have t1 := (HB4.out.cell (p := ⟨w.heap.size, 1, none⟩) hb3w).trans HQ3.out.2.1
  have t2 := (HB4.out.cell (p := ⟨w.heap.size, 2, none⟩) hb3w).trans HQ3.out.2.2
  have HPOS : Hid (0 < bb) := by rw [HBB.out]; exact HT3.out.pos
  obtain ⟨sh, HSH⟩ : ∃ sh, Hid (sh = str (headT name.data.toList m tl.length)) := ⟨_, (rfl : str (headT name.data.toList m tl.length) = _)⟩
  have l1 := vb_length9 name.size (by omega)
  have l2 := vb_length9 m (by omega)
  have l3 := vb_length9 vs.length (by omega)
  have zh : sh.size ≤ 57 := by
    rw [HSH.out, str_size, ← HVL.out]; unfold headT
    simp only [List.length_append]
    have : name.data.toList.length = name.size := by simp
    rw [this]; omega
  clear l1 l2 l3
  rw [← HBB.out]
  have HPG : Hid (∀ (out : List UInt8) (s : ByteArray) (wx : World), Hid (Wr wx bb out) → Hid (Below bb w3 wx) → out.length + s.size ≤ 1073741824 → Calls Tryz.prog 56 #[.pointer (some ⟨bb, 0, none⟩), .string s] wx fun e w' => e = .returned (.tuple #[]) ∧ Hid (Wr w' bb (out ++ page s.data.toList)) ∧ Hid (Below bb w3 w')) := by
    intro out s wx hw hb hz
    refine (bookpage_any bb out s wx hw.out (HT3.out.below hb.out HPOS.out) HPOS.out (by omega)).mono ?_
    rintro e w5 ⟨rfl, h5, hb5⟩
    exact ⟨rfl, h5, hb.out.trans hb5⟩
  go_wp2_with fail
  refine (headtext_any name m vs.length _ (by omega) (by omega) (by omega)).mono ?_
  rintro e w5 ⟨rfl, hb5⟩
  rw [HVL.out, ← HSH.out, ← HVL.out]
  have HB5 : Hid (Below bb w3 w5) := HB4.out.trans (hb5.mono (Nat.le_of_lt HW4.out.lt))
  have HW5 : Hid (Wr w5 bb [82, 69, 76, 49]) := HW4.out.kept hb5
  clear hb5 t0 t1 t2 HB4 HW4
  go_wp2_with fail
  refine (HPG.out _ sh _ HW5 HB5 (by simp; omega)).mono ?_
  rintro e w6 ⟨rfl, HW6, HB6⟩
  obtain ⟨o6, HO6⟩ : ∃ o6, Hid (o6 = ([82, 69, 76, 49] : List UInt8) ++ page sh.data.toList) := ⟨_, (rfl : ([82, 69, 76, 49] : List UInt8) ++ page sh.data.toList = _)⟩
  rw [← HO6.out] at HW6
  have zo6 : o6.length ≤ 74 := by
    have h1 := page_len sh.data.toList (by simp; omega)
    have h2 : sh.data.toList.length = sh.size := by simp
    rw [HO6.out, List.length_append]; simp only [List.length_cons, List.length_nil]; omega
  clear HB5 HW5
  go_wp2_with fail
  refine (HPG.out _ sr _ HW6 HB6 (by omega)).mono ?_
  rintro e w7 ⟨rfl, HW7, HB7⟩
  have HO7 : Hid (o6 ++ page sr.data.toList = [82, 69, 76, 49] ++ (page (headT name.data.toList m tl.length) ++ (page rt ++ colsF (allT tl) tl 0))) := by
    show _ = _
    rw [HO6.out, HSH.out, HSR.out, data_str, data_str]; simp [colsF]
  obtain ⟨o7, HO7E⟩ : ∃ o7, Hid (o7 = o6 ++ page sr.data.toList) := ⟨_, (rfl : o6 ++ page sr.data.toList = _)⟩
  rw [← HO7E.out] at HW7 HO7
  have zo7 : o7.length ≤ 3488096 := by
    have h1 := page_len sr.data.toList (by simp; omega)
    have h2 : sr.data.toList.length = sr.size := by simp
    rw [HO7E.out, List.length_append]; omega
  clear HB6 HW6
  have t1 := (HB7.out.cell (p := ⟨w.heap.size, 1, none⟩) hb3w).trans HQ3.out.2.1
  go_wp2
  go_loopw [37] (fun kv wr => ∃ (k : Nat) (out : List UInt8), k ≤ m ∧ kv = .int .i64 k ∧ out.length ≤ 3488096 + k * 18013 ∧ Hid (Wr wr bb out) ∧ Hid (Below bb w3 wr) ∧ Hid (out = [82, 69, 76, 49] ++ (page (headT name.data.toList m tl.length) ++ (page rt ++ colsF (allT tl) tl k)))) (fun kv _ => m - (intOf kv).toNat)
  case atStart => exact ⟨0, o7, by omega, rfl, by omega, HW7, HB7, HO7⟩
  case round =>
    obtain ⟨k, out, hk, rfl, hol, HW, HB, HOT⟩ := hrel
    have t2 := (HB.out.cell (p := ⟨w.heap.size, 2, none⟩) hb3w).trans HQ3.out.2.2
    have hk8 : k * 18013 ≤ 8 * 18013 := Nat.mul_le_mul (by omega) (Nat.le_refl _)
    by_cases hkm : k < m
    · have HMR : Hid (wr.ownsMap Tryz.prog 9 (plainElem Tryz.prog 3) M (allT tl).length (numD (allT tl) (allT tl).length)) := ownsMap_below HM3.out HB.out hM3
      have HUR : Hid (Rows2 wr (.slice a vs.length cap) vs tl) := HU3.out.kept (by rw [← HBB.out]; exact HB.out)
      go_wp2_with fail
      refine (pcolumn_any _ vs tl k M _ (allT tl) _ HUR.out HMR.out (by have := HLT.out.2.2.2; omega) (by omega) (fun r hr => by have := HLT.out.2.1 r hr; omega) HLT.out.1 (fun r hr t ht => (mem_allP tl t).2 (List.mem_flatten.2 ⟨r, hr, ht⟩)) (nodup_allT tl) HSZ.out).mono ?_
      rintro e w9 ⟨rfl, hb9⟩
      obtain ⟨sk, HSK⟩ : ∃ sk, Hid (sk = str (colF (allT tl) k 0 tl)) := ⟨_, (rfl : str (colF (allT tl) k 0 tl) = _)⟩
      rw [← HSK.out]
      have zsk : sk.size ≤ 18000 := by
        have := colF_len (allT tl) k 0 tl
        have := HLT.out.2.2.2
        rw [HSK.out, str_size]; omega
      have HB9 : Hid (Below bb w3 w9) := HB.out.trans (hb9.mono (Nat.le_of_lt HW.out.lt))
      have HW9 : Hid (Wr w9 bb out) := HW.out.kept hb9
      clear hb9 t2 HB HW HMR HUR
      go_wp2_with fail
      refine (HPG.out _ sk _ HW9 HB9 (by omega)).mono ?_
      rintro e w10 ⟨rfl, HW10, HB10⟩
      have HPE : Hid (page sk.data.toList = page (colF (allT tl) k 0 tl)) := by show _ = _; rw [HSK.out, data_str]
      rw [HPE.out] at HW10
      have HOT2 : Hid (out ++ page (colF (allT tl) k 0 tl) = [82, 69, 76, 49] ++ (page (headT name.data.toList m tl.length) ++ (page rt ++ colsF (allT tl) tl (k + 1)))) := by
        show _ = _
        rw [HOT.out, colsF_succ]; simp [List.append_assoc]
      have zj : (out ++ page (colF (allT tl) k 0 tl)).length ≤ 3488096 + (k + 1) * 18013 := by
        have h1 := page_len sk.data.toList (by simp; omega)
        have h2 : sk.data.toList.length = sk.size := by simp
        rw [← HPE.out, List.length_append, Nat.add_mul]; omega
      clear HB9 HW9
      go_wp2
      go_roundw
      case rel => exact ⟨k + 1, _, by omega, by go_num, zj, HW10, HB10, HOT2⟩
      case measure => simp [intOf]; omega
    · have hke : k = m := by omega
      have HBD : Hid (out = bodyF name.data.toList m tl) := by
        show _ = _
        rw [HOT.out, hke]
        unfold bodyF
        rw [HRB.out]
      clear hke t2
      obtain ⟨ob, HOB⟩ : ∃ ob, Hid (ob = str out) := ⟨_, (rfl : str out = _)⟩
      have zob : ob.size ≤ 3488096 + k * 18013 := by rw [HOB.out, str_size]; exact hol
      obtain ⟨ss, HSS⟩ : ∃ ss, Hid (ss = str (Crc.sum out)) := ⟨_, (rfl : str (Crc.sum out) = _)⟩
      have zss : ss.size = 4 := by rw [HSS.out]; rfl
      have HTXT : Hid (∀ (w2 : World), Hid (Wr w2 bb out) → Hid (Below bb w3 w2) → Calls Tryz.prog 55 #[.pointer (some ⟨bb, 0, none⟩), .string ss] w2 fun e w' => e = .returned (.tuple #[]) ∧ Hid (Wr w' bb (packF name.data.toList m tl)) ∧ Hid (Below bb w3 w')) := by
        intro w2 hw2 hb2
        refine (wtext_any bb _ ss _ hw2.out (by omega)).mono ?_
        rintro e w3' ⟨rfl, h3, hb3⟩
        have e : out ++ ss.data.toList = packF name.data.toList m tl := by
          rw [HSS.out, data_str, HBD.out]; rfl
        rw [e] at h3; exact ⟨rfl, h3, hb2.out.trans hb3⟩
      go_wp2_with fail
      refine (written_any bb out _ HW.out).mono ?_
      rintro e w5 ⟨rfl, rfl⟩
      rw [← HOB.out]
      go_wp2_with fail
      refine (sum_any ob _ (by omega) (HT3.out.below HB.out HPOS.out)).mono ?_
      rintro e w6 ⟨rfl, hb6⟩
      have HSE : Hid (str (Crc.sum ob.data.toList) = ss) := by show _ = _; rw [HSS.out, HOB.out, data_str]
      rw [HSE.out]
      have HW8 : Hid (Wr w6 bb out) := HW.out.kept hb6
      have HB8 : Hid (Below bb w3 w6) := HB.out.trans (hb6.mono (Nat.le_of_lt HW.out.lt))
      clear hb6 HW HB
      go_wp2_with fail
      refine (HTXT.out _ HW8 HB8).mono ?_
      rintro e w8 ⟨rfl, HW9, HB9⟩
      go_wp2_with fail
      refine (written_any bb _ _ HW9.out).mono ?_
      rintro e w9 ⟨rfl, rfl⟩
      go_wp2
      go_ret
      exact ⟨rfl, HBW3.out.trans (HB9.out.mono (by rw [HBB.out]; exact HBW3.out.size))⟩
end Go.Proofs.YtkaminplfnejhaaGreatDoor
