/-
  The program's file.columnText, walked.
-/
import Derived.Test.YtnnldpccagajbaaDoorNumbers
import Derived.Test.YtnnldpccagajbaaDoorBook
namespace Go.Proofs.YtnnldpccagajbaaDoor
open Go.ChangeShapes Go.WideShapes Go.ChangeAt Go.RowKit Go.WideMaps Go.Maps
set_option linter.unusedVariables false
theorem ownsMap_below {H : Type} {P : Program} {k : TypeId} {R : Value → Option (DataW H × List MemPlace)} {m n : Nat} {D : DataW H} {w w' : World} {b : Nat} (h : w.ownsMap P k R m n D) (hb : Below b w w') (hm : m < b) : w'.ownsMap P k R m n D := by
  obtain ⟨es, clock, he, hr⟩ := h
  exact ⟨es, clock, by rw [hb.block m hm]; exact he, hr⟩
theorem find_once (l : List (List UInt8)) (hn : l.Nodup) (i : Nat) (t : List UInt8) (hi : l[i]? = some t) : find l t = i := by
  refine find_at l t i (fun j hj h => ?_) hi
  obtain ⟨h1, e1⟩ := List.getElem?_eq_some_iff.1 hi
  obtain ⟨h2, e2⟩ := List.getElem?_eq_some_iff.1 h
  exact List.pairwise_iff_getElem.1 hn j i h2 h1 hj (e2.trans e1.symm)
theorem numD_find (l : List (List UInt8)) (hn : l.Nodup) (t : List UInt8) (ht : t ∈ l) (z : DataW Unit) : (numD l l.length).atKey (.string t) z = .lit (.int .i64 (find l t)) := by
  obtain ⟨i, hi, e⟩ := List.getElem_of_mem ht
  have hi' : l[i]? = some t := by rw [← e]; exact List.getElem?_eq_getElem hi
  rw [find_once l hn i t hi', numD_at l i t hi' z l.length hi (Nat.le_refl _)]
  intro j h1 h2 h
  obtain ⟨h3, e2⟩ := List.getElem?_eq_some_iff.1 h
  exact List.pairwise_iff_getElem.1 hn i j hi h3 h1 (e.trans e2.symm)
set_option maxRecDepth 100000 in
set_option maxHeartbeats 2000000 in
theorem pcolumn_any (v : Value) (vs : List Value) (rows : List (List (List UInt8))) (c m nb : Nat) (all : List (List UInt8)) (w : World) (h : Rows2 w v vs rows) (hm : w.ownsMap Tryd.prog 9 (plainElem Tryd.prog 3) m nb (numD all all.length)) (hl : rows.length ≤ 67108864) (hal : all.length ≤ 1073741824) (hc : ∀ r ∈ rows, c < r.length) (hr : ∀ r ∈ rows, r.length ≤ 1099511627776)
    (hin0 : ∀ r ∈ rows, ∀ t ∈ r, t ∈ all) (hnd : all.Nodup) (hs : ∀ t ∈ all, t.length ≤ 1000) :
    Calls Tryd.prog 30 #[v, .int .i64 c, .map (some m)] w fun e w' => e = .returned (.string (str (colF all c 0 rows))) ∧ Below w.heap.size w w' := by
  have hvl : vs.length ≤ 67108864 := by have := h.2.1; omega
  have hmw : m < w.heap.size := hm.lt
  have HM : Hid (w.ownsMap Tryd.prog 9 (plainElem Tryd.prog 3) m nb (numD all all.length)) := hm
  obtain ⟨⟨a, cap, rfl, hv⟩, hlen, hin⟩ := h
  have HLE : Hid (vs.length = rows.length) := hlen
  have HIN : Hid (∀ (i : Nat) (x : Value) (r : List (List UInt8)), vs[i]? = some x → rows[i]? = some r → Strs w x r) := hin
  have HCL : Hid (∀ r ∈ rows, c < r.length) := hc
  have HRR : Hid (∀ r ∈ rows, r.length ≤ 1099511627776) := hr
  have HIA : Hid (∀ r ∈ rows, ∀ t ∈ r, t ∈ all) := hin0
  have HND : Hid (all.Nodup) := hnd
  have HSS : Hid (∀ t ∈ all, t.length ≤ 1000) := hs
  have HV : Hid (∀ k, k < vs.length → ∃ b off, a = some ⟨b, off, none⟩ ∧ ∀ (i : Nat) (x : Value), vs[i]? = some x → w.cell? ⟨b, off + i, none⟩ = some x) := by
    intro k hk
    rcases hv with ⟨rfl, _⟩ | ⟨b, off, rfl, hc⟩
    · simp at hk
    · exact ⟨b, off, rfl, hc⟩
  clear hv hlen hin hc hr hin0 hnd hs hm
  go_enter Tryd.func30, Tryd.ntmps30
  go_wp2
  go_loopw [8, 14] (fun lastv iv wr => ∃ (i : Nat) (last : Int) (out : List UInt8), i ≤ vs.length ∧ iv = .int .i64 i ∧ lastv = .int .i64 last ∧ -1 ≤ last ∧ last ≤ 1073741824 ∧ out.length ≤ 9 * i ∧ Hid (Wr wr w.heap.size out) ∧ Hid (Below w.heap.size w wr) ∧ Hid (out ++ colF all c last (rows.drop i) = colF all c 0 rows)) (fun _ iv _ => vs.length - (intOf iv).toNat)
  case atStart => exact ⟨0, 0, [], by omega, rfl, rfl, by omega, by omega, by simp, Wr.new w _ rfl, (Below.refl _ _).alloc (Nat.le_refl _) _, by simp [Hid]⟩
  case round =>
    obtain ⟨i, last, out, hi2, rfl, rfl, hl1, hl2, hol, HW, HB, HE⟩ := hrel
    by_cases hlt : i < vs.length
    · have hir : i < rows.length := by have := HLE.out; omega
      obtain ⟨b, off, rfl, hcc⟩ := HV.out i hlt
      have cx0 := hcc i vs[i] (val_at hlt)
      have cx1 := (HB.out.cell (p := ⟨b, off + i, none⟩) (World.block_lt_of_cell? w ⟨b, off + i, none⟩ cx0)).trans cx0
      have hcr : c < rows[i].length := HCL.out _ (List.getElem_mem hir)
      obtain ⟨xa, xc, hxe, hxs⟩ := HIN.out i _ _ (val_at hlt) (row_at hir)
      have hrl : rows[i].length ≤ 1099511627776 := HRR.out _ (List.getElem_mem hir)
      obtain ⟨bx, ox, hxa, hcx⟩ : ∃ bx ox, xa = some ⟨bx, ox, none⟩ ∧ w.cell? ⟨bx, ox + c, none⟩ = some (.string (str rows[i][c])) := by
        rcases hxs with ⟨hn, _⟩ | ⟨bx, ox, rfl, hcx⟩
        · rw [hn] at hcr; simp at hcr
        · exact ⟨bx, ox, rfl, hcx c _ (get_at hcr)⟩
      subst hxa
      have ct := (HB.out.cell (p := ⟨bx, ox + c, none⟩) (World.block_lt_of_cell? w ⟨bx, ox + c, none⟩ hcx)).trans hcx
      rw [hxe] at cx1
      have HDR : Hid (rows.drop i = rows[i] :: rows.drop (i + 1)) := List.drop_eq_getElem_cons hir
      have HGD : Hid (rows[i].getD c [] = rows[i][c]) := by show _ = _; simp [List.getD, List.getElem?_eq_getElem hcr]
      have HTA : Hid (rows[i][c] ∈ all) := HIA.out _ (List.getElem_mem hir) _ (List.getElem_mem hcr)
      obtain ⟨t, HT⟩ : ∃ t, Hid (t = rows[i][c]) := ⟨_, (rfl : rows[i][c] = _)⟩
      rw [← HT.out] at ct HTA
      obtain ⟨rl, HRL⟩ : ∃ rl, Hid (rl = rows[i].length) := ⟨_, (rfl : rows[i].length = _)⟩
      rw [← HRL.out] at cx1 hcr hrl
      have HE2 : Hid (out ++ (vb (fold (find all t - last)).toNat ++ colF all c (find all t) (rows.drop (i + 1))) = colF all c 0 rows) := by
        show _ = _
        rw [← HE.out, HDR.out, colF_cons, HGD.out, HT.out]
      obtain ⟨hf1, hf2⟩ := find_bd all t
      have hown : wr.ownsMap Tryd.prog 9 (plainElem Tryd.prog 3) m nb (numD all all.length) := ownsMap_below HM.out HB.out hmw
      have htl : t.length ≤ 1000 := HSS.out _ HTA.out
      have hkey : keyOf Tryd.prog 9 (.string (str t)) = some (.string t) := by
        have := keyOf_string_mk Tryd.underlying9 (s := str t) (by rw [str_size]; unfold maxLen; omega)
        rw [data_str] at this; exact this
      have HAT : Hid ((numD all all.length).atKey (.string t) (.lit (.int .i64 0)) = .lit (.int .i64 (find all t))) := numD_find all HND.out t HTA.out _
      clear hcc cx0 hxs hxe hcx htl
      obtain ⟨fn, HFN⟩ : ∃ fn, Hid (fn = find all t) := ⟨_, (rfl : find all t = _)⟩
      rw [← HFN.out] at hf1 hf2 HE2 HAT
      have hrun : (Instr.lookup 52 (.map (some m)) (.string (str t)) false).run Tryd.prog wr = .ok (.int .i64 fn) wr := by
        obtain ⟨cc, hr1, hat, _⟩ := hown.lookup_int strKeyed Tryd.underlying52 Tryd.underlying3 (zeroInt _) hkey
        rw [HAT.out] at hat
        injection hat with hat; injection hat with _ hat
        subst hat
        exact hr1
      obtain ⟨hq1, hq2⟩ := fold_bd (fn - last)
      have h9 := vb_length9 (fold (fn - last)).toNat (by omega)
      obtain ⟨st, HST⟩ : ∃ st, Hid (st = str t) := ⟨_, (rfl : str t = _)⟩
      rw [← HST.out] at ct hrun
      clear hown hkey
      go_wp2_with fail
      refine (pfold_any (fn - last) _ (by omega) (by omega)).mono ?_
      rintro e w3 ⟨rfl, rfl⟩
      go_wp2_with fail
      refine (wnumber_at w.heap.size out (fold (fn - last)) _ HW.out hq1 (by omega) (by omega)).mono ?_
      rintro e w4 ⟨rfl, hw4, hb4⟩
      have HB4 : Hid (Below w.heap.size w w4) := HB.out.trans hb4
      generalize (fold (fn - last)).toNat = fv at *
      have HW4 : Hid (Wr w4 w.heap.size (out ++ vb fv)) := hw4
      have hol2 : (out ++ vb fv).length ≤ 9 * (i + 1) := by rw [List.length_append]; omega
      have HE3 : Hid ((out ++ vb fv) ++ colF all c fn (rows.drop (i + 1)) = colF all c 0 rows) := by show _ = _; rw [← HE2.out, List.append_assoc]
      clear hb4 hw4
      go_wp2
      go_roundw
      case rel => exact ⟨i + 1, fn, out ++ vb fv, by omega, by go_num, rfl, hf1, by omega, hol2, HW4, HB4, HE3⟩
      case measure => simp [intOf]; omega
    · have HF : Hid (out = colF all c 0 rows) := by
        show _ = _
        rw [← HE.out, List.drop_of_length_le (by have := HLE.out; omega)]; simp [colF]
      go_wp2_with fail
      refine (written_any w.heap.size _ _ HW.out).mono ?_
      rintro e w2 ⟨rfl, rfl⟩
      go_wp2
      go_ret
      exact ⟨ret_str (by rw [HF.out]), HB.out⟩
end Go.Proofs.YtnnldpccagajbaaDoor
