import Derived.Test.YtnnldpccagajbaaGreatDoorM01
import Derived.Test.YtnnldpccagajbaaGreatDoorM10
import Derived.Test.YtnnldpccagajbaaGreatDoorM12
import Derived.Test.YtnnldpccagajbaaGreatDoorM03
/-
  Fold of the program and of the document, walked.
-/
namespace Go.Proofs.YtnnldpccagajbaaGreatDoor
open Go.ChangeShapes Go.WideShapes Go.ChangeAt Go.RowKit
set_option linter.unusedVariables false
namespace FoldCalls
theorem f1 (n : Int) (h1 : -9223372036854775808 ≤ n) (h2 : n ≤ 9223372036854775807) (h : (wrap64 (n * 2) / 2 != n) = true) : 0 = fold n := by
  unfold wrap64 at *; simp at h; unfold fold; rw [if_neg (by omega), if_neg (by omega)]
theorem f2 (n : Int) (h1 : -9223372036854775808 ≤ n) (h2 : n ≤ 9223372036854775807) (h : (wrap64 (n * 2) / 2 != n) = false) (h3 : n < 0) : bits .xor .i64 (-1) (wrap64 (n * 2)) = fold n := by
  rw [not64 _ (by unfold wrap64; omega) (by unfold wrap64; omega)]; unfold wrap64 at *; simp at h; unfold fold; rw [if_neg (by omega), if_pos (by omega)]; omega
theorem f3 (n : Int) (h1 : -9223372036854775808 ≤ n) (h2 : n ≤ 9223372036854775807) (h : (wrap64 (n * 2) / 2 != n) = false) (h3 : 0 ≤ n) : wrap64 (n * 2) = fold n := by
  unfold wrap64 at *; simp at h; unfold fold; rw [if_pos (by omega)]; omega
theorem rf (n : Int) (h1 : -9223372036854775808 ≤ n) (h2 : n ≤ 9223372036854775807) (a : n < 0) (b : -4611686018427387904 ≤ n) : wrap64 (wrap64 (-2 * n) - 1) = fold n := by
  unfold wrap64 fold; rw [if_neg (by omega), if_pos (by omega)]; omega
end FoldCalls
open FoldCalls in
set_option maxHeartbeats 400000 in
theorem pfold_any (n : Int) (w : World) (h1 : -9223372036854775808 ≤ n) (h2 : n ≤ 9223372036854775807) :
    Calls Tryz.prog 86 #[.int .i64 n] w fun e w' => e = .returned (.int .i64 (fold n)) ∧ w = w' := by
  go_enter Tryz.func86, Tryz.ntmps86
  go_wp2
  · go_ret; exact ⟨ret_int (f1 n h1 h2 ‹_›), rfl⟩
  · go_ret; exact ⟨ret_int (f2 n h1 h2 ‹_› ‹_›), rfl⟩
  · go_ret; exact ⟨ret_int (f3 n h1 h2 ‹_› ‹_›), rfl⟩
open FoldCalls in
set_option maxHeartbeats 400000 in
theorem rfold_at (n : Int) (w : World) (h1 : -9223372036854775808 ≤ n) (h2 : n ≤ 9223372036854775807) :
    Calls Tryz.prog 60 #[.int .i64 n] w fun e w' => e = .returned (.int .i64 (fold n)) ∧ w = w' := by
  go_enter Tryz.func60, Tryz.ntmps60
  go_wp2
  · go_ret; exact ⟨ret_int (by unfold fold; rw [if_pos (by omega)]), rfl⟩
  · go_ret; exact ⟨ret_int (by unfold fold; rw [if_neg (by omega), if_neg (by omega)]), rfl⟩
  · go_ret; exact ⟨ret_int (rf n h1 h2 ‹_› ‹_›), rfl⟩
  · go_ret; exact ⟨ret_int (by unfold fold; rw [if_neg (by omega), if_neg (by omega)]), rfl⟩
end Go.Proofs.YtnnldpccagajbaaGreatDoor

/-
  The document's column, walked.
-/
namespace Go.Proofs.YtnnldpccagajbaaGreatDoor
open Go.ChangeShapes Go.WideShapes Go.ChangeAt Go.RowKit
set_option linter.unusedVariables false
theorem find_bd (l : List (List UInt8)) (s : List UInt8) : -1 ≤ find l s ∧ find l s ≤ l.length := by
  unfold find
  cases h : l.findIdx? (· == s) with
  | none => simp
  | some i =>
    have := (List.findIdx?_eq_some_iff_getElem.1 h).1
    simp only; omega
theorem colF_cons (all : List (List UInt8)) (c : Nat) (last : Int) (r : List (List UInt8)) (rest : List (List (List UInt8))) : colF all c last (r :: rest) = vb (fold (find all (r.getD c []) - last)).toNat ++ colF all c (find all (r.getD c [])) rest := rfl
set_option maxRecDepth 100000 in
set_option maxHeartbeats 2000000 in
theorem rcolumn_any (v va : Value) (vs : List Value) (rows : List (List (List UInt8))) (c : Nat) (all : List (List UInt8)) (w : World) (h : Rows2 w v vs rows) (ha : Strs w va all) (hl : rows.length ≤ 67108864) (hal : all.length ≤ 1073741824) (hc : ∀ r ∈ rows, c < r.length) (hr : ∀ r ∈ rows, r.length ≤ 1099511627776) :
    Calls Tryz.prog 32 #[v, .int .i64 c, va] w fun e w' => e = .returned (.string (str (colF all c 0 rows))) ∧ Below w.heap.size w w' := by
  obtain ⟨i0, hi, hz0, hz1, hz2⟩ := info_parts info5
  have HA : Hid (Strs w va all) := ha
  obtain ⟨aa, ac, rfl, -⟩ := ha
  have hvl : vs.length ≤ 67108864 := by have := h.2.1; omega
  obtain ⟨⟨a, cap, rfl, hv⟩, hlen, hin⟩ := h
  have HLE : Hid (vs.length = rows.length) := hlen
  have HIN : Hid (∀ (i : Nat) (x : Value) (r : List (List UInt8)), vs[i]? = some x → rows[i]? = some r → Strs w x r) := hin
  have HCL : Hid (∀ r ∈ rows, c < r.length) := hc
  have HRR : Hid (∀ r ∈ rows, r.length ≤ 1099511627776) := hr
  have HV : Hid (∀ k, k < vs.length → ∃ b off, a = some ⟨b, off, none⟩ ∧ ∀ (i : Nat) (x : Value), vs[i]? = some x → w.cell? ⟨b, off + i, none⟩ = some x) := by
    intro k hk
    rcases hv with ⟨rfl, _⟩ | ⟨b, off, rfl, hc⟩
    · simp at hk
    · exact ⟨b, off, rfl, hc⟩
  clear hv hlen hin hc hr
  go_enter Tryz.func32, Tryz.ntmps32
  go_wp2
  go_loopw [7, 8, 9] (fun lastv ov iv wr => ∃ (i : Nat) (last : Int) (out : List UInt8), i ≤ vs.length ∧ iv = .int .i64 i ∧ lastv = .int .i64 last ∧ -1 ≤ last ∧ last ≤ 1073741824 ∧ out.length ≤ 9 * i ∧ Hid (wr.ownsRow w.heap.size 5 1 ov out.length (bs out)) ∧ Hid (Below w.heap.size w wr) ∧ Hid (out ++ colF all c last (rows.drop i) = colF all c 0 rows)) (fun _ _ iv _ => vs.length - (intOf iv).toNat)
  case atStart => exact ⟨0, 0, [], by omega, rfl, rfl, by omega, by omega, by simp, World.ownsRow_nil _ _ _ _, Below.refl _ _, by simp [Hid]⟩
  case round =>
    obtain ⟨i, last, out, hi2, rfl, rfl, hl1, hl2, hol, HO, HB, HE⟩ := hrel
    by_cases hlt : i < vs.length
    · have hir : i < rows.length := by have := HLE.out; omega
      obtain ⟨b, off, rfl, hcc⟩ := HV.out i hlt
      have cx0 := hcc i vs[i] (val_at hlt)
      have cx1 := (HB.out.cell (p := ⟨b, off + i, none⟩) (World.block_lt_of_cell? w ⟨b, off + i, none⟩ cx0)).trans cx0
      have hcr : c < rows[i].length := HCL.out _ (List.getElem_mem hir)
      obtain ⟨xa, xc, hxe, hxs⟩ := HIN.out i _ _ (val_at hlt) (row_at hir)
      have hrl : rows[i].length ≤ 1099511627776 := HRR.out _ (List.getElem_mem hir)
      obtain ⟨bx, ox, hxa, hcx⟩ : ∃ bx ox, xa = some ⟨bx, ox, none⟩ ∧ w.cell? ⟨bx, ox + c, none⟩ = some (.string (str rows[i][c])) := by
        rcases hxs with ⟨hn, _⟩ | ⟨bx, ox, rfl, hcx⟩
        · rw [hn] at hcr; simp at hcr
        · exact ⟨bx, ox, rfl, hcx c _ (get_at hcr)⟩
      subst hxa
      have ct := (HB.out.cell (p := ⟨bx, ox + c, none⟩) (World.block_lt_of_cell? w ⟨bx, ox + c, none⟩ hcx)).trans hcx
      rw [hxe] at cx1
      have HDR : Hid (rows.drop i = rows[i] :: rows.drop (i + 1)) := List.drop_eq_getElem_cons hir
      have HGD : Hid (rows[i].getD c [] = rows[i][c]) := by show _ = _; simp [List.getD, List.getElem?_eq_getElem hcr]
      obtain ⟨t, HT⟩ : ∃ t, Hid (t = rows[i][c]) := ⟨_, (rfl : rows[i][c] = _)⟩
      rw [← HT.out] at ct
      obtain ⟨rl, HRL⟩ : ∃ rl, Hid (rl = rows[i].length) := ⟨_, (rfl : rows[i].length = _)⟩
      rw [← HRL.out] at cx1 hcr hrl
      have HE2 : Hid (out ++ (vb (fold (find all t - last)).toNat ++ colF all c (find all t) (rows.drop (i + 1))) = colF all c 0 rows) := by
        show _ = _
        rw [← HE.out, HDR.out, colF_cons, HGD.out, HT.out]
      obtain ⟨hf1, hf2⟩ := find_bd all t
      have HSA : Hid (Strs wr (.slice aa all.length ac) all) := HA.out.kept HB.out
      clear hcc cx0 hxs hxe hcx
      obtain ⟨fn, HFN⟩ : ∃ fn, Hid (fn = find all t) := ⟨_, (rfl : find all t = _)⟩
      rw [← HFN.out] at hf1 hf2 HE2
      obtain ⟨hq1, hq2⟩ := fold_bd (fn - last)
      have h9 := vb_length9 (fold (fn - last)).toNat (by omega)
      obtain ⟨oa, oc, hoe⟩ := ownShape HO.out
      subst hoe
      go_wp2_with fail
      refine (rfind_any _ all (str t) _ HSA.out (by omega)).mono ?_
      rintro e w2 ⟨rfl, rfl⟩
      rw [data_str, ← HFN.out]
      go_wp2_with fail
      refine (rfold_at (fn - last) _ (by omega) (by omega)).mono ?_
      rintro e w3 ⟨rfl, rfl⟩
      go_wp2_with fail
      refine (rvarint_at (fold (fn - last)) _ hq1 (by omega)).mono ?_
      rintro e w4 ⟨rfl, hb4⟩
      have HO4 : Hid (w4.ownsRow w.heap.size 5 1 (.slice oa out.length oc) out.length (bs out)) := own_kept HO.out hb4
      have HB4 : Hid (Below w.heap.size w w4) := HB.out.trans (hb4.mono HB.out.size)
      clear hb4
      generalize (fold (fn - last)).toNat = fv at *
      go_wp2_with (at_builtin; refine Lib.wpList_append_own_string _ rfl _ _ 65 9 rfl w.heap.size 5 i0 Tryz.underlying65 Tryz.underlying9 hi hz0 hz1 hz2 _ _ _ rfl HO4.out (str (vb fv)) rfl ?c3 ?c4 ?c5 ?_)
      case c3 => rw [str_size]; unfold maxLen; omega
      case c4 => rw [str_size]; omega
      case c5 => exact HB4.out.size
      intro v5 w5 hown5 hg5 _
      have HB5 : Hid (Below w.heap.size w w5) := HB4.out.grown hg5 HB4.out.size (fun g hg => (HO4.out.lt g hg).1)
      have HO5 : Hid (w5.ownsRow w.heap.size 5 1 v5 (out ++ vb fv).length (bs (out ++ vb fv))) := own_app hown5 rfl
      have hol2 : (out ++ vb fv).length ≤ 9 * (i + 1) := by rw [List.length_append]; omega
      have HE3 : Hid ((out ++ vb fv) ++ colF all c fn (rows.drop (i + 1)) = colF all c 0 rows) := by show _ = _; rw [← HE2.out, List.append_assoc]
      clear hown5 hg5
      go_wp2
      go_roundw
      case rel => exact ⟨i + 1, fn, out ++ vb fv, by omega, by go_num, rfl, hf1, by omega, hol2, HO5, HB5, HE3⟩
      case measure => simp [intOf]; omega
    · have HF : Hid (out = colF all c 0 rows) := by
        show _ = _
        rw [← HE.out, List.drop_of_length_le (by have := HLE.out; omega)]; simp [colF]
      have hcv := own_string HO.out
      go_wp2
      go_ret
      exact ⟨ret_str (by rw [HF.out]), HB.out⟩
end Go.Proofs.YtnnldpccagajbaaGreatDoor
