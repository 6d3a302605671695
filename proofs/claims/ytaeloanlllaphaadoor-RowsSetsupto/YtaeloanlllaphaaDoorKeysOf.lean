/-
  The program's keysOf, walked.
-/
import Derived.Test.YtaeloanlllaphaaDoorMinusP
namespace Go.Proofs.YtaeloanlllaphaaDoor
open Go.ChangeShapes Go.WideShapes Go.ChangeAt Go.RowKit Go.WideMaps Go.Maps
set_option linter.unusedVariables false
theorem keyD_next (L : List (List (List UInt8))) (k : Nat) (h : k < L.length) : keyD (L.take (k + 1)) = (keyD (L.take k)).put (.string (keyL L[k])) (.agg []) := by
  rw [List.take_succ_eq_append_getElem h, keyD, keyLits, List.map_append]
  exact setOf_snoc _ _ _
set_option maxRecDepth 100000 in
set_option maxHeartbeats 1000000 in
theorem keysOf_any (v : Value) (vs : List Value) (rows : List (List (List UInt8))) (w : World) (h : Rows2 w v vs rows) (ht : Tab w) (hl : rows.length ≤ 1073741824) (hr : ∀ r ∈ rows, r.length ≤ 1048576 ∧ ∀ t ∈ r, t.length ≤ 1048576) :
    Calls Tryd.prog 21 #[v] w fun e w' => e = .returned (.map (some w.heap.size)) ∧ w'.ownsMap Tryd.prog 9 unitElem w.heap.size rows.length (keyD rows) ∧ Below w.heap.size w w' := by
  have hmm := @run_makeMap Tryd.prog
  obtain ⟨aa, ca, rfl, hca⟩ := rows_cell h
  have HCA : Hid (∀ k (hk : k < rows.length), ∃ b off x, aa = some ⟨b, off, none⟩ ∧ w.cell? ⟨b, off + k, none⟩ = some x ∧ b < w.heap.size ∧ Strs w x rows[k]) := hca
  have HT : Hid (Tab w) := ht
  have HR : Hid (∀ r ∈ rows, r.length ≤ 1048576 ∧ ∀ t ∈ r, t.length ≤ 1048576) := hr
  clear h hca hr ht
  go_enter Tryd.func21, Tryd.ntmps21
  go_wp2
  go_loopw [9] (fun iv wr => ∃ k : Nat, k ≤ rows.length ∧ iv = .int .i64 k ∧ Hid (wr.ownsMap Tryd.prog 9 unitElem w.heap.size k (keyD (rows.take k))) ∧ Hid (Below w.heap.size w wr)) (fun iv _ => rows.length - (intOf iv).toNat)
  case atStart => exact ⟨0, by omega, rfl, World.ownsMap_made _ _ _ _, (Below.refl _ _).alloc (Nat.le_refl _) _⟩
  case round =>
    obtain ⟨k, hk, rfl, HO, HB⟩ := hrel
    by_cases hlt : k < rows.length
    · obtain ⟨b, off, x, rfl, c0, hbw, hst⟩ := HCA.out k hlt
      have cx := (HB.out.cell (p := ⟨b, off + k, none⟩) hbw).trans c0
      have HKN : Hid (keyD (rows.take (k + 1)) = (keyD (rows.take k)).put (.string (keyL rows[k])) (.agg [])) := keyD_next rows k hlt
      have HRK := HR.out _ (List.getElem_mem hlt)
      have HKY : Hid (Calls Tryd.prog 24 #[x] wr fun e w' => e = .returned (.string (str (keyL rows[k]))) ∧ Below wr.heap.size wr w') := key_any x rows[k] wr (hst.kept HB.out) (HT.out.kept HB.out) HRK.1 HRK.2
      have hkl : (keyL rows[k]).length ≤ 1099536796000 := by
        have := keyL_len rows[k] HRK.2
        have h2 : rows[k].length * 1048600 ≤ 1048576 * 1048600 := Nat.mul_le_mul_right _ HRK.1
        omega
      have hkey : keyOf Tryd.prog 9 (.string (str (keyL rows[k]))) = some (.string (keyL rows[k])) := by
        have := keyOf_string_mk Tryd.underlying9 (s := str (keyL rows[k])) (by rw [str_size]; unfold maxLen; omega)
        rw [data_str] at this; exact this
      obtain ⟨kk, HKK⟩ : ∃ kk, Hid (kk = keyL rows[k]) := ⟨keyL rows[k], (rfl : keyL rows[k] = _)⟩
      rw [← HKK.out] at HKY hkey HKN
      obtain ⟨sk, HSK⟩ : ∃ sk, Hid (sk = str kk) := ⟨_, rfl⟩
      rw [← HSK.out] at HKY hkey
      obtain ⟨xa, xc, hxe, -⟩ := hst
      subst hxe
      clear c0 hkl HRK
      go_wp2_with fail
      refine HKY.out.mono ?_
      rintro e w1 ⟨rfl, hb1⟩
      have hown1 : w1.ownsMap Tryd.prog 9 unitElem w.heap.size k (keyD (rows.take k)) := ownsMap_at HO.out (hb1.block _ (ownsMap_lt HO.out))
      have HB1 : Hid (Below w.heap.size w w1) := HB.out.trans (hb1.mono HB.out.size)
      clear hb1 HKY
      go_wp2_with (first
        | (at_mapUpdate; refine wpList_mapUpdate_own _ rfl _ _ _ 36 rfl 9 39 strKeyed Tryd.underlying36 _ w.heap.size k _ rfl hown1 (by unfold maxLen; omega) _ _ _ rfl rfl hkey _ [] unitElem_mk ?_)
        | go_in)
      intro w2 hown2 hgrow2
      have R1 : Hid (w2.ownsMap Tryd.prog 9 unitElem w.heap.size (k + 1) (keyD (rows.take (k + 1)))) := by rw [HKN.out]; exact hown2
      have R2 : Hid (Below w.heap.size w w2) := HB1.out.grown hgrow2 HB1.out.size (fun j hj => by cases hj; exact Nat.le_refl _)
      clear hown2 hgrow2 hown1 cx
      go_wp2
      go_roundw
      case rel => exact ⟨k + 1, by omega, by go_num, R1, R2⟩
      case measure => simp [intOf]; omega
    · have HE : Hid (wr.ownsMap Tryd.prog 9 unitElem w.heap.size rows.length (keyD rows)) := by
        have := HO.out
        rw [List.take_of_length_le (by omega), show k = rows.length from by omega] at this
        exact this
      go_wp2
      go_ret
      exact ⟨rfl, HE.out, HB.out⟩
end Go.Proofs.YtaeloanlllaphaaDoor
