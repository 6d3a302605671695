import Derived.Test.YtnnldpccagajbaaGreatDoorM38
import Derived.Test.YtnnldpccagajbaaGreatDoorM07
import Derived.Test.YtnnldpccagajbaaGreatDoorM39
import Derived.Test.YtnnldpccagajbaaGreatDoorM02
import Derived.ShutString
import Derived.ChangeOld
import Derived.SizedLaws
import Derived.SliceStrings
import Derived.Deep.CondSized
import Derived.Test.YtnnldpccagajbaaGreatDoorM08
import Derived.Deep.Slices
import Derived.Lib.SmallJoins
/-
  What FileBack, FileTurned and FileCut ask, in plain words of lists.
-/
namespace Go.Proofs.YtnnldpccagajbaaGreatDoor
open Go.ChangeShapes Go.WideShapes Go.ChangeAt Go.RowKit
set_option linter.unusedVariables false
theorem decode_zero (d : List UInt8) (h : (decode true d).1 = 0) : ∃ name ar rows, encode name ((ar : Nat) : Int) rows = (d, 0, 0) := by
  obtain ⟨e, a, name, ar, rows, hd⟩ : ∃ e a name ar rows, decode true d = (e, a, name, ar, rows) := ⟨_, _, _, _, _, rfl⟩
  rw [hd] at h
  simp only at h
  subst h
  exact ⟨name, ar, rows, encode_decode true d name a ar rows hd⟩
theorem decode_bad (d : List UInt8) (h : (decode true d).1 ≠ 0) : (decode true d).2.2 = ([], 0, []) := by
  unfold decode at h ⊢
  split
  · rfl
  · split
    · rfl
    · split
      · rfl
      · split
        · rfl
        · split
          · rename_i h1 h2 _ pages hs _ name ar rows hr he
            rw [if_neg h1, if_neg h2, hs] at h
            simp only at h
            rw [hr] at h
            simp only at h
            rw [if_pos he] at h
            exact absurd rfl h
          · rfl
theorem whole_ok (n : List UInt8) (a : Int) (r : List (List (List UInt8))) (s : List UInt8) (h : encode n a r = (s, 0, 0)) : (decode true s).1 = 0 := by
  obtain ⟨L, -, -, hd⟩ := decode_encode true n a r s h
  rw [hd]
theorem cut_none (n : List UInt8) (a : Int) (r : List (List (List UInt8))) (s : List UInt8) (h : encode n a r = (s, 0, 0)) (k : Nat) (hk : k < s.length) : (decode true (s.take k)).1 ≠ 0 := by
  intro h0
  obtain ⟨n2, a2, r2, h2⟩ := decode_zero _ h0
  have h3 := no_more n2 n a2 a r2 r (s.take k) (s.drop k) h2 (by rw [List.take_append_drop]; exact h)
  have := congrArg List.length h3
  rw [List.length_drop] at this
  simp at this; omega
theorem more_none (n : List UInt8) (a : Int) (r : List (List (List UInt8))) (s x : List UInt8) (h : encode n a r = (s, 0, 0)) (hx : x ≠ []) : (decode true (s ++ x)).1 ≠ 0 := by
  intro h0
  obtain ⟨n2, a2, r2, h2⟩ := decode_zero _ h0
  exact hx (no_more n n2 a a2 r r2 s x h h2)
theorem turned_none (n : List UInt8) (a : Int) (r : List (List (List UInt8))) (s l : List UInt8) (h : encode n a r = (s, 0, 0)) (f : Nat) (hf : f ≤ 8 * s.length) (hN : Near s l f 32) (hne : l ≠ s) : (decode true l).1 ≠ 0 := by
  intro h0
  obtain ⟨n2, a2, r2, h2⟩ := decode_zero _ h0
  obtain ⟨hl, M, hM, hx⟩ := hN
  exact hne (no_turned n n2 a a2 r r2 s l h h2 M f hl.symm hM hf hx).symm
theorem encode_len (n : List UInt8) (a : Int) (r : List (List (List UInt8))) (s : List UInt8) (h : encode n a r = (s, 0, 0)) : s.length ≤ 65536 := by
  obtain ⟨L, -, -, -, hl, -⟩ := encode_tidy n a r s h
  exact hl
theorem encode_three (n : List UInt8) (a : Int) (r : List (List (List UInt8))) (s : List UInt8) (i : Nat) (h : encode n a r = (s, 0, i)) : encode n a r = (s, 0, 0) := by
  rw [encode_iff, h]; exact ⟨rfl, rfl⟩
theorem decode_rows (d : List UInt8) : (decode true d).2.2.2.2.length ≤ 2000 ∧ ∀ r ∈ (decode true d).2.2.2.2, r.length ≤ 8 := by
  obtain ⟨e, a, name, ar, rows, h⟩ : ∃ e a name ar rows, decode true d = (e, a, name, ar, rows) := ⟨_, _, _, _, _, rfl⟩
  rw [h]
  simp only
  by_cases he : e = 0
  · subst he
    have h1 := encode_decode true d name a ar rows h
    obtain ⟨L, -, hT, hd⟩ := decode_encode true name ar rows d h1
    rw [h] at hd
    cases hd
    refine ⟨hT.few, fun r hr => ?_⟩
    have := (hT.rows r hr).1
    have := hT.a8
    omega
  · have hrows : rows = [] := by
      unfold decode at h
      split at h
      · cases h; rfl
      · split at h
        · cases h; rfl
        · split at h
          · cases h; rfl
          · split at h
            · cases h; rfl
            · split at h
              · cases h; exact absurd rfl he
              · cases h; rfl
    subst hrows
    simp
set_option maxHeartbeats 400000 in
theorem numY_at (n : Int) (w : World) : Calls Tryz.prog 10 #[.int .i64 n] w fun e w' => e = .returned (.int .i64 n) ∧ w = w' := by
  go_enter Tryz.func10, Tryz.ntmps10
  go_wp2
  go_ret
  exact ⟨rfl, rfl⟩
theorem turned_key (se : ByteArray) (f mask : Int) (et nm : List UInt8) (ar : Int) (rows : List (List (List UInt8))) (w : World) (HSE : Hid (se = str et)) (HEK : Hid (encode nm ar rows = (et, 0, 0))) (zse : se.size ≤ 65536) (hf1 : -9223372036854775808 ≤ f) (hf2 : f ≤ 9223372036854775807) (hm1 : -9223372036854775808 ≤ mask) (hm2 : mask ≤ 9223372036854775807) :
    Calls Tryz.prog 16 #[.string se, .int .i64 f, .int .i64 mask] w fun e w' => (∃ tb, e = .returned (.string tb) ∧ tb.size ≤ 65536 ∧ Hid ((tb.toList == se.toList) = (((decode true tb.data.toList).1 : Int) == 0))) ∧ Below w.heap.size w w' := by
  have hdt : se.data.toList = et := by rw [HSE.out, data_str]
  by_cases hf : f < 0 ∨ 8 * (se.size : Int) < f
  · refine (turned_far se f mask w (by omega) hf1 hf2 hf).mono ?_
    rintro e w' ⟨rfl, hb⟩
    refine ⟨⟨se, rfl, zse, ?_⟩, hb⟩
    show _ = _
    rw [hdt, whole_ok nm ar rows et HEK.out]
    simp
  · obtain ⟨fn, rfl⟩ := Int.eq_ofNat_of_zero_le (show 0 ≤ f from by omega)
    refine (turned_near se fn mask w (by omega) (by omega) hm1 hm2).mono ?_
    rintro e w' ⟨⟨l, rfl, hN⟩, hb⟩
    rw [hdt] at hN
    refine ⟨⟨str l, rfl, ?_, ?_⟩, hb⟩
    · rw [str_size, hN.1, ← str_size, ← HSE.out]; exact zse
    · show _ = _
      rw [data_str, toList_str, toList_of, hdt]
      by_cases hl : l = et
      · subst hl
        rw [whole_ok nm ar rows l HEK.out]; simp
      · have := turned_none nm ar rows et l HEK.out fn (by rw [← str_size, ← HSE.out]; omega) hN hl
        apply bool_eq
        simp [hl, this]
end Go.Proofs.YtnnldpccagajbaaGreatDoor

/-
  Arguments that are lists of texts, opened; what they weigh.
-/
namespace Go.Proofs.YtnnldpccagajbaaGreatDoor
open Go.ChangeShapes Go.WideShapes Go.ChangeAt Go.RowKit
set_option linter.unusedVariables false
set_option maxRecDepth 100000
theorem cells_string : Tryz.prog.cellsOf 9 = 1 := by kernel_rfl
theorem bytes_string : Tryz.prog.bytesOf 9 = 16 := by kernel_rfl
theorem laidOut : laidOutB Tryz.prog = true := by kernel_rfl
theorem bulk_pos {H : Type} (d : DataW H) : 1 ≤ Rows.uptoBulk d := by
  cases d with
  | lit x => cases x <;> simp [Rows.uptoBulk]
  | _ => simp [Rows.uptoBulk]
theorem bulk_len {H : Type} (l : List (DataW H)) : l.length ≤ Rows.uptoBulkAll l := by
  induction l with
  | nil => simp
  | cons d l ih => have := bulk_pos d; simp only [List.length_cons, Rows.uptoBulkAll]; omega
theorem bulk_bound {H : Type} {l : List (DataW H)} (h : Rows.uptoSmall H l = true) : Rows.uptoBulkAll l ≤ 1048576 := of_decide_eq_true h
theorem bulk_string {H : Type} (s : List UInt8) : Rows.uptoBulk (DataW.lit (H := H) (.string s)) = s.length + 1 := by simp [Rows.uptoBulk]
theorem addr_plain {w : World} {a : Addr} {v : Value} (h : w.cell? a = some v) : a = ⟨a.block, a.off, none⟩ := by
  have := World.cell?_spot h
  cases a; simp_all
theorem add_plain (b off i : Nat) : (⟨b, off, none⟩ : Addr).add i = ⟨b, off + i, none⟩ := by unfold Addr.add; split <;> simp_all
theorem arg_strs {H : Type} {enc : TypeId × Value → H} {W : World} {base : Nat} {v : Value} {d : DataW H} {p : List MemPlace}
    (hv : Value.okWide Tryz.prog W .any base 45 v) (h : DataW.Trod enc Tryz.prog W 0 (fun _ => true) true 45 v d p) :
    ∃ l : List (List UInt8), Strs W v l ∧ l.length ≤ Rows.uptoBulk d ∧ ((∃ elems spare, d = .slice elems spare ∧ l.length = elems.length) ∨ l = []) := by
  obtain ⟨a0, len, cap, rfl⟩ := okWide_slice Tryz.underlying45 hv
  obtain ⟨fuel, hf⟩ := h
  rcases open_strings Tryz.underlying45 Tryz.underlying9 cells_string hf with ⟨hcs, hx⟩ | ⟨a, len', cap', ss, hcs, _, hl, hm, hz, hx, hcell, hws⟩
  · simp [Value.cells] at hcs
    obtain ⟨rfl, rfl, rfl⟩ := hcs
    exact ⟨[], ⟨none, 0, rfl, Or.inl ⟨rfl, fun _ => rfl⟩⟩, by simp, Or.inr rfl⟩
  · simp [Value.cells] at hcs
    obtain ⟨rfl, rfl, rfl⟩ := hcs
    simp only [Prod.mk.injEq] at hx
    obtain ⟨rfl, rfl⟩ := hx
    simp only [if_true] at hz
    have hlen : ((ss.take len).map fun s => s.data.toList).length = len := by simp; omega
    have hs1 : (strs (H := H) (ss.take len)).length = len := by unfold strs; simp; omega
    refine ⟨(ss.take len).map fun s => s.data.toList, ⟨some a, cap, by rw [hlen], ?_⟩, ?_, Or.inl ⟨_, _, rfl, by rw [hlen, hs1]⟩⟩
    · by_cases h0 : len = 0
      · subst h0; exact Or.inl ⟨by simp, fun h => by cases h⟩
      · have c0 := hcell 0 (by omega)
        have ha : a = ⟨a.block, a.off, none⟩ := by
          have := addr_plain c0
          cases a
          simp only [Addr.add] at this
          simp_all
        right
        refine ⟨a.block, a.off, by rw [← ha], fun i x hx => ?_⟩
        have hi : i < len := by
          rcases Nat.lt_or_ge i len with h | h
          · exact h
          · rw [List.getElem?_eq_none (by rw [hlen]; exact h)] at hx; cases hx
        have ci := hcell i (by omega)
        have hx2 : (ss.getD i ByteArray.empty) = str x := by
          rw [List.getElem?_map, List.getElem?_take_of_lt hi] at hx
          have his : i < ss.length := by omega
          rw [List.getElem?_eq_getElem his] at hx
          simp only [Option.map_some, Option.some.injEq] at hx
          rw [← hx, str_data]
          simp [List.getD, List.getElem?_eq_getElem his]
        have hadd : a.add i = ⟨a.block, a.off + i, none⟩ := by
          conv => lhs; rw [ha]
          exact add_plain _ _ _
        rw [← hx2, ← ci, hadd]
    · rw [hlen]
      have := bulk_len (strs (H := H) (ss.take len))
      rw [hs1] at this
      simp only [Rows.uptoBulk]; omega
end Go.Proofs.YtnnldpccagajbaaGreatDoor

/-
  An argument that is a relation, opened; what it weighs.
-/
namespace Go.Proofs.YtnnldpccagajbaaGreatDoor
open Go.ChangeShapes Go.WideShapes Go.ChangeAt Go.RowKit
set_option linter.unusedVariables false
set_option maxRecDepth 100000
theorem cells_row : Tryz.prog.cellsOf 45 = 1 := by kernel_rfl
theorem bulk_mem {H : Type} (l : List (DataW H)) (d : DataW H) (h : d ∈ l) : Rows.uptoBulk d ≤ Rows.uptoBulkAll l := by
  induction l with
  | nil => simp at h
  | cons x l ih =>
    simp only [Rows.uptoBulkAll]
    rcases List.mem_cons.1 h with rfl | h
    · omega
    · have := ih h; omega
theorem strs_trod {H : Type} {enc : TypeId × Value → H} {W : World} {fuel : Nat} {x : Value} {y : DataW H × List MemPlace}
    (hf : DataW.trod enc Tryz.prog W 0 (fun _ => true) true fuel 45 [x] = some y) :
    ∃ l : List (List UInt8), Strs W x l ∧ l.length ≤ Rows.uptoBulk y.1 := by
  rcases open_strings Tryz.underlying45 Tryz.underlying9 cells_string hf with ⟨hcs, rfl⟩ | ⟨a, len, cap, ss, hcs, _, hl, hm, hz, rfl, hcell, hws⟩
  · cases hcs
    exact ⟨[], ⟨none, 0, rfl, Or.inl ⟨rfl, fun _ => rfl⟩⟩, by simp⟩
  · cases hcs
    simp only [if_true] at hz
    have hlen : ((ss.take len).map fun s => s.data.toList).length = len := by simp; omega
    have hs1 : (strs (H := H) (ss.take len)).length = len := by unfold strs; simp; omega
    refine ⟨(ss.take len).map fun s => s.data.toList, ⟨some a, cap, by rw [hlen], ?_⟩, ?_⟩
    · by_cases h0 : len = 0
      · subst h0; exact Or.inl ⟨by simp, fun h => by cases h⟩
      · have c0 := hcell 0 (by omega)
        have ha : a = ⟨a.block, a.off, none⟩ := by
          have := addr_plain c0
          cases a
          simp only [Addr.add] at this
          simp_all
        right
        refine ⟨a.block, a.off, by rw [← ha], fun i x hx => ?_⟩
        have hi : i < len := by
          rcases Nat.lt_or_ge i len with h | h
          · exact h
          · rw [List.getElem?_eq_none (by rw [hlen]; exact h)] at hx; cases hx
        have ci := hcell i (by omega)
        have hx2 : (ss.getD i ByteArray.empty) = str x := by
          rw [List.getElem?_map, List.getElem?_take_of_lt hi] at hx
          have his : i < ss.length := by omega
          rw [List.getElem?_eq_getElem his] at hx
          simp only [Option.map_some, Option.some.injEq] at hx
          rw [← hx, str_data]
          simp [List.getD, List.getElem?_eq_getElem his]
        have hadd : a.add i = ⟨a.block, a.off + i, none⟩ := by
          conv => lhs; rw [ha]
          exact add_plain _ _ _
        rw [← hx2, ← ci, hadd]
    · rw [hlen]
      have := bulk_len (strs (H := H) (ss.take len))
      rw [hs1] at this
      simp only [Rows.uptoBulk]; omega
theorem choose_row {W : World} {B : Nat} (V : Nat → Value) (n : Nat) (h : ∀ i, i < n → ∃ l : List (List UInt8), Strs W (V i) l ∧ l.length ≤ B) :
    ∃ rows : List (List (List UInt8)), rows.length = n ∧ (∀ (i : Nat) (r : List (List UInt8)), rows[i]? = some r → Strs W (V i) r) ∧ ∀ r ∈ rows, r.length ≤ B := by
  induction n with
  | zero => exact ⟨[], rfl, fun i r hr => by simp at hr, by simp⟩
  | succ n ih =>
    obtain ⟨rows, h1, h2, h3⟩ := ih (fun i hi => h i (by omega))
    obtain ⟨l, hl, hb⟩ := h n (by omega)
    refine ⟨rows ++ [l], by simp [h1], fun i r hr => ?_, fun r hr => ?_⟩
    · rcases Nat.lt_or_ge i rows.length with c | c
      · rw [List.getElem?_append_left c] at hr; exact h2 i r hr
      · rw [List.getElem?_append_right c] at hr
        have : i - rows.length = 0 := by
          rcases Nat.eq_zero_or_pos (i - rows.length) with z | z
          · exact z
          · rw [List.getElem?_eq_none (by simp; omega)] at hr; cases hr
        rw [this] at hr
        simp at hr
        subst hr
        obtain rfl : i = n := by omega
        exact hl
    · rcases List.mem_append.1 hr with hr | hr
      · exact h3 r hr
      · simp at hr; subst hr; exact hb
theorem rows_trod {H : Type} {enc : TypeId × Value → H} {W : World} {fuel : Nat} {rv : Value} {y : DataW H × List MemPlace}
    (hf : DataW.trod enc Tryz.prog W 0 (fun _ => true) true fuel 22 [rv] = some y) :
    ∃ (vs : List Value) (rows : List (List (List UInt8))), Rows2 W rv vs rows ∧ rows.length ≤ Rows.uptoBulk y.1 ∧ ∀ r ∈ rows, r.length ≤ Rows.uptoBulk y.1 := by
  rcases Go.Deep.open_slice1 Tryz.underlying22 cells_row hf with ⟨hcs, rfl⟩ | ⟨a, len, cap, m, n, V, D, Pl, hcs, hb, hl, hm, hmm, rfl, hx⟩
  · cases hcs
    exact ⟨[], [], ⟨⟨none, 0, rfl, Or.inl ⟨rfl, fun _ => rfl⟩⟩, rfl, fun i x r hx => by simp at hx⟩, by simp, by simp⟩
  · cases hcs
    simp only [if_true] at hmm
    have hmm' := hmm.symm
    subst hmm'
    have hB : ∀ i, i < len → Rows.uptoBulk (D i) ≤ Rows.uptoBulkAll ((List.range len).map D) := fun i hi => bulk_mem _ _ (List.mem_map.2 ⟨i, List.mem_range.2 hi, rfl⟩)
    obtain ⟨rows, h1, h2, h3⟩ := choose_row (W := W) (B := Rows.uptoBulkAll ((List.range len).map D)) V len (fun i hi => by
      obtain ⟨l, hs, hbk⟩ := strs_trod (hx i (by omega)).2
      exact ⟨l, hs, Nat.le_trans hbk (hB i hi)⟩)
    have hbl := bulk_len ((List.range len).map D)
    simp only [List.length_map, List.length_range] at hbl
    refine ⟨(List.range len).map V, rows, ⟨⟨some a, cap, by simp, ?_⟩, by simp [h1], fun i x r hx' hr => ?_⟩, by simp only [Rows.uptoBulk]; omega, fun r hr => by have := h3 r hr; simp only [Rows.uptoBulk]; omega⟩
    · by_cases h0 : len = 0
      · subst h0; exact Or.inl ⟨by simp, fun h => by cases h⟩
      · have c0 := (hx 0 (by omega)).1
        have ha : a = ⟨a.block, a.off, none⟩ := by
          have := addr_plain c0
          cases a
          simp only [Addr.add] at this
          simp_all
        right
        refine ⟨a.block, a.off, by rw [← ha], fun i x hx' => ?_⟩
        have hi : i < len := by
          rcases Nat.lt_or_ge i len with h | h
          · exact h
          · rw [List.getElem?_eq_none (by simpa using h)] at hx'; cases hx'
        have ci := (hx i (by omega)).1
        have hadd : a.add i = ⟨a.block, a.off + i, none⟩ := by
          conv => lhs; rw [ha]
          exact add_plain _ _ _
        rw [List.getElem?_map, List.getElem?_range hi] at hx'
        cases hx'
        rw [← hadd]; exact ci
    · have hi : i < len := by
        rcases Nat.lt_or_ge i len with h | h
        · exact h
        · rw [List.getElem?_eq_none (by simpa using h)] at hx'; cases hx'
      rw [List.getElem?_map, List.getElem?_range hi] at hx'
      cases hx'
      exact h2 i r hr
theorem arg_rel {H : Type} {enc : TypeId × Value → H} {W : World} {base : Nat} {v : Value} {d : DataW H} {p : List MemPlace}
    (hv : Value.okWide Tryz.prog W .any base 28 v) (h : DataW.Trod enc Tryz.prog W 0 (fun _ => true) true 28 v d p) :
    ∃ (name : ByteArray) (ar : Int) (rv : Value) (vs : List Value) (rows : List (List (List UInt8))), v = .agg #[.string name, .int .i64 ar, rv] ∧ Rows2 W rv vs rows ∧ name.size ≤ Rows.uptoBulk d ∧ rows.length ≤ Rows.uptoBulk d ∧ (∀ r ∈ rows, r.length ≤ Rows.uptoBulk d) ∧ -9223372036854775808 ≤ ar ∧ ar ≤ 9223372036854775807 := by
  obtain ⟨v0, v1, v2, y0, y1, y2, n, rfl, rfl, rfl, t0, t1, t2⟩ := Joins.open_agg3 Tryz.underlying28 (by kernel_rfl) (by kernel_rfl) hv h
  obtain ⟨s, hs, rfl, hsz⟩ := DataW.trod_string Tryz.underlying9 t0
  cases hs
  obtain ⟨ar, har, rfl, hwf⟩ := DataW.trod_int Tryz.underlying3 t1
  cases har
  obtain ⟨vs, rows, hr, hl, hr2⟩ := rows_trod t2
  obtain ⟨b1, b2⟩ := bounds_i64 hwf
  have hb0 : Rows.uptoBulk (DataW.lit (H := H) (.string s.data.toList)) = s.size + 1 := by rw [bulk_string]; simp
  refine ⟨s, ar, v2, vs, rows, rfl, hr, ?_, ?_, fun r hr' => ?_, b1, b2⟩
  · simp only [Rows.uptoBulk, Rows.uptoBulkAll] at hb0 ⊢; omega
  · simp only [Rows.uptoBulk, Rows.uptoBulkAll]; omega
  · have := hr2 r hr'
    simp only [Rows.uptoBulk, Rows.uptoBulkAll]; omega
end Go.Proofs.YtnnldpccagajbaaGreatDoor
