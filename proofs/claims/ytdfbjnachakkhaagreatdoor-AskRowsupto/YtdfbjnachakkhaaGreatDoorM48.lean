import Derived.Test.YtdfbjnachakkhaaGreatDoorM45
import Derived.Stop.LaidTwo
import Derived.LaidHandle
import Derived.Lib.LaidTab
import Derived.Test.YtdfbjnachakkhaaGreatDoorM09
import Derived.ShutString
import Derived.ChangeOld
import Derived.SizedLaws
import Derived.SliceStrings
import Derived.Deep.CondSized
import Derived.Test.YtdfbjnachakkhaaGreatDoorM10
import Derived.Deep.Slices
import Derived.Lib.SmallJoins
namespace Go.Proofs.YtdfbjnachakkhaaGreatDoor
open Go.ChangeShapes Go.WideShapes Go.ChangeAt Go.RowKit
set_option linter.unusedVariables false
set_option maxRecDepth 100000
theorem gLong : Tryz.prog.globalNamed "deduce/syntax.errLong" = some 0 := by kernel_rfl
theorem gText : Tryz.prog.globalNamed "deduce/syntax.errText" = some 1 := by kernel_rfl
theorem gMany : Tryz.prog.globalNamed "deduce/syntax.errMany" = some 2 := by kernel_rfl
theorem gSigns : Tryz.prog.globalNamed "deduce/syntax.signs" = some 4 := by kernel_rfl
theorem gHandle : Tryz.prog.globalNamed "errors.errorType" = some 3 := by kernel_rfl
theorem tLong : (Tryz.prog.globals[0]?).map (·.type) = some 58 := by kernel_rfl
theorem tText : (Tryz.prog.globals[1]?).map (·.type) = some 58 := by kernel_rfl
theorem tMany : (Tryz.prog.globals[2]?).map (·.type) = some 58 := by kernel_rfl
theorem tSigns : (Tryz.prog.globals[4]?).map (·.type) = some 318 := by kernel_rfl
theorem cellsErr : Tryz.prog.cellsOf 357 = 1 := by kernel_rfl
theorem cellsStr : Tryz.prog.cellsOf 9 = 1 := by kernel_rfl
theorem cellsSigns : Tryz.prog.cellsOf 318 = 5 := by kernel_rfl
theorem starErr : "*" ++ "errors.errorString" = "*errors.errorString" := by decide
theorem rowErr (u : TypeId) (h : Tryz.prog.typeName? 3 u = some "*errors.errorString") : u = 338 :=
  typeName_ptr_named (nm := "errors.errorString") (by rw [starErr]; kernel_rfl) (by kernel_rfl) (by decide) u (by rw [starErr]; exact h)
/-- an array of texts that reads so -/
theorem cells_of_texts {H : Type} {enc : TypeId × Value → H} {P : Program} {w : World} {base : Nat} {sp : Nat → Bool} {held : Bool} {fuel : Nat} {t e : TypeId} {n : Nat} {cs : List Value} {zs : List (List UInt8)} {p : List MemPlace}
    (ht : P.underlying t = some (.array n e)) (he : P.underlying e = some .string) (hce : P.cellsOf e = 1) (hct : P.cellsOf t = n)
    (h : DataW.trod enc P w base sp held fuel t cs = some (.agg (zs.map fun z => .lit (.string z)), p)) : cs = zs.map fun z => Value.string (str z) := by
  cases fuel with
  | zero => simp [DataW.trod] at h
  | succ fuel =>
    simp only [DataW.trod, ht, hce, hct, Nat.mul_one] at h
    split at h
    · rename_i hl
      obtain ⟨xs, hm, hx⟩ := Option.map_eq_some_iff.1 h
      have hxs : xs.map (·.1) = zs.map fun z => (DataW.lit (.string z) : DataW H) := by
        have := congrArg Prod.fst hx
        simpa using this
      have hxl : xs.length = n := by simpa using Lib.mapM_length hm
      have hzl : zs.length = n := by
        have := congrArg List.length hxs
        simp at this
        omega
      apply List.ext_getElem?
      intro i
      by_cases hi : i < n
      · obtain ⟨b, hb, hf⟩ := Lib.mapM_at hm i i (by simp [hi])
        obtain ⟨z, hc, rfl, _⟩ := DataW.trod_string he hf
        have h1 : cs[i]? = some (.string z) := by
          have := congrArg (·[0]?) hc
          simpa [List.getElem?_take, List.getElem?_drop] using this
        have h2 : (xs.map (·.1))[i]? = some (DataW.lit (.string z.data.toList) : DataW H) := by simp [hb]
        rw [hxs] at h2
        simp only [List.getElem?_map, Option.map_eq_some_iff, DataW.lit.injEq, Lit.string.injEq] at h2
        obtain ⟨z', hz', rfl⟩ := h2
        simp [h1, hz', str_data]
      · rw [List.getElem?_eq_none (by omega), List.getElem?_eq_none (by simp; omega)]
    · cases h
theorem oneRow : ((List.range Tryz.prog.types.size).filter fun t => Tryz.prog.rowNamed t [101, 114, 114, 111, 114]) = [58] := by kernel_rfl
theorem rtType : (Tryz.prog.cutTypes.find? (·.1 == "internal/reflectlite.rtype")).map (·.2) = some 227 := by kernel_rfl
theorem handle_at {W : World} (h : handlesMet Tryz.prog [("errors.errorType", Rows.laid_errors_errorType)] W) : W.cell? ⟨3, 0, none⟩ = some (.iface 227 (.agg #[typeHandle Tryz.prog 58])) := by
  obtain ⟨name, u, ty, e1, e2, e3, e4, e5⟩ := h _ (List.mem_singleton.2 rfl)
  have en : name = [101, 114, 114, 111, 114] := (Option.some.inj e1).symm
  subst en
  obtain rfl := Option.some.inj (rtType.symm.trans e2)
  have hm : ty ∈ (List.range Tryz.prog.types.size).filter fun t => Tryz.prog.rowNamed t [101, 114, 114, 111, 114] := List.mem_filter.2 ⟨List.mem_range.2 e3, e4⟩
  rw [oneRow] at hm
  obtain rfl := List.mem_singleton.1 hm
  simpa using World.var?_cell gHandle e5 0
theorem errs_of {W : World} (h : laidMetH Tryz.prog [("errors.errorType", Rows.laid_errors_errorType), ("deduce/syntax.errLong", Rows.laid_deduce_syntax_errLong), ("deduce/syntax.errText", Rows.laid_deduce_syntax_errText), ("deduce/syntax.errMany", Rows.laid_deduce_syntax_errMany), ("deduce/syntax.signs", Rows.laid_deduce_syntax_signs)] W) : ∃ L T M, Errs W L T M ∧ ErrB W L T M := by
  have h' : laidMet Tryz.prog [("deduce/syntax.errLong", Rows.laid_deduce_syntax_errLong), ("deduce/syntax.errText", Rows.laid_deduce_syntax_errText), ("deduce/syntax.errMany", Rows.laid_deduce_syntax_errMany), ("deduce/syntax.signs", Rows.laid_deduce_syntax_signs)] W ∧ handlesMet Tryz.prog [("errors.errorType", Rows.laid_errors_errorType)] W := h
  obtain ⟨hd, hh⟩ := h'
  obtain ⟨L, T, s0, s1, c0, c1, t0, t1, hv0, hv1, hc0, hs0, hz0, hc1, hs1, hz1, hne, hb0, hb1⟩ := laid_sentinels2 hd gLong tLong gText tText Tryz.underlying58 rowErr Tryz.underlying338 Tryz.underlying357 rfl rfl Tryz.underlying9 cellsErr cellsStr
  obtain ⟨T', M, s2, s3, c2, c3, t2, t3, hv2, hv3, hc2, hs2, hz2, hc3, hs3, hz3, hne2, hb2, hb3⟩ := laid_sentinels2 hd.tail gText tText gMany tMany Tryz.underlying58 rowErr Tryz.underlying338 Tryz.underlying357 rfl rfl Tryz.underlying9 cellsErr cellsStr
  rw [hv1] at hv2
  cases hv2
  have hlm : L ≠ M := by
    rintro rfl
    rw [hc0] at hc3
    cases hc3
    rw [hs0] at hs3
    simp at hs3
  have k0 : W.cell? ⟨0, 0, none⟩ = some (.iface 338 (.pointer (some L))) := by simpa using World.var?_cell gLong hv0 0
  have k1 : W.cell? ⟨1, 0, none⟩ = some (.iface 338 (.pointer (some T))) := by simpa using World.var?_cell gText hv1 0
  have k2 : W.cell? ⟨2, 0, none⟩ = some (.iface 338 (.pointer (some M))) := by simpa using World.var?_cell gMany hv3 0
  obtain ⟨ps, ⟨g', t', cs, fuel, p, q, hg', ht', hvar, hdd, _, _⟩, _⟩ := hd.tail.tail.tail
  obtain rfl := Option.some.inj (gSigns.symm.trans hg')
  obtain rfl := Option.some.inj (tSigns.symm.trans ht')
  have hsg := cells_of_texts (zs := [[], [], [61], [33, 61], [60]]) Tryz.underlying318 Tryz.underlying9 cellsStr cellsSigns hdd
  have m2 := World.var?_cell gSigns hvar 2
  have m3 := World.var?_cell gSigns hvar 3
  have m4 := World.var?_cell gSigns hvar 4
  rw [← Array.getElem?_toList, hsg] at m2 m3 m4
  exact ⟨L, T, M, ⟨k0, k1, k2, handle_at hh, by simpa [str] using m2, by simpa [str] using m3, by simpa [str] using m4, hne, hlm, hne2⟩, ⟨⟨_, _, hb0⟩, ⟨_, _, hb1⟩, ⟨_, _, hb3⟩⟩⟩
end Go.Proofs.YtdfbjnachakkhaaGreatDoor

namespace Go.Proofs.YtdfbjnachakkhaaGreatDoor
open Go.ChangeShapes Go.WideShapes Go.ChangeAt Go.RowKit
set_option linter.unusedVariables false
set_option maxRecDepth 100000
theorem cells_string : Tryz.prog.cellsOf 9 = 1 := by kernel_rfl
theorem laidOut : laidOutB Tryz.prog = true := by kernel_rfl
theorem bulk_pos {H : Type} (d : DataW H) : 1 ≤ Rows.uptoBulk d := by
  cases d with
  | lit x => cases x <;> simp [Rows.uptoBulk]
  | _ => simp [Rows.uptoBulk]
theorem bulk_len {H : Type} (l : List (DataW H)) : l.length ≤ Rows.uptoBulkAll l := by
  induction l with
  | nil => simp
  | cons d l ih => have := bulk_pos d; simp only [List.length_cons, Rows.uptoBulkAll]; omega
theorem bulk_string {H : Type} (s : List UInt8) : Rows.uptoBulk (DataW.lit (H := H) (.string s)) = s.length + 1 := by simp [Rows.uptoBulk]
theorem addr_plain {w : World} {a : Addr} {v : Value} (h : w.cell? a = some v) : a = ⟨a.block, a.off, none⟩ := by
  have := World.cell?_spot h
  cases a; simp_all
theorem add_plain (b off i : Nat) : (⟨b, off, none⟩ : Addr).add i = ⟨b, off + i, none⟩ := by unfold Addr.add; split <;> simp_all
end Go.Proofs.YtdfbjnachakkhaaGreatDoor

namespace Go.Proofs.YtdfbjnachakkhaaGreatDoor
open Go.ChangeShapes Go.WideShapes Go.ChangeAt Go.RowKit
set_option linter.unusedVariables false
set_option maxRecDepth 100000
theorem cells_row : Tryz.prog.cellsOf 28 = 1 := by kernel_rfl
theorem bulk_mem {H : Type} (l : List (DataW H)) (d : DataW H) (h : d ∈ l) : Rows.uptoBulk d ≤ Rows.uptoBulkAll l := by
  induction l with
  | nil => simp at h
  | cons x l ih =>
    simp only [Rows.uptoBulkAll]
    rcases List.mem_cons.1 h with rfl | h
    · omega
    · have := ih h; omega
theorem strs_trod {H : Type} {enc : TypeId × Value → H} {W : World} {fuel : Nat} {x : Value} {y : DataW H × List MemPlace}
    (hf : DataW.trod enc Tryz.prog W 0 (fun _ => true) true fuel 28 [x] = some y) :
    ∃ l : List (List UInt8), Strs W x l ∧ l.length ≤ Rows.uptoBulk y.1 := by
  rcases open_strings Tryz.underlying28 Tryz.underlying9 cells_string hf with ⟨hcs, rfl⟩ | ⟨a, len, cap, ss, hcs, _, hl, hm, hz, rfl, hcell, hws⟩
  · cases hcs
    exact ⟨[], ⟨none, 0, rfl, Or.inl ⟨rfl, fun _ => rfl⟩⟩, by simp⟩
  · cases hcs
    simp only [if_true] at hz
    have hlen : ((ss.take len).map fun s => s.data.toList).length = len := by simp; omega
    have hs1 : (strs (H := H) (ss.take len)).length = len := by unfold strs; simp; omega
    refine ⟨(ss.take len).map fun s => s.data.toList, ⟨some a, cap, by rw [hlen], ?_⟩, ?_⟩
    · by_cases h0 : len = 0
      · subst h0; exact Or.inl ⟨by simp, fun h => by cases h⟩
      · have c0 := hcell 0 (by omega)
        have ha : a = ⟨a.block, a.off, none⟩ := by
          have := addr_plain c0
          cases a
          simp only [Addr.add] at this
          simp_all
        right
        refine ⟨a.block, a.off, by rw [← ha], fun i x hx => ?_⟩
        have hi : i < len := by
          rcases Nat.lt_or_ge i len with h | h
          · exact h
          · rw [List.getElem?_eq_none (by rw [hlen]; exact h)] at hx; cases hx
        have ci := hcell i (by omega)
        have hx2 : (ss.getD i ByteArray.empty) = str x := by
          rw [List.getElem?_map, List.getElem?_take_of_lt hi] at hx
          have his : i < ss.length := by omega
          rw [List.getElem?_eq_getElem his] at hx
          simp only [Option.map_some, Option.some.injEq] at hx
          rw [← hx, str_data]
          simp [List.getD, List.getElem?_eq_getElem his]
        have hadd : a.add i = ⟨a.block, a.off + i, none⟩ := by
          conv => lhs; rw [ha]
          exact add_plain _ _ _
        rw [← hx2, ← ci, hadd]
    · rw [hlen]
      have := bulk_len (strs (H := H) (ss.take len))
      rw [hs1] at this
      simp only [Rows.uptoBulk]; omega
theorem choose_row {W : World} {B : Nat} (V : Nat → Value) (n : Nat) (h : ∀ i, i < n → ∃ l : List (List UInt8), Strs W (V i) l ∧ l.length ≤ B) :
    ∃ rows : List (List (List UInt8)), rows.length = n ∧ (∀ (i : Nat) (r : List (List UInt8)), rows[i]? = some r → Strs W (V i) r) ∧ ∀ r ∈ rows, r.length ≤ B := by
  induction n with
  | zero => exact ⟨[], rfl, fun i r hr => by simp at hr, by simp⟩
  | succ n ih =>
    obtain ⟨rows, h1, h2, h3⟩ := ih (fun i hi => h i (by omega))
    obtain ⟨l, hl, hb⟩ := h n (by omega)
    refine ⟨rows ++ [l], by simp [h1], fun i r hr => ?_, fun r hr => ?_⟩
    · rcases Nat.lt_or_ge i rows.length with c | c
      · rw [List.getElem?_append_left c] at hr; exact h2 i r hr
      · rw [List.getElem?_append_right c] at hr
        have : i - rows.length = 0 := by
          rcases Nat.eq_zero_or_pos (i - rows.length) with z | z
          · exact z
          · rw [List.getElem?_eq_none (by simp; omega)] at hr; cases hr
        rw [this] at hr
        simp at hr
        subst hr
        obtain rfl : i = n := by omega
        exact hl
    · rcases List.mem_append.1 hr with hr | hr
      · exact h3 r hr
      · simp at hr; subst hr; exact hb
theorem rows_trod {H : Type} {enc : TypeId × Value → H} {W : World} {fuel : Nat} {rv : Value} {y : DataW H × List MemPlace}
    (hf : DataW.trod enc Tryz.prog W 0 (fun _ => true) true fuel 22 [rv] = some y) :
    ∃ (vs : List Value) (rows : List (List (List UInt8))), Rows2 W rv vs rows ∧ rows.length ≤ Rows.uptoBulk y.1 ∧ ∀ r ∈ rows, r.length ≤ Rows.uptoBulk y.1 := by
  rcases Go.Deep.open_slice1 Tryz.underlying22 cells_row hf with ⟨hcs, rfl⟩ | ⟨a, len, cap, m, n, V, D, Pl, hcs, hb, hl, hm, hmm, rfl, hx⟩
  · cases hcs
    exact ⟨[], [], ⟨⟨none, 0, rfl, Or.inl ⟨rfl, fun _ => rfl⟩⟩, rfl, fun i x r hx => by simp at hx⟩, by simp, by simp⟩
  · cases hcs
    simp only [if_true] at hmm
    have hmm' := hmm.symm
    subst hmm'
    have hB : ∀ i, i < len → Rows.uptoBulk (D i) ≤ Rows.uptoBulkAll ((List.range len).map D) := fun i hi => bulk_mem _ _ (List.mem_map.2 ⟨i, List.mem_range.2 hi, rfl⟩)
    obtain ⟨rows, h1, h2, h3⟩ := choose_row (W := W) (B := Rows.uptoBulkAll ((List.range len).map D)) V len (fun i hi => by
      obtain ⟨l, hs, hbk⟩ := strs_trod (hx i (by omega)).2
      exact ⟨l, hs, Nat.le_trans hbk (hB i hi)⟩)
    have hbl := bulk_len ((List.range len).map D)
    simp only [List.length_map, List.length_range] at hbl
    refine ⟨(List.range len).map V, rows, ⟨⟨some a, cap, by simp, ?_⟩, by simp [h1], fun i x r hx' hr => ?_⟩, by simp only [Rows.uptoBulk]; omega, fun r hr => by have := h3 r hr; simp only [Rows.uptoBulk]; omega⟩
    · by_cases h0 : len = 0
      · subst h0; exact Or.inl ⟨by simp, fun h => by cases h⟩
      · have c0 := (hx 0 (by omega)).1
        have ha : a = ⟨a.block, a.off, none⟩ := by
          have := addr_plain c0
          cases a
          simp only [Addr.add] at this
          simp_all
        right
        refine ⟨a.block, a.off, by rw [← ha], fun i x hx' => ?_⟩
        have hi : i < len := by
          rcases Nat.lt_or_ge i len with h | h
          · exact h
          · rw [List.getElem?_eq_none (by simpa using h)] at hx'; cases hx'
        have ci := (hx i (by omega)).1
        have hadd : a.add i = ⟨a.block, a.off + i, none⟩ := by
          conv => lhs; rw [ha]
          exact add_plain _ _ _
        rw [List.getElem?_map, List.getElem?_range hi] at hx'
        cases hx'
        rw [← hadd]; exact ci
    · have hi : i < len := by
        rcases Nat.lt_or_ge i len with h | h
        · exact h
        · rw [List.getElem?_eq_none (by simpa using h)] at hx'; cases hx'
      rw [List.getElem?_map, List.getElem?_range hi] at hx'
      cases hx'
      exact h2 i r hr
theorem arg_rel {H : Type} {enc : TypeId × Value → H} {W : World} {base : Nat} {v : Value} {d : DataW H} {p : List MemPlace}
    (hv : Value.okWide Tryz.prog W .any base 24 v) (h : DataW.Trod enc Tryz.prog W 0 (fun _ => true) true 24 v d p) :
    ∃ (name : ByteArray) (ar : Int) (rv : Value) (vs : List Value) (rows : List (List (List UInt8))), v = .agg #[.string name, .int .i64 ar, rv] ∧ Rows2 W rv vs rows ∧ name.size ≤ Rows.uptoBulk d ∧ rows.length ≤ Rows.uptoBulk d ∧ (∀ r ∈ rows, r.length ≤ Rows.uptoBulk d) ∧ -9223372036854775808 ≤ ar ∧ ar ≤ 9223372036854775807 := by
  obtain ⟨v0, v1, v2, y0, y1, y2, n, rfl, rfl, rfl, t0, t1, t2⟩ := Joins.open_agg3 Tryz.underlying24 (by kernel_rfl) (by kernel_rfl) hv h
  obtain ⟨s, hs, rfl, hsz⟩ := DataW.trod_string Tryz.underlying9 t0
  cases hs
  obtain ⟨ar, har, rfl, hwf⟩ := DataW.trod_int Tryz.underlying3 t1
  cases har
  obtain ⟨vs, rows, hr, hl, hr2⟩ := rows_trod t2
  obtain ⟨b1, b2⟩ := bounds_i64 hwf
  have hb0 : Rows.uptoBulk (DataW.lit (H := H) (.string s.data.toList)) = s.size + 1 := by rw [bulk_string]; simp
  refine ⟨s, ar, v2, vs, rows, rfl, hr, ?_, ?_, fun r hr' => ?_, b1, b2⟩
  · simp only [Rows.uptoBulk, Rows.uptoBulkAll] at hb0 ⊢; omega
  · simp only [Rows.uptoBulk, Rows.uptoBulkAll]; omega
  · have := hr2 r hr'
    simp only [Rows.uptoBulk, Rows.uptoBulkAll]; omega
end Go.Proofs.YtdfbjnachakkhaaGreatDoor
