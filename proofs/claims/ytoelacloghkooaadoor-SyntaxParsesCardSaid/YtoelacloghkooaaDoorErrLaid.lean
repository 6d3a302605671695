/-
  What a row's list of variables gives the walks: the three errors, the handle, the signs.
-/
import Derived.Test.YtoelacloghkooaaDoorPrRead
import Derived.Stop.LaidTwo
import Derived.LaidHandle
import Derived.Lib.LaidTab
namespace Go.Proofs.YtoelacloghkooaaDoor
open Go.ChangeShapes Go.WideShapes Go.ChangeAt Go.RowKit
set_option linter.unusedVariables false
set_option maxRecDepth 100000
theorem gLong : Tryd.prog.globalNamed "deduce/syntax.errLong" = some 0 := by kernel_rfl
theorem gText : Tryd.prog.globalNamed "deduce/syntax.errText" = some 1 := by kernel_rfl
theorem gMany : Tryd.prog.globalNamed "deduce/syntax.errMany" = some 2 := by kernel_rfl
theorem gSigns : Tryd.prog.globalNamed "deduce/syntax.signs" = some 4 := by kernel_rfl
theorem gHandle : Tryd.prog.globalNamed "errors.errorType" = some 3 := by kernel_rfl
theorem tLong : (Tryd.prog.globals[0]?).map (·.type) = some 49 := by kernel_rfl
theorem tText : (Tryd.prog.globals[1]?).map (·.type) = some 49 := by kernel_rfl
theorem tMany : (Tryd.prog.globals[2]?).map (·.type) = some 49 := by kernel_rfl
theorem tSigns : (Tryd.prog.globals[4]?).map (·.type) = some 159 := by kernel_rfl
theorem cellsErr : Tryd.prog.cellsOf 181 = 1 := by kernel_rfl
theorem cellsStr : Tryd.prog.cellsOf 9 = 1 := by kernel_rfl
theorem cellsSigns : Tryd.prog.cellsOf 159 = 5 := by kernel_rfl
theorem starErr : "*" ++ "errors.errorString" = "*errors.errorString" := by decide
theorem rowErr (u : TypeId) (h : Tryd.prog.typeName? 3 u = some "*errors.errorString") : u = 160 :=
  typeName_ptr_named (nm := "errors.errorString") (by rw [starErr]; kernel_rfl) (by kernel_rfl) (by decide) u (by rw [starErr]; exact h)
/-- an array of texts that reads so -/
theorem cells_of_texts {H : Type} {enc : TypeId × Value → H} {P : Program} {w : World} {base : Nat} {sp : Nat → Bool} {held : Bool} {fuel : Nat} {t e : TypeId} {n : Nat} {cs : List Value} {zs : List (List UInt8)} {p : List MemPlace}
    (ht : P.underlying t = some (.array n e)) (he : P.underlying e = some .string) (hce : P.cellsOf e = 1) (hct : P.cellsOf t = n)
    (h : DataW.trod enc P w base sp held fuel t cs = some (.agg (zs.map fun z => .lit (.string z)), p)) : cs = zs.map fun z => Value.string (str z) := by
  cases fuel with
  | zero => simp [DataW.trod] at h
  | succ fuel =>
    simp only [DataW.trod, ht, hce, hct, Nat.mul_one] at h
    split at h
    · rename_i hl
      obtain ⟨xs, hm, hx⟩ := Option.map_eq_some_iff.1 h
      have hxs : xs.map (·.1) = zs.map fun z => (DataW.lit (.string z) : DataW H) := by
        have := congrArg Prod.fst hx
        simpa using this
      have hxl : xs.length = n := by simpa using Lib.mapM_length hm
      have hzl : zs.length = n := by
        have := congrArg List.length hxs
        simp at this
        omega
      apply List.ext_getElem?
      intro i
      by_cases hi : i < n
      · obtain ⟨b, hb, hf⟩ := Lib.mapM_at hm i i (by simp [hi])
        obtain ⟨z, hc, rfl, _⟩ := DataW.trod_string he hf
        have h1 : cs[i]? = some (.string z) := by
          have := congrArg (·[0]?) hc
          simpa [List.getElem?_take, List.getElem?_drop] using this
        have h2 : (xs.map (·.1))[i]? = some (DataW.lit (.string z.data.toList) : DataW H) := by simp [hb]
        rw [hxs] at h2
        simp only [List.getElem?_map, Option.map_eq_some_iff, DataW.lit.injEq, Lit.string.injEq] at h2
        obtain ⟨z', hz', rfl⟩ := h2
        simp [h1, hz', str_data]
      · rw [List.getElem?_eq_none (by omega), List.getElem?_eq_none (by simp; omega)]
    · cases h
theorem oneRow : ((List.range Tryd.prog.types.size).filter fun t => Tryd.prog.rowNamed t [101, 114, 114, 111, 114]) = [49] := by kernel_rfl
theorem rtType : (Tryd.prog.cutTypes.find? (·.1 == "internal/reflectlite.rtype")).map (·.2) = some 134 := by kernel_rfl
theorem handle_at {W : World} (h : handlesMet Tryd.prog [("errors.errorType", Rows.laid_errors_errorType)] W) : W.cell? ⟨3, 0, none⟩ = some (.iface 134 (.agg #[typeHandle Tryd.prog 49])) := by
  obtain ⟨name, u, ty, e1, e2, e3, e4, e5⟩ := h _ (List.mem_singleton.2 rfl)
  have en : name = [101, 114, 114, 111, 114] := (Option.some.inj e1).symm
  subst en
  obtain rfl := Option.some.inj (rtType.symm.trans e2)
  have hm : ty ∈ (List.range Tryd.prog.types.size).filter fun t => Tryd.prog.rowNamed t [101, 114, 114, 111, 114] := List.mem_filter.2 ⟨List.mem_range.2 e3, e4⟩
  rw [oneRow] at hm
  obtain rfl := List.mem_singleton.1 hm
  simpa using World.var?_cell gHandle e5 0
theorem errs_of {W : World} (h : laidMetH Tryd.prog [("errors.errorType", Rows.laid_errors_errorType), ("deduce/syntax.errLong", Rows.laid_deduce_syntax_errLong), ("deduce/syntax.errText", Rows.laid_deduce_syntax_errText), ("deduce/syntax.errMany", Rows.laid_deduce_syntax_errMany), ("deduce/syntax.signs", Rows.laid_deduce_syntax_signs)] W) : ∃ L T M, Errs W L T M ∧ ErrB W L T M := by
  have h' : laidMet Tryd.prog [("deduce/syntax.errLong", Rows.laid_deduce_syntax_errLong), ("deduce/syntax.errText", Rows.laid_deduce_syntax_errText), ("deduce/syntax.errMany", Rows.laid_deduce_syntax_errMany), ("deduce/syntax.signs", Rows.laid_deduce_syntax_signs)] W ∧ handlesMet Tryd.prog [("errors.errorType", Rows.laid_errors_errorType)] W := h
  obtain ⟨hd, hh⟩ := h'
  obtain ⟨L, T, s0, s1, c0, c1, t0, t1, hv0, hv1, hc0, hs0, hz0, hc1, hs1, hz1, hne, hb0, hb1⟩ := laid_sentinels2 hd gLong tLong gText tText Tryd.underlying49 rowErr Tryd.underlying160 Tryd.underlying181 rfl rfl Tryd.underlying9 cellsErr cellsStr
  obtain ⟨T', M, s2, s3, c2, c3, t2, t3, hv2, hv3, hc2, hs2, hz2, hc3, hs3, hz3, hne2, hb2, hb3⟩ := laid_sentinels2 hd.tail gText tText gMany tMany Tryd.underlying49 rowErr Tryd.underlying160 Tryd.underlying181 rfl rfl Tryd.underlying9 cellsErr cellsStr
  rw [hv1] at hv2
  cases hv2
  have hlm : L ≠ M := by
    rintro rfl
    rw [hc0] at hc3
    cases hc3
    rw [hs0] at hs3
    simp at hs3
  have k0 : W.cell? ⟨0, 0, none⟩ = some (.iface 160 (.pointer (some L))) := by simpa using World.var?_cell gLong hv0 0
  have k1 : W.cell? ⟨1, 0, none⟩ = some (.iface 160 (.pointer (some T))) := by simpa using World.var?_cell gText hv1 0
  have k2 : W.cell? ⟨2, 0, none⟩ = some (.iface 160 (.pointer (some M))) := by simpa using World.var?_cell gMany hv3 0
  obtain ⟨ps, ⟨g', t', cs, fuel, p, q, hg', ht', hvar, hdd, _, _⟩, _⟩ := hd.tail.tail.tail
  obtain rfl := Option.some.inj (gSigns.symm.trans hg')
  obtain rfl := Option.some.inj (tSigns.symm.trans ht')
  have hsg := cells_of_texts (zs := [[], [], [61], [33, 61], [60]]) Tryd.underlying159 Tryd.underlying9 cellsStr cellsSigns hdd
  have m2 := World.var?_cell gSigns hvar 2
  have m3 := World.var?_cell gSigns hvar 3
  have m4 := World.var?_cell gSigns hvar 4
  rw [← Array.getElem?_toList, hsg] at m2 m3 m4
  exact ⟨L, T, M, ⟨k0, k1, k2, handle_at hh, by simpa [str] using m2, by simpa [str] using m3, by simpa [str] using m4, hne, hlm, hne2⟩, ⟨⟨_, _, hb0⟩, ⟨_, _, hb1⟩, ⟨_, _, hb3⟩⟩⟩
end Go.Proofs.YtoelacloghkooaaDoor
