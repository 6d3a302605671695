import Derived.Test.YtoelacloghkooaaGreatDoorM25
import Derived.Test.YtoelacloghkooaaGreatDoorM39
import Derived.Test.YtoelacloghkooaaGreatDoorM37
import Derived.Stop.LaidTwo
import Derived.LaidHandle
import Derived.Lib.LaidTab
/-
  The program's Print, walked.
-/
namespace Go.Proofs.YtoelacloghkooaaGreatDoor
open Go.ChangeShapes Go.WideShapes Go.ChangeAt Go.RowKit
set_option linter.unusedVariables false
theorem RulesAt.pf {B : Nat} {w w' : World} {base : Nat} {v : Value} {rs : List PRule} {hs bs : List Value} (h : RulesAt 44 46 55 base w v rs hs bs) (hp : PF B w w') : RulesAt 44 46 55 base w' v rs hs bs :=
  ⟨PF.own h.own hp (by decide) (by decide), h.lh, h.lb, fun i r u h1 h2 => PF.own (h.heads i r u h1 h2) hp (by decide) (by decide), fun i r u h1 h2 => by obtain ⟨us, hu⟩ := h.bodies i r u h1 h2; exact ⟨us, hu.pf hp⟩⟩
theorem signs_of {w : World} {L T M : Addr} (h : Errs w L T M) : SignsAt w := ⟨h.s2, h.s3, h.s4⟩
theorem below_grown {B : Nat} {w w1 w' : World} (h1 : w.grownBy w1 none) (h : Below B w1 w') (hB : w.heap.size ≤ B) : w.grownBy w' none :=
  ⟨h.os.trans h1.os, h.tape.trans h1.tape, h.output.trans h1.output, Nat.le_trans h1.size h.size, fun k hk _ => (h.block k (by omega)).trans (h1.block k hk (by simp))⟩
theorem rulesText_pos (rs : List PRule) (h : rs ≠ []) : rulesTextF rs ≠ [] := by
  cases rs with
  | nil => exact absurd rfl h
  | cons r rs =>
    intro h0
    have := congrArg List.length h0
    unfold rulesTextF at this
    rw [List.flatMap_cons, List.length_append] at this
    unfold ruleTextF at this
    simp at this
set_option maxRecDepth 100000 in
set_option maxHeartbeats 4000000 in
theorem pPrint_any (s : ByteArray) (L T M : Addr) (w : World) (hE : Errs w L T M) (hB : ErrB w L T M) (hgt : gTop ≤ w.heap.size) :
    Calls Tryz.prog 8 #[.string s] w fun en w' => TextQ (printF s.data.toList) en ∧ w.grownBy w' none := by
  have HRD := hide (pParse_any s L T M w hE hB hgt)
  have HSG := hide (signs_of hE)
  obtain ⟨Q, HQ⟩ : ∃ Q, Hid (parseF s.data.toList = Q) := ⟨_, (rfl : _ = _)⟩
  have HPF : Hid (printF s.data.toList = printR Q) := by show _ = _; rw [printF_is, HQ.out]
  rw [HQ.out] at HRD
  obtain ⟨X, HX⟩ : ∃ X, Hid (printF s.data.toList = X) := ⟨_, (rfl : _ = _)⟩
  rw [HX.out] at HPF ⊢
  clear hE hB
  go_enter Tryz.func8, Tryz.ntmps8
  go_wp2_with fail
  refine HRD.out.mono ?_
  rintro e w1 ⟨hq, hg⟩
  have HG1 := hide hg
  clear hg HRD
  cases Q with
  | error er =>
    obtain ⟨ec, x⟩ := er
    have hq' : e = .returned (.tuple #[.slice none 0 0, .int .i64 (ec : Nat), .int .i64 (x : Nat)]) := hq
    subst hq'
    have hne : (((ec : Nat) : Int) != 0) = true := by
      rw [bne_iff_ne]
      rcases parse_code _ _ _ HQ.out with h | h | h <;> omega
    clear hq
    go_wp2
    go_ret3
    rw [HPF.out]
    exact ⟨rfl, HG1.out⟩
  | ok rs =>
    obtain ⟨v, hs, bs2, rfl, hra⟩ := hq
    have HRA := hide hra
    obtain ⟨va, vc, hv⟩ := own_form hra.own
    subst hv
    clear hra
    have hwf := parseF_wf _ _ HQ.out
    have h200 := hwf.1
    have HWF := hide hwf.2
    have HLEN : Hid (∀ k, (rulesTextF (rs.take k)).length ≤ 8502000) := fun k => rulesTake_len rs HWF.out h200 k
    clear hwf
    obtain ⟨N, HN⟩ : ∃ N, Hid (rs.length = N) := ⟨_, (rfl : _ = _)⟩
    rw [HN.out] at h200 ⊢
    go_wp2_with fail
    generalize hw2 : World.alloc _ _ = w2
    obtain ⟨b, HBB⟩ : ∃ b, Hid (w1.heap.size = b) := ⟨_, hide rfl⟩
    have HPB2 : Hid (PB b b [] w2) := by
      rw [← hw2, ← HBB.out]
      exact Lib.fresh_isBuilder 53 5 w1
    have HHP : Hid (w2.heap[b]? = some (.cells #[.pointer none, .slice none 0 0] 53 (0, 0))) := by
      show _ = _; rw [← hw2, ← HBB.out]; exact heap_alloc_new w1 _
    have HG2 : Hid (w1.grownBy w2 none) := by rw [← hw2]; exact fr_alloc _ _ _
    have hb2 : b ≤ w2.heap.size := by rw [← hw2, ← HBB.out]; simp
    have hgb : gTop ≤ b := by have h1 := HG1.out.size; rw [HBB.out] at h1; omega
    have hwb : w.heap.size ≤ b := by have h1 := HG1.out.size; rw [HBB.out] at h1; omega
    clear hw2
    rw [HBB.out]
    have HRA2 := hide (HRA.out.kept HG2.out (fun g e => by cases e))
    have HSG2 : Hid (SignsAt w2) := HSG.out.pf (B := gTop) (PF.fresh (fr_both HG1.out HG2.out) hgt) (Nat.le_refl _)
    clear HRA HSG
    go_wp2_with fail
    go_loopw [10, 23] (fun tv xv wr => ∃ k : Nat, k ≤ N ∧ xv = .int .i64 k ∧ Hid (PB b b (rulesTextF (rs.take k)) wr) ∧ Hid (PF b w2 wr) ∧ Hid (k = 0 → wr = w2)) (fun _ xv _ => N - (intOf xv).toNat)
    case atStart => exact ⟨0, by omega, rfl, HPB2, PF.refl _ _, hide (fun _ => rfl)⟩
    case round =>
      obtain ⟨k, hk, rfl, HP, HF, HZ⟩ := hrel
      by_cases hlt : k < N
      · have hkr : k < rs.length := by have := HN.out; omega
        have hkh : k < hs.length := by have := HRA2.out.lh; omega
        have hkb : k < bs2.length := by have := HRA2.out.lb; omega
        have hor := HRA2.out.pf HF.out
        rcases own_rules hor with ⟨h0, h1⟩ | ⟨gr, cr, hvr, -, -, hcr, -⟩
        · rw [h1] at hkr; simp at hkr
        cases hvr
        have HCR := hide (hcr k rs[k] hs[k] bs2[k] (List.getElem?_eq_getElem hkr) (List.getElem?_eq_getElem hkh) (List.getElem?_eq_getElem hkb))
        obtain ⟨us, hbd⟩ := hor.bodies k rs[k] bs2[k] (List.getElem?_eq_getElem hkr) (List.getElem?_eq_getElem hkb)
        have hhd := hor.heads k rs[k] hs[k] (List.getElem?_eq_getElem hkr) (List.getElem?_eq_getElem hkh)
        have hBr : b ≤ wr.heap.size := Nat.le_trans hb2 HF.out.below.size
        have hlk := HLEN.out k
        have HRC : Hid (∀ w', wr.grownBy w' none → Calls Tryz.prog 17 #[.pointer (some ⟨b, 0, none⟩), .agg (ruleV rs[k] hs[k] bs2[k]).toArray] w' fun e w'' => e = .returned (.tuple #[]) ∧ PB b b (rulesTextF (rs.take k) ++ ruleTextF rs[k]) w'' ∧ PF b w' w'') := by
          intro w' hg
          have hp := PF.fresh hg hBr
          exact wrule_any b b (rulesTextF (rs.take k)) rs[k] hs[k] bs2[k] us w.heap.size w' (HP.out.kept hg) (HSG2.out.pf (HF.out.trans hp) hgb) (own_far hhd hg (by simp)) (hbd.kept hg (fun g e => by cases e)) (HWF.out _ (List.getElem_mem hkr)) (by omega) (Nat.le_trans hBr hg.size) hgb
        have HST : Hid (rulesTextF (rs.take (k + 1)) = rulesTextF (rs.take k) ++ ruleTextF rs[k]) := rulesTextF_take rs k hkr
        obtain ⟨xa, xc, hxx⟩ := own_form hhd
        obtain ⟨ya, yc, hyy⟩ := own_form hbd.own
        rw [hxx, hyy] at HCR HRC
        clear hcr hor hbd hhd hxx hyy
        generalize rs[k] = r at *
        have d0 := HCR.out 0 _ rfl
        have d1 := HCR.out 1 _ rfl
        have d2 := HCR.out 2 _ rfl
        have d3 := HCR.out 3 _ rfl
        simp only [Nat.add_zero] at d0
        go_wp2_with fail
        generalize hw3 : World.alloc _ _ = w3
        have HG3 : Hid (wr.grownBy w3 none) := by rw [← hw3]; exact fr_alloc _ _ _
        clear hw3
        refine (HRC.out w3 HG3.out).mono ?_
        rintro e w4 ⟨rfl, h4, hp4⟩
        rw [← HST.out] at h4
        have H4 := hide h4
        have HP4 := hide (HF.out.trans ((PF.fresh HG3.out hBr).trans hp4))
        clear h4 hp4 d0 d1 d2 d3
        go_wp2
        go_roundw
        case rel => exact ⟨k + 1, by omega, by go_num, H4, HP4, hide (fun h => by omega)⟩
        case measure => simp [intOf]; omega
      · have HKN : Hid (k = N) := hide (by omega)
        have HE : Hid (rs.take k = rs) := by show _ = _; rw [List.take_of_length_le (by have := HN.out; omega)]
        rw [HE.out] at HP
        have HR : Hid (X = .ok (rulesTextF rs)) := HPF.out
        have HSTR : Hid (Calls Tryz.prog 18 #[.pointer (some ⟨b, 0, none⟩)] wr fun e w' => e = .returned (.string (str (rulesTextF rs))) ∧ Below b wr w') := by
          by_cases h0 : rs = []
          · have hk0 : k = 0 := by rw [HKN.out, ← HN.out, h0]; rfl
            have hw := HZ.out hk0
            have hh := HHP.out
            rw [← hw] at hh
            rw [h0]
            exact pstr_none b b _ wr hh
          · exact pstr_some b b (rulesTextF rs) wr HP.out (rulesText_pos rs h0)
        obtain ⟨Y, HY⟩ : ∃ Y, Hid (str (rulesTextF rs) = Y) := ⟨_, hide rfl⟩
        rw [HY.out] at HSTR
        go_wp2_with fail
        refine HSTR.out.mono ?_
        rintro e w5 ⟨rfl, hb5⟩
        have HB5 := hide (HF.out.below.trans hb5)
        clear hb5
        go_wp2
        go_ret3
        rw [HR.out]
        refine ⟨?_, below_grown (fr_both HG1.out HG2.out) HB5.out hwb⟩
        show Ending.returned (.tuple #[.string Y, .int .i64 0, .int .i64 0]) = .returned (.tuple #[.string (str (rulesTextF rs)), .int .i64 0, .int .i64 0])
        rw [HY.out]
end Go.Proofs.YtoelacloghkooaaGreatDoor

/-
  SyntaxPrints' walk.
-/
namespace Go.Proofs.YtoelacloghkooaaGreatDoor
open Go.ChangeShapes Go.WideShapes Go.ChangeAt Go.RowKit
set_option linter.unusedVariables false
def sOf : Except PErr (List UInt8) → ByteArray
  | .error _ => { data := #[] }
  | .ok t => str t
theorem textQ_of {r : Except PErr (List UInt8)} {en : Ending} (h : TextQ r en) : en = .returned (.tuple #[.string (sOf r), .int .i64 (eOf r : Nat), .int .i64 (xOf r : Nat)]) := by
  cases r with
  | error er => obtain ⟨e, x⟩ := er; exact h
  | ok t => exact h
theorem print_at (s : ByteArray) (L T M : Addr) (w : World) (hE : Errs w L T M) (hB : ErrB w L T M) (hgt : gTop ≤ w.heap.size) :
    Calls Tryz.prog 8 #[.string s] w fun en w' => en = .returned (.tuple #[.string (sOf (printF s.data.toList)), .int .i64 (eOf (printF s.data.toList) : Nat), .int .i64 (xOf (printF s.data.toList) : Nat)]) ∧ w.grownBy w' none := by
  refine (pPrint_any s L T M w hE hB hgt).mono ?_
  rintro e w' ⟨h, hg⟩
  exact ⟨textQ_of h, hg⟩
set_option maxRecDepth 100000 in
set_option maxHeartbeats 4000000 in
theorem prints_walk (s : ByteArray) (L T M : Addr) (w : World) (hE : Errs w L T M) (hB : ErrB w L T M) (hgt : gTop ≤ w.heap.size) :
    Calls Tryz.prog 3 #[.string s] w fun e w' => e = .returned (.bool true) ∧ Below w.heap.size w w' := by
  have HQ1 := hide (print_at s L T M w hE hB hgt)
  obtain ⟨X, HX⟩ : ∃ X, Hid (sOf (printF s.data.toList) = X) := ⟨_, hide rfl⟩
  obtain ⟨ec, HEC⟩ : ∃ ec, Hid (eOf (printF s.data.toList) = ec) := ⟨_, hide rfl⟩
  obtain ⟨xc, HXC⟩ : ∃ xc, Hid (xOf (printF s.data.toList) = xc) := ⟨_, hide rfl⟩
  have HRQ : Hid (∀ w1, Calls Tryz.prog 9 #[.string s] w1 fun en w' => en = .returned (.tuple #[.string X, .int .i64 (ec : Nat), .int .i64 (xc : Nat)]) ∧ w1.grownBy w' none) := by
    intro w1
    refine (rprint_any s w1).mono ?_
    rintro e w' ⟨h, hg⟩
    have := textQ_of h
    rw [HX.out, HEC.out, HXC.out] at this
    exact ⟨this, hg⟩
  rw [HX.out, HEC.out, HXC.out] at HQ1
  clear hE hB
  go_enter Tryz.func3, Tryz.ntmps3
  go_wp2_with fail
  refine HQ1.out.mono ?_
  rintro e w1 ⟨rfl, hg⟩
  have HG1 := hide hg
  clear hg
  go_wp2_with fail
  refine (HRQ.out w1).mono ?_
  rintro e w2 ⟨rfl, hg⟩
  have HG2 := hide (fr_both HG1.out hg)
  clear hg
  go_wp2_with fail
  refine (num_at _ _).mono ?_
  rintro e w3 ⟨rfl, rfl⟩
  go_wp2
  go_ret
  exact ⟨rfl, below_fresh HG2.out⟩
end Go.Proofs.YtoelacloghkooaaGreatDoor

/-
  What a row's list of variables gives the walks: the three errors, the handle, the signs.
-/
namespace Go.Proofs.YtoelacloghkooaaGreatDoor
open Go.ChangeShapes Go.WideShapes Go.ChangeAt Go.RowKit
set_option linter.unusedVariables false
set_option maxRecDepth 100000
theorem gLong : Tryz.prog.globalNamed "deduce/syntax.errLong" = some 0 := by kernel_rfl
theorem gText : Tryz.prog.globalNamed "deduce/syntax.errText" = some 1 := by kernel_rfl
theorem gMany : Tryz.prog.globalNamed "deduce/syntax.errMany" = some 2 := by kernel_rfl
theorem gSigns : Tryz.prog.globalNamed "deduce/syntax.signs" = some 3 := by kernel_rfl
theorem gHandle : Tryz.prog.globalNamed "errors.errorType" = some 4 := by kernel_rfl
theorem tLong : (Tryz.prog.globals[0]?).map (·.type) = some 75 := by kernel_rfl
theorem tText : (Tryz.prog.globals[1]?).map (·.type) = some 75 := by kernel_rfl
theorem tMany : (Tryz.prog.globals[2]?).map (·.type) = some 75 := by kernel_rfl
theorem tSigns : (Tryz.prog.globals[3]?).map (·.type) = some 147 := by kernel_rfl
theorem cellsErr : Tryz.prog.cellsOf 284 = 1 := by kernel_rfl
theorem cellsStr : Tryz.prog.cellsOf 9 = 1 := by kernel_rfl
theorem cellsSigns : Tryz.prog.cellsOf 147 = 5 := by kernel_rfl
theorem starErr : "*" ++ "errors.errorString" = "*errors.errorString" := by decide
theorem rowErr (u : TypeId) (h : Tryz.prog.typeName? 3 u = some "*errors.errorString") : u = 246 :=
  typeName_ptr_named (nm := "errors.errorString") (by rw [starErr]; kernel_rfl) (by kernel_rfl) (by decide) u (by rw [starErr]; exact h)
/-- an array of texts that reads so -/
theorem cells_of_texts {H : Type} {enc : TypeId × Value → H} {P : Program} {w : World} {base : Nat} {sp : Nat → Bool} {held : Bool} {fuel : Nat} {t e : TypeId} {n : Nat} {cs : List Value} {zs : List (List UInt8)} {p : List MemPlace}
    (ht : P.underlying t = some (.array n e)) (he : P.underlying e = some .string) (hce : P.cellsOf e = 1) (hct : P.cellsOf t = n)
    (h : DataW.trod enc P w base sp held fuel t cs = some (.agg (zs.map fun z => .lit (.string z)), p)) : cs = zs.map fun z => Value.string (str z) := by
  cases fuel with
  | zero => simp [DataW.trod] at h
  | succ fuel =>
    simp only [DataW.trod, ht, hce, hct, Nat.mul_one] at h
    split at h
    · rename_i hl
      obtain ⟨xs, hm, hx⟩ := Option.map_eq_some_iff.1 h
      have hxs : xs.map (·.1) = zs.map fun z => (DataW.lit (.string z) : DataW H) := by
        have := congrArg Prod.fst hx
        simpa using this
      have hxl : xs.length = n := by simpa using Lib.mapM_length hm
      have hzl : zs.length = n := by
        have := congrArg List.length hxs
        simp at this
        omega
      apply List.ext_getElem?
      intro i
      by_cases hi : i < n
      · obtain ⟨b, hb, hf⟩ := Lib.mapM_at hm i i (by simp [hi])
        obtain ⟨z, hc, rfl, _⟩ := DataW.trod_string he hf
        have h1 : cs[i]? = some (.string z) := by
          have := congrArg (·[0]?) hc
          simpa [List.getElem?_take, List.getElem?_drop] using this
        have h2 : (xs.map (·.1))[i]? = some (DataW.lit (.string z.data.toList) : DataW H) := by simp [hb]
        rw [hxs] at h2
        simp only [List.getElem?_map, Option.map_eq_some_iff, DataW.lit.injEq, Lit.string.injEq] at h2
        obtain ⟨z', hz', rfl⟩ := h2
        simp [h1, hz', str_data]
      · rw [List.getElem?_eq_none (by omega), List.getElem?_eq_none (by simp; omega)]
    · cases h
theorem oneRow : ((List.range Tryz.prog.types.size).filter fun t => Tryz.prog.rowNamed t [101, 114, 114, 111, 114]) = [75] := by kernel_rfl
theorem rtType : (Tryz.prog.cutTypes.find? (·.1 == "internal/reflectlite.rtype")).map (·.2) = some 181 := by kernel_rfl
theorem handle_at {W : World} (h : handlesMet Tryz.prog [("errors.errorType", Rows.laid_errors_errorType)] W) : W.cell? ⟨4, 0, none⟩ = some (.iface 181 (.agg #[typeHandle Tryz.prog 75])) := by
  obtain ⟨name, u, ty, e1, e2, e3, e4, e5⟩ := h _ (List.mem_singleton.2 rfl)
  have en : name = [101, 114, 114, 111, 114] := (Option.some.inj e1).symm
  subst en
  obtain rfl := Option.some.inj (rtType.symm.trans e2)
  have hm : ty ∈ (List.range Tryz.prog.types.size).filter fun t => Tryz.prog.rowNamed t [101, 114, 114, 111, 114] := List.mem_filter.2 ⟨List.mem_range.2 e3, e4⟩
  rw [oneRow] at hm
  obtain rfl := List.mem_singleton.1 hm
  simpa using World.var?_cell gHandle e5 0
theorem errs_of {W : World} (h : laidMetH Tryz.prog [("errors.errorType", Rows.laid_errors_errorType), ("deduce/syntax.errLong", Rows.laid_deduce_syntax_errLong), ("deduce/syntax.errText", Rows.laid_deduce_syntax_errText), ("deduce/syntax.errMany", Rows.laid_deduce_syntax_errMany), ("deduce/syntax.signs", Rows.laid_deduce_syntax_signs)] W) : ∃ L T M, Errs W L T M ∧ ErrB W L T M := by
  have h' : laidMet Tryz.prog [("deduce/syntax.errLong", Rows.laid_deduce_syntax_errLong), ("deduce/syntax.errText", Rows.laid_deduce_syntax_errText), ("deduce/syntax.errMany", Rows.laid_deduce_syntax_errMany), ("deduce/syntax.signs", Rows.laid_deduce_syntax_signs)] W ∧ handlesMet Tryz.prog [("errors.errorType", Rows.laid_errors_errorType)] W := h
  obtain ⟨hd, hh⟩ := h'
  obtain ⟨L, T, s0, s1, c0, c1, t0, t1, hv0, hv1, hc0, hs0, hz0, hc1, hs1, hz1, hne, hb0, hb1⟩ := laid_sentinels2 hd gLong tLong gText tText Tryz.underlying75 rowErr Tryz.underlying246 Tryz.underlying284 rfl rfl Tryz.underlying9 cellsErr cellsStr
  obtain ⟨T', M, s2, s3, c2, c3, t2, t3, hv2, hv3, hc2, hs2, hz2, hc3, hs3, hz3, hne2, hb2, hb3⟩ := laid_sentinels2 hd.tail gText tText gMany tMany Tryz.underlying75 rowErr Tryz.underlying246 Tryz.underlying284 rfl rfl Tryz.underlying9 cellsErr cellsStr
  rw [hv1] at hv2
  cases hv2
  have hlm : L ≠ M := by
    rintro rfl
    rw [hc0] at hc3
    cases hc3
    rw [hs0] at hs3
    simp at hs3
  have k0 : W.cell? ⟨0, 0, none⟩ = some (.iface 246 (.pointer (some L))) := by simpa using World.var?_cell gLong hv0 0
  have k1 : W.cell? ⟨1, 0, none⟩ = some (.iface 246 (.pointer (some T))) := by simpa using World.var?_cell gText hv1 0
  have k2 : W.cell? ⟨2, 0, none⟩ = some (.iface 246 (.pointer (some M))) := by simpa using World.var?_cell gMany hv3 0
  obtain ⟨ps, ⟨g', t', cs, fuel, p, q, hg', ht', hvar, hdd, _, _⟩, _⟩ := hd.tail.tail.tail
  obtain rfl := Option.some.inj (gSigns.symm.trans hg')
  obtain rfl := Option.some.inj (tSigns.symm.trans ht')
  have hsg := cells_of_texts (zs := [[], [], [61], [33, 61], [60]]) Tryz.underlying147 Tryz.underlying9 cellsStr cellsSigns hdd
  have m2 := World.var?_cell gSigns hvar 2
  have m3 := World.var?_cell gSigns hvar 3
  have m4 := World.var?_cell gSigns hvar 4
  rw [← Array.getElem?_toList, hsg] at m2 m3 m4
  exact ⟨L, T, M, ⟨k0, k1, k2, handle_at hh, by simpa [str] using m2, by simpa [str] using m3, by simpa [str] using m4, hne, hlm, hne2⟩, ⟨⟨_, _, hb0⟩, ⟨_, _, hb1⟩, ⟨_, _, hb3⟩⟩⟩
end Go.Proofs.YtoelacloghkooaaGreatDoor
