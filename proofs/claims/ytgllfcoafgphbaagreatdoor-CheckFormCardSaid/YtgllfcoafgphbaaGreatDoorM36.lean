import Derived.Test.YtgllfcoafgphbaaGreatDoorM25
import Derived.Test.YtgllfcoafgphbaaGreatDoorM33
import Derived.Test.YtgllfcoafgphbaaGreatDoorM35
import Derived.Sort.KeysCollected
import Derived.Stop.LaidTwo
import Derived.LaidHandle
import Derived.Lib.LaidTab
/-
  The program's check.Levels, walked.
-/
namespace Go.Proofs.YtgllfcoafgphbaaGreatDoor
open Go.ChangeShapes Go.WideShapes Go.ChangeAt Go.RowKit Go.Hands Go.WideMaps Go.Maps
set_option linter.unusedVariables false
theorem infoALevel : (Tryz.prog.info? 37).map (fun i => (i.zero, i.size, i.bytes)) = some (some (.agg #[.string { data := #[] }, .int .i64 0]), 2, 24) := by kernel_rfl
theorem check_err0 (s : ByteArray) (e x : Nat) (h : checkF s.data.toList = .error (e, x)) : e ≠ 0 := by
  unfold checkF at h
  cases hp : parseF s.data.toList with
  | error er =>
    obtain ⟨a, b⟩ := er
    rw [hp] at h
    cases h
    exact parse_err0 s _ _ hp
  | ok rs =>
    rw [hp] at h
    dsimp only at h
    unfold followR at h
    split at h
    · cases h; decide
    · split at h
      · cases h; decide
      · split at h
        · cases h; decide
        · cases h
theorem checkF_yes {l : List UInt8} {rs : List PRule} (h : checkF l = .ok rs) : parseF l = .ok rs ∧ ringF rs = none := by
  unfold checkF at h
  cases hp : parseF l with
  | error e => rw [hp] at h; cases h
  | ok ps =>
    rw [hp] at h
    obtain ⟨rfl, _, _, h3⟩ := followR_ok h
    exact ⟨rfl, h3⟩
theorem ord_one {x y : List UInt8} (h : ordR [x] [y] = -1) : x ≤ y := by
  unfold ordR at h
  by_cases hl : Op.bytesLess x y = true
  · rw [Go.Proofs.bytesLess_eq] at hl
    exact List.le_of_lt (by simpa using hl)
  · rw [if_neg hl] at h
    split at h
    · cases h
    · simp [ordR] at h
theorem names_sorted (rs : List PRule) : (namesF rs).Pairwise (fun x y => Go.leB x y = true) := by
  have hm : ∀ r ∈ (atomsAll rs).map (fun a => [a.name]), r.length = 1 := by
    intro r hr
    obtain ⟨a, _, rfl⟩ := List.mem_map.1 hr
    rfl
  have hr := sortU_rises 1 _ hm
  rw [List.pairwise_iff_getElem]
  intro i j hi hj hij
  unfold namesF at hi hj ⊢
  rw [List.length_map] at hi hj
  simp only [List.getElem_map]
  have h1 := hr.1 _ (List.getElem_mem hi)
  have h2 := hr.1 _ (List.getElem_mem hj)
  have h3 := hr.2 i j _ _ hij (List.getElem?_eq_getElem hi) (List.getElem?_eq_getElem hj)
  obtain ⟨a, ea⟩ := List.length_eq_one_iff.1 h1
  obtain ⟨b, eb⟩ := List.length_eq_one_iff.1 h2
  rw [ea, eb] at h3
  rw [ea, eb]
  simpa [Go.leB] using ord_one h3
theorem keys_names {w : World} {b nn : Nat} {D : DataW Unit} {rs : List PRule} (hown : w.ownsMap Tryz.prog 9 (plainElem Tryz.prog 3) b nn D) (hN : ∀ n, Maps.has D (.string n) = true ↔ n ∈ namesF rs) : (namesF rs).Perm (strKeys D) :=
  Collected.perm (left := fun _ => false) ⟨namesF_nodup rs, fun x => by rw [hN]; simp⟩ hown keyedS Tryz.underlying9 (fun _ => rfl)
theorem sorted_names {w : World} {b nn : Nat} {D : DataW Unit} {rs : List PRule} {ss : List (List UInt8)} (hown : w.ownsMap Tryz.prog 9 (plainElem Tryz.prog 3) b nn D) (hN : ∀ n, Maps.has D (.string n) = true ↔ n ∈ namesF rs) (hs : ss.Perm (strKeys D)) : ss.mergeSort (fun x y => decide (x ≤ y)) = namesF rs ∧ ss.length = (namesF rs).length := by
  have hp := hs.trans (keys_names hown hN).symm
  refine ⟨?_, hp.length_eq⟩
  have h1 := Go.mergeSort_of_perm hp
  have h2 : (namesF rs).mergeSort Go.leB = namesF rs := List.mergeSort_of_pairwise (names_sorted rs)
  rw [h2] at h1
  exact h1
theorem size_names {w : World} {b nn : Nat} {D : DataW Unit} {rs : List PRule} (hown : w.ownsMap Tryz.prog 9 (plainElem Tryz.prog 3) b nn D) (hN : ∀ n, Maps.has D (.string n) = true ↔ n ∈ namesF rs) : Maps.size D = (namesF rs).length := by
  have h := (keys_names hown hN).length_eq
  obtain ⟨es, rfl, _⟩ := hown.entries keyedS
  rw [h]
  simp [Maps.size, strKeys]
/-- an answer of levels, or an error and its place -/
def LevelsQ (base : Nat) (r : Except PErr (List PRule)) (en : Ending) (w : World) : Prop := match r with
  | .error (e, x) => en = .returned (.tuple #[.slice none 0 0, .int .i64 (e : Nat), .int .i64 (x : Nat)])
  | .ok rs => ∃ v, en = .returned (.tuple #[v, .int .i64 0, .int .i64 0]) ∧ w.ownsRow base 37 2 v (levelsL rs).length (levelsV (levelsL rs))
set_option maxRecDepth 100000 in
set_option maxHeartbeats 4000000 in
theorem plevels_any (s : ByteArray) (L T M : Addr) (w : World) (hE : Errs w L T M) (hB : ErrB w L T M) (hgt : gTop ≤ w.heap.size) :
    Calls Tryz.prog 11 #[.string s] w fun en w' => LevelsQ w.heap.size (checkF s.data.toList) en w' ∧ Below w.heap.size w w' := by
  obtain ⟨i1, hi1, hy0, hy1, hy2⟩ := info_parts infoALevel
  have HRD := hide (checked_any s L T M w hE hB hgt)
  obtain ⟨R, HT⟩ : ∃ R, Hid (checkF s.data.toList = R) := ⟨_, (rfl : _ = _)⟩
  rw [HT.out] at HRD
  rw [HT.out]
  clear hE hB
  go_enter Tryz.func11, Tryz.ntmps11
  go_wp2_with fail
  refine HRD.out.mono ?_
  rintro e w1 ⟨hq, hb⟩
  have HB1 := hide hb
  clear hb HRD
  cases R with
  | error er =>
    obtain ⟨ec, x⟩ := er
    have hq' : e = .returned (.tuple #[.slice none 0 0, .int .i64 (ec : Nat), .int .i64 (x : Nat)]) := hq
    subst hq'
    have hne : (((ec : Nat) : Int) != 0) = true := by
      rw [bne_iff_ne]
      have := check_err0 s ec x HT.out
      omega
    clear hq
    go_wp2
    go_ret3
    exact ⟨rfl, HB1.out⟩
  | ok rs =>
    obtain ⟨v, hs, bs, rfl, hra⟩ := hq
    obtain ⟨V, hV, hVl⟩ := rules_V hra
    obtain ⟨hpf, hring⟩ := checkF_yes HT.out
    obtain ⟨hrl, hwf⟩ := parseF_wf _ _ hpf
    have HLS := hide (least_any w.heap.size v rs hs bs V w1 hra hV hVl hrl hwf hring)
    have HMN : Hid (∀ n, metX (upto (LA rs hs V) rs.length) n = true ↔ n ∈ namesF rs) := fun n => by rw [metX_all rs hs V hra.lh hVl n, mem_namesF]
    have HNL := hide (namesF_len hrl hwf)
    have HLL : Hid (levelsL rs = (namesF rs).map (fun n => (n, levelsF rs n))) := (rfl : levelsL rs = _)
    have HNM : Hid (∀ x ∈ namesF rs, x.length ≤ 1000000) := fun x hx => by
      obtain ⟨a, ha, e⟩ := (mem_namesF rs x).1 hx
      have := ((atoms_bounds rs hwf).2 a ha).1
      rw [← e]; omega
    have HLB : Hid (∀ x, levelsF rs x ≤ 200000) := fun x => by
      have h1 := (levels_least hring).2 _ (rank_sol hring) x
      have h2 := rank_lenP rs x
      have h3 := bodyNames_lenC 1000 rs (fun r hr => (wf_ring hwf r hr).1)
      omega
    obtain ⟨va, vc, hv⟩ := own_form hra.own
    subst hv
    clear hra hV hVl hwf hring hpf
    obtain ⟨N, HN⟩ : ∃ N, Hid (rs.length = N) := ⟨_, (rfl : _ = _)⟩
    obtain ⟨MX, HMX⟩ : ∃ MX, Hid (metX (upto (LA rs hs V) rs.length) = MX) := ⟨_, (rfl : _ = _)⟩
    rw [HMX.out] at HLS HMN
    obtain ⟨f, HF⟩ : ∃ f, Hid (levelsF rs = f) := ⟨_, (rfl : _ = _)⟩
    rw [HF.out] at HLS HLL HLB
    obtain ⟨F, HFN⟩ : ∃ F, Hid (namesF rs = F) := ⟨_, (rfl : _ = _)⟩
    rw [HFN.out] at HNL HLL HNM
    rw [HN.out] at HLS ⊢
    go_wp2_with fail
    refine HLS.out.mono ?_
    rintro e w2 ⟨rfl, ⟨nn, D, hown, hD⟩, hb2⟩
    have HB2 : Hid (Below w.heap.size w w2) := HB1.out.trans (hb2.mono HB1.out.size)
    have HOW := hide hown
    have HND := hide hD
    have HHN : Hid (∀ n, Maps.has D (.string n) = true ↔ n ∈ namesF rs) := fun n => by rw [hD.has, HMN.out]
    have HSZ : Hid (Maps.size D = F.length) := by rw [← HFN.out]; exact size_names hown HHN.out
    have hb1s := HB1.out.size
    obtain ⟨B, HBE⟩ : ∃ B, Hid (B = w1.heap.size) := ⟨_, rfl⟩
    rw [← HBE.out] at HOW
    rw [← HBE.out]
    clear hown hD hb2 HLS
    go_wp2_with fail
    refine ((callsIn_wide (n := 5)).1 (keysM_any (some B) w2)).mono ?_
    rintro e w3 ⟨rfl, hw3⟩
    have HSK := hide ((callsIn_wide (n := 5)).1 (sortedK_any B nn D _ w2 HOW.out (by have := HSZ.out; have := HNL.out; unfold maxLen; omega) (by have := HSZ.out; have := HNL.out; omega)))
    rw [← hw3] at HSK
    have HB3 : Hid (Below w2.heap.size w2 w3) := by rw [hw3]; exact (Below.refl _ _).alloc (Nat.le_refl _) _
    clear hw3
    go_wp2_with fail
    refine HSK.out.mono ?_
    rintro e w4 ⟨v4, ss, rfl, hss, hrow, -, hb4⟩
    obtain ⟨hsn, hsl⟩ := sorted_names HOW.out HHN.out hss
    rw [hsn, hsl, HFN.out] at hrow
    have HB4 : Hid (Below w2.heap.size w2 w4) := HB3.out.trans (hb4.mono HB3.out.size)
    have HRW := hide hrow
    have HO4 : Hid (w4.ownsMap Tryz.prog 9 (plainElem Tryz.prog 3) B nn D) := mapAt HOW.out (HB4.out.block _ HOW.out.lt)
    obtain ⟨na, nc, hv4⟩ := own_form hrow
    subst hv4
    clear hss hsn hsl hrow hb4 HSK
    obtain ⟨K, HK⟩ : ∃ K, Hid (F.length = K) := ⟨_, (rfl : _ = _)⟩
    rw [HK.out] at HNL HRW ⊢
    go_wp2_with fail
    have hb4s : w2.heap.size ≤ w4.heap.size := HB4.out.size
    have HBW4 : Hid (Below w.heap.size w w4) := HB2.out.trans (HB4.out.mono HB2.out.size)
    go_loopw [9, 28] (fun ov iv wr => ∃ k : Nat, k ≤ K ∧ iv = .int .i64 k ∧ Hid (wr.ownsRow w4.heap.size 37 2 ov k (levelsV ((F.take k).map fun n => (n, f n)))) ∧ Hid (w4.grownBy wr none)) (fun _ iv _ => K - (intOf iv).toNat)
    case atStart => exact ⟨0, by omega, rfl, World.ownsRow_nil _ _ _ _, fr_refl _ _⟩
    case round =>
      obtain ⟨k, hk, rfl, HQ, HG⟩ := hrel
      obtain ⟨oa, oc, hov⟩ := own_form HQ.out
      subst hov
      by_cases hlt : k < K
      · have hkF : k < F.length := by have := HK.out; omega
        obtain ⟨g, hgl⟩ : ∃ g, na = some ⟨g, 0, none⟩ := by
          rcases HRW.out.2 with ⟨hq, hn⟩ | ⟨g, cap, cur, hq, -⟩
          · omega
          · cases hq; exact ⟨g, rfl⟩
        subst hgl
        have c1 := HRW.out.cells rfl k (.string (str F[k])) (by simp [hkF, encStr, str])
        rw [add_zero] at c1
        replace c1 := grown_cell HG.out c1
        have hxl := HNM.out _ (List.getElem_mem hkF)
        have hfb := HLB.out F[k]
        have HNX : Hid (((F.take (k + 1)).map fun n => (n, f n)) = ((F.take k).map fun n => (n, f n)) ++ [(F[k], f F[k])]) := by
          show _ = _
          rw [List.take_succ_eq_append_getElem hkF, List.map_append]; rfl
        generalize F[k] = x at *
        have hkx := keyS x hxl
        have hat := HND.out.at' x
        have HOR : Hid (wr.ownsMap Tryz.prog 9 (plainElem Tryz.prog 3) B nn D) := mapAt HO4.out (HG.out.block _ HO4.out.lt (by simp))
        obtain ⟨sx, HSX⟩ : ∃ sx, Hid (str x = sx) := ⟨_, (rfl : _ = _)⟩
        rw [HSX.out] at c1 hkx
        obtain ⟨q, HQQ⟩ : ∃ q, Hid (f x = q) := ⟨_, (rfl : _ = _)⟩
        rw [HQQ.out] at HNX hat hfb
        have hlook : (Instr.lookup 56 (.map (some B)) (.string sx) false).run Tryz.prog wr = .ok (.int .i64 (q : Nat)) wr := by
          obtain ⟨c, hrun, hat2, _⟩ := HOR.out.lookup_int keyedS Tryz.underlying56 Tryz.underlying3 (zeroI _) hkx
          rw [hat] at hat2
          injection hat2 with e1; injection e1 with e2 e3
          rw [e3]; exact hrun
        have HLV : Hid (levelV (x, q) = [.string sx, .int .i64 (q : Nat)]) := by show _ = _; unfold levelV; rw [HSX.out]
        have hwl : w4.heap.size ≤ wr.heap.size := HG.out.size
        have hk2 : K ≤ 2700 := HNL.out
        clear hat hkx hxl hfb
        go_wp2_with (at_builtin; refine wpList_append_own _ rfl _ _ 30 rfl w4.heap.size 37 i1 (.agg #[.string { data := #[] }, .int .i64 0]) 2 24 Tryz.underlying30 hi1 hy0 hy1 hy2 rfl (by decide) _ _ _ rfl (HQ.out.alloc _) ⟨wr.heap.size, 0, none⟩ 1 1 [.string sx, .int .i64 (q : Nat)] rfl rfl ?c1 ?c2 ?c3 ?c4 ?c5 ?_)
        case c2 => exact ⟨rfl, rfl⟩
        case c3 => unfold maxLen; omega
        case c4 => omega
        case c5 => omega
        intro v1 w5 hown1 hg1 _
        have HNX2 : Hid (levelsV ((F.take (k + 1)).map fun n => (n, f n)) = levelsV ((F.take k).map fun n => (n, f n)) ++ [.string sx, .int .i64 (q : Nat)]) := by
          show _ = _
          rw [HNX.out, ← levelsV_snoc, HLV.out]
        have HO1 : Hid (w5.ownsRow w4.heap.size 37 2 v1 (k + 1) (levelsV ((F.take (k + 1)).map fun n => (n, f n)))) := by
          rw [HNX2.out, List.map_take]; exact hown1
        have HG1 : Hid (w4.grownBy w5 none) := fr_own (fr_both HG.out (fr_alloc _ _ _)) (HQ.out.alloc _) (Nat.le_refl _) hg1
        obtain ⟨oa2, oc2, hov2⟩ := own_form HO1.out
        subst hov2
        clear hown1 hg1
        go_wp2
        go_roundw
        case rel => exact ⟨k + 1, by omega, by go_num, HO1, HG1⟩
        case measure => simp [intOf]; omega
      · have HE : Hid (((F.take k).map fun n => (n, f n)) = levelsL rs ∧ k = (levelsL rs).length) := by
          refine ⟨?_, ?_⟩
          · rw [HLL.out, List.take_of_length_le (by have := HK.out; omega)]
          · rw [HLL.out, List.length_map]
            have := HK.out; omega
        go_wp2
        go_ret3
        refine ⟨⟨_, rfl, ?_⟩, HBW4.out.trans ((below_ofNone HG.out).mono HBW4.out.size)⟩
        rw [← HE.out.1]
        have e : ((F.take k).map fun n => (n, f n)).length = k := by rw [List.length_map, List.length_take]; have := HK.out; omega
        rw [e]
        exact own_lower HQ.out HBW4.out.size
end Go.Proofs.YtgllfcoafgphbaaGreatDoor

/-
  What a row's list of variables gives the walks: the three errors, the handle, the signs.
-/
namespace Go.Proofs.YtgllfcoafgphbaaGreatDoor
open Go.ChangeShapes Go.WideShapes Go.ChangeAt Go.RowKit
set_option linter.unusedVariables false
set_option maxRecDepth 100000
theorem gLong : Tryz.prog.globalNamed "deduce/syntax.errLong" = some 0 := by kernel_rfl
theorem gText : Tryz.prog.globalNamed "deduce/syntax.errText" = some 1 := by kernel_rfl
theorem gMany : Tryz.prog.globalNamed "deduce/syntax.errMany" = some 2 := by kernel_rfl
theorem gSigns : Tryz.prog.globalNamed "deduce/syntax.signs" = some 4 := by kernel_rfl
theorem gHandle : Tryz.prog.globalNamed "errors.errorType" = some 3 := by kernel_rfl
theorem tLong : (Tryz.prog.globals[0]?).map (·.type) = some 107 := by kernel_rfl
theorem tText : (Tryz.prog.globals[1]?).map (·.type) = some 107 := by kernel_rfl
theorem tMany : (Tryz.prog.globals[2]?).map (·.type) = some 107 := by kernel_rfl
theorem tSigns : (Tryz.prog.globals[4]?).map (·.type) = some 249 := by kernel_rfl
theorem cellsErr : Tryz.prog.cellsOf 270 = 1 := by kernel_rfl
theorem cellsStr : Tryz.prog.cellsOf 9 = 1 := by kernel_rfl
theorem cellsSigns : Tryz.prog.cellsOf 249 = 5 := by kernel_rfl
theorem starErr : "*" ++ "errors.errorString" = "*errors.errorString" := by decide
theorem rowErr (u : TypeId) (h : Tryz.prog.typeName? 3 u = some "*errors.errorString") : u = 250 :=
  typeName_ptr_named (nm := "errors.errorString") (by rw [starErr]; kernel_rfl) (by kernel_rfl) (by decide) u (by rw [starErr]; exact h)
/-- an array of texts that reads so -/
theorem cells_of_texts {H : Type} {enc : TypeId × Value → H} {P : Program} {w : World} {base : Nat} {sp : Nat → Bool} {held : Bool} {fuel : Nat} {t e : TypeId} {n : Nat} {cs : List Value} {zs : List (List UInt8)} {p : List MemPlace}
    (ht : P.underlying t = some (.array n e)) (he : P.underlying e = some .string) (hce : P.cellsOf e = 1) (hct : P.cellsOf t = n)
    (h : DataW.trod enc P w base sp held fuel t cs = some (.agg (zs.map fun z => .lit (.string z)), p)) : cs = zs.map fun z => Value.string (str z) := by
  cases fuel with
  | zero => simp [DataW.trod] at h
  | succ fuel =>
    simp only [DataW.trod, ht, hce, hct, Nat.mul_one] at h
    split at h
    · rename_i hl
      obtain ⟨xs, hm, hx⟩ := Option.map_eq_some_iff.1 h
      have hxs : xs.map (·.1) = zs.map fun z => (DataW.lit (.string z) : DataW H) := by
        have := congrArg Prod.fst hx
        simpa using this
      have hxl : xs.length = n := by simpa using Lib.mapM_length hm
      have hzl : zs.length = n := by
        have := congrArg List.length hxs
        simp at this
        omega
      apply List.ext_getElem?
      intro i
      by_cases hi : i < n
      · obtain ⟨b, hb, hf⟩ := Lib.mapM_at hm i i (by simp [hi])
        obtain ⟨z, hc, rfl, _⟩ := DataW.trod_string he hf
        have h1 : cs[i]? = some (.string z) := by
          have := congrArg (·[0]?) hc
          simpa [List.getElem?_take, List.getElem?_drop] using this
        have h2 : (xs.map (·.1))[i]? = some (DataW.lit (.string z.data.toList) : DataW H) := by simp [hb]
        rw [hxs] at h2
        simp only [List.getElem?_map, Option.map_eq_some_iff, DataW.lit.injEq, Lit.string.injEq] at h2
        obtain ⟨z', hz', rfl⟩ := h2
        simp [h1, hz', str_data]
      · rw [List.getElem?_eq_none (by omega), List.getElem?_eq_none (by simp; omega)]
    · cases h
theorem oneRow : ((List.range Tryz.prog.types.size).filter fun t => Tryz.prog.rowNamed t [101, 114, 114, 111, 114]) = [107] := by kernel_rfl
theorem rtType : (Tryz.prog.cutTypes.find? (·.1 == "internal/reflectlite.rtype")).map (·.2) = some 223 := by kernel_rfl
theorem handle_at {W : World} (h : handlesMet Tryz.prog [("errors.errorType", Rows.laid_errors_errorType)] W) : W.cell? ⟨3, 0, none⟩ = some (.iface 223 (.agg #[typeHandle Tryz.prog 107])) := by
  obtain ⟨name, u, ty, e1, e2, e3, e4, e5⟩ := h _ (List.mem_singleton.2 rfl)
  have en : name = [101, 114, 114, 111, 114] := (Option.some.inj e1).symm
  subst en
  obtain rfl := Option.some.inj (rtType.symm.trans e2)
  have hm : ty ∈ (List.range Tryz.prog.types.size).filter fun t => Tryz.prog.rowNamed t [101, 114, 114, 111, 114] := List.mem_filter.2 ⟨List.mem_range.2 e3, e4⟩
  rw [oneRow] at hm
  obtain rfl := List.mem_singleton.1 hm
  simpa using World.var?_cell gHandle e5 0
theorem errs_of {W : World} (h : laidMetH Tryz.prog [("errors.errorType", Rows.laid_errors_errorType), ("deduce/syntax.errLong", Rows.laid_deduce_syntax_errLong), ("deduce/syntax.errText", Rows.laid_deduce_syntax_errText), ("deduce/syntax.errMany", Rows.laid_deduce_syntax_errMany), ("deduce/syntax.signs", Rows.laid_deduce_syntax_signs)] W) : ∃ L T M, Errs W L T M ∧ ErrB W L T M := by
  have h' : laidMet Tryz.prog [("deduce/syntax.errLong", Rows.laid_deduce_syntax_errLong), ("deduce/syntax.errText", Rows.laid_deduce_syntax_errText), ("deduce/syntax.errMany", Rows.laid_deduce_syntax_errMany), ("deduce/syntax.signs", Rows.laid_deduce_syntax_signs)] W ∧ handlesMet Tryz.prog [("errors.errorType", Rows.laid_errors_errorType)] W := h
  obtain ⟨hd, hh⟩ := h'
  obtain ⟨L, T, s0, s1, c0, c1, t0, t1, hv0, hv1, hc0, hs0, hz0, hc1, hs1, hz1, hne, hb0, hb1⟩ := laid_sentinels2 hd gLong tLong gText tText Tryz.underlying107 rowErr Tryz.underlying250 Tryz.underlying270 rfl rfl Tryz.underlying9 cellsErr cellsStr
  obtain ⟨T', M, s2, s3, c2, c3, t2, t3, hv2, hv3, hc2, hs2, hz2, hc3, hs3, hz3, hne2, hb2, hb3⟩ := laid_sentinels2 hd.tail gText tText gMany tMany Tryz.underlying107 rowErr Tryz.underlying250 Tryz.underlying270 rfl rfl Tryz.underlying9 cellsErr cellsStr
  rw [hv1] at hv2
  cases hv2
  have hlm : L ≠ M := by
    rintro rfl
    rw [hc0] at hc3
    cases hc3
    rw [hs0] at hs3
    simp at hs3
  have k0 : W.cell? ⟨0, 0, none⟩ = some (.iface 250 (.pointer (some L))) := by simpa using World.var?_cell gLong hv0 0
  have k1 : W.cell? ⟨1, 0, none⟩ = some (.iface 250 (.pointer (some T))) := by simpa using World.var?_cell gText hv1 0
  have k2 : W.cell? ⟨2, 0, none⟩ = some (.iface 250 (.pointer (some M))) := by simpa using World.var?_cell gMany hv3 0
  obtain ⟨ps, ⟨g', t', cs, fuel, p, q, hg', ht', hvar, hdd, _, _⟩, _⟩ := hd.tail.tail.tail
  obtain rfl := Option.some.inj (gSigns.symm.trans hg')
  obtain rfl := Option.some.inj (tSigns.symm.trans ht')
  have hsg := cells_of_texts (zs := [[], [], [61], [33, 61], [60]]) Tryz.underlying249 Tryz.underlying9 cellsStr cellsSigns hdd
  have m2 := World.var?_cell gSigns hvar 2
  have m3 := World.var?_cell gSigns hvar 3
  have m4 := World.var?_cell gSigns hvar 4
  rw [← Array.getElem?_toList, hsg] at m2 m3 m4
  exact ⟨L, T, M, ⟨k0, k1, k2, handle_at hh, by simpa [str] using m2, by simpa [str] using m3, by simpa [str] using m4, hne, hlm, hne2⟩, ⟨⟨_, _, hb0⟩, ⟨_, _, hb1⟩, ⟨_, _, hb3⟩⟩⟩
end Go.Proofs.YtgllfcoafgphbaaGreatDoor
