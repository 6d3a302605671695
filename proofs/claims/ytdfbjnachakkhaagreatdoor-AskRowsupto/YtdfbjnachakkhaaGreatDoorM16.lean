import Derived.Test.YtdfbjnachakkhaaGreatDoorM15
namespace Go.Proofs.YtdfbjnachakkhaaGreatDoor
open Go.ChangeShapes Go.WideShapes Go.ChangeAt Go.RowKit Go.Hands Go.WideMaps Go.Maps
set_option linter.unusedVariables false
set_option maxRecDepth 100000
theorem infoTermW : (Tryz.prog.info? 204).map (fun i => (i.zero, i.size, i.bytes)) = some (some (.agg #[.bool false, .int .i64 0]), 2, 16) := by kernel_rfl
theorem al3_0 (w : World) (a b c : Obj) : (((w.alloc a).alloc b).alloc c).heap[w.heap.size]? = some a := by
  rw [Below.heap_alloc _ _ _ (by simp; omega), Below.heap_alloc _ _ _ (by simp)]; exact heap_alloc_new w a
theorem al3_1 (w : World) (a b c : Obj) : (((w.alloc a).alloc b).alloc c).heap[w.heap.size + 1]? = some b := by
  rw [Below.heap_alloc _ _ _ (by simp)]
  have := heap_alloc_new (w.alloc a) b
  rw [World.size_alloc] at this; exact this
theorem al3_2 (w : World) (a b c : Obj) : (((w.alloc a).alloc b).alloc c).heap[w.heap.size + 2]? = some c := by
  have := heap_alloc_new ((w.alloc a).alloc b) c
  rw [World.size_alloc, World.size_alloc] at this; exact this
/-- terms that are variables, by their numbers -/
def tvV (k : Nat) : List Value := (List.range k).flatMap fun i => [.bool true, .int .i64 (i : Nat)]
theorem tvV_next (k : Nat) : tvV (k + 1) = tvV k ++ [.bool true, .int .i64 (k : Nat)] := by simp [tvV, List.range_succ]
theorem tvV_len (k : Nat) : (tvV k).length = k * 2 := by
  induction k with
  | zero => rfl
  | succ k ih => rw [tvV_next, List.length_append, ih]; simp; omega
set_option maxHeartbeats 1000000 in
theorem term_any (S mv k : Nat) (x : List UInt8) (pl : Nat) (xs : List (List UInt8)) (D : DataW Unit) (w : World) (hm : w.ownsMap Tryz.prog 9 (plainElem Tryz.prog 3) mv xs.length D) (hD : NumT D xs) (hsz : Maps.size D = xs.length) (hx : xs.contains x = false) (hxl : x.length ≤ 1000) (hl : xs.length ≤ 1000) :
    Calls Tryz.prog 102 #[.agg #[.pointer (some ⟨S, 0, none⟩), .map (some mv)], .agg #[.bool true, .string (str x), .int .i64 (pl : Nat)]] w fun e w' => e = .returned (.agg #[.bool true, .int .i64 (xs.length : Nat)]) ∧ (∃ D', w'.ownsMap Tryz.prog 9 (plainElem Tryz.prog 3) mv (xs ++ [x]).length D' ∧ NumT D' (xs ++ [x]) ∧ Maps.size D' = (xs ++ [x]).length) ∧ w.grownBy w' (some mv) := by
  have HM := hide hm
  have HD := hide hD
  have HX := hide hx
  obtain ⟨n, HN⟩ : ∃ n, Hid (n = xs.length) := ⟨_, rfl⟩
  rw [← HN.out] at hl
  obtain ⟨s, HS⟩ : ∃ s, Hid (s = str x) := ⟨_, rfl⟩
  have hkey := keyT x hxl
  rw [← HS.out] at hkey ⊢
  rw [← HN.out]
  obtain ⟨wA, HWA⟩ : ∃ wA, Hid (wA = ((w.alloc (.cells #[.pointer (some ⟨S, 0, none⟩), .map (some mv)] 140)).alloc (.cells #[.bool true, .string s, .int .i64 (pl : Nat)] 65)).alloc (.cells #[.bool false, .int .i64 0] 204)) := ⟨_, rfl⟩
  have hwA := HWA.out.symm
  have HGA : Hid (w.grownBy wA none) := by rw [HWA.out]; exact fr_both (fr_both (fr_alloc _ _ _) (fr_alloc _ _ _)) (fr_alloc _ _ _)
  have hsA : wA.heap.size = w.heap.size + 3 := by rw [HWA.out]; simp
  have p0 : wA.heap[w.heap.size]? = some (.cells #[.pointer (some ⟨S, 0, none⟩), .map (some mv)] 140) := by rw [HWA.out]; exact al3_0 _ _ _ _
  have p1 : wA.heap[w.heap.size + 1]? = some (.cells #[.bool true, .string s, .int .i64 (pl : Nat)] 65) := by rw [HWA.out]; exact al3_1 _ _ _ _
  have p2 : wA.heap[w.heap.size + 2]? = some (.cells #[.bool false, .int .i64 0] 204) := by rw [HWA.out]; exact al3_2 _ _ _ _
  have c00 : wA.cell? ⟨w.heap.size, 0, none⟩ = some (.pointer (some ⟨S, 0, none⟩)) := cell_of p0 0 _ rfl
  have c01 : wA.cell? ⟨w.heap.size, 1, none⟩ = some (.map (some mv)) := cell_of p0 1 _ rfl
  have c10 : wA.cell? ⟨w.heap.size + 1, 0, none⟩ = some (.bool true) := cell_of p1 0 _ rfl
  have c11 : wA.cell? ⟨w.heap.size + 1, 1, none⟩ = some (.string s) := cell_of p1 1 _ rfl
  have hmvl : mv < w.heap.size := hm.lt
  have hmA := hm.kept HGA.out (by simp)
  have hlk := num_look hmA hD x hxl
  rw [hx, ← HS.out, if_neg (by simp)] at hlk
  have hln := hmA.len Tryz.underlying72 3
  rw [hsz, ← HN.out] at hln
  obtain ⟨w2, hup, hown2, hg2⟩ := hmA.update keyedT Tryz.underlying72 (by rw [← HN.out]; unfold maxLen; omega) hkey (val := .int .i64 (n : Nat)) (plainElem_int Tryz.underlying3 (WalkArith.wf_i64 (by omega)))
  have HO2 : Hid (∃ D', w2.ownsMap Tryz.prog 9 (plainElem Tryz.prog 3) mv (xs ++ [x]).length D' ∧ NumT D' (xs ++ [x]) ∧ Maps.size D' = (xs ++ [x]).length) := by
    refine ⟨D.put (.string x) (.lit (.int .i64 (n : Nat))), ?_, ?_, ?_⟩
    · rw [List.length_append, List.length_singleton]; exact hown2
    · rw [HN.out]; exact hD.put x hx
    · rw [size_put (hmA.tidy keyedT), hD.has, hx, List.length_append, hsz]; rfl
  have hf2 := FrS.of (S := fun i => i = mv) hg2 (fun g e => .inl (Option.some.inj e).symm)
  have hb2 : w2.heap[w.heap.size + 1 + 1]? = some (.cells #[.bool false, .int .i64 0] 204 (0, 0)) := by rw [hf2.block _ (by omega) (by show ¬ w.heap.size + 1 + 1 = mv; omega)]; exact p2
  have t0 := thaw_of hb2 0
  have t1 := thaw_of hb2 1
  have z0 : w2.cell? ⟨w.heap.size + 1 + 1, 0, none⟩ = some (.bool false) := cell_of hb2 0 _ rfl
  have z1 : w2.cell? ⟨w.heap.size + 1 + 1, 1, none⟩ = some (.int .i64 0) := cell_of hb2 1 _ rfl
  have HG2 : Hid (w.grownBy w2 (some mv)) := fr_trans (fr_weak HGA.out _) hg2 (fun g hg => Or.inl rfl)
  have HB2 := hide hb2
  have HMA := hide hmA
  clear hm hD hx hmA p0 p1 p2 hown2 hg2 hf2 hb2 hsz
  go_enter Tryz.func102, Tryz.ntmps102
  go_wp2
  have hb3 := blk_set (blk_set HB2.out 0 (.bool true)) 1 (.int .i64 (n : Nat))
  have y0 := cell_of hb3 0 (.bool true) rfl
  have y1 := cell_of hb3 1 (.int .i64 (n : Nat)) rfl
  refine bodyPost_ret (v := .agg #[.bool true, .int .i64 (n : Nat)]) (by simp [results, Tryz.results102, go_sem, y0, y1]) rfl ⟨rfl, ?_, ?_⟩
  · obtain ⟨D', h1, h2⟩ := HO2.out
    refine ⟨D', ?_, h2⟩
    exact ((h1.kept (fr_set w2 (w.heap.size + 1 + 1) 0 _) (fun e => by have := Option.some.inj e; omega))).kept (fr_set _ (w.heap.size + 1 + 1) 1 _) (fun e => by have := Option.some.inj e; omega)
  · have e2 := HG2.out
    exact fr_trans (fr_trans e2 (fr_set w2 (w.heap.size + 1 + 1) 0 _) (fun g hg => Or.inr (by cases hg; omega))) (fr_set _ (w.heap.size + 1 + 1) 1 _) (fun g hg => Or.inr (by cases hg; omega))
end Go.Proofs.YtdfbjnachakkhaaGreatDoor

namespace Go.Proofs.YtdfbjnachakkhaaGreatDoor
open Go.ChangeShapes Go.WideShapes Go.ChangeAt Go.RowKit Go.Hands Go.WideMaps Go.Maps
set_option linter.unusedVariables false
set_option maxRecDepth 100000
set_option maxHeartbeats 1000000 in
theorem terms_none (S mv : Nat) (w : World) :
    Calls Tryz.prog 66 #[.agg #[.pointer (some ⟨S, 0, none⟩), .map (some mv)], .slice none 0 0] w fun e w' => e = .returned (.slice none 0 0) ∧ w.grownBy w' none := by
  go_enter Tryz.func66, Tryz.ntmps66
  go_wp2
  refine wp_loop_rounds 1 ?_
  rw [rounds_succ]
  go_wp2
  go_ret
  exact ⟨rfl, fr_alloc _ _ _⟩
/-- the variables' texts, so many of them numbered -/
structure VarM (mv : Nat) (xs : List (List UInt8)) (w : World) : Prop where
  map : ∃ D, w.ownsMap Tryz.prog 9 (plainElem Tryz.prog 3) mv xs.length D ∧ NumT D xs ∧ Maps.size D = xs.length
set_option maxHeartbeats 1000000 in
theorem terms_any (S mv base : Nat) (u : Value) (ts : List PTerm) (w : World) (hm : VarM mv [] w) (h : w.ownsRow base 65 3 u ts.length (termsV ts)) (hv : ∀ t ∈ ts, t.isVar = true) (hnd : (ts.map (·.text)).Nodup) (hl : ts.length ≤ 1000) (hx : ∀ t ∈ ts, t.text.length ≤ 1000) (hub : ∀ g, u.ownBlock = some g → g ≠ mv) :
    Calls Tryz.prog 66 #[.agg #[.pointer (some ⟨S, 0, none⟩), .map (some mv)], u] w fun e w' => (∃ v, e = .returned v ∧ w'.ownsRow w.heap.size 204 2 v ts.length (tvV ts.length)) ∧ VarM mv (ts.map (·.text)) w' ∧ w.grownBy w' (some mv) := by
  obtain ⟨i0, hi, hz0, hz1, hz2⟩ := info_parts infoTermW
  have HM := hide hm
  have HO := hide h
  have HV := hide hv
  have HND := hide hnd
  have HX := hide hx
  have HT := hide (own_terms h)
  obtain ⟨ua, uc, hue⟩ := own_form h
  have hmvl : mv < w.heap.size := by obtain ⟨D, h1, _⟩ := hm.map; exact h1.lt
  clear hm h hv hnd hx
  obtain ⟨n, HN⟩ : ∃ n, Hid (n = ts.length) := ⟨_, rfl⟩
  rw [← HN.out] at hue hl ⊢
  rw [hue]
  obtain ⟨wA, HWA⟩ : ∃ wA, Hid (wA = w.alloc (.cells #[.pointer (some ⟨S, 0, none⟩), .map (some mv)] 140)) := ⟨_, rfl⟩
  have hwA := HWA.out.symm
  have HGA : Hid (w.grownBy wA none) := by rw [HWA.out]; exact fr_alloc _ _ _
  have hsA : wA.heap.size = w.heap.size + 1 := by rw [HWA.out]; simp
  have p0 : wA.heap[w.heap.size]? = some (.cells #[.pointer (some ⟨S, 0, none⟩), .map (some mv)] 140) := by rw [HWA.out]; exact heap_alloc_new _ _
  have HC0 : Hid (wA.cell? ⟨w.heap.size, 0, none⟩ = some (.pointer (some ⟨S, 0, none⟩))) := cell_of p0 0 _ rfl
  have HC1 : Hid (wA.cell? ⟨w.heap.size, 1, none⟩ = some (.map (some mv))) := cell_of p0 1 _ rfl
  clear p0
  go_enter Tryz.func66, Tryz.ntmps66
  go_wp2_with fail
  go_loopw [5, 10] (fun tv iv wr => ∃ i : Nat, i ≤ n ∧ iv = .int .i64 i ∧ Hid (wr.ownsRow w.heap.size 204 2 tv i (tvV i)) ∧ Hid (VarM mv ((ts.take i).map (·.text)) wr) ∧ Hid (FrS (fun j => j = mv) w wr) ∧ Hid (wr.cell? ⟨w.heap.size, 0, none⟩ = some (.pointer (some ⟨S, 0, none⟩)) ∧ wr.cell? ⟨w.heap.size, 1, none⟩ = some (.map (some mv)) ∧ ∀ g, tv.ownBlock = some g → w.heap.size + 1 ≤ g)) (fun _ iv _ => n - (intOf iv).toNat)
  case atStart =>
    refine ⟨0, Nat.zero_le _, rfl, World.ownsRow_nil _ _ _ _, ?_, FrS.none HGA.out, ⟨HC0.out, HC1.out, fun g h => by cases h⟩⟩
    obtain ⟨D, h1, h2, h3⟩ := HM.out.map
    exact ⟨D, h1.kept HGA.out (by simp), h2, h3⟩
  case round =>
    obtain ⟨i, hin, rfl, HR, HVM, HF, HCC⟩ := hrel
    obtain ⟨ta, tc, htv⟩ := own_form HR.out
    subst htv
    by_cases hlt : i < n
    · have hlt' : i < ts.length := by rw [← HN.out]; exact hlt
      obtain ⟨t, HTI⟩ : ∃ t, Hid (t = ts[i]) := ⟨ts[i], (rfl : ts[i] = _)⟩
      have htm : t ∈ ts := by rw [HTI.out]; exact List.getElem_mem _
      obtain ⟨g, hg, hgl, z0, z1, z2⟩ : ∃ g, ua = some ⟨g, 0, none⟩ ∧ (g < w.heap.size ∧ g ≠ mv) ∧ w.cell? ⟨g, i * 3, none⟩ = some (.bool true) ∧ w.cell? ⟨g, i * 3 + 1, none⟩ = some (.string (str t.text)) ∧ w.cell? ⟨g, i * 3 + 2, none⟩ = some (.int .i64 (t.place : Nat)) := by
        rcases HT.out with ⟨_, h0⟩ | ⟨g, cap, hug, _, hgl, hcc⟩
        · rw [h0] at hlt'; simp at hlt'
        · obtain ⟨z0, z1, z2⟩ := hcc i hlt'
          rw [← HTI.out] at z0 z1 z2
          rw [HV.out _ htm] at z0
          have hne := hub g (by rw [hug]; rfl)
          rw [hue] at hug
          injection hug with e1 _ _
          exact ⟨g, e1, ⟨hgl, hne⟩, z0, z1, z2⟩
      replace z0 := HF.out.cell z0 hgl.2
      replace z1 := HF.out.cell z1 hgl.2
      replace z2 := HF.out.cell z2 hgl.2
      rw [hg]
      obtain ⟨k0, k1, k2⟩ := HCC.out
      obtain ⟨st, HST⟩ : ∃ st, Hid (st = str t.text) := ⟨_, rfl⟩
      rw [← HST.out] at z1
      obtain ⟨pl, HPL⟩ : ∃ pl, Hid (pl = t.place) := ⟨_, rfl⟩
      rw [← HPL.out] at z2
      obtain ⟨wb, HWB⟩ : ∃ wb, Hid (wb = wr.alloc (.cells #[.bool true, .string st, .int .i64 (pl : Nat)] 65)) := ⟨_, rfl⟩
      have hwb := HWB.out.symm
      have HGB : Hid (wr.grownBy wb none) := by rw [HWB.out]; exact fr_alloc _ _ _
      have hbl : wb.heap[wr.heap.size]? = some (.cells #[.bool true, .string st, .int .i64 (pl : Nat)] 65) := by rw [HWB.out]; exact heap_alloc_new _ _
      have d0 : wb.cell? ⟨wr.heap.size, 0, none⟩ = some (.bool true) := cell_of hbl 0 _ rfl
      have d1 : wb.cell? ⟨wr.heap.size, 1, none⟩ = some (.string st) := cell_of hbl 1 _ rfl
      have d2 : wb.cell? ⟨wr.heap.size, 2, none⟩ = some (.int .i64 (pl : Nat)) := cell_of hbl 2 _ rfl
      have hfb := FrS.none (S := fun _ => False) HGB.out
      replace k0 := hfb.cell k0 (fun h => h)
      replace k1 := hfb.cell k1 (fun h => h)
      obtain ⟨xs, HXS⟩ : ∃ xs, Hid (xs = (ts.take i).map (·.text)) := ⟨_, rfl⟩
      have hxl : xs.length = i := by rw [HXS.out]; simp; omega
      have hxn : xs ++ [t.text] = (ts.take (i + 1)).map (·.text) := by
        rw [HXS.out, List.take_succ_eq_append_getElem hlt', List.map_append, HTI.out]; rfl
      have hxc : xs.contains t.text = false := by
        have h3 : ((ts.take (i + 1)).map (·.text)).Nodup := by
          have := HND.out.sublist ((List.take_sublist (i + 1) ts).map (·.text))
          exact this
        rw [← hxn, List.nodup_append] at h3
        have : t.text ∉ xs := fun hm => h3.2.2 _ hm _ (by simp) rfl
        simpa using this
      obtain ⟨D, hD1, hD2, hD3⟩ := HVM.out.map
      rw [← HXS.out] at hD1 hD2 hD3
      have HTM := hide (term_any S mv 0 t.text pl xs D wb (hD1.kept HGB.out (by simp)) hD2 hD3 hxc (HX.out t htm) (by omega))
      rw [← HST.out, hxl] at HTM
      have HKK := hide (And.intro k0 k1)
      have hk2 := k2
      clear hD1 hD2 hD3 hxc hbl hfb
      go_wp2_with fail
      refine HTM.out.mono ?_
      rintro _ w3 ⟨rfl, ⟨D3, h31, h32, h33⟩, hg3⟩
      have hmvb : mv < wr.heap.size := by have := HF.out.size; omega
      have hws3 : wb.heap.size ≤ w3.heap.size := hg3.size
      have hwrb : wr.heap.size < wb.heap.size := by rw [HWB.out]; simp
      have hf3 := FrS.of (S := fun j => j = mv) hg3 (fun g e => .inl (Option.some.inj e).symm)
      have HR3 : Hid (w3.ownsRow w.heap.size 204 2 (.slice ta i tc) i (tvV i)) := by
        refine hf3.row (HR.out.kept HGB.out (by cases (Value.slice ta i tc).ownBlock <;> simp)) (fun gq cur fz hq _ hb e => ?_)
        have e' : gq = mv := e
        omega
      have HF3 : Hid (FrS (fun j => j = mv) w w3) := FrS.trans (FrS.trans (S' := fun _ => False) HF.out (FrS.none HGB.out) (fun _ _ e => e.elim)) hf3 (fun j _ e => e)
      have HV3 : Hid (VarM mv ((ts.take (i + 1)).map (·.text)) w3) := by rw [← hxn]; exact ⟨D3, h31, h32, h33⟩
      have HK3 : Hid (w3.cell? ⟨w.heap.size, 0, none⟩ = some (.pointer (some ⟨S, 0, none⟩)) ∧ w3.cell? ⟨w.heap.size, 1, none⟩ = some (.map (some mv))) := ⟨hf3.cell HKK.out.1 (by show ¬ w.heap.size = mv; omega), hf3.cell HKK.out.2 (by show ¬ w.heap.size = mv; omega)⟩
      have hbs : w.heap.size ≤ w3.heap.size := HF3.out.size
      clear h31 h32 h33 hg3 hf3 d0 d1 d2 z0 z1 z2 k0 k1 hxn
      go_wp2_with (at_builtin; refine wpList_append_own_at _ rfl _ _ 143 rfl w.heap.size 204 i0 (.agg #[.bool false, .int .i64 0]) 2 16 Tryz.underlying143 hi hz0 hz1 hz2 rfl (by omega) _ _ _ rfl (HR3.out.alloc _) ⟨w3.heap.size, 0, none⟩ 1 1 [.bool true, .int .i64 (i : Nat)] rfl rfl (fun j q hj => cell_new8 w3 _ _ _ j q hj) (by simp [Value.oneCell']) (by unfold maxLen; omega) (by omega) (by simp; omega) ?_)
      intro v2 w5 hown5 hg5 hnil5 hat5
      have HF5 : Hid (FrS (fun j => (Value.slice ta i tc).ownBlock = some j) w3 w5) := FrS.trans (S' := fun j => (Value.slice ta i tc).ownBlock = some j) (FrS.none (fr_alloc w3 _ none)) (FrS.of hg5 (fun g e => .inl e)) (fun j _ e => e)
      obtain ⟨xa, xc, hv2⟩ := own_form hown5
      have HR5 : Hid (w5.ownsRow w.heap.size 204 2 v2 (i + 1) (tvV (i + 1))) := by rw [tvV_next]; exact hown5
      have hne5 : ∀ j, j ≤ w.heap.size → ¬ (Value.slice ta i tc).ownBlock = some j := fun j hj e => by have := hk2 j e; omega
      have HV5 : Hid (VarM mv ((ts.take (i + 1)).map (·.text)) w5) := by
        obtain ⟨D5, h51, h52⟩ := HV3.out.map
        exact ⟨D5, HF5.out.map h51 (hne5 mv (by omega)), h52⟩
      have HFW : Hid (FrS (fun j => j = mv) w w5) := FrS.trans HF3.out HF5.out (fun j hj e => (hne5 j (by omega) e).elim)
      have HCC5 : Hid (w5.cell? ⟨w.heap.size, 0, none⟩ = some (.pointer (some ⟨S, 0, none⟩)) ∧ w5.cell? ⟨w.heap.size, 1, none⟩ = some (.map (some mv)) ∧ ∀ g, v2.ownBlock = some g → w.heap.size + 1 ≤ g) := by
        refine ⟨HF5.out.cell HK3.out.1 (hne5 _ (Nat.le_refl _)), HF5.out.cell HK3.out.2 (hne5 _ (Nat.le_refl _)), fun gq hq => ?_⟩
        rcases hat5 with e | e
        · exact hk2 gq (by rw [← e]; exact hq)
        · rw [hq] at e
          have := Option.some.inj e
          have := HF.out.size
          omega
      clear hown5 hg5 hnil5 hat5
      subst hv2
      go_wp2
      go_roundw
      case rel => exact ⟨i + 1, by omega, by go_num, HR5, HV5, HFW, HCC5⟩
      case measure => simp [intOf]; omega
    · have him : i = n := by omega
      subst him
      go_wp2
      go_ret
      refine ⟨⟨_, rfl, HR.out⟩, ?_, ⟨HF.out.os, HF.out.tape, HF.out.output, HF.out.size, fun j hj hn => HF.out.block j hj (fun e => hn (by rw [show j = mv from e]))⟩⟩
      have := HVM.out
      rw [HN.out, List.take_length] at this
      exact this
end Go.Proofs.YtdfbjnachakkhaaGreatDoor

namespace Go.Proofs.YtdfbjnachakkhaaGreatDoor
open Go.ChangeShapes Go.WideShapes Go.ChangeAt Go.RowKit Go.Hands Go.WideMaps Go.Maps
set_option linter.unusedVariables false
set_option maxRecDepth 100000
theorem infoPartW : (Tryz.prog.info? 202).map (fun i => (i.zero, i.size, i.bytes)) = some (some (.agg #[.int .i64 0, .int .i64 0, .pointer none, .slice none 0 0]), 4, 48) := by kernel_rfl
set_option maxHeartbeats 1000000 in
theorem parts_any (base S nm rm R mv pb n : Nat) (name : List UInt8) (l : List (List UInt8)) (bd u : Value) (p : PPart) (w : World) (vl : Value) (D : DataW Unit)
    (htx : TX base S nm rm l w vl D) (hrm : w.ownsMap Tryz.prog 9 heldA rm 1 (Done name R)) (hn1 : nm ≠ mv) (hn2 : rm ≠ mv) (hm : VarM mv [] w)
    (hparts : PartsAt 65 67 pb w bd [p] [u]) (hk : p.kind = 0) (hpn : p.atom.name = name) (hvar : ∀ t ∈ p.atom.args, t.isVar = true) (hpl : p.atom.args.length = n) (hnn : n ≤ 8) (hnd : (p.atom.args.map (·.text)).Nodup) (hx : ∀ t ∈ p.atom.args, t.text.length ≤ 1000) (hname : name.length ≤ 1000) :
    Calls Tryz.prog 65 #[.agg #[.pointer (some ⟨S, 0, none⟩), .map (some mv)], bd] w fun e w' => (∃ v vt, e = .returned v ∧ w'.ownsRow w.heap.size 202 4 v 1 [.int .i64 0, .int .i64 0, .pointer (some ⟨R, 0, none⟩), vt] ∧ w'.ownsRow w.heap.size 204 2 vt n (tvV n)) ∧ VarM mv (p.atom.args.map (·.text)) w' ∧ w.grownBy w' (some mv) := by
  obtain ⟨i0, hi, hz0, hz1, hz2⟩ := info_parts infoPartW
  have HTX := hide htx
  have HRM := hide hrm
  have HM := hide hm
  have HP := hide hparts
  have HV := hide hvar
  have HND := hide hnd
  have HX := hide hx
  have hargs := hparts.args 0 p u rfl rfl
  have HA := hide hargs
  obtain ⟨g, bc, hbe, hc⟩ : ∃ g c, bd = .slice (some ⟨g, 0, none⟩) 1 c ∧ ∀ (j : Nat) (x : Value), (partV p u)[j]? = some x → w.cell? ⟨g, j, none⟩ = some x := by
    rcases own_parts hparts with ⟨_, h⟩ | ⟨g, cap, rfl, _, hgw, hc, _⟩
    · cases h
    · refine ⟨g, cap, rfl, fun j x hx => ?_⟩
      have := hc 0 p u rfl rfl j x hx
      rw [Nat.zero_mul, Nat.zero_add] at this
      exact this
  obtain ⟨ua, uc, hue⟩ := own_form hargs
  rw [hpl] at hue
  rw [hue] at hc
  have hmvl : mv < w.heap.size := by obtain ⟨D, h1, _⟩ := hm.map; exact h1.lt
  rw [hbe]
  obtain ⟨wA, HWA⟩ : ∃ wA, Hid (wA = w.alloc (.cells #[.pointer (some ⟨S, 0, none⟩), .map (some mv)] 140)) := ⟨_, rfl⟩
  have hwA := HWA.out.symm
  have HGA : Hid (w.grownBy wA none) := by rw [HWA.out]; exact fr_alloc _ _ _
  have hsA : wA.heap.size = w.heap.size + 1 := by rw [HWA.out]; simp
  have p0 : wA.heap[w.heap.size]? = some (.cells #[.pointer (some ⟨S, 0, none⟩), .map (some mv)] 140) := by rw [HWA.out]; exact heap_alloc_new _ _
  have c0 : wA.cell? ⟨w.heap.size, 0, none⟩ = some (.pointer (some ⟨S, 0, none⟩)) := cell_of p0 0 _ rfl
  have c1 : wA.cell? ⟨w.heap.size, 1, none⟩ = some (.map (some mv)) := cell_of p0 1 _ rfl
  have hfA := FrS.none (S := fun _ => False) HGA.out
  have q0 := hfA.cell (hc 0 _ rfl) (fun h => h)
  have q1 := hfA.cell (hc 1 _ rfl) (fun h => h)
  have q2 := hfA.cell (hc 2 _ rfl) (fun h => h)
  have q3 := hfA.cell (hc 3 _ rfl) (fun h => h)
  have q4 := hfA.cell (hc 4 _ rfl) (fun h => h)
  have q5 := hfA.cell (hc 5 _ rfl) (fun h => h)
  have q6 := hfA.cell (hc 6 _ rfl) (fun h => h)
  have q7 := hfA.cell (hc 7 _ rfl) (fun h => h)
  have q8 := hfA.cell (hc 8 _ rfl) (fun h => h)
  have q9 := hfA.cell (hc 9 _ rfl) (fun h => h)
  rw [hk] at q0
  rw [hpn] at q1
  obtain ⟨sn, HSN⟩ : ∃ sn, Hid (sn = str name) := ⟨_, rfl⟩
  rw [← HSN.out] at q1
  generalize str p.left.text = lt at *
  generalize str p.right.text = rt at *
  generalize p.left.isVar = lv at *
  generalize p.right.isVar = rv at *
  generalize p.left.place = lp at *
  generalize p.right.place = rp at *
  generalize p.atom.place = ap at *
  clear htx hrm hm hparts hvar hnd hx hargs hc p0 hfA
  go_enter Tryz.func65, Tryz.ntmps65
  go_wp2_with fail
  obtain ⟨wB, HWB⟩ : ∃ wB, Hid (wB = (wA.alloc (.cells #[.int .i64 0, .string sn, .slice ua n uc, .int .i64 (ap : Nat), .bool lv, .string lt, .int .i64 (lp : Nat), .bool rv, .string rt, .int .i64 (rp : Nat)] 67)).alloc (.cells #[.int .i64 0, .int .i64 0, .pointer none, .slice none 0 0] 202)) := ⟨_, rfl⟩
  have HGB : Hid (wA.grownBy wB none) := by rw [HWB.out]; exact fr_both (fr_alloc _ _ _) (fr_alloc _ _ _)
  have hsB : wB.heap.size = w.heap.size + 3 := by rw [HWB.out]; simp; omega
  have p1 : wB.heap[w.heap.size + 1]? = some (.cells #[.int .i64 0, .string sn, .slice ua n uc, .int .i64 (ap : Nat), .bool lv, .string lt, .int .i64 (lp : Nat), .bool rv, .string rt, .int .i64 (rp : Nat)] 67) := by
    rw [HWB.out, Below.heap_alloc _ _ _ (by simp; omega), ← hsA]; exact heap_alloc_new _ _
  have p2 : wB.heap[w.heap.size + 1 + 1]? = some (.cells #[.int .i64 0, .int .i64 0, .pointer none, .slice none 0 0] 202) := by
    rw [HWB.out]
    have := heap_alloc_new (wA.alloc (.cells #[.int .i64 0, .string sn, .slice ua n uc, .int .i64 (ap : Nat), .bool lv, .string lt, .int .i64 (lp : Nat), .bool rv, .string rt, .int .i64 (rp : Nat)] 67)) (.cells #[.int .i64 0, .int .i64 0, .pointer none, .slice none 0 0] 202)
    rw [World.size_alloc, hsA] at this; exact this
  have HP1 := hide p1
  have HP2 := hide p2
  have hfB := FrS.none (S := fun _ => False) HGB.out
  have HC0 := hide (hfB.cell c0 (fun h => h))
  have HC1 := hide (hfB.cell c1 (fun h => h))
  have HGW : Hid (w.grownBy wB none) := fr_both HGA.out HGB.out
  have huw : ∀ g, u.ownBlock = some g → g ≠ mv := by
    rintro g hg rfl
    obtain ⟨cur, h1⟩ := own_type HA.out hg
    obtain ⟨D, ⟨es, ck, hq, _⟩, _⟩ := HM.out.map
    rw [hq] at h1; cases h1
  have HTM := hide (terms_any S mv pb u p.atom.args wB (by obtain ⟨D, h1, h2⟩ := HM.out.map; exact ⟨D, h1.kept HGW.out (by simp), h2⟩) (HA.out.kept HGW.out (by cases u.ownBlock <;> simp)) HV.out HND.out (by omega) HX.out huw)
  rw [hue, hpl] at HTM
  refine wp_loop_rounds 2 ?_
  rw [rounds_succ]
  go_wp2_with fail
  rw [← HWB.out]
  refine HTM.out.mono ?_
  rintro _ w3 ⟨⟨vt, rfl, hvt⟩, hvm, hg3⟩
  have hf3 := FrS.of (S := fun j => j = mv) hg3 (fun g e => .inl (Option.some.inj e).symm)
  have HF3 := hide hf3
  have HVT := hide hvt
  have HVM := hide hvm
  have hs3 : wB.heap.size ≤ w3.heap.size := hg3.size
  have b1 := (hf3.block _ (by omega) (by show ¬ w.heap.size + 1 = mv; omega)).trans HP1.out
  have b2 := (hf3.block _ (by omega) (by show ¬ w.heap.size + 1 + 1 = mv; omega)).trans HP2.out
  obtain ⟨vta, vtc, hvte⟩ := own_form hvt
  have t0 := thaw_of b2 3
  have t1 : w3.cell? ⟨w.heap.size + 1 + 1, 3, none⟩ = some (.slice none 0 0) := cell_of b2 3 _ rfl
  obtain ⟨w4, HW4⟩ : ∃ w4, Hid (w4 = w3.setCell ⟨w.heap.size + 1 + 1, 3, none⟩ (.slice vta n vtc)) := ⟨_, rfl⟩
  have hw4 := HW4.out.symm
  have HF4 : Hid (FrS (fun j => j = w.heap.size + 1 + 1) w3 w4) := by rw [HW4.out]; exact FrS.of (fr_set w3 _ 3 _) (fun g e => .inl (Option.some.inj e).symm)
  have b4 : w4.heap[w.heap.size + 1 + 1]? = some (.cells #[.int .i64 0, .int .i64 0, .pointer none, .slice vta n vtc] 202 (0, 0)) := by rw [HW4.out]; exact blk_set b2 3 _
  have b41 := (HF4.out.block _ (by omega) (by show ¬ w.heap.size + 1 = w.heap.size + 1 + 1; omega)).trans b1
  have u1 : w4.cell? ⟨w.heap.size + 1, 1, none⟩ = some (.string sn) := cell_of b41 1 _ rfl
  have u2 : w4.cell? ⟨w.heap.size + 1, 2, none⟩ = some (.slice ua n uc) := cell_of b41 2 _ rfl
  have hm0 := HF4.out.cell (hf3.cell HC0.out (by show ¬ w.heap.size = mv; omega)) (by show ¬ w.heap.size = w.heap.size + 1 + 1; omega)
  have hSl : S < w.heap.size := (Array.getElem?_eq_some_iff.1 HTX.out.blk).1
  have HFW4 : Hid (FrS (fun j => j = mv) w w4) := FrS.trans (FrS.trans (FrS.none HGW.out) hf3 (fun j _ e => e)) HF4.out (fun j hj e => by have : j = w.heap.size + 1 + 1 := e; omega)
  have HT4 : Hid (TX base S nm rm l w4 vl D) := by
    refine HTX.out.kept HFW4.out (fun e => ?_) hn1 (fun gq cur fz _ hg e => ?_)
    · obtain ⟨D, ⟨es, ck, hq, _⟩, _⟩ := HM.out.map
      have := HTX.out.blk
      rw [show S = mv from e, hq] at this; cases this
    · obtain ⟨D, ⟨es, ck, hq, _⟩, _⟩ := HM.out.map
      rw [show gq = mv from e, hq] at hg; cases hg
  have HRO := hide (relation_old base S nm rm n l name R 1 w4 vl D HT4.out (HFW4.out.map HRM.out hn2) hname)
  rw [← HSN.out] at HRO
  have z0 := thaw_of b4 2
  have z1 : w4.cell? ⟨w.heap.size + 1 + 1, 2, none⟩ = some (.pointer none) := cell_of b4 2 _ rfl
  obtain ⟨w5, HW5⟩ : ∃ w5, Hid (w5 = w4.setCell ⟨w.heap.size + 1 + 1, 2, none⟩ (.pointer (some ⟨R, 0, none⟩))) := ⟨_, rfl⟩
  have hw5 := HW5.out.symm
  have HF5 : Hid (FrS (fun j => j = w.heap.size + 1 + 1) w4 w5) := by rw [HW5.out]; exact FrS.of (fr_set w4 _ 2 _) (fun g e => .inl (Option.some.inj e).symm)
  have b5 : w5.heap[w.heap.size + 1 + 1]? = some (.cells #[.int .i64 0, .int .i64 0, .pointer (some ⟨R, 0, none⟩), .slice vta n vtc] 202 (0, 0)) := by rw [HW5.out]; exact blk_set b4 2 _
  have y0 : w5.cell? ⟨w.heap.size + 1 + 1, 0, none⟩ = some (.int .i64 0) := cell_of b5 0 _ rfl
  have y1 : w5.cell? ⟨w.heap.size + 1 + 1, 1, none⟩ = some (.int .i64 0) := cell_of b5 1 _ rfl
  have y2 : w5.cell? ⟨w.heap.size + 1 + 1, 2, none⟩ = some (.pointer (some ⟨R, 0, none⟩)) := cell_of b5 2 _ rfl
  have y3 : w5.cell? ⟨w.heap.size + 1 + 1, 3, none⟩ = some (.slice vta n vtc) := cell_of b5 3 _ rfl
  have hs4 : w3.heap.size ≤ w4.heap.size := HF4.out.size
  have hs5 : w4.heap.size ≤ w5.heap.size := HF5.out.size
  clear hvt hvm hg3 hf3 b1 b2 b4 b41 b5 hfB p1 p2 c0 c1 q0 q1 q2 q3 q4 q5 q6 q7 q8 q9
  rw [hvte]
  go_wp2_with fail
  refine HRO.out.mono ?_
  rintro _ _ ⟨rfl, rfl⟩
  go_wp2_with (at_builtin; refine wpList_append_own_at _ rfl _ _ 141 rfl w.heap.size 202 i0 (.agg #[.int .i64 0, .int .i64 0, .pointer none, .slice none 0 0]) 4 48 Tryz.underlying141 hi hz0 hz1 hz2 rfl (by omega) (.slice none 0 0) 0 [] rfl (World.ownsRow_nil _ _ _ _) ⟨w5.heap.size, 0, none⟩ 1 1 [.int .i64 0, .int .i64 0, .pointer (some ⟨R, 0, none⟩), .slice vta n vtc] rfl rfl (fun j q hj => cell_new8 w5 _ _ _ j q hj) (by simp [Value.oneCell']) (by unfold maxLen; omega) (by omega) (by simp; omega) ?_)
  intro v2 w6 hown6 hg6 hnil6 hat6
  have HG6 : Hid (w5.grownBy w6 none) := fr_both (fr_alloc w5 _ none) hg6
  have HO6 := hide hown6
  obtain ⟨xa, xc, hv2⟩ := own_form hown6
  have HF35 : Hid (FrS (fun j => j = w.heap.size + 1 + 1) w3 w6) := FrS.trans (FrS.trans HF4.out HF5.out (fun j _ e => e)) (FrS.none (S := fun _ => False) HG6.out) (fun j _ e => e.elim)
  have HE1 : Hid (w6.ownsRow w.heap.size 204 2 (.slice vta n vtc) n (tvV n)) := by
    rw [← hvte]
    refine HF35.out.row (own_lower HVT.out (by omega)) (fun gq cur fz hq _ _ e => ?_)
    have := (own_blk HVT.out hq).1
    have e' : gq = w.heap.size + 1 + 1 := e
    omega
  have HE2 : Hid (VarM mv (p.atom.args.map (·.text)) w6) := by
    obtain ⟨D', h1, h2⟩ := HVM.out.map
    exact ⟨D', HF35.out.map h1 (by show ¬ mv = w.heap.size + 1 + 1; omega), h2⟩
  have HE3 : Hid (w.grownBy w6 (some mv)) := by
    have hh : FrS (fun j => j = mv) w w6 := FrS.trans (FrS.trans (FrS.none HGW.out) HF3.out (fun j _ e => e)) HF35.out (fun j hj e => by have : j = w.heap.size + 1 + 1 := e; omega)
    exact ⟨hh.os, hh.tape, hh.output, hh.size, fun j hj hn => hh.block j hj (fun e => hn (by rw [show j = mv from e]))⟩
  clear hown6 hg6 hnil6 hat6 y0 y1 y2 y3 z0 z1 t0 t1 u1 u2 hm0
  subst hv2
  go_wp2
  rw [rounds_succ]
  go_wp2
  go_ret
  exact ⟨⟨_, _, rfl, HO6.out, HE1.out⟩, HE2.out, HE3.out⟩
end Go.Proofs.YtdfbjnachakkhaaGreatDoor
