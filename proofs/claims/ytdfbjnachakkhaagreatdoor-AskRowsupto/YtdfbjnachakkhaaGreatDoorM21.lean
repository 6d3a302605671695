import Derived.Test.YtdfbjnachakkhaaGreatDoorM20
namespace Go.Proofs.YtdfbjnachakkhaaGreatDoor
open Go.ChangeShapes Go.WideShapes Go.ChangeAt Go.RowKit Go.Hands Go.WideMaps Go.Maps
set_option linter.unusedVariables false
set_option maxRecDepth 100000
/-- some of the row is put -/
def putV (n : Nat) (a : List Nat) (i : Nat) : List Value := numV (a.take i) ++ List.replicate (n - i) (.int .i64 (-1))
theorem putV_start (n : Nat) (a : List Nat) : putV n a 0 = noneV n := by simp [putV, numV, noneV]
theorem putV_end (n : Nat) (a : List Nat) : putV n a n = numV (a.take n) := by simp [putV]
theorem putV_at (n : Nat) (a : List Nat) (i : Nat) (h : i < n) (ha : n ≤ a.length) : (putV n a i)[i]? = some (.int .i64 (-1)) := by
  unfold putV
  have h1 : (numV (a.take i)).length = i := by simp [numV]; omega
  rw [List.getElem?_append_right (by omega), h1, Nat.sub_self, List.getElem?_replicate, if_pos (by omega)]
theorem putV_step (n : Nat) (a : List Nat) (i : Nat) (h : i < n) (ha : n ≤ a.length) : (putV n a i).set i (.int .i64 ((a[i]'(by omega) : Nat) : Int)) = putV n a (i + 1) := by
  unfold putV
  have h1 : (numV (a.take i)).length = i := by simp [numV]; omega
  obtain ⟨d, hd⟩ : ∃ d, n - i = d + 1 := ⟨n - i - 1, by omega⟩
  have hd2 : n - (i + 1) = d := by omega
  have h2 : numV (a.take (i + 1)) = numV (a.take i) ++ [.int .i64 ((a[i]'(by omega) : Nat) : Int)] := by
    unfold numV
    rw [List.take_succ_eq_append_getElem (by omega), List.map_append]; rfl
  rw [List.set_append_right _ _ (by omega), h1, Nat.sub_self, hd, hd2, List.replicate_succ, List.set_cons_zero, h2, List.append_assoc]
  rfl
set_option maxHeartbeats 1000000 in
theorem wayPut_any (B Bw n : Nat) (wv vt : Value) (a : List Nat) (w : World) (hw : w.ownsRow Bw 3 1 wv n (noneV n)) (h : w.ownsRow B 204 2 vt n (tvV n)) (hn : n ≤ 8) (ha : Row8N a) :
    Calls Tryz.prog 152 #[wv, vt, rowV a] w fun e w' => (∃ wb bb bv, e = .returned (.tuple #[.func (.func 190) #[] #[.pointer (some ⟨bb, 0, none⟩), .pointer (some ⟨wb, 0, none⟩)], .bool true]) ∧ w'.heap[wb]? = some (.cells #[wv] 151 (0, 0)) ∧ w'.heap[bb]? = some (.cells #[bv] 97 (0, 0)) ∧ w'.ownsRow w.heap.size 3 1 bv n (upV n) ∧ w.heap.size ≤ wb ∧ w.heap.size ≤ bb) ∧ w'.ownsRow Bw 3 1 wv n (numV (a.take n)) ∧ FrS (fun j => wv.ownBlock = some j) w w' := by
  obtain ⟨i0, hi, hz0, hz1, hz2⟩ := info_parts infoIntA
  have HO := hide h
  have HW := hide hw
  have HA := hide ha
  obtain ⟨va, vc, hve⟩ := own_form h
  obtain ⟨wa, wc, hwe⟩ := own_form hw
  obtain ⟨a0, a1, a2, a3, a4, a5, a6, a7, HAE⟩ : ∃ a0 a1 a2 a3 a4 a5 a6 a7, Hid (a = [a0, a1, a2, a3, a4, a5, a6, a7]) := by
    exact row8 a ha.1
  have hrv : rowV a = .agg #[.int .i64 (a0 : Nat), .int .i64 (a1 : Nat), .int .i64 (a2 : Nat), .int .i64 (a3 : Nat), .int .i64 (a4 : Nat), .int .i64 (a5 : Nat), .int .i64 (a6 : Nat), .int .i64 (a7 : Nat)] := by rw [HAE.out]; rfl
  rw [hve, hwe, hrv]
  clear h hw ha
  obtain ⟨wA, HWA⟩ : ∃ wA, Hid (wA = ((w.alloc (.cells #[.slice wa n wc] 151)).alloc (.cells #[.int .i64 (a0 : Nat), .int .i64 (a1 : Nat), .int .i64 (a2 : Nat), .int .i64 (a3 : Nat), .int .i64 (a4 : Nat), .int .i64 (a5 : Nat), .int .i64 (a6 : Nat), .int .i64 (a7 : Nat)] 193)).alloc (.cells #[.slice none 0 0] 97)) := ⟨_, rfl⟩
  have HGA : Hid (w.grownBy wA none) := by rw [HWA.out]; exact fr_both (fr_both (fr_alloc _ _ _) (fr_alloc _ _ _)) (fr_alloc _ _ _)
  have HSA : Hid (wA.heap.size = w.heap.size + 3) := by show _ = _; rw [HWA.out]; simp
  have HP0 : Hid (wA.heap[w.heap.size]? = some (.cells #[.slice wa n wc] 151 (0, 0))) := by rw [HWA.out]; exact al3_0 _ _ _ _
  have HP1 : Hid (wA.heap[w.heap.size + 1]? = some (.cells (numV a).toArray 193 (0, 0))) := by
    rw [HWA.out, HAE.out]; exact al3_1 _ _ _ _
  have HP2 : Hid (wA.heap[w.heap.size + 1 + 1]? = some (.cells #[.slice none 0 0] 97 (0, 0))) := by rw [HWA.out]; exact al3_2 _ _ _ _
  have hal : a.length = 8 := HA.out.1
  have hwb : ∀ q, wv.ownBlock = some q → q < w.heap.size := fun q hq => (own_blk HW.out hq).2
  have HWB := hide hwb
  clear hwb
  go_enter Tryz.func152, Tryz.ntmps152
  go_wp2_with fail
  rw [← HWA.out]
  go_loopw [17] (fun iv wr => ∃ (i : Nat) (ba : Option Addr) (bc : Nat), i ≤ n ∧ iv = .int .i64 i ∧ Hid (wr.ownsRow Bw 3 1 wv n (putV n a i)) ∧ Hid (wr.ownsRow w.heap.size 3 1 (.slice ba i bc) i (upV i)) ∧ Hid (∀ q, (Value.slice ba i bc).ownBlock = some q → w.heap.size + 3 ≤ q) ∧ Hid (wr.heap[w.heap.size]? = some (.cells #[.slice wa n wc] 151 (0, 0)) ∧ wr.heap[w.heap.size + 1]? = some (.cells (numV a).toArray 193 (0, 0)) ∧ wr.heap[w.heap.size + 1 + 1]? = some (.cells #[.slice ba i bc] 97 (0, 0))) ∧ Hid (FrS (fun j => wv.ownBlock = some j) w wr) ∧ Hid (w.heap.size + 3 ≤ wr.heap.size)) (fun iv _ => n - (intOf iv).toNat)
  case atStart =>
    refine ⟨0, none, 0, Nat.zero_le _, rfl, ?_, World.ownsRow_nil _ _ _ _, (fun q hq => (by cases hq)), ⟨HP0.out, HP1.out, HP2.out⟩, FrS.none HGA.out, by show _ ≤ _; have := HSA.out; omega⟩
    rw [putV_start]; exact HW.out.kept HGA.out (by cases wv.ownBlock <;> simp)
  case round =>
    obtain ⟨i, ba, bc, hin, rfl, HWR, HBR, HBL, HBX, HF, HSZ⟩ := hrel
    obtain ⟨b0, b1, b2⟩ := HBX.out
    by_cases hlt : i < n
    · obtain ⟨g, hg⟩ : ∃ g, va = some ⟨g, 0, none⟩ := by
        rcases HO.out.2 with ⟨e, e0⟩ | ⟨g, cap, cur, e, _⟩
        · omega
        · rw [hve] at e; injection e with e1 e2 e3; exact ⟨g, e1⟩
      obtain ⟨gw, hgw⟩ : ∃ g, wa = some ⟨g, 0, none⟩ := by
        rcases HW.out.2 with ⟨e, e0⟩ | ⟨g, cap, cur, e, _⟩
        · omega
        · rw [hwe] at e; injection e with e1 e2 e3; exact ⟨g, e1⟩
      have hob : vt.ownBlock = some g := by rw [hve, hg]; rfl
      have hobw : wv.ownBlock = some gw := by rw [hwe, hgw]; rfl
      have hgwl : gw < w.heap.size := HWB.out gw hobw
      have hngw : ¬ wv.ownBlock = some g := by
        intro e
        obtain ⟨cur, h1⟩ := own_type HO.out hob
        obtain ⟨cur2, h2⟩ := own_type HW.out e
        rw [h1] at h2; injection h2 with h2; injection h2 with _ h3; cases h3
      have z0 := HF.out.cell (own_cell HO.out hob (i * 2) _ (tvV_at0 hlt)) hngw
      have z1 := HF.out.cell (own_cell HO.out hob (i * 2 + 1) _ (tvV_at1 hlt)) hngw
      subst hg hgw
      obtain ⟨ai, HAI⟩ : ∃ ai : Nat, Hid (ai = a[i]'(by omega)) := ⟨a[i]'(by omega), (rfl : a[i]'(by omega) = _)⟩
      have haib : ai ≤ 1000000000000 := HA.out.2 ai (by rw [HAI.out]; exact List.getElem_mem _)
      obtain ⟨wb, HWB2⟩ : ∃ wb, Hid (wb = wr.alloc (.cells #[.bool true, .int .i64 (i : Nat)] 204)) := ⟨_, rfl⟩
      have hwb2 := HWB2.out.symm
      have HGB : Hid (wr.grownBy wb none) := by rw [HWB2.out]; exact fr_alloc _ _ _
      have hbl : wb.heap[wr.heap.size]? = some (.cells #[.bool true, .int .i64 (i : Nat)] 204) := by rw [HWB2.out]; exact heap_alloc_new _ _
      have hfb := FrS.none (S := fun _ => False) HGB.out
      have d0 : wb.cell? ⟨wr.heap.size, 0, none⟩ = some (.bool true) := cell_of hbl 0 _ rfl
      have d1 : wb.cell? ⟨wr.heap.size, 1, none⟩ = some (.int .i64 (i : Nat)) := cell_of hbl 1 _ rfl
      have d2 : wb.cell? ⟨w.heap.size, 0, none⟩ = some (.slice (some ⟨gw, 0, none⟩) n wc) := hfb.cell (cell_of b0 0 _ rfl) (fun h => h)
      have HTX := hide (text_none n i gw wc wb hlt hn (hfb.cell (own_cell HWR.out hobw i _ (putV_at n a i hlt (by omega))) (fun h => h)))
      have hwrb : wr.heap.size < wb.heap.size := by rw [HWB2.out]; simp
      clear hob hngw hfb
      have HBL2 := hide hbl
      clear hbl
      go_wp2_with fail
      refine HTX.out.mono ?_
      rintro _ w2 ⟨rfl, hg2⟩
      have HG2 : Hid (wr.grownBy w2 none) := fr_both HGB.out hg2
      have hsz2 : wb.heap.size ≤ w2.heap.size := hg2.size
      have hsr := HSZ.out
      have HD : Hid (∀ (j : Nat) (t : TypeId) (arr : Array Value), wr.heap[j]? = some (.cells arr t (0, 0)) → w2.drew.heap[j]? = some (.cells arr t (0, 0))) := fun j t arr hj => ((fr_both HG2.out (fr_draws w2 1 none)).block j (Array.getElem?_eq_some_iff.1 hj).1 (by simp)).trans hj
      have HWRd : Hid (w2.drew.ownsRow Bw 3 1 (.slice (some ⟨gw, 0, none⟩) n wc) n (putV n a i)) := by
        rw [← hwe]; exact HWR.out.kept (fr_both HG2.out (fr_draws w2 1 none)) (by cases wv.ownBlock <;> simp)
      have e0 := HD.out _ _ _ b0
      have e1 := HD.out _ _ _ b1
      have e2 := HD.out _ _ _ b2
      have et : w2.drew.heap[wr.heap.size]? = some (.cells #[.bool true, .int .i64 (i : Nat)] 204 (0, 0)) := ((fr_both hg2 (fr_draws w2 1 none)).block _ hwrb (by simp)).trans HBL2.out
      have c0 : w2.drew.cell? ⟨w.heap.size, 0, none⟩ = some (.slice (some ⟨gw, 0, none⟩) n wc) := cell_of e0 0 _ rfl
      have c1 : w2.drew.cell? ⟨w.heap.size + 1, i, none⟩ = some (.int .i64 (ai : Nat)) := cell_of e1 i _ (by rw [HAI.out, List.getElem?_toArray]; simp [numV, List.getElem?_eq_getElem (show i < a.length by omega)])
      have c2 : w2.drew.cell? ⟨wr.heap.size, 1, none⟩ = some (.int .i64 (i : Nat)) := cell_of et 1 _ rfl
      have c3 := own_cell HWRd.out (g := gw) rfl i _ (putV_at n a i hlt (by omega))
      have c4 := own_thaw HWRd.out i
      obtain ⟨w3, HW3⟩ : ∃ w3, Hid (w3 = w2.drew.setCell ⟨gw, i, none⟩ (.int .i64 (ai : Nat))) := ⟨_, rfl⟩
      have hw3 := HW3.out.symm
      have HF3 : Hid (FrS (fun j => j = gw) w2.drew w3) := by rw [HW3.out]; exact FrS.of (fr_set _ gw i _) (fun g e => .inl (Option.some.inj e).symm)
      have f0 := HF3.out.cell c0 (by show ¬ w.heap.size = gw; omega)
      have f1 := HF3.out.cell c1 (by show ¬ w.heap.size + 1 = gw; omega)
      have f2 := HF3.out.cell c2 (by show ¬ wr.heap.size = gw; omega)
      have e32 := (HF3.out.block _ (by show w.heap.size + 1 + 1 < w2.heap.size; omega) (by show ¬ w.heap.size + 1 + 1 = gw; omega)).trans e2
      have f3 : w3.cell? ⟨w.heap.size + 1 + 1, 0, none⟩ = some (.slice ba i bc) := cell_of e32 0 _ rfl
      have HWR3 : Hid (w3.ownsRow Bw 3 1 wv n (putV n a (i + 1))) := by
        have h1 := own_set HWRd.out i (.int .i64 (ai : Nat))
        rw [HAI.out, putV_step n a i hlt (by omega)] at h1
        rw [HW3.out, HAI.out, hwe]; exact h1
      have HBR3 : Hid (w3.ownsRow w.heap.size 3 1 (.slice ba i bc) i (upV i)) := HF3.out.row (HBR.out.kept (fr_both HG2.out (fr_draws w2 1 none)) (by cases (Value.slice ba i bc).ownBlock <;> simp)) (fun q cur fz hq _ hb e => by have e' : q = gw := e; omega)
      have HE3 : Hid (w3.heap[w.heap.size]? = some (.cells #[.slice (some ⟨gw, 0, none⟩) n wc] 151 (0, 0)) ∧ w3.heap[w.heap.size + 1]? = some (.cells (numV a).toArray 193 (0, 0)) ∧ w3.heap[w.heap.size + 1 + 1]? = some (.cells #[.slice ba i bc] 97 (0, 0))) := ⟨(HF3.out.block _ (by show w.heap.size < w2.heap.size; omega) (by show ¬ w.heap.size = gw; omega)).trans e0, (HF3.out.block _ (by show w.heap.size + 1 < w2.heap.size; omega) (by show ¬ w.heap.size + 1 = gw; omega)).trans e1, e32⟩
      have HFW3 : Hid (FrS (fun j => wv.ownBlock = some j) w w3) := FrS.trans (FrS.trans (S' := fun _ => False) HF.out (FrS.none (fr_both HG2.out (fr_draws w2 1 none))) (fun _ _ e => e.elim)) HF3.out (fun j _ e => by rw [hobw, show j = gw from e])
      have hs3 : w2.heap.size ≤ w3.heap.size := HF3.out.size
      clear hg2 d0 d1 d2 z0 z1 e0 e1 e2 et e32 b0 b1 b2
      have i0' : (0 : Int) ≤ (i : Int) := by omega
      have i1' : (i : Int) < 8 := by omega
      have i2' : (i : Int) < (n : Int) := by omega
      go_wp2_with fail
      go_region_held3 (fun w' => w'.cell? ⟨w.heap.size, 0, none⟩ = some (.slice (some ⟨gw, 0, none⟩) n wc) ∧ w'.cell? ⟨wr.heap.size, 1, none⟩ = some (.int .i64 (i : Nat)) ∧ w'.cell? ⟨w.heap.size + 1, i, none⟩ = some (.int .i64 (ai : Nat))) (go_keep) (fail)
      clear c0 c1 c2 c3 c4 hw3
      have hbs3 : w.heap.size ≤ w3.heap.size := by omega
      go_wp2_with (at_builtin; refine wpList_append_own_at _ rfl _ _ 97 rfl w.heap.size 3 i0 (.int .i64 0) 1 8 Tryz.underlying97 hi hz0 hz1 hz2 rfl (by omega) _ _ _ rfl (HBR3.out.alloc _) ⟨w3.heap.size, 0, none⟩ 1 1 [.int .i64 (i : Nat)] rfl rfl (cell_one_new _ _ _) (by simp [Value.oneCell']) (by unfold maxLen; omega) (by omega) (by simp; omega) ?_)
      intro v2 w5 hown5 hg5 hnil5 hat5
      have hnb : ∀ j, j < w.heap.size + 3 → ¬ (Value.slice ba i bc).ownBlock = some j := fun j hj e => by have := HBL.out j e; omega
      have HF5 : Hid (FrS (fun j => (Value.slice ba i bc).ownBlock = some j) w3 w5) := FrS.trans (S' := fun j => (Value.slice ba i bc).ownBlock = some j) (FrS.none (fr_alloc w3 _ none)) (FrS.of hg5 (fun g e => .inl e)) (fun j _ e => e)
      obtain ⟨g0, g1, g2⟩ := HE3.out
      have k0 := (HF5.out.block _ (by omega) (hnb _ (by omega))).trans g0
      have k1 := (HF5.out.block _ (by omega) (hnb _ (by omega))).trans g1
      have k2 := (HF5.out.block _ (by omega) (hnb _ (by omega))).trans g2
      have m0 : w5.cell? ⟨w.heap.size + 1 + 1, 0, none⟩ = some (.slice ba i bc) := cell_of k2 0 _ rfl
      have m1 := thaw_of k2 0
      obtain ⟨xa, xc, hv2⟩ := own_form hown5
      obtain ⟨w6, HW6⟩ : ∃ w6, Hid (w6 = w5.setCell ⟨w.heap.size + 1 + 1, 0, none⟩ (.slice xa (i + 1) xc)) := ⟨_, rfl⟩
      have hw6 := HW6.out.symm
      have HF6 : Hid (FrS (fun j => j = w.heap.size + 1 + 1) w5 w6) := by rw [HW6.out]; exact FrS.of (fr_set _ _ 0 _) (fun g e => .inl (Option.some.inj e).symm)
      have hs5 : w3.heap.size ≤ w5.heap.size := HF5.out.size
      have hs6 : w5.heap.size ≤ w6.heap.size := HF6.out.size
      have HBX6 : Hid (w6.heap[w.heap.size]? = some (.cells #[.slice (some ⟨gw, 0, none⟩) n wc] 151 (0, 0)) ∧ w6.heap[w.heap.size + 1]? = some (.cells (numV a).toArray 193 (0, 0)) ∧ w6.heap[w.heap.size + 1 + 1]? = some (.cells #[.slice xa (i + 1) xc] 97 (0, 0))) := ⟨(HF6.out.block _ (by omega) (by show ¬ w.heap.size = w.heap.size + 1 + 1; omega)).trans k0, (HF6.out.block _ (by omega) (by show ¬ w.heap.size + 1 = w.heap.size + 1 + 1; omega)).trans k1, by rw [HW6.out]; exact blk_set k2 0 _⟩
      have HWR6 : Hid (w6.ownsRow Bw 3 1 wv n (putV n a (i + 1))) := by
        refine HF6.out.row (HF5.out.row HWR3.out (fun q cur fz hq _ _ e => ?_)) (fun q cur fz hq _ _ e => ?_)
        · have := HWB.out q hq
          exact hnb q (by omega) e
        · have := HWB.out q hq
          have e' : q = w.heap.size + 1 + 1 := e
          omega
      have hv2b : ∀ q, v2.ownBlock = some q → w.heap.size + 3 ≤ q := by
        intro q hq
        rcases hat5 with e | e
        · exact HBL.out q (by rw [← e]; exact hq)
        · rw [hq] at e
          have := Option.some.inj e
          omega
      have HBR6 : Hid (w6.ownsRow w.heap.size 3 1 (.slice xa (i + 1) xc) (i + 1) (upV (i + 1))) := by
        rw [← upV_next, ← hv2]
        refine HF6.out.row hown5 (fun q cur fz hq _ _ e => ?_)
        have := hv2b q hq
        have e' : q = w.heap.size + 1 + 1 := e
        omega
      have HBL6 : Hid (∀ q, (Value.slice xa (i + 1) xc).ownBlock = some q → w.heap.size + 3 ≤ q) := by rw [← hv2]; exact hv2b
      have HF6w : Hid (FrS (fun j => wv.ownBlock = some j) w w6) := FrS.trans (FrS.trans HFW3.out HF5.out (fun j hj e => (hnb j (by omega) e).elim)) HF6.out (fun j hj e => by have e' : j = w.heap.size + 1 + 1 := e; omega)
      have HSZ6 : Hid (w.heap.size + 3 ≤ w6.heap.size) := by show _ ≤ _; omega
      clear hown5 hg5 hnil5 hat5 g0 g1 g2 k0 k1 k2 hnb hv2b f0 f1 f2 f3
      rw [hv2]
      go_wp2
      go_roundw
      case rel => exact ⟨i + 1, xa, xc, by omega, by go_num, HWR6, HBR6, HBL6, HBX6, HF6w, HSZ6⟩
      case measure => simp [intOf]; omega
    · have him : i = n := by omega
      subst him
      have HX0 := hide b0
      have HX2 := hide b2
      clear b0 b1 b2
      go_wp2
      refine bodyPost_ret (v := .tuple #[.func (.func 190) #[] #[.pointer (some ⟨w.heap.size + 1 + 1, 0, none⟩), .pointer (some ⟨w.heap.size, 0, none⟩)], .bool true]) (by simp [results, Tryz.results152, go_sem]) rfl ?_
      refine ⟨⟨w.heap.size, w.heap.size + 1 + 1, .slice ba i bc, rfl, HX0.out, HX2.out, HBR.out, Nat.le_refl _, by omega⟩, ?_, ?_⟩
      · rw [← putV_end, ← hwe]; exact HWR.out
      · rw [← hwe]; exact HF.out
/-- the blank way behind some that were taken back -/
def backV (a : List Value) (i : Nat) : List Value := List.replicate i (.int .i64 (-1)) ++ a.drop i
theorem backV_step (a : List Value) (i : Nat) (h : i < a.length) : (backV a i).set i (.int .i64 (-1)) = backV a (i + 1) := by
  unfold backV
  rw [List.set_append_right _ _ (by simp), List.length_replicate, Nat.sub_self, List.drop_eq_getElem_cons h, List.set_cons_zero, List.replicate_succ']
  simp
set_option maxHeartbeats 1000000 in
theorem takeBack_any (Bb Bw n wb bb : Nat) (wv bv : Value) (xs : List Value) (w : World) (hwb : w.cell? ⟨wb, 0, none⟩ = some wv) (hbb : w.cell? ⟨bb, 0, none⟩ = some bv) (hb : w.ownsRow Bb 3 1 bv n (upV n)) (hw : w.ownsRow Bw 3 1 wv n xs) (hn : n ≤ 8) (hne : ∀ q, wv.ownBlock = some q → q ≠ wb ∧ q ≠ bb ∧ bv.ownBlock ≠ some q) :
    Calls Tryz.prog 190 #[.pointer (some ⟨bb, 0, none⟩), .pointer (some ⟨wb, 0, none⟩)] w fun e w' => e = .returned (.tuple #[]) ∧ w'.ownsRow Bw 3 1 wv n (noneV n) ∧ FrS (fun j => wv.ownBlock = some j) w w' := by
  have HB := hide hb
  have HW := hide hw
  have HNE := hide hne
  obtain ⟨ba, bc, hbe⟩ := own_form hb
  obtain ⟨wa, wc, hwe⟩ := own_form hw
  have hxl : xs.length = n := by have := hw.1; rw [Nat.mul_one] at this; exact this
  have HWB := hide hwb
  rw [hbe] at hbb
  clear hb hw hne hwb
  go_enter Tryz.func190, Tryz.ntmps190
  go_wp2_with fail
  go_loopw [6] (fun iv wr => ∃ i : Nat, i ≤ n ∧ iv = .int .i64 i ∧ Hid (wr.ownsRow Bw 3 1 wv n (backV xs i)) ∧ Hid (FrS (fun j => wv.ownBlock = some j) w wr)) (fun iv _ => n - (intOf iv).toNat)
  case atStart => exact ⟨0, Nat.zero_le _, rfl, by simpa [backV] using HW, FrS.refl _ _⟩
  case round =>
    obtain ⟨i, hin, rfl, HWR, HF⟩ := hrel
    by_cases hlt : i < n
    · obtain ⟨g, hg⟩ : ∃ g, ba = some ⟨g, 0, none⟩ := by
        rcases HB.out.2 with ⟨e, e0⟩ | ⟨g, cap, cur, e, _⟩
        · omega
        · rw [hbe] at e; injection e with e1 e2 e3; exact ⟨g, e1⟩
      obtain ⟨gw, hgw⟩ : ∃ g, wa = some ⟨g, 0, none⟩ := by
        rcases HW.out.2 with ⟨e, e0⟩ | ⟨g, cap, cur, e, _⟩
        · omega
        · rw [hwe] at e; injection e with e1 e2 e3; exact ⟨g, e1⟩
      subst hg hgw
      have hobw : wv.ownBlock = some gw := by rw [hwe]; rfl
      obtain ⟨n1, n2, n3⟩ := HNE.out gw hobw
      have hobb : bv.ownBlock = some g := by rw [hbe]; rfl
      have c0 := HF.out.cell (own_cell HB.out hobb i _ (upV_at hlt)) (fun e => n3 (by rw [hobb]; rw [hobw] at e; exact e.symm))
      have c1 := HF.out.cell HWB.out (fun e => n1 (by rw [hobw] at e; exact Option.some.inj e))
      rw [hwe] at c1
      have hbl : (backV xs i).length = n := by simp [backV]; omega
      obtain ⟨u0, hu0⟩ : ∃ u, (backV xs i)[i]? = some u := ⟨_, List.getElem?_eq_getElem (by omega)⟩
      have c2 := own_cell HWR.out hobw i u0 hu0
      have hwr := HWR.out
      rw [hwe] at hwr
      have c3 := own_thaw hwr i
      have HWR2 : Hid ((wr.setCell ⟨gw, i, none⟩ (.int .i64 (-1))).ownsRow Bw 3 1 wv n (backV xs (i + 1))) := by
        rw [hwe, ← backV_step xs i (by omega)]; exact own_set hwr i _
      have HF2 : Hid (FrS (fun j => wv.ownBlock = some j) w (wr.setCell ⟨gw, i, none⟩ (.int .i64 (-1)))) := FrS.trans (S' := fun j => j = gw) HF.out (FrS.of (fr_set wr gw i _) (fun g e => .inl (Option.some.inj e).symm)) (fun j _ e => by rw [hobw, show j = gw from e])
      clear hwr hu0 hbl hobb n1 n2 n3
      go_wp2
      go_roundw
      case rel => exact ⟨i + 1, by omega, by go_num, HWR2, HF2⟩
      case measure => simp [intOf]; omega
    · have him : i = n := by omega
      subst him
      go_wp2
      go_end0
      refine ⟨rfl, ?_, HF.out⟩
      have := HWR.out
      unfold backV at this
      rw [List.drop_of_length_le (by omega), List.append_nil] at this
      exact this
end Go.Proofs.YtdfbjnachakkhaaGreatDoor

namespace Go.Proofs.YtdfbjnachakkhaaGreatDoor
open Go.ChangeShapes Go.WideShapes Go.ChangeAt Go.RowKit Go.Hands Go.WideMaps Go.Maps
set_option linter.unusedVariables false
set_option maxRecDepth 100000
set_option maxHeartbeats 1000000 in
theorem search_up (B m t : Nat) (v : Value) (w : World) (h : w.ownsRow B 3 1 v m (upV m)) (hm : m ≤ 1000000) (ht : t ≤ m) :
    Calls Tryz.prog 215 #[v, .int .i64 (t : Nat)] w fun e w' => (∃ b, e = .returned (.tuple #[.int .i64 (t : Nat), .bool b])) ∧ w.grownBy w' none := by
  have HO := hide h
  have HL := hide lessI
  obtain ⟨va, vc, hve⟩ := own_form h
  rw [hve]
  clear h
  go_enter Tryz.func215, Tryz.ntmps215
  go_wp2_with fail
  go_loopw [7, 8] (fun iv jv wr => ∃ i j : Nat, i ≤ t ∧ t ≤ j ∧ j ≤ m ∧ iv = .int .i64 i ∧ jv = .int .i64 j ∧ Hid (w.grownBy wr none)) (fun iv jv _ => (intOf jv).toNat - (intOf iv).toNat)
  case atStart => exact ⟨0, m, by omega, by omega, by omega, rfl, rfl, fr_refl _ _⟩
  case round =>
    obtain ⟨i, j, hi1, hj1, hj2, rfl, rfl, HG⟩ := hrel
    by_cases hlt : i < j
    · obtain ⟨h, HH⟩ : ∃ h, Hid (h = (i + j) / 2) := ⟨_, rfl⟩
      have hh1 : i ≤ h := by rw [HH.out]; omega
      have hh2 : h < j := by rw [HH.out]; omega
      obtain ⟨g, hg⟩ : ∃ g, va = some ⟨g, 0, none⟩ := by
        rcases HO.out.2 with ⟨e, e0⟩ | ⟨g, cap, cur, e, _⟩
        · omega
        · rw [hve] at e; injection e with e1 e2 e3; exact ⟨g, e1⟩
      subst hg
      have hob : v.ownBlock = some g := by rw [hve]; rfl
      have c0 := (FrS.none (S := fun _ => False) HG.out).cell (own_cell HO.out hob h _ (upV_at (by omega))) (fun h => h)
      have hq1 : (i + j) / 2 = h := HH.out.symm
      have hq2 : ((i : Int) + (j : Int)) / 2 = (h : Int) := by have := HH.out; omega
      have HLH := hide (lessI h t wr)
      clear hob
      go_wp2_with fail
      refine HLH.out.mono ?_
      rintro _ _ ⟨rfl, rfl⟩
      clear c0 hq1 hq2
      by_cases hht : h < t
      · rw [show decide (h < t) = true from by simp [hht]]
        go_wp2
        go_roundw
        case rel => exact ⟨h + 1, j, by omega, by omega, by omega, by go_num, rfl, HG⟩
        case measure => simp [intOf]; omega
      · rw [show decide (h < t) = false from by simp [hht]]
        go_wp2
        go_roundw
        case rel => exact ⟨i, h, by omega, by omega, by omega, rfl, by go_num, HG⟩
        case measure => simp [intOf]; omega
    · have hit : i = t := by omega
      subst hit
      by_cases hnm : i < m
      · obtain ⟨g, hg⟩ : ∃ g, va = some ⟨g, 0, none⟩ := by
          rcases HO.out.2 with ⟨e, e0⟩ | ⟨g, cap, cur, e, _⟩
          · omega
          · rw [hve] at e; injection e with e1 e2 e3; exact ⟨g, e1⟩
        subst hg
        have hob : v.ownBlock = some g := by rw [hve]; rfl
        have c1 := own_cell HO.out hob i _ (upV_at hnm)
        have hd := fun k => FrS.none (S := fun _ => False) (fr_both HG.out (fr_draws wr k none))
        have d0 := fun k => (hd k).cell c1 (fun h => h)
        have d1 := (FrS.none (S := fun _ => False) HG.out).cell c1 (fun h => h)
        have heq : ((i : Int) == (i : Int)) = true := by simp
        have i1 : (i : Int) < (m : Int) := by omega
        have i2 : (0 : Int) ≤ (i : Int) := by omega
        clear hob c1 hd
        go_wp2
        refine bodyPost_ret (v := .tuple #[.int .i64 (i : Nat), .bool true]) (by simp [results, Tryz.results215, go_sem]) rfl ⟨⟨_, rfl⟩, HG.out⟩
      · have hlt2 : ¬ ((i : Int) < (m : Int)) := by omega
        go_wp2
        refine bodyPost_ret (v := .tuple #[.int .i64 (i : Nat), .bool false]) (by simp [results, Tryz.results215, go_sem]) rfl ⟨.inl rfl, HG.out⟩
set_option maxHeartbeats 1000000 in
theorem cut_all (B m : Nat) (v : Value) (w : World) (h : w.ownsRow B 3 1 v m (upV m)) (hm : m ≤ 1000000) :
    Calls Tryz.prog 202 #[v, .agg #[.int .i64 0, .int .i64 (m : Nat)]] w fun e w' => e = .returned v ∧ w.grownBy w' none := by
  have HS0 : Hid (∀ W, w.grownBy W none → Calls Tryz.prog 215 #[v, .int .i64 0] W fun e w' => (∃ b, e = .returned (.tuple #[.int .i64 0, .bool b])) ∧ W.grownBy w' none) := fun W hg => search_up B m 0 v W (h.kept hg (by cases v.ownBlock <;> simp)) hm (by omega)
  have HS1 : Hid (∀ W, w.grownBy W none → Calls Tryz.prog 215 #[v, .int .i64 (m : Nat)] W fun e w' => (∃ b, e = .returned (.tuple #[.int .i64 (m : Nat), .bool b])) ∧ W.grownBy w' none) := fun W hg => search_up B m m v W (h.kept hg (by cases v.ownBlock <;> simp)) hm (by omega)
  have hcap : ∃ va vc, v = .slice va m vc ∧ m ≤ vc ∧ (va = none → m = 0 ∧ vc = 0) ∧ (∀ x, va = some x → ∃ g, x = ⟨g, 0, none⟩) := by
    rcases h.2 with ⟨e, e0⟩ | ⟨g, cap, cur, e, _, _, hn, _⟩
    · exact ⟨none, 0, by rw [e, e0], by omega, fun _ => ⟨e0, rfl⟩, fun x hx => (by cases hx)⟩
    · exact ⟨_, cap, e, hn, (fun hx => (by cases hx)), fun x hx => ⟨g, (Option.some.inj hx).symm⟩⟩
  obtain ⟨va, vc, hve, hmc, hnil, hsome⟩ := hcap
  rw [hve] at HS0 HS1 ⊢
  clear h
  obtain ⟨wA, HWA⟩ : ∃ wA, Hid (wA = w.alloc (.cells #[.int .i64 0, .int .i64 (m : Nat)] 164)) := ⟨_, rfl⟩
  have hwA := HWA.out.symm
  have HGA : Hid (w.grownBy wA none) := by rw [HWA.out]; exact fr_alloc _ _ _
  have p0 : wA.heap[w.heap.size]? = some (.cells #[.int .i64 0, .int .i64 (m : Nat)] 164) := by rw [HWA.out]; exact heap_alloc_new _ _
  have c0 : wA.cell? ⟨w.heap.size, 0, none⟩ = some (.int .i64 0) := cell_of p0 0 _ rfl
  have c1 : wA.cell? ⟨w.heap.size, 1, none⟩ = some (.int .i64 (m : Nat)) := cell_of p0 1 _ rfl
  have i0 : (m : Int) ≤ (vc : Int) := by omega
  clear p0
  cases va with
  | none =>
    obtain ⟨h0, h1⟩ := hnil rfl
    subst h0 h1
    clear hwA c0 c1
    go_enter Tryz.func202, Tryz.ntmps202
    go_wp2_with fail
    refine (HS0.out _ (fr_alloc _ _ _)).mono ?_
    rintro _ w1 ⟨⟨b1, rfl⟩, hg1⟩
    have HG1 : Hid (w.grownBy w1 none) := fr_both (fr_alloc _ _ _) hg1
    have d1 : w1.cell? ⟨w.heap.size, 1, none⟩ = some (.int .i64 0) := (FrS.none (S := fun _ => False) hg1).cell (cell_of (heap_alloc_new w (.cells #[.int .i64 0, .int .i64 0] 164)) 1 _ rfl) (fun h => h)
    clear hg1
    go_wp2_with fail
    refine (HS1.out w1 HG1.out).mono ?_
    rintro _ w2 ⟨⟨b2, rfl⟩, hg2⟩
    have HG2 : Hid (w.grownBy w2 none) := fr_both HG1.out hg2
    clear hg2
    go_wp2
    go_ret
    exact ⟨rfl, HG2.out⟩
  | some x =>
    obtain ⟨g, rfl⟩ := hsome x rfl
    go_enter Tryz.func202, Tryz.ntmps202
    go_wp2_with fail
    refine (HS0.out wA HGA.out).mono ?_
    rintro _ w1 ⟨⟨b1, rfl⟩, hg1⟩
    have HG1 : Hid (w.grownBy w1 none) := fr_both HGA.out hg1
    have d1 := (FrS.none (S := fun _ => False) hg1).cell c1 (fun h => h)
    clear hg1
    go_wp2_with fail
    refine (HS1.out w1 HG1.out).mono ?_
    rintro _ w2 ⟨⟨b2, rfl⟩, hg2⟩
    have HG2 : Hid (w.grownBy w2 none) := fr_both HG1.out hg2
    clear hg2
    go_wp2
    go_ret
    exact ⟨rfl, HG2.out⟩
end Go.Proofs.YtdfbjnachakkhaaGreatDoor
