/-
  The document's Pick, walked.
-/
import Derived.Test.YtaeloanlllaphaaDoorRefAddD
import Derived.Test.YtaeloanlllaphaaDoorPickW
import Derived.Deep.AppendLies
import Derived.Deep.RegionLaw
namespace Go.Proofs.YtaeloanlllaphaaDoor
open Go.ChangeShapes Go.WideShapes Go.ChangeAt Go.RowKit
set_option linter.unusedVariables false
theorem AccD.kept {base : Nat} {w w' : World} {v : Value} {K : List (List (List UInt8))} (h : AccD base w v K) (hb : Below w.heap.size w w') : AccD base w' v K := by
  obtain ⟨us, h1, h2, h3, h4⟩ := h
  exact ⟨us, h1.kept hb, h2, h3, Nat.le_trans h4 hb.size⟩
set_option maxRecDepth 100000 in
set_option maxHeartbeats 1000000 in
theorem rpick_any (va vc : Value) (xs : List Value) (la : List (List (List UInt8))) (cols : List Int) (w : World) (ha : Rows2 w va xs la) (hc : Ints w vc cols) (hla : la.length ≤ 1073741824) (hcl : cols.length ≤ 1073741824) (hra : ∀ r ∈ la, r.length ≤ 1099511627776) :
    Calls Tryd.prog 17 #[va, vc] w fun e w' => (∃ v, e = .returned v ∧ AccD w.heap.size w' v (pickL la cols)) ∧ Below w.heap.size w w' := by
  obtain ⟨i0, hi, hz0, hz1, hz2⟩ := info_parts info9
  have HRA : Hid (∀ r ∈ la, r.length ≤ 1099511627776) := hra
  obtain ⟨aa, ca, rfl, hca⟩ := rows_cell ha
  have HCA : Hid (∀ k (hk : k < la.length), ∃ b off x, aa = some ⟨b, off, none⟩ ∧ w.cell? ⟨b, off + k, none⟩ = some x ∧ b < w.heap.size ∧ Strs w x la[k]) := hca
  obtain ⟨cca, ccc, rfl, hcz, hcc⟩ := hc
  have HCC : Hid (∀ k (hk : k < cols.length), ∃ b off, cca = some ⟨b, off, none⟩ ∧ w.cell? ⟨b, off + k, none⟩ = some (.int .i64 cols[k]) ∧ b < w.heap.size) := hcc
  have HCZ : Hid (∀ z ∈ cols, -9223372036854775808 ≤ z ∧ z ≤ 9223372036854775807) := hcz
  clear ha hca hra hcz hcc
  go_enter Tryd.func17, Tryd.ntmps17
  go_wp2
  go_loopw [5, 6] (fun lv iv wr => ∃ (k : Nat) (K : List (List (List UInt8))), k ≤ la.length ∧ iv = .int .i64 k ∧ K.length ≤ k ∧ Hid (AccD w.heap.size wr lv K) ∧ Hid (K = ((la.take k).filterMap fun r => takeL r cols).foldl insL []) ∧ Hid (Below w.heap.size w wr)) (fun _ iv _ => la.length - (intOf iv).toNat)
  case atStart => exact ⟨0, [], by omega, rfl, by simp, AccD.start (Nat.le_refl _), rfl, Below.refl _ _⟩
  case round =>
    obtain ⟨i, K, hik, rfl, hKl, HA, HK, HB⟩ := hrel
    obtain ⟨pa, pc, hpe⟩ := HA.out.shape
    subst hpe
    by_cases hlt : i < la.length
    · obtain ⟨b, off, x, rfl, c0, hbw, hst⟩ := HCA.out i hlt
      obtain ⟨xa, xc, hxe, hxs⟩ := strs_cell hst
      subst hxe
      have HXS : Hid (∀ k (hk : k < la[i].length), ∃ b off, xa = some ⟨b, off, none⟩ ∧ w.cell? ⟨b, off + k, none⟩ = some (.string (str la[i][k])) ∧ b < w.heap.size) := hxs
      have HC0 : Hid (w.cell? ⟨b, off + i, none⟩ = some (.slice xa la[i].length xc) ∧ b < w.heap.size) := ⟨c0, hbw⟩
      have hrl : la[i].length ≤ 1099511627776 := HRA.out _ (List.getElem_mem hlt)
      obtain ⟨r, HR⟩ : ∃ r, Hid (r = la[i]) := ⟨la[i], (rfl : la[i] = _)⟩
      rw [← HR.out] at HC0 hrl
      clear c0 hbw hst hxs
      obtain ⟨wm, rfl⟩ : ∃ wm, wm = wr := ⟨_, rfl⟩
      go_wp2
      go_loopw [7, 8, 9] (fun rv ov kv wr => ∃ (k : Nat) (dn : List (List UInt8)) (ok : Bool), k ≤ cols.length ∧ kv = .int .i64 k ∧ ov = .bool ok ∧ dn.length ≤ k ∧ Hid (ok = (cols.take k).all (goodC r)) ∧ Hid (ok = true → dn = (cols.take k).map (atC r)) ∧ Hid (wr.ownsRow wm.heap.size 9 1 rv dn.length (ts dn)) ∧ Hid (Below wm.heap.size wm wr)) (fun _ _ kv _ => cols.length - (intOf kv).toNat)
      case atStart => exact ⟨0, [], true, by omega, rfl, rfl, by simp, rfl, fun _ => rfl, World.ownsRow_nil _ _ _ _, Below.refl _ _⟩
      case round =>
        obtain ⟨k, dn, ok, hkk, rfl, rfl, hdl, HOK, HDN, HO, HBM⟩ := hrel
        have HB2 : Hid (Below w.heap.size w wr) := HB.out.trans (HBM.out.mono HB.out.size)
        obtain ⟨ra, rc, hre⟩ := own_shape3 HO.out
        subst hre
        by_cases hltk : k < cols.length
        · obtain ⟨cb, co, rfl, d0, dbw⟩ := HCC.out k hltk
          have cc := (HB2.out.cell (p := ⟨cb, co + k, none⟩) dbw).trans d0
          have cx := (HB2.out.cell (p := ⟨b, off + i, none⟩) HC0.out.2).trans HC0.out.1
          have hzb := HCZ.out _ (List.getElem_mem hltk)
          have HTK : Hid (cols.take (k + 1) = cols.take k ++ [cols[k]]) := List.take_succ_eq_append_getElem hltk
          obtain ⟨c, HCK⟩ : ∃ c : Int, Hid (c = cols[k]) := ⟨cols[k], (rfl : cols[k] = _)⟩
          rw [← HCK.out] at cc hzb HTK
          clear d0
          by_cases hneg : c < 0
          · have HF : Hid (false = (cols.take (k + 1)).all (goodC r)) := by
              show _ = _
              rw [HTK.out, List.all_append]
              have : goodC r c = false := by simp [goodC]; omega
              simp [this]
            have HFX : Hid (false = true → dn = (cols.take (k + 1)).map (atC r)) := fun h => by cases h
            go_wp2
            go_quiet (fail)
            go_wp2
            go_roundw
            case rel => exact ⟨k + 1, dn, false, by omega, by go_num, rfl, by omega, HF, HFX, own_kept2 HO.out _, below_drewN HBM.out _⟩
            case measure => simp [intOf]; omega
          · obtain ⟨m, rfl⟩ := Int.eq_ofNat_of_zero_le (by omega : 0 ≤ c)
            by_cases hge : m < r.length
            · have hge2 : m < la[i].length := by rw [← HR.out]; exact hge
              obtain ⟨xb, xo, rfl, x0, xbw⟩ := HXS.out m hge2
              have hgc : goodC r (m : Int) = true := goodC_true (by omega) (by omega)
              have HF : Hid (ok = (cols.take (k + 1)).all (goodC r)) := by
                show _ = _
                rw [HTK.out, List.all_append, ← HOK.out]
                simp [hgc]
              have HAT : Hid (la[i][m] = atC r (m : Int)) := by
                show _ = _
                rw [HR.out]
                unfold atC
                simp [List.getD, List.getElem?_eq_getElem hge2]
              obtain ⟨tx, HTX⟩ : ∃ tx, Hid (tx = la[i][m]) := ⟨la[i][m], (rfl : la[i][m] = _)⟩
              rw [← HTX.out] at x0 HAT
              obtain ⟨st, HST⟩ : ∃ st, Hid (st = str tx) := ⟨_, (rfl : str tx = _)⟩
              rw [← HST.out] at x0
              have HDN2 : Hid (ok = true → dn ++ [tx] = (cols.take (k + 1)).map (atC r)) := by
                intro h
                rw [HTK.out, List.map_append, ← HDN.out h, HAT.out]; rfl
              have rx := (HB2.out.cell (p := ⟨xb, xo + m, none⟩) xbw).trans x0
              clear x0 hgc
              go_wp2
              go_quiet (fail)
              obtain ⟨wq, HWQ⟩ : ∃ wq, Hid (wq = wr.drewN nq) := ⟨_, rfl⟩
              have cc2 : wq.cell? ⟨cb, co + k, none⟩ = some (.int .i64 (m : Int)) := by rw [HWQ.out]; exact cc
              have cx2 : wq.cell? ⟨b, off + i, none⟩ = some (.slice (some ⟨xb, xo, none⟩) r.length xc) := by rw [HWQ.out]; exact cx
              have rx2 : wq.cell? ⟨xb, xo + m, none⟩ = some (.string st) := by rw [HWQ.out]; exact rx
              have HOQ : Hid ((wq.drewN 1).ownsRow wm.heap.size 9 1 (.slice ra dn.length rc) dn.length (ts dn)) := by rw [HWQ.out]; exact own_kept2 (own_kept2 HO.out _) _
              have HBQ : Hid (Below wm.heap.size wm wq) := by rw [HWQ.out]; exact below_drewN HBM.out _
              have hbs := HBQ.out.size
              rw [← HWQ.out]
              clear HWQ cc cx rx HO HB2 HBM
              go_wp2_with fail
              go_region_law
                (first
                  | (refine step_append_lies _ rfl _ _ 33 rfl wm.heap.size 9 i0 (.string { data := #[] }) 1 16 Tryd.underlying33 hi hz0 hz1 hz2 rfl (by decide) _ _ _ rfl (HOQ.out.alloc _) ⟨wq.heap.size, 0, none⟩ 1 1 [.string st] rfl rfl (fun j' u hj' => by match j', hj' with | 0, hj' => simp at hj'; subst hj'; exact World.cell?_alloc_at _ _ _ _ rfl) (fun u hu => by simp at hu; subst hu; rfl) (by decide) (by unfold maxLen; omega) (by omega) (by simp; omega) _ rfl ?_; intro g4 cp w4 hown4 hg4 hat4 hlt4))
              all_goals
                have HO4 : Hid (w4.ownsRow wm.heap.size 9 1 (.slice (some ⟨g4, 0, none⟩) (dn.length + 1) cp) (dn ++ [tx]).length (ts (dn ++ [tx]))) := by
                  show World.ownsRow _ _ _ _ _ _ _
                  rw [← ts_snoc, ← HST.out, List.length_append]; exact hown4
                have HB4 : Hid (Below wm.heap.size wm w4) := by
                  have h1 : Below wm.heap.size wm (wq.drewN 1) := below_drewN HBQ.out 1
                  exact (h1.alloc h1.size _).grown hg4 (by simp; omega) (fun q hq => (HOQ.out.lt q hq).1)
                clear hown4 hg4 hat4 hlt4
              all_goals go_wp2
              all_goals go_roundw
              all_goals first | exact ⟨k + 1, dn ++ [tx], ok, by omega, by go_num, rfl, by simp; omega, HF, HDN2, HO4, HB4⟩ | (simp [intOf]; omega)
            · have HF : Hid (false = (cols.take (k + 1)).all (goodC r)) := by
                show _ = _
                rw [HTK.out, List.all_append]
                have : goodC r (m : Int) = false := by simp [goodC]; omega
                simp [this]
              have HFX : Hid (false = true → dn = (cols.take (k + 1)).map (atC r)) := fun h => by cases h
              go_wp2
              go_quiet (fail)
              go_wp2
              go_roundw
              case rel => exact ⟨k + 1, dn, false, by omega, by go_num, rfl, by omega, HF, HFX, own_kept2 HO.out _, below_drewN HBM.out _⟩
              case measure => simp [intOf]; omega
        · have HFN : Hid ((la.take (i + 1)).filterMap (fun r => takeL r cols) = (la.take i).filterMap (fun r => takeL r cols) ++ (takeL r cols).toList) := by
            show _ = _
            rw [HR.out]; exact filterMap_next la (fun r => takeL r cols) i hlt
          have HOK2 : Hid (ok = cols.all (goodC r)) := by have := HOK.out; rw [List.take_of_length_le (by omega)] at this; exact this
          cases ok with
          | true =>
            have HDE : Hid (dn = cols.map (atC r)) := by have := HDN.out rfl; rw [List.take_of_length_le (by omega)] at this; exact this
            have HKN : Hid (insL K dn = ((la.take (i + 1)).filterMap fun r => takeL r cols).foldl insL []) := by
              show _ = _
              have e : takeL r cols = some dn := by unfold takeL; rw [← HOK2.out, if_pos rfl, HDE.out]
              rw [HFN.out, e, List.foldl_append, ← HK.out]; rfl
            have hKl2 := insL_length K dn
            have HA2 : Hid (AccD w.heap.size wr (.slice pa K.length pc) K) := HA.out.kept HBM.out
            have HO2 : Hid (wr.ownsRow w.heap.size 9 1 (.slice ra dn.length rc) dn.length (ts dn)) := own_mono HO.out HB.out.size
            go_wp2_with fail
            refine (add_accD w.heap.size _ _ _ K dn HA2.out HO2.out (by omega) (by omega)).mono ?_
            rintro e w3 ⟨v3, rfl, hacc, hb3⟩
            have HA3 : Hid (AccD w.heap.size w3 v3 (insL K dn)) := hacc
            have HB3 : Hid (Below w.heap.size w w3) := HB2.out.trans hb3
            clear hacc hb3
            go_wp2
            exact ⟨⟨i + 1, _, by omega, by go_num, by omega, HA3, HKN, HB3⟩, by simp [intOf]; omega⟩
          | false =>
            have HKN : Hid (K = ((la.take (i + 1)).filterMap fun r => takeL r cols).foldl insL []) := by
              show _ = _
              have e : takeL r cols = none := by unfold takeL; rw [← HOK2.out]; rfl
              rw [HFN.out, e, Option.toList_none, List.append_nil, ← HK.out]
            go_wp2
            exact ⟨⟨i + 1, K, by omega, by go_num, by omega, HA.out.kept HBM.out, HKN, HB2⟩, by simp [intOf]; omega⟩
    · have HE : Hid (K = pickL la cols) := by show _ = _; rw [HK.out, List.take_of_length_le (by omega), pickL, sortL]
      go_wp2
      go_ret
      exact ⟨⟨_, rfl, by rw [← HE.out]; exact HA.out⟩, HB.out⟩
end Go.Proofs.YtaeloanlllaphaaDoor
