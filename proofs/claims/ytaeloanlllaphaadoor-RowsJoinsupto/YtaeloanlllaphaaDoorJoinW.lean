/-
  The program's Join, walked.
-/
import Derived.Test.YtaeloanlllaphaaDoorGrouped
import Derived.Test.YtaeloanlllaphaaDoorPickW
import Derived.Test.YtaeloanlllaphaaDoorConcat
namespace Go.Proofs.YtaeloanlllaphaaDoor
open Go.ChangeShapes Go.WideShapes Go.ChangeAt Go.RowKit Go.WideMaps Go.Maps
set_option linter.unusedVariables false
theorem flatMap_next (L : List (List (List UInt8))) (f : List (List UInt8) → List (List (List UInt8))) (k : Nat) (h : k < L.length) : (L.take (k + 1)).flatMap f = (L.take k).flatMap f ++ f L[k] := by
  rw [List.take_succ_eq_append_getElem h, List.flatMap_append]; simp
theorem Deep.lower {base b2 : Nat} {w : World} {v : Value} {us : List Value} {L : List (List (List UInt8))} (h : Deep base w v us L) (hb : b2 ≤ base) : Deep b2 w v us L :=
  ⟨own_mono h.1 hb, h.2.1, fun i x r hx hr => own_mono (h.2.2 i x r hx hr) hb⟩
theorem zip_strs {w : World} {v : Value} {us : List Value} {B : List (List (List UInt8))} (h : Rows2 w v us B) (p : Value × List (List UInt8)) (hp : p ∈ us.zip B) : Strs w p.1 p.2 := by
  obtain ⟨i, hi, rfl⟩ := List.getElem_of_mem hp
  have h1 := h.2.1
  rw [List.length_zip] at hi
  rw [List.getElem_zip]
  exact h.2.2 i _ _ (val_at (by omega)) (row_at (by omega))
set_option maxRecDepth 100000 in
set_option maxHeartbeats 4000000 in
theorem join_any (va vb vo : Value) (xs ys : List Value) (la lb : List (List (List UInt8))) (on : List (Int × Int)) (w : World) (ha : Rows2 w va xs la) (hb : Rows2 w vb ys lb) (ho : Prs w vo on) (ht : Tab w) (hla : la.length ≤ 1048576) (hlb : lb.length ≤ 1048576) (hol : on.length ≤ 1048576)
    (hra : ∀ r ∈ la, r.length ≤ 1048576 ∧ ∀ t ∈ r, t.length ≤ 1048576) (hrb : ∀ r ∈ lb, r.length ≤ 1048576 ∧ ∀ t ∈ r, t.length ≤ 1048576) :
    Calls Tryd.prog 14 #[va, vb, vo] w fun e w' => (∃ v us, e = .returned v ∧ Deep w.heap.size w' v us (joinL la lb on)) ∧ Below w.heap.size w w' := by
  obtain ⟨i0, hi, hz0, hz1, hz2⟩ := info_parts infoRow
  have HA : Hid (Rows2 w va xs la) := ha
  have HB : Hid (Rows2 w vb ys lb) := hb
  have HO : Hid (Prs w vo on) := ho
  have HT : Hid (Tab w) := ht
  have HRA : Hid (∀ r ∈ sortL la, r.length ≤ 1048576 ∧ ∀ t ∈ r, t.length ≤ 1048576) := fun r hr => hra r ((mem_sortL la r).1 hr)
  have HRB : Hid (∀ r ∈ sortL lb, r.length ≤ 1048576 ∧ ∀ t ∈ r, t.length ≤ 1048576) := fun r hr => hrb r ((mem_sortL lb r).1 hr)
  have HRA0 : Hid (∀ r ∈ la, r.length ≤ 1099511627776) := fun r hr => by have := (hra r hr).1; omega
  have HRB0 : Hid (∀ r ∈ lb, r.length ≤ 1099511627776) := fun r hr => by have := (hrb r hr).1; omega
  obtain ⟨aa, ca, rfl, -⟩ := rows_cell ha
  obtain ⟨ab, cb, rfl, -⟩ := rows_cell hb
  obtain ⟨ao, co, rfl, -⟩ := ho
  have hsa := sortL_len la
  have hsb := sortL_len lb
  clear ha hb hra hrb ht
  go_enter Tryd.func14, Tryd.ntmps14
  go_wp2_with fail
  refine (rising_any _ xs la _ HA.out (by omega) HRA0.out).mono ?_
  rintro e wa ⟨⟨v1, ua, rfl, hd1⟩, hb1⟩
  have HDA : Hid (Deep w.heap.size wa v1 ua (sortL la)) := hd1
  have HBA : Hid (Below w.heap.size w wa) := hb1
  clear hd1 hb1
  go_wp2_with fail
  refine (rising_any _ ys lb _ (HB.out.kept HBA.out) (by omega) HRB0.out).mono ?_
  rintro e wb ⟨⟨v2, ub, rfl, hd2⟩, hb2⟩
  have HDB : Hid (Deep wa.heap.size wb v2 ub (sortL lb)) := hd2
  have HBB : Hid (Below w.heap.size w wb) := HBA.out.trans (hb2.mono HBA.out.size)
  have HRA1 : Hid (Rows2 wb v1 ua (sortL la)) := (HDA.out.rows).kept hb2
  have HRB1 : Hid (Rows2 wb v2 ub (sortL lb)) := HDB.out.rows
  clear hd2 hb2
  obtain ⟨A, HAE⟩ : ∃ A, Hid (A = sortL la) := ⟨_, rfl⟩
  obtain ⟨B, HBE⟩ : ∃ B, Hid (B = sortL lb) := ⟨_, rfl⟩
  rw [← HAE.out] at hsa HRA HDA HRA1
  rw [← HBE.out] at hsb HRB HDB HRB1
  go_wp2_with fail
  refine (side1_any _ on _ (HO.out.kept HBB.out) (by omega)).mono ?_
  rintro e w1 ⟨⟨vc1, rfl, hc1⟩, hb1⟩
  have HC1 : Hid (Ints w1 vc1 (on.map (·.2))) := hc1
  have HB1 : Hid (Below w.heap.size w w1) := HBB.out.trans (hb1.mono HBB.out.size)
  have HRA2 : Hid (Rows2 w1 v1 ua A) := HRA1.out.kept hb1
  have HRB2 : Hid (Rows2 w1 v2 ub B) := HRB1.out.kept hb1
  clear hc1 hb1
  go_wp2_with fail
  refine (grouped_any _ _ ub B (on.map (·.2)) _ HRB2.out HC1.out (HT.out.kept HB1.out) (by omega) (by rw [List.length_map]; omega) HRB.out).mono ?_
  rintro e w2 ⟨rfl, ⟨gn, hg2⟩, hb2⟩
  have HG2 : Hid (Grp w1.heap.size w1.heap.size gn w2 fun k => (grp (ub.zip B) (on.map (·.2)) k).map (·.1)) := hg2
  have HB2 : Hid (Below w.heap.size w w2) := HB1.out.trans (hb2.mono HB1.out.size)
  have HRA3 : Hid (Rows2 w2 v1 ua A) := HRA2.out.kept hb2
  have HRB3 : Hid (Rows2 w2 v2 ub B) := HRB2.out.kept hb2
  clear hg2 hb2 HRA2 HRB2 HRA1 HRB1
  go_wp2_with fail
  refine (side0_any _ on _ (HO.out.kept HB2.out) (by omega)).mono ?_
  rintro e w3 ⟨⟨vc0, rfl, hc0⟩, hb3⟩
  have HC0 : Hid (Ints w3 vc0 (on.map (·.1))) := hc0
  have HB3 : Hid (Below w.heap.size w w3) := HB2.out.trans (hb3.mono HB2.out.size)
  have HRA4 : Hid (Rows2 w3 v1 ua A) := HRA3.out.kept hb3
  have HRB4 : Hid (Rows2 w3 v2 ub B) := HRB3.out.kept hb3
  have HG3 : Hid (Grp w1.heap.size w1.heap.size gn w3 fun k => (grp (ub.zip B) (on.map (·.2)) k).map (·.1)) := HG2.out.kept hb3
  clear hc0 hb3 HRA3 HRB3 HG2 HDA HDB HC1
  obtain ⟨a1, c1, hv1, hca1⟩ := rows_cell HRA4.out
  subst hv1
  have HCA : Hid (∀ k (hk : k < A.length), ∃ b off x, a1 = some ⟨b, off, none⟩ ∧ w3.cell? ⟨b, off + k, none⟩ = some x ∧ b < w3.heap.size ∧ Strs w3 x A[k]) := hca1
  clear hca1
  obtain ⟨D, vf, hm, hat, hown, -, -⟩ := HG3.out
  have HM : Hid (w3.ownsMap Tryd.prog 9 heldR w1.heap.size gn D) := hm
  have HAT : Hid (∀ k, D.atKey (.string k) (.held (.slice none 0 0)) = .held (vf k)) := hat
  have HOW : Hid (∀ q, w3.ownsRow w1.heap.size 33 1 (vf q) ((grp (ub.zip B) (on.map (·.2)) q).map (·.1)).length ((grp (ub.zip B) (on.map (·.2)) q).map (·.1))) := hown
  have HZB : Hid ((ub.zip B).map (·.2) = B) := by
    have := HRB4.out.2.1
    exact List.map_snd_zip (by omega)
  have HLEN : Hid (∀ k, k ≤ A.length → ((A.take k).flatMap (fun r => withP r B on)).length ≤ k * B.length) := by
    intro k hk
    have := flat_len (A.take k) (fun r => withP r B on) B.length (fun r _ => withP_len r B on)
    rw [List.length_take, Nat.min_eq_left hk] at this
    exact this
  have HPR : Hid (∀ k, k ≤ A.length → k * B.length ≤ 1099511627776) := by
    intro k hk
    have : k * B.length ≤ 1048576 * 1048576 := Nat.mul_le_mul (by omega) (by omega)
    omega
  clear hm hat hown HG3
  obtain ⟨cca, ccc, hvc, -⟩ := HC0.out
  subst hvc
  go_wp2
  go_loopw [9, 28] (fun jv iv wr => ∃ (k : Nat) (us : List Value) (K : List (List (List UInt8))), k ≤ A.length ∧ iv = .int .i64 k ∧ Hid (Deep w3.heap.size wr jv us K) ∧ Hid (K = (A.take k).flatMap fun r => withP r B on) ∧ Hid (Below w3.heap.size w3 wr)) (fun _ iv _ => A.length - (intOf iv).toNat)
  case atStart => exact ⟨0, [], [], by omega, rfl, Deep.nil _ _, rfl, Below.refl _ _⟩
  case round =>
    obtain ⟨k, us, K, hk, rfl, HD, HK, HBW⟩ := hrel
    obtain ⟨pa, pc, hpe⟩ := deep_shape HD.out
    subst hpe
    by_cases hlt : k < A.length
    · obtain ⟨b, off, x, rfl, c0, hbw, hst⟩ := HCA.out k hlt
      have cx := (HBW.out.cell (p := ⟨b, off + k, none⟩) hbw).trans c0
      have HST : Hid (Strs w3 x A[k]) := hst
      have hrk := HRA.out _ (List.getElem_mem hlt)
      have HRK : Hid (A[k].length ≤ 1048576 ∧ ∀ t ∈ A[k], t.length ≤ 1048576) := hrk
      have HFN : Hid ((A.take (k + 1)).flatMap (fun r => withP r B on) = K ++ withP A[k] B on) := by show _ = _; rw [flatMap_next A _ k hlt, HK.out]
      have HL1 := HLEN.out (k + 1) (by omega)
      have HP1 := HPR.out (k + 1) (by omega)
      rw [HFN.out] at HL1
      have HL2 : Hid ((K ++ withP A[k] B on).length ≤ 1099511627776) := Nat.le_trans HL1 HP1
      have HTA : Hid (Calls Tryd.prog 30 #[x, .slice cca (on.map (·.1)).length ccc] wr fun e w' => ((∃ t v, takeL A[k] (on.map (·.1)) = some t ∧ e = .returned (.tuple #[v, .bool true]) ∧ w'.ownsRow wr.heap.size 9 1 v t.length (ts t)) ∨ (takeL A[k] (on.map (·.1)) = none ∧ e = .returned (.tuple #[.slice none 0 0, .bool false]))) ∧ Below wr.heap.size wr w') := take_any x _ A[k] (on.map (fun p : Int × Int => p.1)) wr (hst.kept HBW.out) (HC0.out.kept HBW.out) (by omega) (by rw [List.length_map]; omega)
      obtain ⟨xa, xc, hxe, -⟩ := hst
      subst hxe
      obtain ⟨r, HR⟩ : ∃ r, Hid (r = A[k]) := ⟨A[k], (rfl : A[k] = _)⟩
      rw [← HR.out] at HST HRK HFN HL2 HTA cx
      clear c0 hrk HL1 HP1
      rw [List.length_map] at HTA
      go_wp2_with fail
      refine HTA.out.mono ?_
      rintro e w4 ⟨⟨t, vt, ht, rfl, hot⟩ | ⟨ht, rfl⟩, hb4⟩
      · have HB4 : Hid (Below w3.heap.size w3 w4) := HBW.out.trans (hb4.mono HBW.out.size)
        have HD4 : Hid (Deep w3.heap.size w4 (.slice pa us.length pc) us K) := HD.out.kept hb4
        have htl := takeL_len _ _ _ ht
        rw [List.length_map] at htl
        have HKY : Hid (Calls Tryd.prog 24 #[vt] w4 fun e w' => e = .returned (.string (str (keyL t))) ∧ Below w4.heap.size w4 w') := key_any vt t w4 (own_strs hot) (HT.out.kept (HB3.out.trans (HB4.out.mono HB3.out.size))) (by omega) (fun y hy => HRK.out.2 y (takeL_mem _ _ _ ht y hy))
        have hkl : (keyL t).length ≤ 1099536796000 := by
          have := keyL_len t (fun y hy => HRK.out.2 y (takeL_mem _ _ _ ht y hy))
          have h2 : t.length * 1048600 ≤ 1048576 * 1048600 := Nat.mul_le_mul_right _ (by omega)
          omega
        have hko : keyOf Tryd.prog 9 (.string (str (keyL t))) = some (.string (keyL t)) := by
          have := keyOf_string_mk Tryd.underlying9 (s := str (keyL t)) (by rw [str_size]; unfold maxLen; omega)
          rw [data_str] at this; exact this
        obtain ⟨Pl, HPL⟩ : ∃ Pl, Hid (Pl = grp (ub.zip B) (on.map (·.2)) (keyL t)) := ⟨_, rfl⟩
        have HWP : Hid (withP r B on = Pl.map fun p => r ++ p.2) := by
          show _ = _
          unfold withP
          rw [ht]
          simp only
          have := grp_rows (ub.zip B) (on.map (·.2)) t
          rw [HZB.out] at this
          rw [← this, ← HPL.out, List.map_map]; rfl
        have HOV3 : Hid (w3.ownsRow w1.heap.size 33 1 (vf (keyL t)) Pl.length (Pl.map (·.1))) := by
          have := HOW.out (keyL t)
          rw [← HPL.out, List.length_map] at this; exact this
        have HPS : Hid (∀ p ∈ Pl, Strs w3 p.1 p.2 ∧ p.2.length ≤ 1048576) := by
          intro p hp
          rw [HPL.out] at hp
          have hp2 := (List.mem_filter.1 hp).1
          exact ⟨zip_strs HRB4.out p hp2, (HRB.out _ (List.of_mem_zip hp2).2).1⟩
        have hpl : Pl.length ≤ 1048576 := by
          rw [HPL.out]
          have h1 : (grp (ub.zip B) (on.map (·.2)) (keyL t)).length ≤ (ub.zip B).length := List.length_filter_le _ _
          rw [List.length_zip] at h1; omega
        have HL3 : Hid (K.length + Pl.length ≤ 1099511627776) := by
          have := HL2.out
          rw [HWP.out, List.length_append, List.length_map] at this; exact this
        clear hb4 HTA hot
        go_wp2_with fail
        refine HKY.out.mono ?_
        rintro e w5 ⟨rfl, hb5⟩
        have HB5 : Hid (Below w3.heap.size w3 w5) := HB4.out.trans (hb5.mono HB4.out.size)
        have HD5 : Hid (Deep w3.heap.size w5 (.slice pa us.length pc) us K) := HD4.out.kept hb5
        have hlk := Grp.look (f := fun _ => []) (base := 0) D vf (ownsMap_at' HM.out (HB5.out.block _ (ownsMap_lt' HM.out))) HAT.out (keyL t) hko
        obtain ⟨sk, HSK⟩ : ∃ sk, Hid (sk = str (keyL t)) := ⟨_, rfl⟩
        rw [← HSK.out] at hlk
        rw [← HSK.out]
        obtain ⟨vk, HVK⟩ : ∃ vk, Hid (vk = vf (keyL t)) := ⟨_, rfl⟩
        rw [← HVK.out] at hlk HOV3
        obtain ⟨ka, kc, hve⟩ := own_shape3 HOV3.out
        subst hve
        clear hb5 HKY hkl hko
        go_wp2
        go_loopw [9, 45] (fun jv iv wr => ∃ (j : Nat) (us2 : List Value) (K2 : List (List (List UInt8))), j ≤ Pl.length ∧ iv = .int .i64 j ∧ Hid (Deep w3.heap.size wr jv us2 K2) ∧ Hid (K2 = K ++ (Pl.take j).map fun p => r ++ p.2) ∧ Hid (Below w3.heap.size w3 wr)) (fun _ iv _ => Pl.length - (intOf iv).toNat)
        case atStart => exact ⟨0, us, K, by omega, rfl, HD5, by simp [Hid], HB5⟩
        case round =>
          obtain ⟨j, us2, K2, hj, rfl, HD6, HK6, HB6⟩ := hrel
          obtain ⟨qa, qc, hqe⟩ := deep_shape HD6.out
          subst hqe
          by_cases hjl : j < Pl.length
          · obtain ⟨g, hgv⟩ : ∃ g, ka = some ⟨g, 0, none⟩ := by
              rcases HOV3.out.2 with ⟨e, e0⟩ | ⟨g, cap, cur, e, _⟩
              · omega
              · cases e; exact ⟨g, rfl⟩
            subst hgv
            have d0 : w3.cell? ⟨g, j, none⟩ = some Pl[j].1 := own_get HOV3.out j _ (fst_at Pl j hjl)
            have cp := (HB6.out.cell (p := ⟨g, j, none⟩) (World.block_lt_of_cell? w3 ⟨g, j, none⟩ d0)).trans d0
            have hps := HPS.out _ (List.getElem_mem hjl)
            have HPT : Hid ((Pl.take (j + 1)).map (fun p => r ++ p.2) = (Pl.take j).map (fun p => r ++ p.2) ++ [r ++ Pl[j].2]) := by show _ = _; rw [List.take_succ_eq_append_getElem hjl, List.map_append]; rfl
            obtain ⟨ya, yc, hye, -⟩ := hps.1
            have HSY : Hid (Strs w3 (.slice ya Pl[j].2.length yc) Pl[j].2) := by rw [← hye]; exact hps.1
            rw [hye] at cp
            obtain ⟨sr, HSR⟩ : ∃ sr, Hid (sr = Pl[j].2) := ⟨Pl[j].2, (rfl : Pl[j].2 = _)⟩
            have hsl : sr.length ≤ 1048576 := by rw [HSR.out]; exact hps.2
            rw [← HSR.out] at cp HSY HPT
            have hu2 : us2.length ≤ 1099511627776 := by
              rw [HD6.out.2.1, HK6.out, List.length_append, List.length_map, List.length_take]
              have := HL3.out; omega
            have hrl : r.length ≤ 1048576 := HRK.out.1
            clear d0 hps hye
            go_wp2_with fail
            obtain ⟨w6, HW6⟩ : ∃ w6, Hid (w6 = wr.alloc (.cells #[.slice xa r.length xc, .slice ya sr.length yc] 33)) := ⟨_, rfl⟩
            have HBW6 : Hid (Below wr.heap.size wr w6) := by rw [HW6.out]; exact (Below.refl _ _).alloc (Nat.le_refl _) _
            have HB36 : Hid (Below w3.heap.size w3 w6) := HB6.out.trans (HBW6.out.mono HB6.out.size)
            have HV6 : Hid (Rows2 w6 (.slice (some ⟨wr.heap.size, 0, none⟩) 2 2) [.slice xa r.length xc, .slice ya sr.length yc] [r, sr]) := by
              refine ⟨⟨_, 2, rfl, Or.inr ⟨wr.heap.size, 0, rfl, fun i x hx => ?_⟩⟩, rfl, fun i x q hx hr => ?_⟩
              · rw [HW6.out]
                match i, hx with
                | 0, hx => simp at hx; subst hx; exact World.cell?_alloc_at _ _ _ _ rfl
                | 1, hx => simp at hx; subst hx; exact World.cell?_alloc_at _ _ _ _ rfl
              · match i, hx, hr with
                | 0, hx, hr => simp at hx hr; subst hx hr; exact HST.out.kept HB36.out
                | 1, hx, hr => simp at hx hr; subst hx hr; exact HSY.out.kept HB36.out
            rw [← HW6.out]
            have HCN : Hid (Calls Tryd.prog 31 #[.slice (some ⟨wr.heap.size, 0, none⟩) 2 2] w6 fun e w' => (∃ v', e = .returned v' ∧ w'.ownsRow w6.heap.size 9 1 v' (r ++ sr).length (ts (r ++ sr))) ∧ Below w6.heap.size w6 w') := by
              have hfl : [r, sr].flatten = r ++ sr := by simp
              have := concat_any _ _ [r, sr] w6 HV6.out (by simp) (by rw [hfl, List.length_append]; omega)
              rw [hfl] at this
              exact this
            refine HCN.out.mono ?_
            rintro e w7 ⟨⟨v7, rfl, ho7⟩, hb7⟩
            have HB7 : Hid (Below w3.heap.size w3 w7) := HB36.out.trans (hb7.mono HB36.out.size)
            have HD7 : Hid (Deep w3.heap.size w7 (.slice qa us2.length qc) us2 K2) := (HD6.out.kept HBW6.out).kept hb7
            have HO7 : Hid (w7.ownsRow w6.heap.size 9 1 v7 (r ++ sr).length (ts (r ++ sr))) := ho7
            have HS6 : Hid (w3.heap.size ≤ w6.heap.size) := HB36.out.size
            obtain ⟨nn, HNN⟩ : ∃ nn, Hid (nn = (r ++ sr).length) := ⟨_, rfl⟩
            rw [← HNN.out] at ho7
            obtain ⟨v7a, v7c, hv7⟩ := own_shape3 ho7
            subst hv7
            clear ho7 hb7 HCN HW6 HV6
            go_wp2_with (at_builtin; refine wpList_append_own_at _ rfl _ _ 22 rfl w3.heap.size 33 i0 (.slice none 0 0) 1 24 Tryd.underlying22 hi hz0 hz1 hz2 rfl (by decide) _ _ _ rfl (HD7.out.1.alloc _) ⟨w7.heap.size, 0, none⟩ 1 1 [.slice v7a nn v7c] rfl rfl ?c1 ?c2 ?c3 ?c4 ?c5 ?_)
            case c1 =>
              intro j' u hj'
              match j', hj' with
              | 0, hj' => simp at hj'; subst hj'; exact World.cell?_alloc_at _ _ _ _ rfl
            case c2 => intro u hu; simp at hu; subst hu; rfl
            case c3 => unfold maxLen; omega
            case c4 => omega
            case c5 => have := HB7.out.size; simp; omega
            intro v8 w8 hown8 hg8 _ _
            have HD8 : Hid (Deep w3.heap.size w8 v8 (us2 ++ [.slice v7a nn v7c]) (K2 ++ [r ++ sr])) := Deep.push HD7.out HO7.out HS6.out ((Below.refl _ _).alloc (Nat.le_refl _) _) hg8 hown8
            have HB8 : Hid (Below w3.heap.size w3 w8) := (HB7.out.alloc HB7.out.size _).grown hg8 (by have := HB7.out.size; simp; omega) (fun q hq => (HD7.out.1.lt q hq).1)
            have HK8 : Hid (K2 ++ [r ++ sr] = K ++ (Pl.take (j + 1)).map fun p => r ++ p.2) := by show _ = _; rw [HPT.out, HK6.out, List.append_assoc]
            clear hown8 hg8
            go_wp2
            go_roundw
            case rel => exact ⟨j + 1, _, _, by omega, by go_num, HD8, HK8, HB8⟩
            case measure => simp [intOf]; omega
          · have HE : Hid (K2 = (A.take (k + 1)).flatMap fun r => withP r B on) := by
              show _ = _
              rw [HK6.out, List.take_of_length_le (by omega), HFN.out, HWP.out]
            go_wp2
            exact ⟨⟨k + 1, us2, K2, by omega, by go_num, HD6, HE, HB6⟩, by simp [intOf]; omega⟩
      · have HB4 : Hid (Below w3.heap.size w3 w4) := HBW.out.trans (hb4.mono HBW.out.size)
        have HD4 : Hid (Deep w3.heap.size w4 (.slice pa us.length pc) us K) := HD.out.kept hb4
        have HE : Hid (K = (A.take (k + 1)).flatMap fun r => withP r B on) := by
          show _ = _
          have : withP r B on = [] := by unfold withP; rw [ht]
          rw [HFN.out, this, List.append_nil]
        clear hb4 HTA
        go_wp2
        go_roundw
        case rel => exact ⟨k + 1, us, K, by omega, by go_num, HD4, HE, HB4⟩
        case measure => simp [intOf]; omega
    · have HE : Hid (K = A.flatMap fun r => withP r B on) := by show _ = _; rw [HK.out, List.take_of_length_le (by omega)]
      have HJ : Hid (sortL K = joinL la lb on) := by show _ = _; rw [HE.out, HAE.out, HBE.out]; exact join_sorted la lb on
      have HKL : Hid (K.length ≤ 1099511627776) := by
        have := HLEN.out A.length (Nat.le_refl _)
        rw [List.take_length, ← HE.out] at this
        exact Nat.le_trans this (HPR.out A.length (Nat.le_refl _))
      have HKR : Hid (∀ q ∈ K, q.length ≤ 1099511627776) := by
        intro q hq
        rw [HE.out] at hq
        obtain ⟨r, hr, hq⟩ := List.mem_flatMap.1 hq
        rw [withP_eq, mem_withL] at hq
        obtain ⟨s, hs, _, rfl⟩ := hq
        have h1 := (HRA.out r hr).1
        have h2 := (HRB.out s hs).1
        rw [List.length_append]; omega
      go_wp2_with fail
      refine (settle_below w3.heap.size _ us K w3 _ HD.out HBW.out HBW.out.size HKL.out HKR.out).mono ?_
      rintro e w9 ⟨⟨v9, us9, rfl, hd9⟩, hb9⟩
      rw [HJ.out] at hd9
      have HD9 : Hid (Deep w.heap.size w9 v9 us9 (joinL la lb on)) := hd9.lower HB3.out.size
      have HB9 : Hid (Below w.heap.size w w9) := HB3.out.trans (hb9.mono HB3.out.size)
      clear hd9 hb9
      go_wp2
      go_ret
      exact ⟨⟨_, us9, rfl, HD9.out⟩, HB9.out⟩
end Go.Proofs.YtaeloanlllaphaaDoor
