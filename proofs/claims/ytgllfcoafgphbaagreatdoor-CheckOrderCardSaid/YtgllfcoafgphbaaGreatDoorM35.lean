import Derived.Test.YtgllfcoafgphbaaGreatDoorM28
import Derived.Test.YtgllfcoafgphbaaGreatDoorM34
import Derived.Test.YtgllfcoafgphbaaGreatDoorM24
import Derived.Deep.AppendLies
import Derived.Deep.RegionLaw
/-
  The document's names, walked.
-/
namespace Go.Proofs.YtgllfcoafgphbaaGreatDoor
open Go.ChangeShapes Go.WideShapes Go.ChangeAt Go.RowKit
set_option linter.unusedVariables false
def nmA (l : List PAtom) : List (List UInt8) := l.map (·.name)
theorem namesF_is (rs : List PRule) : namesF rs = (kOf (nmA (atomsAll rs))).map (fun r => r.headD []) := by
  unfold namesF kOf nmA sortU
  rw [List.map_map]; rfl
theorem atomsAll_take (rs : List PRule) (i : Nat) (hi : i < rs.length) : atomsAll (rs.take (i + 1)) = atomsAll (rs.take i) ++ atomsR rs[i] := by
  unfold atomsAll
  rw [List.take_succ_eq_append_getElem hi, List.flatMap_append]; simp
theorem atomsAll_len : ∀ (rs : List PRule), (∀ r ∈ rs, WfR r) → (atomsAll rs).length ≤ rs.length * 13
  | [], _ => by simp [atomsAll]
  | r :: rs, h => by
    have h1 := atomsAll_len rs (fun x hx => h x (List.mem_cons_of_mem _ hx))
    have h2 := atomsR_len (h r List.mem_cons_self).2.1
    simp only [atomsAll, List.flatMap_cons, List.length_append, List.length_cons] at h1 ⊢; omega
theorem nmA_app (a b : List PAtom) : nmA (a ++ b) = nmA a ++ nmA b := List.map_append
set_option maxRecDepth 100000 in
set_option maxHeartbeats 4000000 in
theorem rnames_any (rs : List PRule) (v : Value) (hs bs2 : List Value) (B : Nat) (w : World) (h : RulesAt 45 47 43 B w v rs hs bs2) (hl : rs.length ≤ 200) (hwf : ∀ r ∈ rs, WfR r) :
    Calls Tryz.prog 25 #[v] w fun e w' => (∃ u, e = .returned u ∧ w'.ownsRow w.heap.size 9 1 u (namesF rs).length (ts (namesF rs))) ∧ w.grownBy w' none := by
  obtain ⟨i0, hi0, hz0, hz1, hz2⟩ := info_parts info9
  have HWF := hide hwf
  have HRA := hide h
  obtain ⟨va, vc, hv⟩ := own_form h.own
  subst hv
  clear h hwf
  obtain ⟨N, HN⟩ : ∃ N, Hid (rs.length = N) := ⟨_, (rfl : _ = _)⟩
  have HKL : Hid (∀ (i : Nat) (t : List PAtom), t.length ≤ 13 → (kOf (nmA (atomsAll (rs.take i) ++ t))).length ≤ 2700) := by
    intro i t ht
    have h1 := kOf_len (nmA (atomsAll (rs.take i) ++ t))
    have h2 := atomsAll_len (rs.take i) (fun r hr => HWF.out r (List.mem_of_mem_take hr))
    have h3 := List.length_take_le' i rs
    unfold nmA at h1
    unfold nmA
    rw [List.length_map, List.length_append] at h1
    omega
  rw [HN.out] at hl ⊢
  go_enter Tryz.func25, Tryz.ntmps25
  go_wp2_with fail
  go_loopw [3, 4, 5, 6] (fun lv iv av kv wr => ∃ (i : Nat) (us : List Value), i ≤ N ∧ iv = .int .i64 i ∧ Hid (Deep w.heap.size wr lv us (kOf (nmA (atomsAll (rs.take i))))) ∧ Hid (w.grownBy wr none)) (fun _ iv _ _ _ => N - (intOf iv).toNat)
  case atStart => exact ⟨0, [], by omega, rfl, ⟨World.ownsRow_nil _ _ _ _, rfl, fun i x r hx => by simp at hx⟩, fr_refl _ _⟩
  case round =>
    obtain ⟨i, us, hi, rfl, HD, HG⟩ := hrel
    obtain ⟨wm, rfl⟩ : ∃ wm, wm = wr := ⟨_, rfl⟩
    obtain ⟨la, lc, hle⟩ := ownShape HD.out.1
    subst hle
    by_cases hit : i < N
    · have hkr : i < rs.length := by have := HN.out; omega
      have hkh : i < hs.length := by have := HRA.out.lh; omega
      have hkb : i < bs2.length := by have := HRA.out.lb; omega
      have hor := HRA.out
      rcases own_rules hor with ⟨h0, h1⟩ | ⟨gr, cr, hvr, -, -, hcr, -⟩
      · rw [h1] at hkr; simp at hkr
      cases hvr
      have HCR := hide (hcr i rs[i] hs[i] bs2[i] (List.getElem?_eq_getElem hkr) (List.getElem?_eq_getElem hkh) (List.getElem?_eq_getElem hkb))
      obtain ⟨xs, hbd⟩ := hor.bodies i rs[i] bs2[i] (List.getElem?_eq_getElem hkr) (List.getElem?_eq_getElem hkb)
      have hhd := hor.heads i rs[i] hs[i] (List.getElem?_eq_getElem hkr) (List.getElem?_eq_getElem hkh)
      have HW := hide (HWF.out _ (List.getElem_mem hkr))
      have HST := hide (atomsAll_take rs i hkr)
      obtain ⟨xa, xc, hxx⟩ := own_form hhd
      obtain ⟨ya, yc, hyy⟩ := own_form hbd.own
      rw [hxx, hyy] at HCR
      rw [hxx] at hhd
      rw [hyy] at hbd
      have HHD := hide hhd
      have HBD := hide hbd
      clear hcr hor hbd hhd hxx hyy
      generalize rs[i] = r at *
      have HC1 : Hid (Calls Tryz.prog 41 #[.agg (ruleV r (.slice xa r.head.args.length xc) (.slice ya r.body.length yc)).toArray] wm fun e w' => (∃ v vs, e = .returned v ∧ AtomsAt 45 40 wm.heap.size B w' v (atomsR r) vs) ∧ wm.grownBy w' none) := ratomsOf_any r _ _ xs B wm (own_far HHD.out HG.out (by simp)) (HBD.out.kept HG.out (fun g e => by cases e)) HW.out.2.1
      have hAL := atomsR_len HW.out.2.1
      have kp : ∀ (j : Nat) (x : Value), (ruleV r (.slice xa r.head.args.length xc) (.slice ya r.body.length yc))[j]? = some x → wm.cell? ⟨gr, i * 4 + j, none⟩ = some x := fun j x hx => grown_cell HG.out (HCR.out j x hx)
      have d0 := kp 0 _ rfl
      have d1 := kp 1 _ rfl
      have d2 := kp 2 _ rfl
      have d3 := kp 3 _ rfl
      simp only [Nat.add_zero] at d0
      clear kp HCR HHD HBD
      go_wp2_with fail
      refine HC1.out.mono ?_
      rintro e w2 ⟨⟨av, vl, rfl, hla⟩, hg2⟩
      have HG2 := hide (fr_both HG.out hg2)
      have HD2 : Hid (Deep w.heap.size w2 (.slice la us.length lc) us (kOf (nmA (atomsAll (rs.take i))))) := ⟨own_far HD.out.1 hg2 (by simp), HD.out.2.1, fun j y q hy hq => own_far (HD.out.2.2 j y q hy hq) hg2 (by simp)⟩
      have HLA := hide (hla.lower HG.out.size)
      obtain ⟨ga, gc, hlv⟩ := own_form hla.own
      subst hlv
      clear hla hg2 HC1 d0 d1 d2 d3 HD HG HW
      generalize atomsR r = A at *
      obtain ⟨L, HL⟩ : ∃ L, Hid (A.length = L) := ⟨_, (rfl : _ = _)⟩
      rw [HL.out] at hAL ⊢
      go_wp2_with fail
      go_loopw [3, 6] (fun lv kv wi => ∃ (k : Nat) (us : List Value), k ≤ L ∧ kv = .int .i64 k ∧ Hid (Deep w.heap.size wi lv us (kOf (nmA (atomsAll (rs.take i) ++ A.take k)))) ∧ Hid (AtomsAt 45 40 w.heap.size B wi (.slice ga A.length gc) A vl) ∧ Hid (w.grownBy wi none)) (fun _ kv _ => L - (intOf kv).toNat)
      case atStart => exact ⟨0, us, by omega, rfl, (by rw [List.take_zero, List.append_nil]; exact HD2), HLA, HG2⟩
      case round =>
        clear HD2 HLA HG2
        obtain ⟨k, us, hk, rfl, HD, HLA, HG⟩ := hrel
        obtain ⟨wi, rfl⟩ : ∃ wi, wi = wr := ⟨_, rfl⟩
        obtain ⟨la, lc, hle⟩ := ownShape HD.out.1
        subst hle
        by_cases hkt : k < L
        · have hka : k < A.length := by have := HL.out; omega
          have hkv : k < vl.length := by have := HLA.out.len; omega
          rcases own_atoms HLA.out with ⟨h0, h1⟩ | ⟨gl, cl, hvl, -, -, hcl⟩
          · rw [h1] at hka; simp at hka
          have hc0 : wi.cell? ⟨gl, k * 3, none⟩ = some (.string (str A[k].name)) := hcl k A[k] vl[k] (List.getElem?_eq_getElem hka) (List.getElem?_eq_getElem hkv) 0 _ rfl
          cases hvl
          have HKN : Hid (kOf (nmA (atomsAll (rs.take i) ++ A.take (k + 1))) = ins (kOf (nmA (atomsAll (rs.take i) ++ A.take k))) [A[k].name]) := by
            show _ = _
            rw [List.take_succ_eq_append_getElem hka, ← List.append_assoc, nmA_app, show nmA [A[k]] = [A[k].name] from rfl, kOf_snoc]
          have HKB := hide (HKL.out i (A.take k) (by rw [List.length_take]; omega))
          clear hcl
          have HRS := hide (kOf_rises (nmA (atomsAll (rs.take i) ++ A.take k)))
          generalize A[k].name = t at *
          generalize kOf (nmA (atomsAll (rs.take i) ++ A.take k)) = K at *
          rw [HL.out] at HLA
          have hga : wi.grownBy (wi.alloc (.cells #[.string (str t)] 9)) none := fr_alloc _ _ _
          have HLIT : Hid ((wi.alloc (.cells #[.string (str t)] 9)).ownsRow w.heap.size 9 1 (.slice (some ⟨wi.heap.size, 0, none⟩) 1 1) [t].length (ts [t])) := World.ownsRow_lit wi #[.string (str t)] 1 HG.out.size (by decide) rfl
          have HD2 : Hid (Deep w.heap.size (wi.alloc (.cells #[.string (str t)] 9)) (.slice la us.length lc) us K) := ⟨own_far HD.out.1 hga (by simp), HD.out.2.1, fun j y q hy hq => own_far (HD.out.2.2 j y q hy hq) hga (by simp)⟩
          have HLA2 : Hid (AtomsAt 45 40 w.heap.size B (wi.alloc (.cells #[.string (str t)] 9)) (.slice (some ⟨gl, 0, none⟩) L gc) A vl) := HLA.out.far hga
          have HG2 : Hid (w.grownBy (wi.alloc (.cells #[.string (str t)] 9)) none) := fr_both HG.out hga
          clear hga
          go_wp2_with fail
          refine (put_grown w.heap.size _ _ us K [t] 1 _ HD2.out.1 HG2.out.size ⟨HD2.out.2.1, fun j y q hy hq => own_strs (HD2.out.2.2 j y q hy hq)⟩ (own_strs HLIT.out) HRS.out rfl (by have := HKB.out; omega) (by decide)).mono ?_
          rintro e w3 ⟨v', rfl, ho, hg⟩
          have HDN : Hid (Deep w.heap.size w3 v' (insV us K [t] (.slice (some ⟨wi.heap.size, 0, none⟩) 1 1)) (kOf (nmA (atomsAll (rs.take i) ++ A.take (k + 1))))) := by
            have hall := insV_all (us := us) (K := K) (r := [t]) (x := .slice (some ⟨wi.heap.size, 0, none⟩) 1 1) (fun y q => w3.ownsRow w.heap.size 9 1 y q.length (ts q))
              ⟨HD2.out.2.1, fun j y q hy hq => own_far (HD2.out.2.2 j y q hy hq) hg (kinds_ne (HD2.out.2.2 j y q hy hq) HD2.out.1 (by decide))⟩ (own_far HLIT.out hg (kinds_ne HLIT.out HD2.out.1 (by decide)))
            rw [HKN.out]
            exact ⟨ho, hall.1, hall.2⟩
          have HLA3 : Hid (AtomsAt 45 40 w.heap.size B w3 (.slice (some ⟨gl, 0, none⟩) L gc) A vl) :=
            ⟨own_far HLA2.out.own hg (kinds_ne HLA2.out.own HD2.out.1 (by decide)), HLA2.out.len, fun i p u hp hu => own_far (HLA2.out.args i p u hp hu) hg (kinds_ne (HLA2.out.args i p u hp hu) HD2.out.1 (by decide))⟩
          have HG3 : Hid (w.grownBy w3 none) := fr_own HG2.out HD2.out.1 (Nat.le_refl _) hg
          clear ho hg HD2 HLA2 HG2 HLIT
          go_wp2
          go_roundw
          case rel => exact ⟨k + 1, _, by omega, by go_num, HDN, (by rw [HL.out]; exact HLA3), HG3⟩
          case measure => simp [intOf]; omega
        · have HDE : Hid (Deep w.heap.size wi (.slice la us.length lc) us (kOf (nmA (atomsAll (rs.take (i + 1)))))) := by
            have := HD.out
            rw [show A.take k = A from List.take_of_length_le (by have := HL.out; omega), ← HST.out] at this
            exact this
          rw [HL.out] at HLA
          go_wp2
          go_roundw
          case rel => exact ⟨i + 1, us, by omega, by go_num, HDE, HG⟩
          case measure => simp [intOf]; omega
    · have HDE : Hid (Deep w.heap.size wm (.slice la us.length lc) us (kOf (nmA (atomsAll rs)))) := by
        have := HD.out
        rw [List.take_of_length_le (by have := HN.out; omega)] at this
        exact this
      have HKB : Hid ((kOf (nmA (atomsAll rs))).length ≤ 2700) := by
        have := HKL.out N [] (by simp)
        rw [List.append_nil, List.take_of_length_le (by have := HN.out; omega)] at this
        exact this
      have HNF : Hid (namesF rs = (kOf (nmA (atomsAll rs))).map (fun r => r.headD [])) := namesF_is rs
      have hul : us.length ≤ 2700 := by have := HDE.out.2.1; have := HKB.out; omega
      clear HD HKL
      have HONE : Hid (∀ (j : Nat) (r : List (List UInt8)), (kOf (nmA (atomsAll rs)))[j]? = some r → ∃ t, r = [t]) := fun j r hr => kOf_one _ j r hr
      generalize kOf (nmA (atomsAll rs)) = K at *
      go_wp2_with fail
      go_loopw [7, 8] (fun ov jv w2 => ∃ j : Nat, j ≤ us.length ∧ jv = .int .i64 j ∧ Hid (w2.ownsRow wm.heap.size 9 1 ov ((K.take j).map fun r => r.headD []).length (ts ((K.take j).map fun r => r.headD []))) ∧ Hid (wm.grownBy w2 none)) (fun _ jv _ => us.length - (intOf jv).toNat)
      case atStart => exact ⟨0, by omega, rfl, World.ownsRow_nil _ _ _ _, fr_refl _ _⟩
      case round =>
        obtain ⟨j, hj, rfl, HO, HG2⟩ := hrel
        obtain ⟨wi, rfl⟩ : ∃ wi, wi = wr := ⟨_, rfl⟩
        obtain ⟨es, HES⟩ : ∃ es : List (List UInt8), Hid (es = (K.take j).map fun r => r.headD []) := ⟨_, (rfl : ((K.take j).map fun r => r.headD []) = _)⟩
        have hlj : es.length ≤ 2700 := by rw [HES.out, List.length_map, List.length_take]; omega
        rw [← HES.out] at HO
        obtain ⟨oa, oc, hoe⟩ := ownShape HO.out
        subst hoe
        by_cases hjl : j < us.length
        · have hjk : j < K.length := by have := HDE.out.2.1; omega
          obtain ⟨t, ht⟩ := HONE.out j K[j] (row_at hjk)
          have hin := HDE.out.2.2 j us[j] K[j] (val_at hjl) (row_at hjk)
          rw [ht] at hin
          obtain ⟨g, hgl, hcl⟩ : ∃ g, la = some ⟨g, 0, none⟩ ∧ wm.cell? ⟨g, j, none⟩ = some us[j] := by
            have h1 := HDE.out.1
            rcases h1.2 with ⟨_, e0⟩ | ⟨g, c', cur, e, _⟩
            · omega
            · cases e
              have := h1.cells (g := g) rfl j _ (val_at hjl)
              rw [add_zero] at this
              exact ⟨g, rfl, this⟩
          obtain ⟨gj, cj, hue, hcj⟩ : ∃ gj cj, us[j] = .slice (some ⟨gj, 0, none⟩) 1 cj ∧ wm.cell? ⟨gj, 0, none⟩ = some (.string (str t)) := by
            rcases hin.2 with ⟨_, e0⟩ | ⟨gj, cj, cur, e, _⟩
            · simp at e0
            · have := hin.cells (g := gj) (by rw [e]; rfl) 0 _ (show (ts [t])[0]? = some (.string (str t)) from rfl)
              exact ⟨gj, cj, e, by simpa [Addr.add] using this⟩
          subst hgl
          rw [hue] at hcl
          have c1 := grown_cell HG2.out hcl
          have c2 := grown_cell HG2.out hcj
          have HKJ : Hid (K[j]? = some [t]) := by show _ = _; rw [row_at hjk, ht]
          have HUL : Hid (((K.take (j + 1)).map fun r => r.headD []) = es ++ [t]) := by rw [HES.out]; exact heads_next K j t HKJ.out
          have hwl : wm.heap.size ≤ wi.heap.size := HG2.out.size
          clear hin hcl hcj hue ht hjk
          go_wp2_with (at_builtin; refine wpList_append_own _ rfl _ _ 58 rfl wm.heap.size 9 i0 (.string { data := #[] }) 1 16 Tryz.underlying58 hi0 hz0 hz1 hz2 rfl (by decide) _ _ _ rfl (HO.out.alloc _) ⟨wi.heap.size, 0, none⟩ 1 1 [.string (str t)] rfl rfl ?c1 ?c2 ?c3 ?c4 ?c5 ?_)
          case c1 => exact cell_one_new _ _ _
          case c2 => intro u hu; simp at hu; subst hu; rfl
          case c3 => unfold maxLen; omega
          case c4 => omega
          case c5 => simp; omega
          intro v4 w4 hown4 hg4 _
          generalize hwa : World.alloc wi _ = wa at hg4
          have hga : wi.grownBy wa none := by rw [← hwa]; exact fr_alloc _ _ _
          clear hwa
          have hoa := own_far HO.out hga (by simp)
          have HG4 : Hid (wm.grownBy w4 none) := fr_own (fr_both HG2.out hga) hoa (Nat.le_refl _) hg4
          have HO4 : Hid (w4.ownsRow wm.heap.size 9 1 v4 ((K.take (j + 1)).map fun r => r.headD []).length (ts ((K.take (j + 1)).map fun r => r.headD []))) := by
            rw [HUL.out]
            rw [ts_snoc] at hown4
            rw [List.length_append]; exact hown4
          clear hown4 hg4 hga hoa
          go_wp2
          go_roundw
          case rel => exact ⟨j + 1, by omega, by go_num, HO4, HG4⟩
          case measure => simp [intOf]; omega
        · have HE : Hid (es = namesF rs) := by
            show _ = _
            rw [HES.out, List.take_of_length_le (by have := HDE.out.2.1; omega), HNF.out]
          go_wp2
          go_ret
          refine ⟨⟨_, rfl, ?_⟩, fr_both HG.out HG2.out⟩
          rw [← HE.out]
          exact own_lower HO.out HG.out.size
end Go.Proofs.YtgllfcoafgphbaaGreatDoor

/-
  Chapter 5 in plain words of lists: the numbers of the names as a row, in the names' order; one head lifted is one number set; the rows' sum. Nothing of the program.
-/
namespace Go.Proofs.YtgllfcoafgphbaaGreatDoor
set_option linter.unusedVariables false
theorem mem_namesF (rs : List PRule) (x : List UInt8) : x ∈ namesF rs ↔ ∃ a ∈ atomsAll rs, a.name = x := by
  have hm : ∀ r ∈ (atomsAll rs).map (fun a => [a.name]), r.length = 1 := by
    intro r hr
    obtain ⟨a, _, rfl⟩ := List.mem_map.1 hr
    rfl
  unfold namesF
  simp only [List.mem_map, mem_sortU 1 _ hm]
  constructor
  · rintro ⟨r, ⟨a, ha, rfl⟩, rfl⟩; exact ⟨a, ha, rfl⟩
  · rintro ⟨a, ha, rfl⟩; exact ⟨[a.name], ⟨a, ha, rfl⟩, rfl⟩
theorem head_in_names {rs : List PRule} {r : PRule} (h : r ∈ rs) : r.head.name ∈ namesF rs := (mem_namesF rs _).2 ⟨r.head, List.mem_flatMap.2 ⟨r, h, List.mem_cons_self⟩, rfl⟩
theorem part_in_names {rs : List PRule} {r : PRule} (h : r ∈ rs) {p : PPart} (hp : p ∈ r.body) (hk : p.kind < 2) : p.atom.name ∈ namesF rs :=
  (mem_namesF rs _).2 ⟨p.atom, List.mem_flatMap.2 ⟨r, h, List.mem_cons_of_mem _ (List.mem_map.2 ⟨p, List.mem_filter.2 ⟨hp, decide_eq_true hk⟩, rfl⟩)⟩, rfl⟩
theorem rises_nodup {m : Nat} : ∀ {L : List (List (List UInt8))}, Rises m L → L.Nodup
  | [], _ => List.nodup_nil
  | a :: L, h => List.nodup_cons.2 ⟨fun ha => by have := rises_head h a ha; rw [ordR_self] at this; omega, rises_nodup (rises_tail h)⟩
theorem nodup_heads {L : List (List (List UInt8))} (h : L.Nodup) (h1 : ∀ r ∈ L, r.length = 1) : (L.map (fun r => r.headD [])).Nodup := by
  induction L with
  | nil => exact List.nodup_nil
  | cons a L ih =>
    have hn := List.nodup_cons.1 h
    rw [List.map_cons, List.nodup_cons]
    refine ⟨fun hm => ?_, ih hn.2 fun r hr => h1 r (List.mem_cons_of_mem _ hr)⟩
    obtain ⟨b, hb, he⟩ := List.mem_map.1 hm
    have la := h1 a List.mem_cons_self
    have lb := h1 b (List.mem_cons_of_mem _ hb)
    obtain ⟨x, rfl⟩ := List.length_eq_one_iff.1 la
    obtain ⟨y, rfl⟩ := List.length_eq_one_iff.1 lb
    simp only [List.headD_cons] at he
    exact hn.1 (he ▸ hb)
theorem namesF_nodup (rs : List PRule) : (namesF rs).Nodup := by
  have hm : ∀ r ∈ (atomsAll rs).map (fun a => [a.name]), r.length = 1 := by
    intro r hr
    obtain ⟨a, _, rfl⟩ := List.mem_map.1 hr
    rfl
  have hr := sortU_rises 1 _ hm
  exact nodup_heads (rises_nodup hr) hr.1
theorem nodup_at {α : Type} {l : List α} (hn : l.Nodup) {i k : Nat} (hi : i < l.length) (hk : k < l.length) (e : l[i] = l[k]) : i = k := by
  have hp := List.pairwise_iff_getElem.1 hn
  rcases Nat.lt_trichotomy i k with h | h | h
  · exact absurd e (hp i k hi hk h)
  · exact h
  · exact absurd e.symm (hp k i hk hi h)
theorem eraseDups_len {α : Type} [BEq α] [LawfulBEq α] : ∀ (n : Nat) (l : List α), l.length ≤ n → l.eraseDups.length ≤ l.length
  | 0, l, h => by rw [List.eq_nil_of_length_eq_zero (Nat.le_zero.1 h)]; simp
  | n + 1, [], _ => by simp
  | n + 1, a :: l, h => by
    rw [List.eraseDups_cons]
    have h1 := List.length_filter_le (fun b => !b == a) l
    have h2 := eraseDups_len n (l.filter (fun b => !b == a)) (by simp only [List.length_cons] at h; omega)
    simp only [List.length_cons]; omega
/-- one name's number set is one place of the row set -/
theorem row_set {l : List (List UInt8)} (hn : l.Nodup) (f : List UInt8 → Nat) (k : Nat) (hk : k < l.length) (n : Nat) : l.map (setN f l[k] n) = (l.map f).set k n := by
  apply List.ext_getElem
  · simp
  · intro i h1 h2
    simp only [List.getElem_map, List.getElem_set]
    have hi : i < l.length := by simpa using h1
    by_cases h : k = i
    · subst h; rw [if_pos rfl, setN_same]
    · rw [if_neg h, setN_other]
      exact fun e => h (nodup_at hn hi hk e).symm
/-- the row's sum -/
def sumL (l : List (List UInt8)) (f : List UInt8 → Nat) : Nat := (l.map f).sum
theorem sumL_le {f g : List UInt8 → Nat} (h : ∀ x, f x ≤ g x) : ∀ (l : List (List UInt8)), sumL l f ≤ sumL l g
  | [] => Nat.le_refl _
  | x :: l => by
    have := sumL_le h l
    have := h x
    simp only [sumL, List.map_cons, List.sum_cons] at *; omega
theorem sumL_lt {f g : List UInt8 → Nat} (h : ∀ x, f x ≤ g x) : ∀ (l : List (List UInt8)) (x : List UInt8), x ∈ l → f x < g x → sumL l f < sumL l g
  | [], _, hx, _ => absurd hx List.not_mem_nil
  | y :: l, x, hx, hlt => by
    have h1 := h y
    have h2 := sumL_le h l
    rcases List.mem_cons.1 hx with rfl | hx
    · simp only [sumL, List.map_cons, List.sum_cons] at *; omega
    · have := sumL_lt h l x hx hlt
      simp only [sumL, List.map_cons, List.sum_cons] at *; omega
/-- a round that moves lifts the row's sum -/
theorem liftR_row (rs : List PRule) (f : List UInt8 → Nat) (h : (liftR rs (f, false)).2 = true) : sumL (namesF rs) f < sumL (namesF rs) (liftR rs (f, false)).1 := by
  obtain ⟨r, hr, hlt⟩ := liftR_moves rs f h
  exact sumL_lt (fun x => liftR_le rs (f, false) x) _ _ (head_in_names hr) hlt
/-- no number passes the number of names in the bodies -/
theorem rank_len (rs : List PRule) (x : List UInt8) : rank rs x ≤ (bodyNames rs).length := by
  unfold rank
  refine Nat.le_trans (List.length_filter_le _ _) ?_
  exact eraseDups_len _ _ (Nat.le_refl _)
theorem liftB_append (h : List UInt8) : ∀ (a b : List PPart) (s : (List UInt8 → Nat) × Bool), liftB h (a ++ b) s = liftB h b (liftB h a s)
  | [], _, _ => rfl
  | p :: a, b, s => liftB_append h a b (lift1 h s.1 p, s.2 || moves1 h s.1 p)
theorem liftR_append : ∀ (a b : List PRule) (s : (List UInt8 → Nat) × Bool), liftR (a ++ b) s = liftR b (liftR a s)
  | [], _, _ => rfl
  | r :: a, b, s => liftR_append a b (liftB r.head.name r.body s)
theorem liftB_take (h : List UInt8) (ps : List PPart) (k : Nat) (hk : k < ps.length) (s : (List UInt8 → Nat) × Bool) : liftB h (ps.take (k + 1)) s = (lift1 h (liftB h (ps.take k) s).1 ps[k], (liftB h (ps.take k) s).2 || moves1 h (liftB h (ps.take k) s).1 ps[k]) := by
  rw [List.take_succ_eq_append_getElem hk, liftB_append]; rfl
theorem liftR_take (rs : List PRule) (k : Nat) (hk : k < rs.length) (s : (List UInt8 → Nat) × Bool) : liftR (rs.take (k + 1)) s = liftB rs[k].head.name rs[k].body (liftR (rs.take k) s) := by
  rw [List.take_succ_eq_append_getElem hk, liftR_append]; rfl
/-- numbers under numbers that will do stay so, as far as a round has come -/
theorem under_round {rs : List PRule} {f g : List UInt8 → Nat} (hg : Sol rs g) (hf : ∀ x, f x ≤ g x) (i : Nat) (b : Bool) : ∀ x, (liftR (rs.take i) (f, b)).1 x ≤ g x :=
  liftR_under (rs.take i) (f, b) (hg.mono fun r hr => List.mem_of_mem_take hr) hf
theorem under_part {h : List UInt8} {ps : List PPart} {f g : List UInt8 → Nat} (hg : ∀ p ∈ ps, p.kind < 2 → g p.atom.name + p.kind ≤ g h) (hf : ∀ x, f x ≤ g x) (k : Nat) (b : Bool) : ∀ x, (liftB h (ps.take k) (f, b)).1 x ≤ g x :=
  liftB_under h (ps.take k) (f, b) (fun p hp => hg p (List.mem_of_mem_take hp)) hf
end Go.Proofs.YtgllfcoafgphbaaGreatDoor

/-
  Levels as they lie in memory; the laws' sameLevels and levelOf, walked.
-/
namespace Go.Proofs.YtgllfcoafgphbaaGreatDoor
open Go.ChangeShapes Go.WideShapes Go.ChangeAt Go.RowKit
set_option linter.unusedVariables false
def levelV (p : List UInt8 × Nat) : List Value := [.string (str p.1), .int .i64 (p.2 : Nat)]
def levelsV (l : List (List UInt8 × Nat)) : List Value := l.flatMap levelV
theorem levelsV_snoc (l : List (List UInt8 × Nat)) (t : List UInt8 × Nat) : levelsV l ++ levelV t = levelsV (l ++ [t]) := by simp [levelsV]
theorem levelsV_at (l : List (List UInt8 × Nat)) : ∀ (k j : Nat) (hk : k < l.length) (hj : j < 2), (levelsV l)[k * 2 + j]? = (levelV l[k])[j]? := by
  induction l with
  | nil => intro k j hk; simp at hk
  | cons t l ih =>
    intro k j hk hj
    cases k with
    | zero => simp only [levelsV, List.flatMap_cons, Nat.zero_mul, Nat.zero_add]; rw [List.getElem?_append_left (by simp [levelV]; exact hj)]; rfl
    | succ k =>
      simp only [levelsV, List.flatMap_cons]
      rw [List.getElem?_append_right (by simp [levelV]; omega)]
      have := ih k j (by simpa using hk) hj
      rw [List.getElem_cons_succ, ← this]
      congr 1
      simp [levelV]; omega
/-- where levels lie -/
theorem own_levels {w : World} {base : Nat} {e : TypeId} {v : Value} {l : List (List UInt8 × Nat)} (h : w.ownsRow base e 2 v l.length (levelsV l)) : (v = .slice none 0 0 ∧ l = []) ∨ ∃ g cap, v = .slice (some ⟨g, 0, none⟩) l.length cap ∧ ∀ k (hk : k < l.length), w.cell? ⟨g, k * 2, none⟩ = some (.string (str l[k].1)) ∧ w.cell? ⟨g, k * 2 + 1, none⟩ = some (.int .i64 (l[k].2 : Nat)) := by
  rcases h.2 with ⟨rfl, h0⟩ | ⟨g, cap, cur, rfl, hb, hg, rest⟩
  · exact Or.inl ⟨rfl, List.eq_nil_of_length_eq_zero h0⟩
  · refine Or.inr ⟨g, cap, rfl, fun k hk => ⟨?_, ?_⟩⟩
    · have := h.cells rfl (k * 2 + 0) _ (by rw [levelsV_at l k 0 hk (by omega)]; rfl)
      rw [add_zero] at this; exact this
    · have := h.cells rfl (k * 2 + 1) _ (by rw [levelsV_at l k 1 hk (by omega)]; rfl)
      rw [add_zero] at this; exact this
set_option maxRecDepth 100000 in
set_option maxHeartbeats 4000000 in
/-- the same levels are the same -/
theorem sameLevels_any (l : List (List UInt8 × Nat)) (va vb : Value) (B1 B2 : Nat) (w : World) (ha : w.ownsRow B1 37 2 va l.length (levelsV l)) (hb : w.ownsRow B2 63 2 vb l.length (levelsV l)) (hl : l.length ≤ 1073741824) :
    Calls Tryz.prog 12 #[va, vb] w fun e w' => e = .returned (.bool true) ∧ w.grownBy w' none := by
  have HA := hide ha
  have HB := hide hb
  obtain ⟨aa, ca, hva⟩ := own_form ha
  obtain ⟨ab, cb, hvb⟩ := own_form hb
  subst hva hvb
  clear ha hb
  obtain ⟨N, HN⟩ : ∃ N, Hid (l.length = N) := ⟨_, (rfl : _ = _)⟩
  rw [HN.out] at hl ⊢
  go_enter Tryz.func12, Tryz.ntmps12
  go_wp2_with fail
  go_loopw [5] (fun iv wr => ∃ k : Nat, k ≤ N ∧ iv = .int .i64 k ∧ Hid (w.grownBy wr none)) (fun iv _ => N - (intOf iv).toNat)
  case atStart => exact ⟨0, by omega, rfl, fr_refl _ _⟩
  case round =>
    obtain ⟨k, hk, rfl, HG⟩ := hrel
    by_cases hlt : k < N
    · have hkr : k < l.length := by have := HN.out; omega
      rcases own_levels HA.out with ⟨h0, h1⟩ | ⟨ga, cap1, hv1, hc1⟩
      · rw [h1] at hkr; simp at hkr
      rcases own_levels HB.out with ⟨h0, h1⟩ | ⟨gb, cap2, hv2, hc2⟩
      · rw [h1] at hkr; simp at hkr
      cases hv1
      cases hv2
      have a0 := grown_cell HG.out (hc1 k hkr).1
      have a1 := grown_cell HG.out (hc1 k hkr).2
      have b0 := grown_cell HG.out (hc2 k hkr).1
      have b1 := grown_cell HG.out (hc2 k hkr).2
      clear hc1 hc2
      generalize l[k] = t at *
      obtain ⟨sn, n⟩ := t
      simp only [] at a0 a1 b0 b1
      have hq : ((str sn).toList == (str sn).toList) = true := by simp
      have hq2 : ((str sn).toList != (str sn).toList) = false := by simp
      have hq3 : (((n : Nat) : Int) != (n : Nat)) = false := by simp
      generalize str sn = s at *
      go_wp2
      go_quiet (fail)
      go_wp2
      go_roundw
      case rel => exact ⟨k + 1, by omega, by go_num, fr_both HG.out (fr_draws _ _ _)⟩
      case measure => simp [intOf]; omega
    · go_wp2
      go_ret
      exact ⟨rfl, HG.out⟩
end Go.Proofs.YtgllfcoafgphbaaGreatDoor

/-
  The document's LevelsOf, walked.
-/
namespace Go.Proofs.YtgllfcoafgphbaaGreatDoor
open Go.ChangeShapes Go.WideShapes Go.ChangeAt Go.RowKit
set_option linter.unusedVariables false
theorem infoInt : (Tryz.prog.info? 3).map (fun i => (i.zero, i.size, i.bytes)) = some (some (.int .i64 0), 1, 8) := by kernel_rfl
/-- the numbers of names, as they lie in a row -/
def nsV (l : List (List UInt8)) (f : List UInt8 → Nat) : List Value := l.map fun x => .int .i64 (f x : Nat)
theorem nsV_zero (l : List (List UInt8)) : nsV l (fun _ => 0) = List.replicate l.length (.int .i64 0) := by
  unfold nsV; rw [List.map_const']; rfl
theorem nsV_set {l : List (List UInt8)} (hn : l.Nodup) (f : List UInt8 → Nat) (k : Nat) (hk : k < l.length) (n : Nat) : nsV l (setN f l[k] n) = (nsV l f).set k (.int .i64 (n : Nat)) := by
  have := congrArg (List.map fun q : Nat => Value.int .i64 (q : Nat)) (row_set hn f k hk n)
  rw [List.map_map, List.map_set, List.map_map] at this
  exact this
/-- what stands in a row, summed -/
def rowSum (w : World) (g n : Nat) : Nat := ((List.range n).map fun j => match w.cell? ⟨g, j, none⟩ with
  | some v => (intOf v).toNat
  | none => 0).sum
theorem rowSum_is {w : World} {base e g cap : Nat} {l : List (List UInt8)} {f : List UInt8 → Nat} (h : w.ownsRow base e 1 (.slice (some ⟨g, 0, none⟩) l.length cap) l.length (nsV l f)) : rowSum w g l.length = sumL l f := by
  unfold rowSum sumL
  congr 1
  apply List.ext_getElem
  · simp
  · intro i h1 h2
    have hi : i < l.length := by simpa using h1
    have hc := h.cells rfl i (.int .i64 (f l[i] : Nat)) (by simp [nsV, hi])
    rw [add_zero] at hc
    simp only [List.getElem_map, List.getElem_range]
    rw [hc]
    simp [intOf]
theorem rowSum_at {w : World} {base e g cap M : Nat} {l : List (List UInt8)} {f : List UInt8 → Nat} (hM : l.length = M) (h : w.ownsRow base e 1 (.slice (some ⟨g, 0, none⟩) M cap) M (nsV l f)) : rowSum w g M = sumL l f := by
  subst hM; exact rowSum_is h
/-- a name's place -/
theorem name_at {l : List (List UInt8)} {x : List UInt8} (h : x ∈ l) : ∃ (k : Nat) (hk : k < l.length), l[k] = x ∧ find l x = k := by
  unfold find
  cases hf : l.findIdx? (· == x) with
  | none =>
    have hn := List.findIdx?_eq_none_iff.1 hf x h
    simp at hn
  | some i =>
    obtain ⟨hi, h1, -⟩ := List.findIdx?_eq_some_iff_getElem.1 hf
    exact ⟨i, hi, by simpa using h1, rfl⟩
theorem lies_grown {wl wi w4 : World} {o : Obj} {base : Nat} {e : TypeId} {size : Nat} {v : Value} {n : Nat} {xs : List Value} (h : wl.grownBy wi none) (ho : wi.ownsRow base e size v n xs) (hb : wl.heap.size ≤ base) (hg : ((wi.drewN 1).alloc o).grownBy w4 v.ownBlock) : wl.grownBy w4 none :=
  fr_own (fr_both (fr_both h (fr_draws _ 1 _)) (fr_alloc _ o _)) ((own_far ho (fr_draws _ 1 none) (by simp)).alloc o) hb hg
theorem infoLevel : (Tryz.prog.info? 63).map (fun i => (i.zero, i.size, i.bytes)) = some (some (.agg #[.string { data := #[] }, .int .i64 0]), 2, 24) := by kernel_rfl
theorem namesF_len {rs : List PRule} (hl : rs.length ≤ 200) (hwf : ∀ r ∈ rs, WfR r) : (namesF rs).length ≤ 2700 := by
  rw [namesF_is, List.length_map]
  have h1 := kOf_len (nmA (atomsAll rs))
  have h2 := atomsAll_len rs hwf
  unfold nmA at h1 ⊢
  rw [List.length_map] at h1
  omega
set_option maxRecDepth 100000 in
set_option maxHeartbeats 4000000 in
theorem rlevelsOf_any (rs : List PRule) (v : Value) (hs bs2 : List Value) (B : Nat) (w : World) (h : RulesAt 45 47 43 B w v rs hs bs2) (hl : rs.length ≤ 200) (hwf : ∀ r ∈ rs, WfR r) (hring : ringF rs = none) :
    Calls Tryz.prog 13 #[v] w fun e w' => (∃ u, e = .returned u ∧ w'.ownsRow w.heap.size 63 2 u (levelsL rs).length (levelsV (levelsL rs))) ∧ w.grownBy w' none := by
  obtain ⟨i0, hi0, hz0, hz1, hz2⟩ := info_parts infoInt
  obtain ⟨i1, hi1, hy0, hy1, hy2⟩ := info_parts infoLevel
  have HWF := hide hwf
  have HRA := hide h
  have HRG := hide hring
  have HNM := hide (rnames_any rs v hs bs2 B w h hl hwf)
  have HML : Hid ((namesF rs).length ≤ 2700) := namesF_len hl hwf
  have HBL : Hid ((bodyNames rs).length ≤ 2600) := Nat.le_trans (bodyNames_len rs hwf) (by omega)
  obtain ⟨va, vc, hv⟩ := own_form h.own
  subst hv
  clear h hwf hring
  obtain ⟨N, HN⟩ : ∃ N, Hid (rs.length = N) := ⟨_, (rfl : _ = _)⟩
  rw [HN.out] at hl HNM ⊢
  go_enter Tryz.func13, Tryz.ntmps13
  go_wp2_with fail
  refine HNM.out.mono ?_
  rintro e w1 ⟨⟨u, rfl, hu⟩, hg1⟩
  have HG1 := hide hg1
  have HU := hide hu
  obtain ⟨na, nc, hnn⟩ := own_form hu
  subst hnn
  clear hu hg1 HNM
  obtain ⟨F, HF⟩ : ∃ F, Hid (namesF rs = F) := ⟨_, (rfl : _ = _)⟩
  rw [HF.out] at HU HML ⊢
  obtain ⟨M, HM⟩ : ∃ M, Hid (F.length = M) := ⟨_, (rfl : _ = _)⟩
  have hM : M ≤ 2700 := by have := HML.out; have := HM.out; omega
  rw [HM.out] at HU ⊢
  go_wp2_with (at_make; refine wpList_make_full _ rfl _ _ 65 rfl w.heap.size 3 i0 (.int .i64 0) 1 Tryz.underlying65 hi0 hz0 hz1 .i64 .i64 _ _ M rfl rfl rfl rfl (by rw [hz2]; omega) (by unfold maxLen; omega) HG1.out.size ?_)
  intro w2 hown2 hg2
  have HO2 : Hid (w2.ownsRow w.heap.size 3 1 (.slice (some ⟨w1.heap.size, 0, none⟩) M M) M (nsV F (fun _ => 0))) := by
    have h5 := hown2
    rw [toList_madeCells_one] at h5
    rw [nsV_zero, HM.out]
    exact h5
  have HG2 := hide (fr_both HG1.out hg2)
  have HU2 := hide (own_far HU.out hg2 (by simp))
  obtain ⟨gn, HGN⟩ : ∃ gn, Hid (w1.heap.size = gn) := ⟨_, (rfl : _ = _)⟩
  rw [HGN.out] at HO2 ⊢
  clear hown2 hg2 HU HG1
  go_wp2_with fail
  obtain ⟨S, HS⟩ : ∃ S, Hid (sumL F (rank rs) = S) := ⟨_, (rfl : _ = _)⟩
  have HRS := hide (rank_sol HRG.out)
  have HRB : Hid (∀ x, rank rs x ≤ 2600) := fun x => Nat.le_trans (rank_len rs x) HBL.out
  have HND : Hid F.Nodup := by have := namesF_nodup rs; rw [HF.out] at this; exact this
  have hgw : w.heap.size ≤ gn := (own_blk HO2.out (g := gn) rfl).1
  go_loopw [5, 6, 7, 8, 9, 10] (fun mv iv hv kv pv qv wr => ∃ (mb : Bool) (f : List UInt8 → Nat), mv = .bool mb ∧ Hid (∀ g, Sol rs g → ∀ x, f x ≤ g x) ∧ Hid (mb = false → Sol rs f) ∧ Hid (wr.ownsRow w.heap.size 3 1 (.slice (some ⟨gn, 0, none⟩) M M) M (nsV F f)) ∧ Hid (wr.ownsRow w.heap.size 9 1 (.slice na M nc) M (ts F)) ∧ Hid (w.grownBy wr none)) (fun mv _ _ _ _ _ wr => match mv with
    | .bool true => (S + 1 - rowSum wr gn M) + 1
    | _ => 0)
  case atStart => exact ⟨true, fun _ => 0, rfl, fun _ _ _ => Nat.zero_le _, fun h => (by cases h), HO2, HU2, HG2⟩
  case round =>
    clear HO2 HU2 HG2
    obtain ⟨mb, f, rfl, HUN, HFX, HO, HU, HG⟩ := hrel
    obtain ⟨wl, rfl⟩ : ∃ wl, wl = wr := ⟨_, rfl⟩
    cases mb with
    | false =>
      have HLE : Hid (f = levelsF rs) := Least.unique ⟨HFX.out rfl, HUN.out⟩ (levels_least HRG.out)
      have HEND : Hid (levelsL rs = F.map (fun n => (n, f n))) := by show _ = _; unfold levelsL; rw [HF.out, HLE.out]
      have HFB : Hid (∀ x, f x ≤ 2600) := fun x => Nat.le_trans (HUN.out _ HRS.out x) (HRB.out x)
      clear HFX HLE HUN
      go_wp2_with fail
      go_loopw [11, 12] (fun ov jv w2 => ∃ j : Nat, j ≤ M ∧ jv = .int .i64 j ∧ Hid (w2.ownsRow wl.heap.size 63 2 ov j (levelsV ((F.take j).map fun n => (n, f n)))) ∧ Hid (wl.grownBy w2 none)) (fun _ jv _ => M - (intOf jv).toNat)
      case atStart => exact ⟨0, by omega, rfl, World.ownsRow_nil _ _ _ _, fr_refl _ _⟩
      case round =>
        obtain ⟨j, hj, rfl, HQ, HG2⟩ := hrel
        obtain ⟨wi, rfl⟩ : ∃ wi, wi = wr := ⟨_, rfl⟩
        obtain ⟨oa, oc, hov⟩ := own_form HQ.out
        subst hov
        by_cases hjt : j < M
        · have hjF : j < F.length := by have := HM.out; omega
          obtain ⟨g, hgl⟩ : ∃ g, na = some ⟨g, 0, none⟩ := by
            rcases HU.out.2 with ⟨hq, hn⟩ | ⟨g, cap, cur, hq, -⟩
            · omega
            · cases hq; exact ⟨g, rfl⟩
          subst hgl
          have c1 := HU.out.cells rfl j _ (ts_at (List.getElem?_eq_getElem hjF))
          have c2 := HO.out.cells rfl j (.int .i64 (f F[j] : Nat)) (by simp [nsV, hjF])
          rw [add_zero] at c1 c2
          replace c1 := grown_cell HG2.out c1
          replace c2 := grown_cell HG2.out c2
          have HNX : Hid (((F.take (j + 1)).map fun n => (n, f n)) = ((F.take j).map fun n => (n, f n)) ++ [(F[j], f F[j])]) := by
            show _ = _
            rw [List.take_succ_eq_append_getElem hjF, List.map_append]; rfl
          have hwl : wl.heap.size ≤ wi.heap.size := HG2.out.size
          generalize F[j] = x at *
          obtain ⟨sx, HSX⟩ : ∃ sx, Hid (str x = sx) := ⟨_, (rfl : _ = _)⟩
          rw [HSX.out] at c1
          obtain ⟨q, HQQ⟩ : ∃ q, Hid (f x = q) := ⟨_, (rfl : _ = _)⟩
          rw [HQQ.out] at c2 HNX
          have HQD : Hid ((wi.drewN 1).ownsRow wl.heap.size 63 2 (.slice oa j oc) j (levelsV ((F.take j).map fun n => (n, f n)))) := own_far HQ.out (fr_draws _ _ none) (by simp)
          have HLV : Hid (levelV (x, q) = [.string sx, .int .i64 (q : Nat)]) := by show _ = _; unfold levelV; rw [HSX.out]
          go_wp2_with fail
          go_region_law
            (first
              | (refine step_append_lies _ rfl _ _ 34 rfl wl.heap.size 63 i1 (.agg #[.string { data := #[] }, .int .i64 0]) 2 24 Tryz.underlying34 hi1 hy0 hy1 hy2 rfl (by decide) _ _ _ rfl (HQD.out.alloc _) ⟨wi.heap.size, 0, none⟩ 1 1 [.string sx, .int .i64 (q : Nat)] rfl rfl (fun j' u hj' => by match j', hj' with | 0, hj' => simp at hj'; subst hj'; exact World.cell?_alloc_at _ _ _ _ rfl | 1, hj' => simp at hj'; subst hj'; exact World.cell?_alloc_at _ _ _ _ rfl) (fun u hu => by simp at hu; rcases hu with rfl | rfl <;> rfl) (by decide) (by unfold maxLen; omega) (by omega) (by simp; omega) _ rfl ?_; intro g4 cp w4 hown4 hg4 hat4 hlt4))
          all_goals
            have HG4 : Hid (wl.grownBy w4 none) := lies_grown HG2.out HQ.out (Nat.le_refl _) hg4
            have HQ4 : Hid (w4.ownsRow wl.heap.size 63 2 (.slice (some ⟨g4, 0, none⟩) (j + 1) cp) (j + 1) (levelsV ((F.take (j + 1)).map fun n => (n, f n)))) := by
              rw [HNX.out, ← levelsV_snoc, HLV.out]; exact hown4
            clear hown4 hg4 hat4 hlt4
          all_goals go_wp2
          all_goals go_roundw
          all_goals first | exact ⟨j + 1, by omega, by go_num, HQ4, HG4⟩ | (simp [intOf]; omega)
        · have HE : Hid (((F.take j).map fun n => (n, f n)) = levelsL rs ∧ j = (levelsL rs).length) := by
            refine ⟨?_, ?_⟩
            · rw [HEND.out, List.take_of_length_le (by have := HM.out; omega)]
            · rw [HEND.out, List.length_map]
              have := HM.out; omega
          go_wp2
          go_ret
          refine ⟨⟨_, rfl, ?_⟩, fr_both HG.out HG2.out⟩
          rw [← HE.out.1]
          have e : ((F.take j).map fun n => (n, f n)).length = j := by rw [List.length_map, List.length_take]; have := HM.out; omega
          rw [e]
          exact own_lower HQ.out HG.out.size
    | true =>
      clear HFX
      have HRW : Hid (rowSum wl gn M = sumL F f) := rowSum_at HM.out HO.out
      go_wp2_with fail
      go_loopw [5, 6, 7, 8, 9, 10] (fun mv iv hv kv pv qv wm => ∃ (i : Nat) (mb' : Bool) (f' : List UInt8 → Nat), i ≤ N ∧ iv = .int .i64 i ∧ mv = .bool mb' ∧ Hid (liftR (rs.take i) (f, false) = (f', mb')) ∧ Hid (wm.ownsRow w.heap.size 3 1 (.slice (some ⟨gn, 0, none⟩) M M) M (nsV F f')) ∧ Hid (wm.ownsRow w.heap.size 9 1 (.slice na M nc) M (ts F)) ∧ Hid (w.grownBy wm none)) (fun _ iv _ _ _ _ _ => N - (intOf iv).toNat)
      case atStart => exact ⟨0, false, f, by omega, rfl, rfl, (rfl : _ = _), HO, HU, HG⟩
      case round =>
        clear HO HU HG
        obtain ⟨i, mb', f', hi, rfl, rfl, HLI, HO, HU, HG⟩ := hrel
        obtain ⟨wm, rfl⟩ : ∃ wm, wm = wr := ⟨_, rfl⟩
        by_cases hit : i < N
        · have hkr : i < rs.length := by have := HN.out; omega
          have hkh : i < hs.length := by have := HRA.out.lh; omega
          have hkb : i < bs2.length := by have := HRA.out.lb; omega
          have hor := HRA.out
          rcases own_rules hor with ⟨h0, h1⟩ | ⟨gr, cr, hvr, -, -, hcr, -⟩
          · rw [h1] at hkr; simp at hkr
          cases hvr
          have HCR := hide (hcr i rs[i] hs[i] bs2[i] (List.getElem?_eq_getElem hkr) (List.getElem?_eq_getElem hkh) (List.getElem?_eq_getElem hkb))
          obtain ⟨us, hbd⟩ := hor.bodies i rs[i] bs2[i] (List.getElem?_eq_getElem hkr) (List.getElem?_eq_getElem hkb)
          have hhd := hor.heads i rs[i] hs[i] (List.getElem?_eq_getElem hkr) (List.getElem?_eq_getElem hkh)
          have HW := hide (HWF.out _ (List.getElem_mem hkr))
          have HST := hide (liftR_take rs i hkr (f, false))
          rw [HLI.out] at HST
          have HHN : Hid (rs[i].head.name ∈ F) := by have := head_in_names (List.getElem_mem hkr); rw [HF.out] at this; exact this
          have HPN : Hid (∀ p ∈ rs[i].body, p.kind < 2 → p.atom.name ∈ F) := fun p hp hk => by have := part_in_names (List.getElem_mem hkr) hp hk; rw [HF.out] at this; exact this
          have HUB : Hid (∀ x, f' x ≤ rank rs x) := fun x => by
            have := under_round HRS.out (HUN.out _ HRS.out) i false x
            rw [HLI.out] at this
            exact this
          have HSB : Hid (∀ p ∈ rs[i].body, p.kind < 2 → rank rs p.atom.name + p.kind ≤ rank rs rs[i].head.name) := HRS.out _ (List.getElem_mem hkr)
          obtain ⟨xa, xc, hxx⟩ := own_form hhd
          obtain ⟨ya, yc, hyy⟩ := own_form hbd.own
          rw [hxx, hyy] at HCR
          rw [hyy] at hbd
          have HBD := hide hbd
          clear hcr hor hbd hhd hxx hyy
          generalize rs[i] = r at *
          obtain ⟨L, HL⟩ : ∃ L, Hid (r.body.length = L) := ⟨_, (rfl : _ = _)⟩
          have hL : L ≤ 12 := by have h1 := HL.out; have h2 := HW.out.2.1; omega
          have HKP : Hid (∀ (w' : World), w.grownBy w' none → ∀ (j : Nat) (x : Value), (ruleV r (.slice xa r.head.args.length xc) (.slice ya L yc))[j]? = some x → w'.cell? ⟨gr, i * 4 + j, none⟩ = some x) := by
            intro w' hg j x hx
            rw [← HL.out] at hx
            exact grown_cell hg (HCR.out j x hx)
          clear HCR
          obtain ⟨kh, hkh2, HKH⟩ : ∃ kh, kh < M ∧ Hid (∃ hk : kh < F.length, F[kh] = r.head.name ∧ find F r.head.name = kh) := by
            obtain ⟨kh, hk, h1, h2⟩ := name_at HHN.out
            exact ⟨kh, by have := HM.out; omega, hk, h1, h2⟩
          have d0 := HKP.out wm HG.out 0 _ rfl
          simp only [Nat.add_zero] at d0
          have HFN : Hid (∀ (x : List UInt8) (w' : World), w'.ownsRow w.heap.size 9 1 (.slice na M nc) M (ts F) → Calls Tryz.prog 26 #[.slice na M nc, .string (str x)] w' fun e w'' => e = .returned (.int .i64 (find F x)) ∧ w'' = w') := by
            intro x w' ho
            have := rfind_any _ F (str x) w' (own_strs ho) (by have := HM.out; omega)
            rw [data_str] at this
            exact this
          have HC1 := hide (HFN.out r.head.name wm HU.out)
          rw [HKH.out.choose_spec.2] at HC1
          go_wp2_with fail
          refine HC1.out.mono ?_
          rintro e w3 ⟨rfl, h3⟩
          obtain rfl : w3 = wm := h3
          clear HC1 d0
          go_wp2_with fail
          go_loopw [5, 8, 9, 10] (fun mv kv pv qv wi => ∃ (k : Nat) (mc : Bool) (fc : List UInt8 → Nat), k ≤ L ∧ kv = .int .i64 k ∧ mv = .bool mc ∧ Hid (liftB r.head.name (r.body.take k) (f', mb') = (fc, mc)) ∧ Hid (wi.ownsRow w.heap.size 3 1 (.slice (some ⟨gn, 0, none⟩) M M) M (nsV F fc)) ∧ Hid (wi.ownsRow w.heap.size 9 1 (.slice na M nc) M (ts F)) ∧ Hid (w.grownBy wi none)) (fun _ kv _ _ _ => L - (intOf kv).toNat)
          case atStart => exact ⟨0, mb', f', by omega, rfl, rfl, (rfl : _ = _), HO, HU, HG⟩
          case round =>
            clear HO HU HG
            obtain ⟨k, mc, fc, hk, rfl, rfl, HLK, HO, HU, HG⟩ := hrel
            obtain ⟨wi, rfl⟩ : ∃ wi, wi = wr := ⟨_, rfl⟩
            have d3 := HKP.out wi HG.out 3 _ rfl
            by_cases hkt : k < L
            · have hkr2 : k < r.body.length := by have := HL.out; omega
              have hkv : k < us.length := by have := HBD.out.len; omega
              rcases own_parts HBD.out with ⟨h0, h1⟩ | ⟨gb, cb, hvb, -, -, hcb, -⟩
              · rw [h1] at hkr2; simp at hkr2
              have hcp := hcb k r.body[k] us[k] (List.getElem?_eq_getElem hkr2) (List.getElem?_eq_getElem hkv)
              have har := HBD.out.args k r.body[k] us[k] (List.getElem?_eq_getElem hkr2) (List.getElem?_eq_getElem hkv)
              cases hvb
              have HSK := hide (liftB_take r.head.name r.body k hkr2 (f', mb'))
              rw [HLK.out] at HSK
              have HPK := hide (HPN.out _ (List.getElem_mem hkr2))
              have HUC : Hid (∀ x, fc x ≤ rank rs x) := fun x => by
                have := under_part HSB.out HUB.out k mb' x
                rw [HLK.out] at this
                exact this
              obtain ⟨za, zc, hzz⟩ := own_form har
              rw [hzz] at hcp
              generalize r.body[k] = p at *
              have kp : ∀ (j : Nat) (x : Value), (partV p (.slice za p.atom.args.length zc))[j]? = some x → wi.cell? ⟨gb, k * 10 + j, none⟩ = some x := fun j x hx => grown_cell HG.out (hcp j x hx)
              have e0 := kp 0 _ rfl
              have e1 := kp 1 _ rfl
              have e2 := kp 2 _ rfl
              have e3 := kp 3 _ rfl
              have e4 := kp 4 _ rfl
              have e5 := kp 5 _ rfl
              have e6 := kp 6 _ rfl
              have e7 := kp 7 _ rfl
              have e8 := kp 8 _ rfl
              have e9 := kp 9 _ rfl
              simp only [Nat.add_zero] at e0
              clear kp hcp hcb har hzz
              obtain ⟨sp, HSP⟩ : ∃ sp, Hid (str p.atom.name = sp) := ⟨_, (rfl : _ = _)⟩
              rw [HSP.out] at e1
              by_cases h1 : 1 < p.kind
              · have hb : decide (((1 : Nat) : Int) < (p.kind : Nat)) = true := decide_eq_true (by omega)
                have hb1 : decide ((1 : Int) < (p.kind : Nat)) = true := decide_eq_true (by omega)
                have HN2 : Hid (liftB r.head.name (r.body.take (k + 1)) (f', mb') = (fc, mc)) := by
                  show _ = _
                  rw [HSK.out]
                  have hn : ¬ (p.kind < 2 ∧ fc r.head.name < fc p.atom.name + p.kind) := by omega
                  unfold lift1 moves1
                  rw [if_neg hn, decide_eq_false hn, Bool.or_false]
                clear h1
                go_wp2
                go_roundw
                case rel => exact ⟨k + 1, mc, fc, by omega, by go_num, rfl, HN2, own_far HO.out (fr_alloc _ _ none) (by simp), own_far HU.out (fr_alloc _ _ none) (by simp), fr_both HG.out (fr_alloc _ _ _)⟩
                case measure => simp [intOf]; omega
              · have hb1 : decide ((1 : Int) < (p.kind : Nat)) = false := decide_eq_false (by omega)
                have hk1 : p.kind ≤ 1 := by omega
                obtain ⟨kq, hkq, HKQ⟩ : ∃ kq, kq < M ∧ Hid (∃ hk : kq < F.length, F[kq] = p.atom.name ∧ find F p.atom.name = kq) := by
                  obtain ⟨kq, hk, h1, h2⟩ := name_at (HPK.out (by omega))
                  exact ⟨kq, by have := HM.out; omega, hk, h1, h2⟩
                clear h1
                go_wp2_with fail
                generalize hw4 : World.alloc wi _ = w4
                obtain ⟨bx, HBX⟩ : ∃ bx, Hid (wi.heap.size = bx) := ⟨_, (rfl : _ = _)⟩
                have hga : wi.grownBy w4 none := by rw [← hw4]; exact fr_alloc _ _ _
                have b0 : w4.cell? ⟨bx, 0, none⟩ = some (.int .i64 (p.kind : Nat)) := by rw [← hw4, ← HBX.out]; simp
                have b1 : w4.cell? ⟨bx, 1, none⟩ = some (.string sp) := by rw [← hw4, ← HBX.out]; simp
                rw [HBX.out]
                have HO4 := hide (own_far HO.out hga (by simp))
                have HU4 := hide (own_far HU.out hga (by simp))
                have HG4 := hide (fr_both HG.out hga)
                clear hw4 hga HO HU HG e0 e1 e2 e3 e4 e5 e6 e7 e8 e9 d3
                have HT : Hid (∀ n : Nat, Calls Tryz.prog 26 #[.slice na M nc, .string sp] (w4.drewN n) fun e w' => e = .returned (.int .i64 (kq : Nat)) ∧ w' = w4.drewN n) := by
                  intro n
                  have := HFN.out p.atom.name (w4.drewN n) (own_far HU4.out (fr_draws _ _ none) (by simp))
                  rw [HSP.out, HKQ.out.choose_spec.2] at this
                  exact this
                have ca : w4.cell? ⟨gn, kq, none⟩ = some (.int .i64 (fc p.atom.name : Nat)) := by
                  obtain ⟨hq, h1, -⟩ := HKQ.out
                  have := HO4.out.cells rfl kq (.int .i64 (fc F[kq] : Nat)) (by simp [nsV, hq])
                  rw [add_zero, h1] at this
                  exact this
                have ch : w4.cell? ⟨gn, kh, none⟩ = some (.int .i64 (fc r.head.name : Nat)) := by
                  obtain ⟨hq, h1, -⟩ := HKH.out
                  have := HO4.out.cells rfl kh (.int .i64 (fc F[kh] : Nat)) (by simp [nsV, hq])
                  rw [add_zero, h1] at this
                  exact this
                have fz := own_soft HO4.out kh
                have hfa : fc p.atom.name ≤ 2600 := Nat.le_trans (HUC.out _) (HRB.out _)
                have hfh : fc r.head.name ≤ 2600 := Nat.le_trans (HUC.out _) (HRB.out _)
                have HSET : Hid (nsV F (setN fc r.head.name (fc p.atom.name + p.kind)) = (nsV F fc).set kh (.int .i64 ((fc p.atom.name : Nat) + (p.kind : Nat) : Int))) := by
                  obtain ⟨hq, h1, -⟩ := HKH.out
                  show _ = _
                  rw [← h1, nsV_set HND.out fc kh hq, Int.natCast_add]
                have HL1 : Hid (fc r.head.name < fc p.atom.name + p.kind → liftB r.head.name (r.body.take (k + 1)) (f', mb') = (setN fc r.head.name (fc p.atom.name + p.kind), true)) := fun hc => by
                  rw [HSK.out]
                  have hn : p.kind < 2 ∧ fc r.head.name < fc p.atom.name + p.kind := ⟨by omega, hc⟩
                  unfold lift1 moves1
                  rw [if_pos hn, decide_eq_true hn, Bool.or_true]
                have HL2 : Hid (¬ fc r.head.name < fc p.atom.name + p.kind → liftB r.head.name (r.body.take (k + 1)) (f', mb') = (fc, mc)) := fun hc => by
                  rw [HSK.out]
                  have hn : ¬ (p.kind < 2 ∧ fc r.head.name < fc p.atom.name + p.kind) := fun h => hc h.2
                  unfold lift1 moves1
                  rw [if_neg hn, decide_eq_false hn, Bool.or_false]
                obtain ⟨A1, HA1⟩ : ∃ A1, Hid (fc p.atom.name = A1) := ⟨_, (rfl : _ = _)⟩
                obtain ⟨H1, HH1⟩ : ∃ H1, Hid (fc r.head.name = H1) := ⟨_, (rfl : _ = _)⟩
                rw [HA1.out] at ca hfa HSET HL1 HL2
                rw [HH1.out] at ch hfh HL1 HL2
                obtain ⟨K1, HK1⟩ : ∃ K1, Hid (p.kind = K1) := ⟨_, (rfl : _ = _)⟩
                rw [HK1.out] at b0 hk1 HSET HL1 HL2 hb1 ⊢
                go_quiet ((go_at_call 26; refine Calls.quiet_of_same (HT.out _)))
                by_cases hc : H1 < A1 + K1
                · have HN2 := hide (HL1.out hc)
                  clear HL1 HL2
                  have HOD : Hid (∀ n : Nat, (w4.drewN n).ownsRow w.heap.size 3 1 (.slice (some ⟨gn, 0, none⟩) M M) M (nsV F fc)) := fun n => own_far HO4.out (fr_draws _ _ none) (by simp)
                  have HUD : Hid (∀ n : Nat, (w4.drewN n).ownsRow w.heap.size 9 1 (.slice na M nc) M (ts F)) := fun n => own_far HU4.out (fr_draws _ _ none) (by simp)
                  have HOS : Hid (∀ n : Nat, ((w4.drewN n).setCell ⟨gn, kh, none⟩ (.int .i64 ((A1 : Nat) + (K1 : Nat) : Int))).ownsRow w.heap.size 3 1 (.slice (some ⟨gn, 0, none⟩) M M) M (nsV F (setN fc r.head.name (A1 + K1)))) := fun n => by
                    have h := own_set (HOD.out n) kh (.int .i64 ((A1 : Nat) + (K1 : Nat) : Int))
                    rw [← HSET.out] at h
                    exact h
                  go_wp2
                  go_roundw
                  case rel => exact ⟨k + 1, true, _, by omega, by go_num, rfl, HN2, HOS.out _, own_far (HUD.out _) (fr_set _ gn kh _) (kinds_ne (HUD.out 0) (HOD.out 0) (by decide)), fr_new (fr_both HG4.out (fr_draws _ _ _)) hgw kh _⟩
                  case measure => simp [intOf]; omega
                · have HN2 := hide (HL2.out hc)
                  clear HL1 HL2
                  go_wp2
                  go_roundw
                  case rel => exact ⟨k + 1, mc, fc, by omega, by go_num, rfl, HN2, own_far HO4.out (fr_draws _ _ none) (by simp), own_far HU4.out (fr_draws _ _ none) (by simp), fr_both HG4.out (fr_draws _ _ _)⟩
                  case measure => simp [intOf]; omega
            · have HNX : Hid (liftR (rs.take (i + 1)) (f, false) = (fc, mc)) := by
                have := HLK.out
                rw [List.take_of_length_le (by have := HL.out; omega), ← HST.out] at this
                exact this
              go_wp2
              go_roundw
              case rel => exact ⟨i + 1, mc, fc, by omega, by go_num, rfl, HNX, HO, HU, HG⟩
              case measure => simp [intOf]; omega
        · have HLA : Hid (liftR rs (f, false) = (f', mb')) := by
            have := HLI.out
            rw [List.take_of_length_le (by have := HN.out; omega)] at this
            exact this
          have HUN2 : Hid (∀ g, Sol rs g → ∀ x, f' x ≤ g x) := fun g hg x => by
            have := liftR_under rs (f, false) hg (HUN.out g hg) x
            rw [HLA.out] at this
            exact this
          have HFX2 : Hid (mb' = false → Sol rs f') := fun h => by
            have := liftR_still rs f (by rw [HLA.out]; exact h)
            rw [HLA.out] at this
            have h1 : f' = f := this.1
            rw [h1]
            exact this.2
          have HRW2 : Hid (rowSum wm gn M = sumL F f') := rowSum_at HM.out HO.out
          have HLT : Hid (mb' = true → sumL F f < sumL F f' ∧ sumL F f' ≤ S) := fun h => by
            have h1 := liftR_row rs f (by rw [HLA.out]; exact h)
            rw [HLA.out, HF.out] at h1
            refine ⟨h1, ?_⟩
            rw [← HS.out]
            exact sumL_le (HUN2.out _ HRS.out) F
          go_wp2
          go_roundw
          case rel => exact ⟨mb', f', rfl, HUN2, HFX2, HO, HU, HG⟩
          case measure =>
            cases mb' with
            | false => exact Nat.succ_pos _
            | true =>
              show S + 1 - rowSum wm gn M + 1 < S + 1 - rowSum wl gn M + 1
              rw [HRW.out, HRW2.out]
              have := HLT.out rfl
              omega
end Go.Proofs.YtgllfcoafgphbaaGreatDoor
