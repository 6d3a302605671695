import Derived.Test.YtgllfcoafgphbaaGreatDoorLevelOf
/-
  The law CheckSound, walked.
-/
namespace Go.Proofs.YtgllfcoafgphbaaGreatDoor
open Go.ChangeShapes Go.WideShapes Go.ChangeAt Go.RowKit Go.Hands
set_option linter.unusedVariables false
set_option maxRecDepth 100000 in
set_option maxHeartbeats 4000000 in
theorem sound_walk (s : ByteArray) (L T M : Addr) (w : World) (hE : Errs w L T M) (hB : ErrB w L T M) (hgt : gTop ≤ w.heap.size) :
    Calls Tryz.prog 5 #[.string s] w fun en w' => en = .returned (.bool true) ∧ Below w.heap.size w w' := by
  have HC1 := hide (plevels_any s L T M w hE hB hgt)
  clear hE hB
  obtain ⟨R, HT⟩ : ∃ R, Hid (checkF s.data.toList = R) := ⟨_, (rfl : _ = _)⟩
  rw [HT.out] at HC1
  have HD := hide (fun w1 => rchecked_any s w1)
  rw [HT.out] at HD
  go_enter Tryz.func5, Tryz.ntmps5
  go_wp2_with fail
  refine HC1.out.mono ?_
  rintro e w1 ⟨hq, hb1⟩
  have HB1 := hide hb1
  clear hb1 HC1
  cases R with
  | error er =>
    obtain ⟨ec, x⟩ := er
    have hq' : e = .returned (.tuple #[.slice none 0 0, .int .i64 (ec : Nat), .int .i64 (x : Nat)]) := hq
    subst hq'
    have hne : (((ec : Nat) : Int) != 0) = true := by
      rw [bne_iff_ne]
      have := check_err0 s ec x HT.out
      omega
    clear hq
    go_wp2_with fail
    refine (HD.out w1).mono ?_
    rintro e w2 ⟨hq2, hg2⟩
    have hq' : e = .returned (.tuple #[.slice none 0 0, .int .i64 (ec : Nat), .int .i64 (x : Nat)]) := hq2
    subst hq'
    have HB2 : Hid (Below w.heap.size w w2) := HB1.out.trans ((below_ofNone hg2).mono HB1.out.size)
    clear hq2 hg2
    go_wp2_with fail
    refine (numC_any _ _).mono ?_
    rintro e w4 ⟨rfl, rfl⟩
    go_wp2_with fail
    refine (numC_any _ _).mono ?_
    rintro e w4 ⟨rfl, rfl⟩
    go_wp2
    go_ret
    exact ⟨by simp, HB2.out⟩
  | ok rs =>
    obtain ⟨v, rfl, hown⟩ := hq
    obtain ⟨hpf, hring⟩ := checkF_yes HT.out
    obtain ⟨hrl, hwf⟩ := parseF_wf _ _ hpf
    have hLN := levelsL_len hrl hwf
    have HLE := hide (levels_least hring)
    have HNM : Hid (∀ r ∈ rs, ∀ p ∈ r.body, p.kind < 2 → p.atom.name ∈ namesF rs) := fun r hr p hp hk => part_in_names hr hp hk
    have HLB : Hid (∀ x, levelsF rs x ≤ 200000) := fun x => by
      have h1 := (levels_least hring).2 _ (rank_sol hring) x
      have h2 := rank_lenP rs x
      have h3 := bodyNames_lenC 1000 rs (fun r hr => (wf_ring hwf r hr).1)
      omega
    have HWF := hide hwf
    have HOW := hide hown
    obtain ⟨va, vc, hv⟩ := own_form hown
    subst hv
    clear hown hpf hring hwf
    have e0 : (levelsL rs).length = (namesF rs).length := by unfold levelsL; rw [List.length_map]
    have e1 : levelsL rs = (namesF rs).map fun n => (n, levelsF rs n) := rfl
    rw [e0] at HOW hLN ⊢
    rw [e1] at HOW
    obtain ⟨F, HF⟩ : ∃ F, Hid (namesF rs = F) := ⟨_, (rfl : _ = _)⟩
    obtain ⟨f, HFF⟩ : ∃ f, Hid (levelsF rs = f) := ⟨_, (rfl : _ = _)⟩
    rw [HF.out] at HOW hLN HNM ⊢
    rw [HFF.out] at HOW HLE HLB
    obtain ⟨N, HN⟩ : ∃ N, Hid (F.length = N) := ⟨_, (rfl : _ = _)⟩
    rw [HN.out] at HOW hLN ⊢
    clear e0 e1
    go_wp2_with fail
    refine (HD.out w1).mono ?_
    rintro e w2 ⟨hq2, hg2⟩
    obtain ⟨v2, h2, b2, rfl, hra⟩ := hq2
    have HRA := hide hra
    obtain ⟨ra, rc, hv2⟩ := own_form hra.own
    subst hv2
    have HB2 : Hid (Below w.heap.size w w2) := HB1.out.trans ((below_ofNone hg2).mono HB1.out.size)
    have HO2 : Hid (w2.ownsRow w.heap.size 37 2 (.slice va N vc) N (levelsV (F.map fun n => (n, f n)))) := own_far HOW.out hg2 (by simp)
    clear hra hg2 HD HOW
    obtain ⟨NR, HNR⟩ : ∃ NR, Hid (rs.length = NR) := ⟨_, (rfl : _ = _)⟩
    rw [HNR.out] at hrl ⊢
    rw [HNR.out] at HRA
    go_wp2_with fail
    refine (numC_any _ _).mono ?_
    rintro e w3 ⟨rfl, rfl⟩
    go_wp2_with fail
    go_loopw [9] (fun iv wr => ∃ i : Nat, i ≤ N ∧ iv = .int .i64 i ∧ Hid (w3.grownBy wr none)) (fun iv _ => N - (intOf iv).toNat)
    case atStart => exact ⟨0, by omega, rfl, fr_refl _ _⟩
    case round =>
      obtain ⟨i, hi, rfl, HG⟩ := hrel
      obtain ⟨wi, rfl⟩ : ∃ wi, wi = wr := ⟨_, rfl⟩
      by_cases hlt : i < N
      · have hiF : i < F.length := by have := HN.out; omega
        have HLC : Hid (∃ g, va = some ⟨g, 0, none⟩ ∧ w3.cell? ⟨g, i * 2, none⟩ = some (.string (str F[i])) ∧ w3.cell? ⟨g, i * 2 + 1, none⟩ = some (.int .i64 (f F[i] : Nat))) := by
          have h1 := HO2.out
          have e1 : N = (F.map fun n => (n, f n)).length := by rw [List.length_map]; exact HN.out.symm
          rw [e1] at h1
          rcases own_levels h1 with ⟨h0, h3⟩ | ⟨ga, cap1, hv1, hc1⟩
          · have := congrArg List.length h3
            rw [← e1] at this
            simp at this; omega
          cases hv1
          obtain ⟨a0, a1⟩ := hc1 i (by rw [← e1]; exact hlt)
          rw [List.getElem_map] at a0 a1
          exact ⟨ga, rfl, a0, a1⟩
        obtain ⟨ga, rfl, l0, l1⟩ := HLC.out
        have HL0 := hide l0
        have HL1 := hide l1
        have l0i := grown_cell HG.out l0
        have l1i := grown_cell HG.out l1
        obtain ⟨x, HXE⟩ : ∃ x, Hid (F[i] = x) := ⟨F[i], (rfl : F[i] = _)⟩
        rw [HXE.out] at HL0 HL1 l0i l1i
        have hxb := HLB.out x
        obtain ⟨sx, HSX⟩ : ∃ sx, Hid (str x = sx) := ⟨_, (rfl : _ = _)⟩
        obtain ⟨q, HQ⟩ : ∃ q, Hid (f x = q) := ⟨_, (rfl : _ = _)⟩
        rw [HSX.out] at HL0 l0i
        rw [HQ.out] at HL1 l1i hxb
        clear l0 l1 HLC
        go_wp2_with fail
        have HRG : Hid (∀ k, k < NR → ∃ g, ra = some ⟨g, 0, none⟩ ∧ ∀ (r : PRule) (a b : Value), rs[k]? = some r → h2[k]? = some a → b2[k]? = some b → ∀ (j : Nat) (y : Value), (ruleV r a b)[j]? = some y → w3.cell? ⟨g, k * 4 + j, none⟩ = some y) := by
          intro k hk
          have h1 := HRA.out
          rw [← HNR.out] at h1 hk
          rcases own_rules h1 with ⟨_, h0⟩ | ⟨g, cap, hvg, _, _, hc, _⟩
          · rw [h0] at hk; simp at hk
          · cases hvg
            exact ⟨g, rfl, fun r a b hr ha hb j y hy => hc k r a b hr ha hb j y hy⟩
        go_loopw [10, 11] (fun nv kv wr => ∃ (k : Nat) (b : Bool), k ≤ NR ∧ kv = .int .i64 k ∧ nv = .bool b ∧ Hid (b = ((f x == 0) || needR f x (rs.take k))) ∧ Hid (w3.grownBy wr none)) (fun _ kv _ => NR - (intOf kv).toNat)
        case atStart =>
          refine ⟨0, _, by omega, rfl, rfl, ?_, HG⟩
          show _ = _
          rw [HQ.out, Bool.eq_iff_iff]
          simp [needR]
          try omega
        case round =>
          obtain ⟨k, b, hk, rfl, rfl, HBN, HGK⟩ := hrel
          obtain ⟨wk, rfl⟩ : ∃ wk, wk = wr := ⟨_, rfl⟩
          by_cases hkt : k < NR
          · have hkr : k < rs.length := by have := HNR.out; omega
            have hkh : k < h2.length := by have := HRA.out.lh; omega
            have hkb : k < b2.length := by have := HRA.out.lb; omega
            obtain ⟨gr, rfl, hcr⟩ := HRG.out k hkt
            have hrk : rs[k]? = some rs[k] := List.getElem?_eq_getElem hkr
            have hhk : h2[k]? = some h2[k] := List.getElem?_eq_getElem hkh
            have hbk : b2[k]? = some b2[k] := List.getElem?_eq_getElem hkb
            have HCR := hide (hcr rs[k] h2[k] b2[k] hrk hhk hbk)
            obtain ⟨us, hbd⟩ := HRA.out.bodies k rs[k] b2[k] hrk hbk
            have HWR := hide (HWF.out rs[k] (List.getElem_mem hkr))
            have HNMR := hide (HNM.out rs[k] (List.getElem_mem hkr))
            have HSOR := hide (HLE.out.1 rs[k] (List.getElem_mem hkr))
            have HNX := hide (needR_next f x rs k hkr)
            obtain ⟨ya, yc, hyy⟩ := own_form hbd.own
            rw [hyy] at HCR hbd
            have HBD := hide hbd
            clear hcr hbd hyy hrk hhk hbk
            generalize rs[k] = r at *
            generalize h2[k] = hdv at *
            have c0 := grown_cell HGK.out (HCR.out 0 _ rfl)
            have c3 := grown_cell HGK.out (HCR.out 3 _ rfl)
            rw [Nat.add_zero] at c0
            have l0k := grown_cell HGK.out HL0.out
            have hcmp : ((str r.head.name).toList == sx.toList) = (r.head.name == x) := by rw [← HSX.out, str_beq]
            by_cases hq : r.head.name = x
            · have hcm : ((str r.head.name).toList == sx.toList) = true := by rw [hcmp, hq]; simp
              have HNX2 : Hid (needR f x (rs.take (k + 1)) = (needR f x (rs.take k) || needP f x r.body)) := by show _ = _; rw [HNX.out, hq]; simp
              rw [hq] at HSOR
              have hbl : r.body.length ≤ 12 := HWR.out.2.1
              obtain ⟨NB, HNB⟩ : ∃ NB, Hid (r.body.length = NB) := ⟨_, (rfl : _ = _)⟩
              rw [HNB.out] at c3 hbl
              have HC3 : Hid (w3.cell? ⟨gr, k * 4 + 3, none⟩ = some (.slice ya NB yc)) := by
                have := HCR.out 3 _ rfl
                rw [HNB.out] at this; exact this
              have HBDW : Hid (PartsAt 45 47 w1.heap.size w3 (.slice ya NB yc) r.body us) := by
                have := HBD.out
                rwa [HNB.out] at this
              clear hcmp hq
              generalize str r.head.name = sr at *
              go_wp2_with fail
              go_quiet (fail)
              go_wp2_with fail
              generalize hwd : wk.drewN _ = wd
              have HGD : Hid (w3.grownBy wd none) := by rw [← hwd]; exact fr_both HGK.out (fr_draws _ _ _)
              clear hwd
              have HPG : Hid (∀ j, j < NB → ∃ g, ya = some ⟨g, 0, none⟩ ∧ ∀ (p : PPart) (u : Value), r.body[j]? = some p → us[j]? = some u → ∀ (m : Nat) (y : Value), (partV p u)[m]? = some y → w3.cell? ⟨g, j * 10 + m, none⟩ = some y) := by
                intro j hj
                have h1 := HBDW.out
                rw [← HNB.out] at h1 hj
                rcases own_parts h1 with ⟨_, h0⟩ | ⟨g, cap, hvg, _, _, hc, _⟩
                · rw [h0] at hj; simp at hj
                · cases hvg
                  exact ⟨g, rfl, fun p u hp hu m y hy => hc j p u hp hu m y hy⟩
              have HUL : Hid (us.length = NB) := by rw [← HNB.out]; exact HBDW.out.len
              go_loopw [10, 12] (fun nv jv wr => ∃ (j : Nat) (b : Bool), j ≤ NB ∧ jv = .int .i64 j ∧ nv = .bool b ∧ Hid (b = ((f x == 0) || (needR f x (rs.take k) || needP f x (r.body.take j)))) ∧ Hid (w3.grownBy wr none)) (fun _ jv _ => NB - (intOf jv).toNat)
              case atStart =>
                refine ⟨0, b, by omega, rfl, rfl, ?_, HGD⟩
                show _ = _
                rw [HBN.out]
                simp [needP]
              case round =>
                obtain ⟨j, b', hj, rfl, rfl, HBJ, HGJ⟩ := hrel
                obtain ⟨wj, rfl⟩ : ∃ wj, wj = wr := ⟨_, rfl⟩
                have c3j := grown_cell HGJ.out HC3.out
                by_cases hjt : j < NB
                · have hjr : j < r.body.length := by have := HNB.out; omega
                  have hju : j < us.length := by have := HUL.out; omega
                  obtain ⟨gp, rfl, hcp⟩ := HPG.out j hjt
                  have hpj : r.body[j]? = some r.body[j] := List.getElem?_eq_getElem hjr
                  have huj : us[j]? = some us[j] := List.getElem?_eq_getElem hju
                  have HCP := hide (hcp r.body[j] us[j] hpj huj)
                  have hus := own_slice (HBDW.out.args j _ _ hpj huj)
                  have HNPX := hide (needP_next f x r.body j hjr)
                  have HSP : Hid (r.body[j].kind < 2 → f r.body[j].atom.name + r.body[j].kind ≤ f x) := HSOR.out _ (List.getElem_mem hjr)
                  have HNP : Hid (r.body[j].kind < 2 → r.body[j].atom.name ∈ F) := HNMR.out _ (List.getElem_mem hjr)
                  have hkb4 : r.body[j].kind ≤ 4 := (wfP_len (HWR.out.2.2 _ (List.getElem_mem hjr))).1
                  rw [hus] at HCP
                  generalize sliceA us[j] = pa at *
                  generalize sliceC us[j] = pc at *
                  generalize r.body[j] = p at *
                  clear hcp hpj huj hus
                  have kp : ∀ (m : Nat) (y : Value), (partV p (.slice pa p.atom.args.length pc))[m]? = some y → wj.cell? ⟨gp, j * 10 + m, none⟩ = some y := fun m y hy => grown_cell HGJ.out (HCP.out m y hy)
                  have d0 := kp 0 _ rfl
                  have d1 := kp 1 _ rfl
                  have d2 := kp 2 _ rfl
                  have d3 := kp 3 _ rfl
                  have d4 := kp 4 _ rfl
                  have d5 := kp 5 _ rfl
                  have d6 := kp 6 _ rfl
                  have d7 := kp 7 _ rfl
                  have d8 := kp 8 _ rfl
                  have d9 := kp 9 _ rfl
                  rw [Nat.add_zero] at d0
                  clear kp
                  obtain ⟨pk, HPK⟩ : ∃ pk, Hid (p.kind = pk) := ⟨_, (rfl : _ = _)⟩
                  rw [HPK.out] at d0 HNPX HSP HNP hkb4
                  obtain ⟨wp, HWP⟩ : ∃ wp, Hid (wp = wj.alloc (.cells (partV p (.slice pa p.atom.args.length pc)).toArray 47)) := ⟨_, rfl⟩
                  unfold partV at HWP
                  rw [HPK.out] at HWP
                  obtain ⟨sp, HSP2⟩ : ∃ sp, Hid (str p.atom.name = sp) := ⟨_, (rfl : _ = _)⟩
                  rw [HSP2.out] at HWP d1
                  have hwp := HWP.out.symm
                  have HGP : Hid (w3.grownBy wp none) := by rw [HWP.out]; exact fr_both HGJ.out (fr_alloc _ _ _)
                  have q0 : wp.cell? ⟨wj.heap.size, 0, none⟩ = some (.int .i64 (pk : Nat)) := by rw [HWP.out, World.cell?_alloc_at _ _ _ _ rfl]; rfl
                  have q1 : wp.cell? ⟨wj.heap.size, 1, none⟩ = some (.string sp) := by rw [HWP.out, World.cell?_alloc_at _ _ _ _ rfl]; rfl
                  clear HWP
                  dsimp only [List.toArray] at hwp
                  generalize str p.left.text = plt at *
                  generalize str p.right.text = prt at *
                  by_cases hk1 : pk ≤ 1
                  · have HLV := hide (levelOf_any F f p.atom.name (.slice (some ⟨ga, 0, none⟩) N vc) w.heap.size N wp (own_far HO2.out HGP.out (by simp)) HN.out (HNP.out (by omega)) (by omega))
                    rw [HSP2.out] at HLV
                    have hfl : f p.atom.name + pk ≤ q := by have := HSP.out (by omega); rw [HQ.out] at this; exact this
                    obtain ⟨fn, HFN⟩ : ∃ fn, Hid (f p.atom.name = fn) := ⟨_, (rfl : _ = _)⟩
                    rw [HFN.out] at HLV hfl HNPX
                    go_wp2_with fail
                    refine HLV.out.mono ?_
                    rintro e w5 ⟨rfl, hg5⟩
                    have HG5 : Hid (w3.grownBy w5 none) := fr_both HGP.out hg5
                    have p0 := grown_cell hg5 q0
                    have l15 := grown_cell HG5.out HL1.out
                    have hfn0 : ¬ ((fn : Int) < 0) := by omega
                    have hwr : IntKind.i64.wrap ((fn : Int) + (pk : Int)) = (fn : Int) + (pk : Int) := IntWalk.i64_in _ (by omega)
                    have hle : ¬ ((q : Int) < (fn : Int) + (pk : Int)) := by omega
                    have HBN2 : Hid ((b' || ((fn : Int) + (pk : Int) == (q : Int))) = ((f x == 0) || (needR f x (rs.take k) || needP f x (r.body.take (j + 1))))) := by
                      show _ = _
                      have e : ((fn : Int) + (pk : Int) == (q : Int)) = (fn + pk == q) := by rw [Bool.eq_iff_iff]; simp; omega
                      rw [HNPX.out, decide_eq_true hk1, Bool.true_and, HBJ.out, HQ.out, e]
                      simp [Bool.or_assoc]
                    clear hg5 HLV hwp q0 q1 d0 d1 d2 d3 d4 d5 d6 d7 d8 d9
                    go_wp2_with fail
                    go_quiet (fail)
                    go_wp2_with fail
                    generalize hwd : w5.drewN _ = wd
                    have HG6 : Hid (w3.grownBy wd none) := by rw [← hwd]; exact fr_both HG5.out (fr_draws _ _ _)
                    have p0d : wd.cell? ⟨wj.heap.size, 0, none⟩ = some (.int .i64 (pk : Nat)) := by rw [← hwd]; exact p0
                    have l1d : wd.cell? ⟨ga, i * 2 + 1, none⟩ = some (.int .i64 (q : Nat)) := by rw [← hwd]; exact l15
                    clear hwd p0 l15
                    cases b' with
                    | true =>
                      go_quiet (fail)
                      go_wp2
                      go_roundw
                      case rel => exact ⟨j + 1, _, by omega, by go_num, rfl, HBN2, fr_both HG6.out (fr_draws _ _ _)⟩
                      case measure => simp [intOf]; omega
                    | false =>
                      go_quiet (fail)
                      go_wp2
                      go_roundw
                      case rel => exact ⟨j + 1, _, by omega, by go_num, rfl, HBN2, fr_both HG6.out (fr_draws _ _ _)⟩
                      case measure => simp [intOf]; omega
                  · have HB2' : Hid (b' = ((f x == 0) || (needR f x (rs.take k) || needP f x (r.body.take (j + 1))))) := by
                      show _ = _
                      rw [HNPX.out, decide_eq_false hk1, Bool.false_and, Bool.or_false]; exact HBJ.out
                    go_wp2
                    go_roundw
                    case rel => exact ⟨j + 1, b', by omega, by go_num, rfl, HB2', HGP⟩
                    case measure => simp [intOf]; omega
                · have HBF : Hid (b' = ((f x == 0) || needR f x (rs.take (k + 1)))) := by
                    show _ = _
                    have e : r.body.take j = r.body := List.take_of_length_le (by have := HNB.out; omega)
                    rw [HBJ.out, HNX2.out, e]
                  go_wp2
                  go_roundw
                  case rel => exact ⟨k + 1, b', by omega, by go_num, rfl, HBF, HGJ⟩
                  case measure => simp [intOf]; omega
            · have hcm : ((str r.head.name).toList == sx.toList) = false := by rw [hcmp]; simpa using hq
              have HNX2 : Hid (b = ((f x == 0) || needR f x (rs.take (k + 1)))) := by
                show _ = _
                rw [HNX.out, show (r.head.name == x) = false by simpa using hq, Bool.false_and, Bool.or_false]; exact HBN.out
              clear hcmp hq
              generalize str r.head.name = sr at *
              go_wp2_with fail
              go_quiet (fail)
              go_wp2
              go_roundw
              case rel => exact ⟨k + 1, b, by omega, by go_num, rfl, HNX2, fr_both HGK.out (fr_draws _ _ _)⟩
              case measure => simp [intOf]; omega
          · have HBE : Hid (b = true) := by
              show _ = _
              rw [HBN.out, List.take_of_length_le (by have := HNR.out; omega)]
              exact need_all HLE.out x
            rw [HBE.out]
            go_wp2
            go_roundw
            case rel => exact ⟨i + 1, by omega, by go_num, HGK⟩
            case measure => simp [intOf]; omega
      · have HB9 : Hid (Below w.heap.size w wi) := HB2.out.trans ((below_ofNone HG.out).mono HB2.out.size)
        go_wp2
        go_ret
        exact ⟨rfl, HB9.out⟩
end Go.Proofs.YtgllfcoafgphbaaGreatDoor
