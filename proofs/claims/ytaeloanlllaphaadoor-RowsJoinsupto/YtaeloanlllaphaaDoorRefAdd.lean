/-
  The document's ahead and add, walked.
-/
import Derived.Test.YtaeloanlllaphaaDoorSortL
import Derived.Test.YtaeloanlllaphaaDoorRowsWalk
import Derived.Maps.AppendAt
namespace Go.Proofs.YtaeloanlllaphaaDoor
open Go.ChangeShapes Go.WideShapes Go.ChangeAt Go.RowKit
set_option linter.unusedVariables false
set_option maxRecDepth 100000 in
set_option maxHeartbeats 1000000 in
theorem rahead_any (va vb : Value) (la lb : List (List UInt8)) (w : World) (ha : Strs w va la) (hb : Strs w vb lb) (hl : la.length ≤ 140737488355328) (hl2 : lb.length ≤ 140737488355328) :
    Calls Tryd.prog 42 #[va, vb] w fun e w' => e = .returned (.int .i64 (cmpL la lb)) ∧ ∃ n, w' = w.drewN n := by
  have HA : Hid (Strs w va la) := ha
  have HB : Hid (Strs w vb lb) := hb
  obtain ⟨a, cap, rfl, -⟩ := ha
  obtain ⟨b, cap2, rfl, -⟩ := hb
  have HC : Hid (cmpL la lb = if ordR la lb ≠ 0 then ordR la lb else if la.length < lb.length then -1 else if lb.length < la.length then 1 else 0) := cmpL_ord la lb
  have HCA : Hid (Calls Tryd.prog 50 #[.slice a la.length cap, .slice b lb.length cap2] w fun e w' => e = .returned (.int .i64 (ordR la lb)) ∧ ∃ n, w' = w.drewN n) := order_any _ _ la lb w HA.out HB.out hl hl2
  by_cases ho : ordR la lb = 0
  · rw [ho] at HCA HC
    clear ho
    by_cases h1 : la.length < lb.length
    · have HE : Hid (cmpL la lb = -1) := by show _ = _; rw [HC.out]; simp [h1]
      go_enter Tryd.func42, Tryd.ntmps42
      go_wp2_with fail
      refine HCA.out.mono ?_
      rintro e w1 ⟨rfl, hd⟩
      obtain ⟨n1, rfl⟩ := hd
      go_wp2
      go_ret
      exact ⟨ret_int HE.out.symm, _, rfl⟩
    · by_cases h2 : lb.length < la.length
      · have HE : Hid (cmpL la lb = 1) := by show _ = _; rw [HC.out]; simp [h1, h2]
        go_enter Tryd.func42, Tryd.ntmps42
        go_wp2_with fail
        refine HCA.out.mono ?_
        rintro e w1 ⟨rfl, hd⟩
        obtain ⟨n1, rfl⟩ := hd
        go_wp2
        go_ret
        exact ⟨ret_int HE.out.symm, _, rfl⟩
      · have HE : Hid (cmpL la lb = 0) := by show _ = _; rw [HC.out]; simp [h1, h2]
        go_enter Tryd.func42, Tryd.ntmps42
        go_wp2_with fail
        refine HCA.out.mono ?_
        rintro e w1 ⟨rfl, hd⟩
        obtain ⟨n1, rfl⟩ := hd
        go_wp2
        go_ret
        exact ⟨ret_int HE.out.symm, _, rfl⟩
  · have HE : Hid (cmpL la lb = ordR la lb) := by show _ = _; rw [HC.out, if_pos ho]
    have hne : (ordR la lb != 0) = true := by simpa using ho
    clear HC ho
    generalize ordR la lb = o at *
    go_enter Tryd.func42, Tryd.ntmps42
    go_wp2_with fail
    refine HCA.out.mono ?_
    rintro e w1 ⟨rfl, hd⟩
    obtain ⟨n1, rfl⟩ := hd
    go_wp2
    go_ret
    exact ⟨ret_int HE.out.symm, _, rfl⟩
set_option maxRecDepth 100000 in
set_option maxHeartbeats 4000000 in
theorem add_grown (base : Nat) (v vr : Value) (vs : List Value) (L : List (List (List UInt8))) (r : List (List UInt8)) (w : World) (hown : w.ownsRow base 33 1 v vs.length vs) (hbase : base ≤ w.heap.size)
    (hin : vs.length = L.length ∧ ∀ (i : Nat) (x : Value) (r : List (List UInt8)), vs[i]? = some x → L[i]? = some r → Strs w x r) (hr : Strs w vr r) (hL : RisesL L) (hl : L.length ≤ 1099511627776) (hml : ∀ q ∈ L, q.length ≤ 140737488355328) (hrl : r.length ≤ 140737488355328) :
    Calls Tryd.prog 26 #[v, vr] w fun e w' => ∃ v', e = .returned v' ∧ w'.ownsRow base 33 1 v' (insVL vs L r vr).length (insVL vs L r vr) ∧ w.grownBy w' v.ownBlock := by
  obtain ⟨i0, hi, hz0, hz1, hz2⟩ := info_parts infoRow
  have HO : Hid (w.ownsRow base 33 1 v vs.length vs) := hown
  have HLE : Hid (vs.length = L.length) := hin.1
  have HIN : Hid (∀ (i : Nat) (x : Value) (r : List (List UInt8)), vs[i]? = some x → L[i]? = some r → Strs w x r) := hin.2
  have HRI : Hid (RisesL L) := hL
  have HML : Hid (∀ q ∈ L, q.length ≤ 140737488355328) := hml
  have hvl : vs.length ≤ 1099511627776 := by rw [hin.1]; exact hl
  have HR : Hid (Strs w vr r) := hr
  obtain ⟨ar, capr, hvr, _⟩ := hr
  subst hvr
  have HVE : Hid (Vals w v vs) := own_vals hown
  obtain ⟨va, vcap, hvv, HVC⟩ := own_vals hown
  clear hown hin hL hml
  have HCL : Hid (∀ (i : Nat) (x : Value), vs[i]? = some x → ∃ b off, va = some ⟨b, off, none⟩ ∧ w.cell? ⟨b, off + i, none⟩ = some x) := by
    intro i x hx
    rcases HVC with ⟨rfl, _⟩ | ⟨b, off, rfl, hc⟩
    · simp at hx
    · exact ⟨b, off, rfl, hc i x hx⟩
  clear HVC
  have HVQ : Hid (v = .slice va vs.length vcap) := hvv
  go_enter Tryd.func26, Tryd.ntmps26
  rw [hvv]
  clear hvv
  go_wp2
  go_loopw [5] (fun iv wr => ∃ k n1 : Nat, k ≤ vs.length ∧ iv = .int .i64 k ∧ wr = w.drewN n1 ∧ Hid (∀ i a, k ≤ i → L[i]? = some a → cmpL a r = 1)) (fun iv _ => (intOf iv).toNat)
  case atStart => exact ⟨vs.length, 0, by omega, rfl, rfl, fun i a hi ha => absurd (lt_of_some ha) (by have := HLE.out; omega)⟩
  case round =>
    obtain ⟨k, n1, hal, rfl, rfl, H2⟩ := hrel
    by_cases hk0 : k = 0
    · subst hk0
      have HV : Hid (insVL vs L r (.slice ar r.length capr) = vs.take 0 ++ (.slice ar r.length capr) :: vs.drop 0) := by
        show _ = _
        obtain ⟨h1, h2⟩ := insL_found L r 0 HRI.out (by have := HLE.out; omega) H2.out (fun h => absurd h (by omega))
        rw [insVL, if_neg h1, h2]
      rw [← HVQ.out]
      have hown1 := own_kept2 HO.out n1
      go_wp2_with (at_builtin; refine wpList_append_own_at _ rfl _ _ 22 rfl base 33 i0 (.slice none 0 0) 1 24 Tryd.underlying22 hi hz0 hz1 hz2 rfl (by decide) _ _ _ rfl (hown1.alloc _) ⟨w.heap.size, 0, none⟩ 1 1 [.slice ar r.length capr] rfl rfl ?c1 ?c2 ?c3 ?c4 ?c5 ?_)
      case c1 =>
        intro j' u hj'
        match j', hj' with
        | 0, hj' => simp at hj'; subst hj'; exact World.cell?_alloc_at _ _ _ _ rfl
      case c2 => intro u hu; simp at hu; subst hu; rfl
      case c3 => unfold maxLen; omega
      case c4 => omega
      case c5 => simp; omega
      intro v2 w2 hown2 hg2 _ hat
      have HBW : Hid (w.grownBy w2 v.ownBlock) := ((grown_draws n1).trans (grown_alloc _ _)).trans hg2
      clear hg2 hown1
      rcases hown2.2 with ⟨_, h0⟩ | ⟨g, cap2, cur, hv2, hbg, _, _, _, _, _⟩
      · omega
      · subst hv2
        have HGG : Hid (∀ q, some g = some q → some g = v.ownBlock ∨ w.heap.size ≤ q) := by
          intro q hq
          cases hq
          rcases hat with e | e
          · exact Or.inl e
          · right
            have e2 : g = _ := Option.some.inj e
            first | omega | (simp at e2; omega)
        clear hat
        have HO2 : Hid (w2.ownsRow base 33 1 (.slice (some ⟨g, 0, none⟩) (vs.length + 1) cap2) (vs.length + 1) (vs.take vs.length ++ Value.slice ar r.length capr :: vs.drop vs.length)) := by
          show _
          rw [List.take_length, List.drop_length]; exact hown2
        clear hown2
        go_wp2
        go_loopw [6] (fun kv wr => ∃ (j : Nat) (c : Value), 0 ≤ j ∧ j ≤ vs.length ∧ kv = .int .i64 j ∧ Hid (wr.ownsRow base 33 1 (.slice (some ⟨g, 0, none⟩) (vs.length + 1) cap2) (vs.length + 1) (vs.take j ++ c :: vs.drop j)) ∧ Hid (w.grownBy wr v.ownBlock)) (fun kv _ => (intOf kv).toNat)
        case atStart => exact ⟨vs.length, .slice ar r.length capr, hal, Nat.le_refl _, by go_num, HO2, HBW⟩
        case round =>
          obtain ⟨j, c, hj1, hj2, rfl, HOJ, HBJ⟩ := hrel
          have cj : wr.cell? ⟨g, j, none⟩ = some c := by
            have := HOJ.out.cells (g := g) rfl j _ (at_gap vs j c hj2)
            rw [show (⟨g, 0, none⟩ : Addr).add j = ⟨g, j, none⟩ from by unfold Addr.add; split <;> simp_all] at this
            exact this
          have fj := own_thaw HOJ.out j
          by_cases hlt : 0 < j
          · obtain ⟨i, rfl⟩ : ∃ i, j = i + 1 := ⟨j - 1, by omega⟩
            have hiv : i < vs.length := by omega
            have ci : wr.cell? ⟨g, i, none⟩ = some vs[i] := by
              have := HOJ.out.cells (g := g) rfl i _ (below_gap vs (i + 1) i c (by omega) hj2)
              rw [show (⟨g, 0, none⟩ : Addr).add i = ⟨g, i, none⟩ from by unfold Addr.add; split <;> simp_all] at this
              exact this
            have hil : i < L.length := by have := HLE.out; omega
            obtain ⟨ai, capi, hvi, _⟩ := HIN.out i _ _ (val_at hiv) (row_at hil)
            have HO3 := own_set HOJ.out (i + 1) vs[i]
            rw [step_list vs i c hiv, hvi] at HO3
            have HO3H : Hid ((wr.setCell ⟨g, i + 1, none⟩ (.slice ai L[i].length capi)).ownsRow base 33 1 (.slice (some ⟨g, 0, none⟩) (vs.length + 1) cap2) (vs.length + 1) (vs.take i ++ (.slice ai L[i].length capi) :: vs.drop i)) := HO3
            rw [hvi] at ci
            clear HO3 hvi
            go_wp2
            go_roundw
            case rel => exact ⟨i, _, by omega, by omega, by go_num, HO3H, grown_trans HBJ.out (grown_set _) HGG.out⟩
            case measure => simp [intOf]
          · obtain rfl : j = 0 := by omega
            have HO3 := own_set HOJ.out (0) (.slice ar r.length capr)
            have hset : (vs.take (0) ++ c :: vs.drop (0)).set (0) (Value.slice ar r.length capr) = vs.take (0) ++ Value.slice ar r.length capr :: vs.drop (0) := by
              have h1 : (vs.take (0)).length = 0 := by rw [List.length_take]; omega
              rw [List.set_append_right _ _ (by omega), h1, Nat.sub_self, List.set_cons_zero]
            rw [hset] at HO3
            have HO3H : Hid ((wr.setCell ⟨g, 0, none⟩ (.slice ar r.length capr)).ownsRow base 33 1 (.slice (some ⟨g, 0, none⟩) (vs.length + 1) cap2) (vs.length + 1) (vs.take (0) ++ (.slice ar r.length capr) :: vs.drop (0))) := HO3
            clear HO3 hset
            have HLN : Hid ((vs.take (0) ++ Value.slice ar r.length capr :: vs.drop (0)).length = vs.length + 1) := by show _ = _; rw [List.length_append, List.length_cons, List.length_take, List.length_drop]; omega
            go_wp2
            go_ret
            exact ⟨_, rfl, by rw [HV.out, HLN.out]; exact HO3H.out, by rw [← HVQ.out]; exact grown_trans HBJ.out (grown_set _) HGG.out⟩
    · obtain ⟨p, rfl⟩ : ∃ p, k = p + 1 := ⟨k - 1, by omega⟩
      have hpv : p < vs.length := by omega
      have hpl : p < L.length := by have := HLE.out; omega
      obtain ⟨b, off, hva, c1⟩ := HCL.out p vs[p] (val_at hpv)
      have HST : Hid (Strs w vs[p] L[p]) := HIN.out p _ _ (val_at hpv) (row_at hpl)
      have hq : L[p].length ≤ 140737488355328 := HML.out _ (List.getElem_mem hpl)
      have HCA : Hid (∀ n, Calls Tryd.prog 42 #[vs[p], .slice ar r.length capr] (w.drewN n) fun e w' => e = .returned (.int .i64 (cmpL L[p] r)) ∧ ∃ m, w' = w.drewN m) := fun n => (rahead_any _ _ L[p] r _ (HST.out.drewN n) (HR.out.drewN n) hq hrl).mono fun e w' ⟨he, m, hm⟩ => ⟨he, n + m, by rw [hm, World.drewN_drewN]⟩
      subst hva
      rcases cmpL_tri L[p] r with ho | ho | ho
      · have HV : Hid (insVL vs L r (.slice ar r.length capr) = vs.take (p + 1) ++ (.slice ar r.length capr) :: vs.drop (p + 1)) := by
          show _ = _
          obtain ⟨h1, h2⟩ := insL_found L r (p + 1) HRI.out (by omega) H2.out (fun h => ⟨L[p], row_at hpl, ho⟩)
          rw [insVL, if_neg h1, h2]
        rw [ho] at HCA
        clear ho hq HST hpl
        obtain ⟨x, HX⟩ : ∃ x, Hid (x = vs[p]) := ⟨vs[p], rfl⟩
        rw [← HX.out] at c1 HCA
        go_wp2_with fail
        refine (HCA.out _).mono ?_
        rintro e w2 ⟨rfl, hd2⟩
        obtain ⟨n2, rfl⟩ := hd2
        go_wp2_with fail
        refine (HCA.out _).mono ?_
        rintro e w2 ⟨rfl, hd2⟩
        obtain ⟨n1, rfl⟩ := hd2
        rw [← HVQ.out]
        have hown1 := own_kept2 HO.out n1
        go_wp2_with (at_builtin; refine wpList_append_own_at _ rfl _ _ 22 rfl base 33 i0 (.slice none 0 0) 1 24 Tryd.underlying22 hi hz0 hz1 hz2 rfl (by decide) _ _ _ rfl (hown1.alloc _) ⟨w.heap.size, 0, none⟩ 1 1 [.slice ar r.length capr] rfl rfl ?c1 ?c2 ?c3 ?c4 ?c5 ?_)
        case c1 =>
          intro j' u hj'
          match j', hj' with
          | 0, hj' => simp at hj'; subst hj'; exact World.cell?_alloc_at _ _ _ _ rfl
        case c2 => intro u hu; simp at hu; subst hu; rfl
        case c3 => unfold maxLen; omega
        case c4 => omega
        case c5 => simp; omega
        intro v2 w2 hown2 hg2 _ hat
        have HBW : Hid (w.grownBy w2 v.ownBlock) := ((grown_draws n1).trans (grown_alloc _ _)).trans hg2
        clear hg2 hown1
        rcases hown2.2 with ⟨_, h0⟩ | ⟨g, cap2, cur, hv2, hbg, _, _, _, _, _⟩
        · omega
        · subst hv2
          have HGG : Hid (∀ q, some g = some q → some g = v.ownBlock ∨ w.heap.size ≤ q) := by
            intro q hq
            cases hq
            rcases hat with e | e
            · exact Or.inl e
            · right
              have e2 : g = _ := Option.some.inj e
              first | omega | (simp at e2; omega)
          clear hat
          have HO2 : Hid (w2.ownsRow base 33 1 (.slice (some ⟨g, 0, none⟩) (vs.length + 1) cap2) (vs.length + 1) (vs.take vs.length ++ Value.slice ar r.length capr :: vs.drop vs.length)) := by
            show _
            rw [List.take_length, List.drop_length]; exact hown2
          clear hown2
          go_wp2
          go_loopw [6] (fun kv wr => ∃ (j : Nat) (c : Value), p + 1 ≤ j ∧ j ≤ vs.length ∧ kv = .int .i64 j ∧ Hid (wr.ownsRow base 33 1 (.slice (some ⟨g, 0, none⟩) (vs.length + 1) cap2) (vs.length + 1) (vs.take j ++ c :: vs.drop j)) ∧ Hid (w.grownBy wr v.ownBlock)) (fun kv _ => (intOf kv).toNat)
          case atStart => exact ⟨vs.length, .slice ar r.length capr, hal, Nat.le_refl _, by go_num, HO2, HBW⟩
          case round =>
            obtain ⟨j, c, hj1, hj2, rfl, HOJ, HBJ⟩ := hrel
            have cj : wr.cell? ⟨g, j, none⟩ = some c := by
              have := HOJ.out.cells (g := g) rfl j _ (at_gap vs j c hj2)
              rw [show (⟨g, 0, none⟩ : Addr).add j = ⟨g, j, none⟩ from by unfold Addr.add; split <;> simp_all] at this
              exact this
            have fj := own_thaw HOJ.out j
            by_cases hlt : p + 1 < j
            · obtain ⟨i, rfl⟩ : ∃ i, j = i + 1 := ⟨j - 1, by omega⟩
              have hiv : i < vs.length := by omega
              have ci : wr.cell? ⟨g, i, none⟩ = some vs[i] := by
                have := HOJ.out.cells (g := g) rfl i _ (below_gap vs (i + 1) i c (by omega) hj2)
                rw [show (⟨g, 0, none⟩ : Addr).add i = ⟨g, i, none⟩ from by unfold Addr.add; split <;> simp_all] at this
                exact this
              have hil : i < L.length := by have := HLE.out; omega
              obtain ⟨ai, capi, hvi, _⟩ := HIN.out i _ _ (val_at hiv) (row_at hil)
              have HO3 := own_set HOJ.out (i + 1) vs[i]
              rw [step_list vs i c hiv, hvi] at HO3
              have HO3H : Hid ((wr.setCell ⟨g, i + 1, none⟩ (.slice ai L[i].length capi)).ownsRow base 33 1 (.slice (some ⟨g, 0, none⟩) (vs.length + 1) cap2) (vs.length + 1) (vs.take i ++ (.slice ai L[i].length capi) :: vs.drop i)) := HO3
              rw [hvi] at ci
              clear HO3 hvi
              go_wp2
              go_roundw
              case rel => exact ⟨i, _, by omega, by omega, by go_num, HO3H, grown_trans HBJ.out (grown_set _) HGG.out⟩
              case measure => simp [intOf]
            · obtain rfl : j = p + 1 := by omega
              have HO3 := own_set HOJ.out (p + 1) (.slice ar r.length capr)
              have hset : (vs.take (p + 1) ++ c :: vs.drop (p + 1)).set (p + 1) (Value.slice ar r.length capr) = vs.take (p + 1) ++ Value.slice ar r.length capr :: vs.drop (p + 1) := by
                have h1 : (vs.take (p + 1)).length = p + 1 := by rw [List.length_take]; omega
                rw [List.set_append_right _ _ (by omega), h1, Nat.sub_self, List.set_cons_zero]
              rw [hset] at HO3
              have HO3H : Hid ((wr.setCell ⟨g, p + 1, none⟩ (.slice ar r.length capr)).ownsRow base 33 1 (.slice (some ⟨g, 0, none⟩) (vs.length + 1) cap2) (vs.length + 1) (vs.take (p + 1) ++ (.slice ar r.length capr) :: vs.drop (p + 1))) := HO3
              clear HO3 hset
              have HLN : Hid ((vs.take (p + 1) ++ Value.slice ar r.length capr :: vs.drop (p + 1)).length = vs.length + 1) := by show _ = _; rw [List.length_append, List.length_cons, List.length_take, List.length_drop]; omega
              go_wp2
              go_ret
              exact ⟨_, rfl, by rw [HV.out, HLN.out]; exact HO3H.out, by rw [← HVQ.out]; exact grown_trans HBJ.out (grown_set _) HGG.out⟩
      · have HV : Hid (insVL vs L r (.slice ar r.length capr) = vs) := by
          show _ = _
          rw [insVL, if_pos]
          rw [← cmpL_eq _ _ ho]; exact List.getElem_mem hpl
        rw [ho] at HCA
        clear ho hq HST hpl
        obtain ⟨x, HX⟩ : ∃ x, Hid (x = vs[p]) := ⟨vs[p], rfl⟩
        rw [← HX.out] at c1 HCA
        go_wp2_with fail
        refine (HCA.out _).mono ?_
        rintro e w2 ⟨rfl, hd2⟩
        obtain ⟨n2, rfl⟩ := hd2
        go_wp2_with fail
        refine (HCA.out _).mono ?_
        rintro e w2 ⟨rfl, hd2⟩
        obtain ⟨n3, rfl⟩ := hd2
        go_wp2
        go_ret
        exact ⟨_, rfl, by rw [HV.out, ← HVQ.out]; exact own_kept2 HO.out n3, grown_draws n3⟩
      · have H3 : Hid (∀ i a, p ≤ i → L[i]? = some a → cmpL a r = 1) := by
          intro i a hi ha
          rcases Nat.eq_or_lt_of_le hi with e | e
          · subst e; rw [row_at hpl] at ha; cases ha; exact ho
          · exact H2.out i a e ha
        rw [ho] at HCA
        clear ho hq HST hpl
        obtain ⟨x, HX⟩ : ∃ x, Hid (x = vs[p]) := ⟨vs[p], rfl⟩
        rw [← HX.out] at c1 HCA
        go_wp2_with fail
        refine (HCA.out _).mono ?_
        rintro e w2 ⟨rfl, hd2⟩
        obtain ⟨n2, rfl⟩ := hd2
        go_wp2
        go_roundw
        case rel => exact ⟨p, n2, by omega, by go_num, rfl, H3⟩
        case measure => simp [intOf]
end Go.Proofs.YtaeloanlllaphaaDoor
