/-
  slices.CompactFunc over sorted rows, walked.
-/
import Derived.Test.YtnnldpccagajbaaDoorSortRows
import Derived.Test.YtnnldpccagajbaaDoorDedup
import Derived.Lib.SliceRun
namespace Go.Proofs.YtnnldpccagajbaaDoor
open Go.ChangeShapes Go.WideShapes Go.ChangeAt Go.RowKit
set_option linter.unusedVariables false
theorem own_cut {w : World} {base : Nat} {e : TypeId} {g n cap k : Nat} {xs : List Value} (h : w.ownsRow base e 1 (.slice (some ⟨g, 0, none⟩) n cap) n xs) (hk : k ≤ n) : w.ownsRow base e 1 (.slice (some ⟨g, 0, none⟩) k cap) k (xs.take k) := by
  have h1 := h.1
  rcases h.2 with ⟨h', _⟩ | ⟨g', cap', cur, hv, hb, hg, hn, hc, hs, ht⟩
  · cases h'
  · cases hv
    refine ⟨by rw [List.length_take]; omega, Or.inr ⟨g, cap, cur, rfl, hb, hg, by omega, hc, hs, ?_⟩⟩
    rw [← ht, List.take_take, Nat.mul_one, Nat.mul_one, Nat.min_eq_left hk]
theorem own_clear {base : Nat} {e : TypeId} {g n cap : Nat} : ∀ (zs : List Value) (o : Nat) (w : World) (xs : List Value), w.ownsRow base e 1 (.slice (some ⟨g, 0, none⟩) n cap) n xs → ∃ ys, (w.setCells g o zs).ownsRow base e 1 (.slice (some ⟨g, 0, none⟩) n cap) n ys ∧ ys.take o = xs.take o
  | [], o, w, xs, h => ⟨xs, h, rfl⟩
  | z :: zs, o, w, xs, h => by
    obtain ⟨ys, h1, h2⟩ := own_clear zs (o + 1) (w.setCell ⟨g, o, none⟩ z) (xs.set o z) (own_set h o z)
    refine ⟨ys, h1, ?_⟩
    have e1 : ys.take o = (ys.take (o + 1)).take o := by rw [List.take_take, Nat.min_eq_left (by omega)]
    rw [e1, h2, List.take_take, Nat.min_eq_left (by omega), List.take_set_of_le (by omega)]
theorem grown_clear {g : Nat} : ∀ (zs : List Value) (o : Nat) (w : World), w.grownBy (w.setCells g o zs) (some g)
  | [], o, w => ⟨rfl, rfl, rfl, Nat.le_refl _, fun _ _ _ => rfl⟩
  | z :: zs, o, w => (grown_set (w := w) (g := g) (j := o) z).trans (grown_clear zs (o + 1) _)
theorem RowOK.kept {w w' : World} {g m : Nat} {p : Value × List (List UInt8)} (h : RowOK w g m p) (hg : w.grownBy w' (some g)) : Strs w' p.1 p.2 :=
  strs_grown h.1 hg (fun b off cap k e he => by cases he; exact h.2.2 _ _ _ _ e rfl)
theorem fst_at (ps : List (Value × List (List UInt8))) (k : Nat) (h : k < ps.length) : (ps.map (·.1))[k]? = some ps[k].1 := by
  rw [List.getElem?_map, List.getElem?_eq_getElem h]; rfl
theorem own_get {w : World} {base : Nat} {e : TypeId} {g n cap : Nat} {xs : List Value} (h : w.ownsRow base e 1 (.slice (some ⟨g, 0, none⟩) n cap) n xs) (k : Nat) (v : Value) (hv : xs[k]? = some v) : w.cell? ⟨g, k, none⟩ = some v := by
  have := h.cells (g := g) rfl k v hv
  rw [show (⟨g, 0, none⟩ : Addr).add k = ⟨g, k, none⟩ from by unfold Addr.add; split <;> simp_all] at this
  exact this
set_option maxRecDepth 100000 in
set_option maxHeartbeats 4000000 in
theorem compact_any (base g cap m : Nat) (ps : List (Value × List (List UInt8))) (w : World) (hown : w.ownsRow base 35 1 (.slice (some ⟨g, 0, none⟩) ps.length cap) ps.length (ps.map (·.1)))
    (hin : ∀ p ∈ ps, RowOK w g m p) (hl : ps.length ≤ 1073741824) (hm : m ≤ 140737488355328) :
    Calls Tryd.prog 61 #[.slice (some ⟨g, 0, none⟩) ps.length cap, .func (.func 62) #[] #[]] w fun e w' =>
      (e = .returned (.slice (some ⟨g, 0, none⟩) (dk ps ps.length).length cap) ∧ w'.ownsRow base 35 1 (.slice (some ⟨g, 0, none⟩) (dk ps ps.length).length cap) (dk ps ps.length).length ((dk ps ps.length).map (·.1))) ∧ w.grownBy w' (some g) := by
  have HOW : Hid (w.ownsRow base 35 1 (.slice (some ⟨g, 0, none⟩) ps.length cap) ps.length (ps.map (·.1))) := hown
  have HIN : Hid (∀ p ∈ ps, RowOK w g m p) := hin
  have hcap : ps.length ≤ cap := by
    rcases hown.2 with ⟨h', _⟩ | ⟨g', cap', cur, hv, hb, hg, hn, hc, hs, ht⟩
    · cases h'
    · cases hv; exact hn
  have EG : ∀ args w, (callFunc 62 args).run Tryd.prog w = .ok (.enter 62 args) w := enters_of Tryd.func62 (by kernel_rfl) rfl
  have HEQ : Hid (∀ (wr : World) (hg : w.grownBy wr (some g)) (i j n : Nat) (hi : i < ps.length) (hj : j < ps.length), Calls Tryd.prog 62 #[ps[i].1, ps[j].1] (wr.drewN n) fun e w' => e = .returned (.bool (ps[i].2 == ps[j].2)) ∧ ∃ q, w' = (wr.drewN n).drewN q) := by
    intro wr hg i j n hi hj
    have ri := hin ps[i] (List.getElem_mem hi)
    have rj := hin ps[j] (List.getElem_mem hj)
    exact sequal_any _ _ _ _ (wr.drewN n) ((ri.kept hg).drewN n) ((rj.kept hg).drewN n) (by rw [ri.2.1, rj.2.1]) (by rw [ri.2.1]; exact hm)
  clear hin hown
  by_cases h2 : ps.length < 2
  · have HD : Hid (dk ps ps.length = ps) := by
      show _ = _
      match ps, h2 with
      | [], _ => rfl
      | [y], _ => exact dk_one [y] y rfl
    go_enter Tryd.func61, Tryd.ntmps61
    go_wp2
    go_ret
    rw [HD.out]
    exact ⟨⟨rfl, HOW.out⟩, ⟨rfl, rfl, rfl, Nat.le_refl _, fun _ _ _ => rfl⟩⟩
  · go_enter Tryd.func61, Tryd.ntmps61
    go_wp2
    go_loopw [5] (fun kv wr => ∃ k q : Nat, 1 ≤ k ∧ k ≤ ps.length ∧ kv = .int .i64 k ∧ wr = w.drewN q ∧ Hid (dk ps k = ps.take k)) (fun kv _ => ps.length - (intOf kv).toNat)
    case atStart => exact ⟨1, 0, by omega, by omega, rfl, rfl, by
      show _ = _
      rw [dk_one ps ps[0] (List.getElem?_eq_getElem (by omega)), List.take_succ_eq_append_getElem (by omega)]; rfl⟩
    case round =>
      obtain ⟨k, q, hk1, hk, rfl, rfl, HD⟩ := hrel
      by_cases hlt : k < ps.length
      · have c1 : (w.drewN q).cell? ⟨g, k, none⟩ = some ps[k].1 := own_get HOW.out k _ (fst_at ps k hlt)
        have c0 : (w.drewN q).cell? ⟨g, k - 1, none⟩ = some ps[k - 1].1 := own_get HOW.out (k - 1) _ (fst_at ps (k - 1) (by omega))
        have HCA : Hid (∀ n : Nat, Calls Tryd.prog 62 #[ps[k].1, ps[k - 1].1] ((w.drewN q).drewN n) fun e w' => e = .returned (.bool (ps[k].2 == ps[k - 1].2)) ∧ ∃ j, w' = ((w.drewN q).drewN n).drewN j) := fun n => HEQ.out (w.drewN q) (grown_draws q) k (k - 1) n hlt (by omega)
        have hgk : ps[k]? = some ps[k] := List.getElem?_eq_getElem hlt
        have hgp : ps[k - 1]? = some ps[k - 1] := List.getElem?_eq_getElem (by omega)
        by_cases he : ps[k].2 = ps[k - 1].2
        · have HK0 : Hid (dk ps (k + 1) = ps.take k) := by show _ = _; rw [dk_same ps k _ _ (by omega) hgp hgk he, HD.out]
          rw [show (ps[k].2 == ps[k - 1].2) = true from by rw [he]; simp] at HCA
          clear he hgk hgp
          generalize ps[k].1 = x at *
          generalize ps[k - 1].1 = y at *
          obtain ⟨w0, HW0⟩ : ∃ w0, Hid (w0 = w.drewN q) := ⟨_, rfl⟩
          rw [← HW0.out] at c0 c1 HCA ⊢
          go_wp2_with fail
          go_quiet ((go_at_call 62; refine Calls.quiet_of (HCA.out _)))
          go_wp2
          have HB0 : Hid (w.grownBy (w0.drewN nq) (some g)) := by rw [HW0.out, World.drewN_drewN]; exact grown_draws _
          have HO0 : Hid ((w0.drewN nq).ownsRow base 35 1 (.slice (some ⟨g, 0, none⟩) ps.length cap) ps.length (ps.map (·.1))) := by rw [HW0.out, World.drewN_drewN]; exact own_kept2 HOW.out _
          clear c0 c1 HCA
          go_loopw [5, 7] (fun kv k2v wr => ∃ (kk k2 : Nat) (xs : List Value), kv = .int .i64 kk ∧ k2v = .int .i64 k2 ∧ 1 ≤ k2 ∧ k + k2 ≤ ps.length ∧ kk + 1 ≤ k + k2 ∧ Hid (kk = (dk ps (k + k2)).length) ∧ Hid (wr.ownsRow base 35 1 (.slice (some ⟨g, 0, none⟩) ps.length cap) ps.length xs) ∧ Hid (w.grownBy wr (some g)) ∧ Hid (xs.take kk = (dk ps (k + k2)).map (·.1)) ∧ Hid (∀ j, k + k2 - 1 ≤ j → xs[j]? = (ps.map (·.1))[j]?)) (fun _ k2v _ => ps.length - (intOf k2v).toNat)
          case atStart => exact ⟨k, 1, ps.map (·.1), rfl, rfl, by omega, by omega, by omega, by show _ = _; rw [HK0.out, List.length_take]; omega, HO0, HB0, by show _ = _; rw [HK0.out, List.map_take], fun j _ => rfl⟩
          case round =>
            obtain ⟨kk, k2, xs, rfl, rfl, h1, hle, hkk, HKL, HO, HG, HX, HT⟩ := hrel
            by_cases hlt2 : k + k2 < ps.length
            · have cm : wr.cell? ⟨g, k + k2, none⟩ = some ps[k + k2].1 := own_get HO.out _ _ (by rw [HT.out _ (by omega)]; exact fst_at ps _ hlt2)
              have cp : wr.cell? ⟨g, k + (k2 - 1), none⟩ = some ps[k + k2 - 1].1 := by
                rw [show k + (k2 - 1) = k + k2 - 1 from by omega]
                exact own_get HO.out _ _ (by rw [HT.out _ (by omega)]; exact fst_at ps _ (by omega))
              obtain ⟨old, HOLD⟩ : ∃ old, Hid (xs[kk]? = some old) := by
                have hxl : xs.length = ps.length := by have := HO.out.1; omega
                exact ⟨xs[kk]'(by omega), List.getElem?_eq_getElem (by omega)⟩
              have ck : wr.cell? ⟨g, kk, none⟩ = some old := own_get HO.out _ _ HOLD.out
              have fk : wr.frozen? ⟨g, kk, none⟩ = false := own_thaw HO.out kk
              have HCA : Hid (∀ n : Nat, Calls Tryd.prog 62 #[ps[k + k2].1, ps[k + k2 - 1].1] (wr.drewN n) fun e w' => e = .returned (.bool (ps[k + k2].2 == ps[k + k2 - 1].2)) ∧ ∃ j, w' = (wr.drewN n).drewN j) := fun n => HEQ.out wr HG.out (k + k2) (k + k2 - 1) n hlt2 (by omega)
              have hgk : ps[k + k2]? = some ps[k + k2] := List.getElem?_eq_getElem hlt2
              have hgp : ps[k + k2 - 1]? = some ps[k + k2 - 1] := List.getElem?_eq_getElem (by omega)
              by_cases he : ps[k + k2].2 = ps[k + k2 - 1].2
              · have HK2 : Hid (dk ps (k + (k2 + 1)) = dk ps (k + k2)) := by show _ = _; rw [← Nat.add_assoc]; exact dk_same ps (k + k2) _ _ (by omega) hgp hgk he
                rw [show (ps[k + k2].2 == ps[k + k2 - 1].2) = true from by rw [he]; simp] at HCA
                clear he hgk hgp
                generalize ps[k + k2].1 = x at *
                generalize ps[k + k2 - 1].1 = y at *
                go_wp2_with fail
                go_quiet ((go_at_call 62; refine Calls.quiet_of (HCA.out _)))
                go_wp2
                go_roundw
                case rel => exact ⟨kk, k2 + 1, xs, rfl, by go_num, by omega, by omega, by omega, by rw [HK2.out]; exact HKL, own_kept2 HO.out _, HG.out.trans (grown_draws _), by rw [HK2.out]; exact HX, fun j hj => HT.out j (by omega)⟩
                case measure => simp [intOf]; omega
              · have HK2 : Hid (dk ps (k + (k2 + 1)) = dk ps (k + k2) ++ [ps[k + k2]]) := by show _ = _; rw [← Nat.add_assoc]; exact dk_other ps (k + k2) _ _ hgp hgk he
                rw [show (ps[k + k2].2 == ps[k + k2 - 1].2) = false from by rw [beq_eq_false_iff_ne]; exact he] at HCA
                obtain ⟨xa, xn, xc, HXV⟩ : ∃ xa xn xc, Hid (Value.slice xa xn xc = ps[k + k2].1) := by
                  obtain ⟨a, c, hv, _⟩ := (HIN.out ps[k + k2] (List.getElem_mem hlt2)).1
                  exact ⟨a, _, c, hv.symm⟩
                obtain ⟨y, HYV⟩ : ∃ y : Value, Hid (y = ps[k + k2 - 1].1) := ⟨ps[k + k2 - 1].1, (rfl : _ = _)⟩
                rw [← HXV.out] at cm HCA
                rw [← HYV.out] at cp HCA
                clear he hgk hgp
                go_wp2_with fail
                go_quiet ((go_at_call 62; refine Calls.quiet_of (HCA.out _)))
                go_wp2
                go_roundw
                case rel =>
                  refine ⟨kk + 1, k2 + 1, xs.set kk (.slice xa xn xc), by go_num, by go_num, by omega, by omega, by omega, ?_, own_set (own_kept2 HO.out _) kk _, (HG.out.trans (grown_draws _)).trans (grown_set _), ?_, ?_⟩
                  · show _ = _
                    rw [HK2.out, List.length_append, ← HKL.out]; rfl
                  · show _ = _
                    have hkx : kk < xs.length := (List.getElem?_eq_some_iff.1 HOLD.out).1
                    rw [HK2.out, List.map_append, ← HX.out, List.take_succ_eq_append_getElem (by rw [List.length_set]; exact hkx), List.take_set_of_le (Nat.le_refl _), HXV.out]
                    simp
                  · intro j hj
                    rw [List.getElem?_set_ne (by omega)]
                    exact HT.out j (by omega)
                case measure => simp [intOf]; omega
            · have hend : k + k2 = ps.length := by omega
              have hcl : ∀ ty, (Builtin.clear_ #[22] ty #[.slice (some ⟨g, kk, none⟩) (ps.length - kk) (cap - kk)]).run Tryd.prog wr = .ok (.tuple #[]) (wr.setCells g kk (List.replicate (ps.length - kk) (.slice none 0 0))) :=
                fun ty => Lib.run_clear_slice wr _ _ ty _ Tryd.underlying22 Tryd.zeroValue35 rfl rfl g kk _ _ (by omega) (fun j hj => by
                  have hxl : xs.length = ps.length := by have := HO.out.1; omega
                  rw [own_get HO.out (kk + j) xs[kk + j] (List.getElem?_eq_getElem (by omega))]; rfl) (fun j hj => own_thaw HO.out _)
              have HR : Hid (dk ps ps.length = dk ps (k + k2)) := by rw [hend]; rfl
              have hkk2 : kk ≤ ps.length := by omega
              clear hend
              go_wp2
              go_ret
              rw [HR.out, ← HKL.out]
              obtain ⟨ys, ho, ht⟩ := own_clear (List.replicate (ps.length - kk) (.slice none 0 0)) kk wr xs HO.out
              refine ⟨⟨rfl, ?_⟩, HG.out.trans (grown_clear _ _ _)⟩
              have := own_cut ho hkk2
              rw [ht, HX.out] at this
              exact this
        · have HK1 : Hid (dk ps (k + 1) = ps.take (k + 1)) := by show _ = _; rw [dk_other ps k _ _ hgp hgk he, HD.out, List.take_succ_eq_append_getElem hlt]
          rw [show (ps[k].2 == ps[k - 1].2) = false from by rw [beq_eq_false_iff_ne]; exact he] at HCA
          clear he hgk hgp
          generalize ps[k].1 = x at *
          generalize ps[k - 1].1 = y at *
          obtain ⟨w0, HW0⟩ : ∃ w0, Hid (w0 = w.drewN q) := ⟨_, rfl⟩
          rw [← HW0.out] at c0 c1 HCA ⊢
          go_wp2_with fail
          go_quiet ((go_at_call 62; refine Calls.quiet_of (HCA.out _)))
          go_wp2
          go_roundw
          case rel => exact ⟨k + 1, _, by omega, by omega, by go_num, by rw [HW0.out, World.drewN_drewN], HK1⟩
          case measure => simp [intOf]; omega
      · have HE : Hid (dk ps ps.length = ps) := by
          show _ = _
          have := HD.out
          rw [show k = ps.length from by omega, List.take_length] at this
          exact this
        go_wp2
        go_ret
        rw [HE.out]
        exact ⟨⟨rfl, own_kept2 HOW.out _⟩, grown_draws _⟩
end Go.Proofs.YtnnldpccagajbaaDoor
