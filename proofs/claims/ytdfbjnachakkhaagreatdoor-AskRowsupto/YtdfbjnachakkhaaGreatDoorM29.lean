import Derived.Test.YtdfbjnachakkhaaGreatDoorM28
import Derived.Lib.SliceRun
import Derived.Test.YtdfbjnachakkhaaGreatDoorM18
namespace Go.Proofs.YtdfbjnachakkhaaGreatDoor
/-- of the first k pairs those whose row differs from the one ahead -/
def dk (ps : List (Value × List (List UInt8))) : Nat → List (Value × List (List UInt8))
  | 0 => []
  | k + 1 => match ps[k]? with
    | none => dk ps k
    | some y => if 0 < k ∧ (ps[k - 1]?).map (·.2) = some y.2 then dk ps k else dk ps k ++ [y]
theorem dk_same (ps : List (Value × List (List UInt8))) (k : Nat) (x y : Value × List (List UInt8)) (h0 : 0 < k) (hx : ps[k - 1]? = some x) (hy : ps[k]? = some y) (h : y.2 = x.2) : dk ps (k + 1) = dk ps k := by
  rw [dk, hy]; simp only; rw [if_pos ⟨h0, by rw [hx, h]; rfl⟩]
theorem dk_other (ps : List (Value × List (List UInt8))) (k : Nat) (x y : Value × List (List UInt8)) (hx : ps[k - 1]? = some x) (hy : ps[k]? = some y) (h : y.2 ≠ x.2) : dk ps (k + 1) = dk ps k ++ [y] := by
  rw [dk, hy]; simp only; rw [if_neg]
  intro ⟨_, e⟩
  rw [hx] at e
  simp at e
  exact h e.symm
theorem dk_one (ps : List (Value × List (List UInt8))) (y : Value × List (List UInt8)) (hy : ps[0]? = some y) : dk ps 1 = [y] := by
  rw [dk, hy]; simp [dk]
theorem dk_mem (ps : List (Value × List (List UInt8))) (k : Nat) : ∀ p ∈ dk ps k, ∃ i, i < k ∧ ps[i]? = some p := by
  induction k with
  | zero => simp [dk]
  | succ k ih =>
    intro p hp
    rw [dk] at hp
    split at hp
    · obtain ⟨i, hi, h⟩ := ih p hp; exact ⟨i, by omega, h⟩
    · rename_i y hy
      split at hp
      · obtain ⟨i, hi, h⟩ := ih p hp; exact ⟨i, by omega, h⟩
      · rcases List.mem_append.1 hp with hp | hp
        · obtain ⟨i, hi, h⟩ := ih p hp; exact ⟨i, by omega, h⟩
        · simp at hp; subst hp; exact ⟨k, by omega, hy⟩
theorem dk_all (ps : List (Value × List (List UInt8))) (k : Nat) : ∀ i p, i < k → ps[i]? = some p → ∃ q ∈ dk ps k, q.2 = p.2 := by
  induction k with
  | zero => intro i p hi; omega
  | succ k ih =>
    intro i p hi hp
    rw [dk]
    split
    · rename_i hn
      rcases Nat.lt_or_ge i k with c | c
      · exact ih i p c hp
      · obtain rfl : i = k := by omega
        rw [hn] at hp; cases hp
    · rename_i y hy
      split
      · rename_i hc
        rcases Nat.lt_or_ge i k with c | c
        · exact ih i p c hp
        · obtain rfl : i = k := by omega
          rw [hy] at hp
          cases hp
          obtain ⟨h0, h1⟩ := hc
          obtain ⟨x, hx, hxy⟩ := Option.map_eq_some_iff.1 h1
          obtain ⟨q, hq, hqx⟩ := ih (i - 1) x (by omega) hx
          exact ⟨q, hq, by rw [hqx, hxy]⟩
      · rcases Nat.lt_or_ge i k with c | c
        · obtain ⟨q, hq, h⟩ := ih i p c hp
          exact ⟨q, List.mem_append_left _ hq, h⟩
        · obtain rfl : i = k := by omega
          rw [hy] at hp
          cases hp
          exact ⟨p, by simp, rfl⟩
theorem not_less (m : Nat) (a b : List (List UInt8)) (ha : a.length = m) (hb : b.length = m) (h : ordR b a ≠ -1) : a = b ∨ ordR a b = -1 := by
  rcases ordR_tri a b with h1 | h1 | h1
  · exact Or.inr h1
  · exact Or.inl (ordR_eq a b (by omega) h1)
  · have := ordR_neg a b
    rw [h1] at this; exact absurd this h
theorem dk_rises (m : Nat) (ps : List (Value × List (List UInt8))) (hm : ∀ p ∈ ps, p.2.length = m) (hs : ∀ (i j : Nat) (a b : Value × List (List UInt8)), i < j → ps[i]? = some a → ps[j]? = some b → ordR b.2 a.2 ≠ -1) (k : Nat) : Rises m ((dk ps k).map (·.2)) := by
  induction k with
  | zero => simp [dk]; exact rises_nil m
  | succ k ih =>
    rw [dk]
    split
    · exact ih
    · rename_i y hy
      split
      · exact ih
      · rename_i hc
        rw [List.map_append]
        refine ⟨?_, ?_⟩
        · intro r hr
          rcases List.mem_append.1 hr with hr | hr
          · exact ih.1 r hr
          · simp at hr; subst hr; exact hm y (List.mem_of_getElem? hy)
        · intro i j a b hij ha hb
          have hl : ((dk ps k).map (·.2)).length = (dk ps k).length := by simp
          rcases Nat.lt_or_ge j (dk ps k).length with c | c
          · rw [List.getElem?_append_left (by omega)] at ha hb
            exact ih.2 i j a b hij ha hb
          · rw [List.getElem?_append_right (by omega)] at hb
            have hb' : b = y.2 := by
              have hj : j - ((dk ps k).map (·.2)).length = 0 := by
                rcases Nat.eq_zero_or_pos (j - ((dk ps k).map (·.2)).length) with z | z
                · exact z
                · rw [List.getElem?_eq_none (by simp; omega)] at hb; cases hb
              rw [hj] at hb
              simpa using hb.symm
            subst hb'
            rw [List.getElem?_append_left (by
              have : i < j := hij
              have : j ≤ (dk ps k).length := by
                rcases Nat.lt_or_ge (dk ps k).length j with z | z
                · rw [List.getElem?_eq_none (by simp; omega)] at hb; cases hb
                · exact z
              omega)] at ha
            rw [List.getElem?_map] at ha
            obtain ⟨q, hq, rfl⟩ := Option.map_eq_some_iff.1 ha
            obtain ⟨i', hi', hqi⟩ := dk_mem ps k q (List.mem_of_getElem? hq)
            have k0 : 0 < k := by omega
            have hkl : k < ps.length := (List.getElem?_eq_some_iff.1 hy).1
            have hx : ps[k - 1]? = some ps[k - 1] := List.getElem?_eq_getElem (by omega)
            have hym : y.2.length = m := hm y (List.mem_of_getElem? hy)
            have hxm : (ps[k - 1]).2.length = m := hm _ (List.getElem_mem _)
            have hqm : q.2.length = m := hm q (List.mem_of_getElem? hqi)
            have hxy : ordR (ps[k - 1]).2 y.2 = -1 := by
              rcases not_less m _ _ hxm hym (hs (k - 1) k _ _ (by omega) hx hy) with e | e
              · exact absurd ⟨k0, by rw [hx, ← e]; rfl⟩ hc
              · exact e
            rcases Nat.lt_or_ge i' (k - 1) with z | z
            · rcases not_less m _ _ hqm hxm (hs i' (k - 1) _ _ z hqi hx) with e | e
              · rw [e]; exact hxy
              · exact ordR_trans _ _ _ e hxy (by omega) (by omega)
            · obtain rfl : i' = k - 1 := by omega
              rw [hx] at hqi
              cases hqi
              exact hxy
/-- all pairs sorted and rid of twins: the document's rows -/
theorem dk_sortU (m : Nat) (ps : List (Value × List (List UInt8))) (rows : List (List (List UInt8))) (hm : ∀ p ∈ ps, p.2.length = m) (hs : ∀ (i j : Nat) (a b : Value × List (List UInt8)), i < j → ps[i]? = some a → ps[j]? = some b → ordR b.2 a.2 ≠ -1)
    (hr : ∀ r ∈ rows, r.length = m) (hmem : ∀ x, x ∈ ps.map (·.2) ↔ x ∈ rows) : (dk ps ps.length).map (·.2) = sortU rows := by
  refine (sortU_is m rows _ hr (dk_rises m ps hm hs _) (fun x => ?_)).symm
  rw [← hmem]
  constructor
  · intro h
    obtain ⟨q, hq, rfl⟩ := List.mem_map.1 h
    obtain ⟨i, _, hi⟩ := dk_mem ps _ q hq
    exact List.mem_map.2 ⟨q, List.mem_of_getElem? hi, rfl⟩
  · intro h
    obtain ⟨q, hq, rfl⟩ := List.mem_map.1 h
    obtain ⟨i, hi, rfl⟩ := List.getElem_of_mem hq
    obtain ⟨p, hp, e⟩ := dk_all ps ps.length i _ hi (List.getElem?_eq_getElem hi)
    exact List.mem_map.2 ⟨p, hp, e⟩
end Go.Proofs.YtdfbjnachakkhaaGreatDoor

namespace Go.Proofs.YtdfbjnachakkhaaGreatDoor
open Go.ChangeShapes Go.WideShapes Go.ChangeAt Go.RowKit
set_option linter.unusedVariables false
theorem own_cut {w : World} {base : Nat} {e : TypeId} {g n cap k : Nat} {xs : List Value} (h : w.ownsRow base e 1 (.slice (some ⟨g, 0, none⟩) n cap) n xs) (hk : k ≤ n) : w.ownsRow base e 1 (.slice (some ⟨g, 0, none⟩) k cap) k (xs.take k) := by
  have h1 := h.1
  rcases h.2 with ⟨h', _⟩ | ⟨g', cap', cur, hv, hb, hg, hn, hc, hs, ht⟩
  · cases h'
  · cases hv
    refine ⟨by rw [List.length_take]; omega, Or.inr ⟨g, cap, cur, rfl, hb, hg, by omega, hc, hs, ?_⟩⟩
    rw [← ht, List.take_take, Nat.mul_one, Nat.mul_one, Nat.min_eq_left hk]
theorem own_clear {base : Nat} {e : TypeId} {g n cap : Nat} : ∀ (zs : List Value) (o : Nat) (w : World) (xs : List Value), w.ownsRow base e 1 (.slice (some ⟨g, 0, none⟩) n cap) n xs → ∃ ys, (w.setCells g o zs).ownsRow base e 1 (.slice (some ⟨g, 0, none⟩) n cap) n ys ∧ ys.take o = xs.take o
  | [], o, w, xs, h => ⟨xs, h, rfl⟩
  | z :: zs, o, w, xs, h => by
    obtain ⟨ys, h1, h2⟩ := own_clear zs (o + 1) (w.setCell ⟨g, o, none⟩ z) (xs.set o z) (own_set h o z)
    refine ⟨ys, h1, ?_⟩
    have e1 : ys.take o = (ys.take (o + 1)).take o := by rw [List.take_take, Nat.min_eq_left (by omega)]
    rw [e1, h2, List.take_take, Nat.min_eq_left (by omega), List.take_set_of_le (by omega)]
theorem grown_clear {g : Nat} : ∀ (zs : List Value) (o : Nat) (w : World), w.grownBy (w.setCells g o zs) (some g)
  | [], o, w => ⟨rfl, rfl, rfl, Nat.le_refl _, fun _ _ _ => rfl⟩
  | z :: zs, o, w => (grown_set (w := w) (g := g) (j := o) z).trans (grown_clear zs (o + 1) _)
theorem RowOK.kept {w w' : World} {g m : Nat} {p : Value × List (List UInt8)} (h : RowOK w g m p) (hg : w.grownBy w' (some g)) : Strs w' p.1 p.2 :=
  strs_grown h.1 hg (fun b off cap k e he => by cases he; exact h.2.2 _ _ _ _ e rfl)
theorem fst_at (ps : List (Value × List (List UInt8))) (k : Nat) (h : k < ps.length) : (ps.map (·.1))[k]? = some ps[k].1 := by
  rw [List.getElem?_map, List.getElem?_eq_getElem h]; rfl
theorem own_get {w : World} {base : Nat} {e : TypeId} {g n cap : Nat} {xs : List Value} (h : w.ownsRow base e 1 (.slice (some ⟨g, 0, none⟩) n cap) n xs) (k : Nat) (v : Value) (hv : xs[k]? = some v) : w.cell? ⟨g, k, none⟩ = some v := by
  have := h.cells (g := g) rfl k v hv
  rw [show (⟨g, 0, none⟩ : Addr).add k = ⟨g, k, none⟩ from by unfold Addr.add; split <;> simp_all] at this
  exact this
set_option maxRecDepth 100000 in
set_option maxHeartbeats 4000000 in
theorem compact_any (base g cap m : Nat) (ps : List (Value × List (List UInt8))) (w : World) (hown : w.ownsRow base 28 1 (.slice (some ⟨g, 0, none⟩) ps.length cap) ps.length (ps.map (·.1)))
    (hin : ∀ p ∈ ps, RowOK w g m p) (hl : ps.length ≤ 1073741824) (hm : m ≤ 140737488355328) :
    Calls Tryz.prog 76 #[.slice (some ⟨g, 0, none⟩) ps.length cap, .func (.func 77) #[] #[]] w fun e w' =>
      (e = .returned (.slice (some ⟨g, 0, none⟩) (dk ps ps.length).length cap) ∧ w'.ownsRow base 28 1 (.slice (some ⟨g, 0, none⟩) (dk ps ps.length).length cap) (dk ps ps.length).length ((dk ps ps.length).map (·.1))) ∧ w.grownBy w' (some g) := by
  have HOW : Hid (w.ownsRow base 28 1 (.slice (some ⟨g, 0, none⟩) ps.length cap) ps.length (ps.map (·.1))) := hown
  have HIN : Hid (∀ p ∈ ps, RowOK w g m p) := hin
  have hcap : ps.length ≤ cap := by
    rcases hown.2 with ⟨h', _⟩ | ⟨g', cap', cur, hv, hb, hg, hn, hc, hs, ht⟩
    · cases h'
    · cases hv; exact hn
  have EG : ∀ args w, (callFunc 77 args).run Tryz.prog w = .ok (.enter 77 args) w := enters_of Tryz.func77 (by kernel_rfl) rfl
  have HEQ : Hid (∀ (wr : World) (hg : w.grownBy wr (some g)) (i j n : Nat) (hi : i < ps.length) (hj : j < ps.length), Calls Tryz.prog 77 #[ps[i].1, ps[j].1] (wr.drewN n) fun e w' => e = .returned (.bool (ps[i].2 == ps[j].2)) ∧ ∃ q, w' = (wr.drewN n).drewN q) := by
    intro wr hg i j n hi hj
    have ri := hin ps[i] (List.getElem_mem hi)
    have rj := hin ps[j] (List.getElem_mem hj)
    exact sequal_any _ _ _ _ (wr.drewN n) ((ri.kept hg).drewN n) ((rj.kept hg).drewN n) (by rw [ri.2.1, rj.2.1]) (by rw [ri.2.1]; exact hm)
  clear hin hown
  by_cases h2 : ps.length < 2
  · have HD : Hid (dk ps ps.length = ps) := by
      show _ = _
      match ps, h2 with
      | [], _ => rfl
      | [y], _ => exact dk_one [y] y rfl
    go_enter Tryz.func76, Tryz.ntmps76
    go_wp2
    go_ret
    rw [HD.out]
    exact ⟨⟨rfl, HOW.out⟩, ⟨rfl, rfl, rfl, Nat.le_refl _, fun _ _ _ => rfl⟩⟩
  · go_enter Tryz.func76, Tryz.ntmps76
    go_wp2
    go_loopw [5] (fun kv wr => ∃ k q : Nat, 1 ≤ k ∧ k ≤ ps.length ∧ kv = .int .i64 k ∧ wr = w.drewN q ∧ Hid (dk ps k = ps.take k)) (fun kv _ => ps.length - (intOf kv).toNat)
    case atStart => exact ⟨1, 0, by omega, by omega, rfl, rfl, by
      show _ = _
      rw [dk_one ps ps[0] (List.getElem?_eq_getElem (by omega)), List.take_succ_eq_append_getElem (by omega)]; rfl⟩
    case round =>
      obtain ⟨k, q, hk1, hk, rfl, rfl, HD⟩ := hrel
      by_cases hlt : k < ps.length
      · have c1 : (w.drewN q).cell? ⟨g, k, none⟩ = some ps[k].1 := own_get HOW.out k _ (fst_at ps k hlt)
        have c0 : (w.drewN q).cell? ⟨g, k - 1, none⟩ = some ps[k - 1].1 := own_get HOW.out (k - 1) _ (fst_at ps (k - 1) (by omega))
        have HCA : Hid (∀ n : Nat, Calls Tryz.prog 77 #[ps[k].1, ps[k - 1].1] ((w.drewN q).drewN n) fun e w' => e = .returned (.bool (ps[k].2 == ps[k - 1].2)) ∧ ∃ j, w' = ((w.drewN q).drewN n).drewN j) := fun n => HEQ.out (w.drewN q) (grown_draws q) k (k - 1) n hlt (by omega)
        have hgk : ps[k]? = some ps[k] := List.getElem?_eq_getElem hlt
        have hgp : ps[k - 1]? = some ps[k - 1] := List.getElem?_eq_getElem (by omega)
        by_cases he : ps[k].2 = ps[k - 1].2
        · have HK0 : Hid (dk ps (k + 1) = ps.take k) := by show _ = _; rw [dk_same ps k _ _ (by omega) hgp hgk he, HD.out]
          rw [show (ps[k].2 == ps[k - 1].2) = true from by rw [he]; simp] at HCA
          clear he hgk hgp
          generalize ps[k].1 = x at *
          generalize ps[k - 1].1 = y at *
          obtain ⟨w0, HW0⟩ : ∃ w0, Hid (w0 = w.drewN q) := ⟨_, rfl⟩
          rw [← HW0.out] at c0 c1 HCA ⊢
          go_wp2_with fail
          go_quiet ((go_at_call 77; refine Calls.quiet_of (HCA.out _)))
          go_wp2
          have HB0 : Hid (w.grownBy (w0.drewN nq) (some g)) := by rw [HW0.out, World.drewN_drewN]; exact grown_draws _
          have HO0 : Hid ((w0.drewN nq).ownsRow base 28 1 (.slice (some ⟨g, 0, none⟩) ps.length cap) ps.length (ps.map (·.1))) := by rw [HW0.out, World.drewN_drewN]; exact own_kept2 HOW.out _
          clear c0 c1 HCA
          go_loopw [5, 7] (fun kv k2v wr => ∃ (kk k2 : Nat) (xs : List Value), kv = .int .i64 kk ∧ k2v = .int .i64 k2 ∧ 1 ≤ k2 ∧ k + k2 ≤ ps.length ∧ kk + 1 ≤ k + k2 ∧ Hid (kk = (dk ps (k + k2)).length) ∧ Hid (wr.ownsRow base 28 1 (.slice (some ⟨g, 0, none⟩) ps.length cap) ps.length xs) ∧ Hid (w.grownBy wr (some g)) ∧ Hid (xs.take kk = (dk ps (k + k2)).map (·.1)) ∧ Hid (∀ j, k + k2 - 1 ≤ j → xs[j]? = (ps.map (·.1))[j]?)) (fun _ k2v _ => ps.length - (intOf k2v).toNat)
          case atStart => exact ⟨k, 1, ps.map (·.1), rfl, rfl, by omega, by omega, by omega, by show _ = _; rw [HK0.out, List.length_take]; omega, HO0, HB0, by show _ = _; rw [HK0.out, List.map_take], fun j _ => rfl⟩
          case round =>
            obtain ⟨kk, k2, xs, rfl, rfl, h1, hle, hkk, HKL, HO, HG, HX, HT⟩ := hrel
            by_cases hlt2 : k + k2 < ps.length
            · have cm : wr.cell? ⟨g, k + k2, none⟩ = some ps[k + k2].1 := own_get HO.out _ _ (by rw [HT.out _ (by omega)]; exact fst_at ps _ hlt2)
              have cp : wr.cell? ⟨g, k + (k2 - 1), none⟩ = some ps[k + k2 - 1].1 := by
                rw [show k + (k2 - 1) = k + k2 - 1 from by omega]
                exact own_get HO.out _ _ (by rw [HT.out _ (by omega)]; exact fst_at ps _ (by omega))
              obtain ⟨old, HOLD⟩ : ∃ old, Hid (xs[kk]? = some old) := by
                have hxl : xs.length = ps.length := by have := HO.out.1; omega
                exact ⟨xs[kk]'(by omega), List.getElem?_eq_getElem (by omega)⟩
              have ck : wr.cell? ⟨g, kk, none⟩ = some old := own_get HO.out _ _ HOLD.out
              have fk : wr.frozen? ⟨g, kk, none⟩ = false := own_thaw HO.out kk
              have HCA : Hid (∀ n : Nat, Calls Tryz.prog 77 #[ps[k + k2].1, ps[k + k2 - 1].1] (wr.drewN n) fun e w' => e = .returned (.bool (ps[k + k2].2 == ps[k + k2 - 1].2)) ∧ ∃ j, w' = (wr.drewN n).drewN j) := fun n => HEQ.out wr HG.out (k + k2) (k + k2 - 1) n hlt2 (by omega)
              have hgk : ps[k + k2]? = some ps[k + k2] := List.getElem?_eq_getElem hlt2
              have hgp : ps[k + k2 - 1]? = some ps[k + k2 - 1] := List.getElem?_eq_getElem (by omega)
              by_cases he : ps[k + k2].2 = ps[k + k2 - 1].2
              · have HK2 : Hid (dk ps (k + (k2 + 1)) = dk ps (k + k2)) := by show _ = _; rw [← Nat.add_assoc]; exact dk_same ps (k + k2) _ _ (by omega) hgp hgk he
                rw [show (ps[k + k2].2 == ps[k + k2 - 1].2) = true from by rw [he]; simp] at HCA
                clear he hgk hgp
                generalize ps[k + k2].1 = x at *
                generalize ps[k + k2 - 1].1 = y at *
                go_wp2_with fail
                go_quiet ((go_at_call 77; refine Calls.quiet_of (HCA.out _)))
                go_wp2
                go_roundw
                case rel => exact ⟨kk, k2 + 1, xs, rfl, by go_num, by omega, by omega, by omega, by rw [HK2.out]; exact HKL, own_kept2 HO.out _, HG.out.trans (grown_draws _), by rw [HK2.out]; exact HX, fun j hj => HT.out j (by omega)⟩
                case measure => simp [intOf]; omega
              · have HK2 : Hid (dk ps (k + (k2 + 1)) = dk ps (k + k2) ++ [ps[k + k2]]) := by show _ = _; rw [← Nat.add_assoc]; exact dk_other ps (k + k2) _ _ hgp hgk he
                rw [show (ps[k + k2].2 == ps[k + k2 - 1].2) = false from by rw [beq_eq_false_iff_ne]; exact he] at HCA
                obtain ⟨xa, xn, xc, HXV⟩ : ∃ xa xn xc, Hid (Value.slice xa xn xc = ps[k + k2].1) := by
                  obtain ⟨a, c, hv, _⟩ := (HIN.out ps[k + k2] (List.getElem_mem hlt2)).1
                  exact ⟨a, _, c, hv.symm⟩
                obtain ⟨y, HYV⟩ : ∃ y : Value, Hid (y = ps[k + k2 - 1].1) := ⟨ps[k + k2 - 1].1, (rfl : _ = _)⟩
                rw [← HXV.out] at cm HCA
                rw [← HYV.out] at cp HCA
                clear he hgk hgp
                go_wp2_with fail
                go_quiet ((go_at_call 77; refine Calls.quiet_of (HCA.out _)))
                go_wp2
                go_roundw
                case rel =>
                  refine ⟨kk + 1, k2 + 1, xs.set kk (.slice xa xn xc), by go_num, by go_num, by omega, by omega, by omega, ?_, own_set (own_kept2 HO.out _) kk _, (HG.out.trans (grown_draws _)).trans (grown_set _), ?_, ?_⟩
                  · show _ = _
                    rw [HK2.out, List.length_append, ← HKL.out]; rfl
                  · show _ = _
                    have hkx : kk < xs.length := (List.getElem?_eq_some_iff.1 HOLD.out).1
                    rw [HK2.out, List.map_append, ← HX.out, List.take_succ_eq_append_getElem (by rw [List.length_set]; exact hkx), List.take_set_of_le (Nat.le_refl _), HXV.out]
                    simp
                  · intro j hj
                    rw [List.getElem?_set_ne (by omega)]
                    exact HT.out j (by omega)
                case measure => simp [intOf]; omega
            · have hend : k + k2 = ps.length := by omega
              have hcl : ∀ ty, (Builtin.clear_ #[22] ty #[.slice (some ⟨g, kk, none⟩) (ps.length - kk) (cap - kk)]).run Tryz.prog wr = .ok (.tuple #[]) (wr.setCells g kk (List.replicate (ps.length - kk) (.slice none 0 0))) :=
                fun ty => Lib.run_clear_slice wr _ _ ty _ Tryz.underlying22 Tryz.zeroValue28 rfl rfl g kk _ _ (by omega) (fun j hj => by
                  have hxl : xs.length = ps.length := by have := HO.out.1; omega
                  rw [own_get HO.out (kk + j) xs[kk + j] (List.getElem?_eq_getElem (by omega))]; rfl) (fun j hj => own_thaw HO.out _)
              have HR : Hid (dk ps ps.length = dk ps (k + k2)) := by rw [hend]; rfl
              have hkk2 : kk ≤ ps.length := by omega
              clear hend
              go_wp2
              go_ret
              rw [HR.out, ← HKL.out]
              obtain ⟨ys, ho, ht⟩ := own_clear (List.replicate (ps.length - kk) (.slice none 0 0)) kk wr xs HO.out
              refine ⟨⟨rfl, ?_⟩, HG.out.trans (grown_clear _ _ _)⟩
              have := own_cut ho hkk2
              rw [ht, HX.out] at this
              exact this
        · have HK1 : Hid (dk ps (k + 1) = ps.take (k + 1)) := by show _ = _; rw [dk_other ps k _ _ hgp hgk he, HD.out, List.take_succ_eq_append_getElem hlt]
          rw [show (ps[k].2 == ps[k - 1].2) = false from by rw [beq_eq_false_iff_ne]; exact he] at HCA
          clear he hgk hgp
          generalize ps[k].1 = x at *
          generalize ps[k - 1].1 = y at *
          obtain ⟨w0, HW0⟩ : ∃ w0, Hid (w0 = w.drewN q) := ⟨_, rfl⟩
          rw [← HW0.out] at c0 c1 HCA ⊢
          go_wp2_with fail
          go_quiet ((go_at_call 77; refine Calls.quiet_of (HCA.out _)))
          go_wp2
          go_roundw
          case rel => exact ⟨k + 1, _, by omega, by omega, by go_num, by rw [HW0.out, World.drewN_drewN], HK1⟩
          case measure => simp [intOf]; omega
      · have HE : Hid (dk ps ps.length = ps) := by
          show _ = _
          have := HD.out
          rw [show k = ps.length from by omega, List.take_length] at this
          exact this
        go_wp2
        go_ret
        rw [HE.out]
        exact ⟨⟨rfl, own_kept2 HOW.out _⟩, grown_draws _⟩
end Go.Proofs.YtdfbjnachakkhaaGreatDoor

namespace Go.Proofs.YtdfbjnachakkhaaGreatDoor
open Go.ChangeShapes Go.WideShapes Go.ChangeAt Go.RowKit
set_option linter.unusedVariables false
theorem own_shape' {w : World} {base : Nat} {e : TypeId} {size : Nat} {v : Value} {n : Nat} {xs : List Value} (h : w.ownsRow base e size v n xs) : ∃ a c, v = .slice a n c := by
  rcases h.2 with ⟨rfl, h0⟩ | ⟨g, cap, cur, rfl, _⟩
  · exact ⟨none, 0, by rw [h0]⟩
  · exact ⟨_, cap, rfl⟩
theorem inner_kept {w w' : World} {B B2 g n k cap : Nat} {x : Value} {xs ys : List Value} (h : w.ownsRow B 9 1 x k xs) (ho : w.ownsRow B2 28 1 (.slice (some ⟨g, 0, none⟩) n cap) n ys) (hg : w.grownBy w' (some g)) : w'.ownsRow B 9 1 x k xs :=
  h.kept hg (by
    rcases kind_ne h ho (by decide) with e | e
    · exact Or.inl e
    · exact Or.inr e)
theorem inner_apart {w : World} {B B2 g n k cap : Nat} {x : Value} {xs ys : List Value} (h : w.ownsRow B 9 1 x k xs) (ho : w.ownsRow B2 28 1 (.slice (some ⟨g, 0, none⟩) n cap) n ys) : ∀ b off c j, x = .slice (some ⟨b, off, none⟩) j c → b ≠ g := by
  intro b off c j hx he
  subst he hx
  rcases h.2 with ⟨e, _⟩ | ⟨g', cap', cur, e, _⟩
  · cases e
  · cases e
    rcases kind_ne h ho (by decide) with e | e
    · cases e
    · exact e rfl
set_option maxRecDepth 100000 in
set_option maxHeartbeats 400000 in
theorem compact_none (a : Option Addr) (cap : Nat) (fv : Value) (w : World) :
    Calls Tryz.prog 76 #[.slice a 0 cap, fv] w fun e w' => e = .returned (.slice a 0 cap) ∧ w = w' := by
  go_enter Tryz.func76, Tryz.ntmps76
  go_wp2
  go_ret
  exact ⟨rfl, rfl⟩
theorem sort_none (a : Option Addr) (cap : Nat) (fv : Value) (w : World) :
    Calls Tryz.prog 74 #[.slice a 0 cap, fv] w fun e w' => e = .returned (.tuple #[]) ∧ w = w' :=
  (Tryz.slices_SortFunc_none (α := Nat) a cap fv w).mono fun e w' h => ⟨h.1, h.2.symm⟩
set_option maxRecDepth 100000 in
set_option maxHeartbeats 2000000 in
theorem settle_any (base m : Nat) (v : Value) (us : List Value) (rows : List (List (List UInt8))) (w : World) (h : Deep base w v us rows) (hl : rows.length ≤ 1073741824) (hm : ∀ r ∈ rows, r.length = m) (hm8 : m ≤ 1099511627776) :
    Calls Tryz.prog 37 #[v] w fun e w' => (∃ v' us', e = .returned v' ∧ Deep base w' v' us' (sortU rows)) ∧ w.grownBy w' v.ownBlock := by
  have HH : Hid (Deep base w v us rows) := h
  have HM : Hid (∀ r ∈ rows, r.length = m) := hm
  have hul : us.length ≤ 1073741824 := by have := h.2.1; omega
  obtain ⟨a1, c1, hv⟩ := own_shape' h.1
  subst hv
  clear hm
  by_cases h0 : us.length = 0
  · have hv0 : us = [] := List.eq_nil_of_length_eq_zero h0
    have hr0 : rows = [] := List.eq_nil_of_length_eq_zero (by have := HH.out.2.1; omega)
    subst hv0 hr0
    have HO : Hid (w.ownsRow base 28 1 (.slice a1 0 c1) 0 []) := HH.out.1
    clear h0 h
    go_enter Tryz.func37, Tryz.ntmps37
    go_wp2_with fail
    refine (sort_none a1 c1 _ _).mono ?_
    rintro e w2 ⟨rfl, rfl⟩
    go_wp2_with fail
    refine (compact_none a1 c1 _ _).mono ?_
    rintro e w2 ⟨rfl, rfl⟩
    go_wp2
    go_ret
    exact ⟨⟨_, [], rfl, HO.out, rfl, fun i x r hx => by simp at hx⟩, ⟨rfl, rfl, rfl, Nat.le_refl _, fun _ _ _ => rfl⟩⟩
  · obtain ⟨g, hbg, rfl⟩ : ∃ g, base ≤ g ∧ a1 = some ⟨g, 0, none⟩ := by
      rcases h.1.2 with ⟨e, e0⟩ | ⟨g, cap', cur, e, hb, _⟩
      · exact absurd e0 h0
      · cases e; exact ⟨g, hb, rfl⟩
    have hur : us.length = rows.length := h.2.1
    have HO : Hid (w.ownsRow base 28 1 (.slice (some ⟨g, 0, none⟩) us.length c1) us.length us) := h.1
    have HIN3 : Hid (∀ p ∈ us.zip rows, w.ownsRow base 9 1 p.1 p.2.length (ts p.2)) := by
      rintro ⟨x, r⟩ hp
      obtain ⟨i, hi, he⟩ := List.getElem_of_mem hp
      have hiu : i < us.length := by rw [List.length_zip] at hi; omega
      have hir : i < rows.length := by omega
      rw [List.getElem_zip] at he
      cases he
      exact HH.out.2.2 i _ _ (val_at hiu) (row_at hir)
    have HOK : Hid (∀ p ∈ us.zip rows, RowOK w g m p) := by
      intro p hp
      have ho := HIN3.out p hp
      exact ⟨own_strs ho, HM.out _ (List.of_mem_zip hp).2, inner_apart ho HO.out⟩
    have hne : 0 < (us.zip rows).length := by rw [List.length_zip]; omega
    haveI : Inhabited (RowIn w g m) := ⟨⟨(us.zip rows)[0], HOK.out _ (List.getElem_mem hne)⟩⟩
    have HSO : Hid (Calls Tryz.prog 74 #[.slice (some ⟨g, 0, none⟩) us.length c1, .func (.func 75) #[] #[]] w fun e w' =>
      e = .returned (.tuple #[]) ∧ (∃ (ps : List (Value × List (List UInt8))), ps.Perm (us.zip rows) ∧ (∀ (i j : Nat) (a b : Value × List (List UInt8)), i < j → ps[i]? = some a → ps[j]? = some b → ordR b.2 a.2 ≠ -1)
        ∧ w'.ownsRow base 28 1 (.slice (some ⟨g, 0, none⟩) us.length c1) us.length (ps.map (·.1))) ∧ w.grownBy w' (some g)) := sorted_in base g c1 m us rows w HO.out hur (by omega) (by omega) HOK.out
    have HUR : Hid (us.length = rows.length) := hur
    clear hur hne h h0
    go_enter Tryz.func37, Tryz.ntmps37
    go_wp2_with fail
    refine HSO.out.mono ?_
    rintro e w4 ⟨rfl, ⟨ps, hperm, hsrt, hown4⟩, hg4⟩
    have hpl : ps.length = us.length := by rw [hperm.length_eq, List.length_zip]; have := HUR.out; omega
    have HPM : Hid (ps.Perm (us.zip rows)) := hperm
    have HSR : Hid (∀ (i j : Nat) (a b : Value × List (List UInt8)), i < j → ps[i]? = some a → ps[j]? = some b → ordR b.2 a.2 ≠ -1) := hsrt
    have HG4 : Hid (w.grownBy w4 (some g)) := hg4
    have HIN4 : Hid (∀ p ∈ ps, w4.ownsRow base 9 1 p.1 p.2.length (ts p.2)) := fun p hp => inner_kept (HIN3.out p (hperm.mem_iff.1 hp)) HO.out hg4
    have HO4 : Hid (w4.ownsRow base 28 1 (.slice (some ⟨g, 0, none⟩) ps.length c1) ps.length (ps.map (·.1))) := by rw [hpl]; exact hown4
    have HOK4 : Hid (∀ p ∈ ps, RowOK w4 g m p) := by
      intro p hp
      have ho := HIN4.out p hp
      exact ⟨own_strs ho, HM.out _ (List.of_mem_zip (hperm.mem_iff.1 hp)).2, inner_apart ho HO4.out⟩
    have hpl2 : ps.length ≤ 1073741824 := by omega
    clear hperm hsrt hown4 hg4
    rw [← hpl]
    clear hpl
    go_wp2_with fail
    refine (compact_any base g c1 m ps _ HO4.out HOK4.out hpl2 (by omega)).mono ?_
    rintro e w5 ⟨⟨rfl, hown5⟩, hg5⟩
    go_wp2
    go_ret
    refine ⟨⟨_, (dk ps ps.length).map (·.1), rfl, ?_⟩, HG4.out.trans hg5⟩
    have hD : (dk ps ps.length).map (·.2) = sortU rows := dk_sortU m ps rows (fun p hp => (HOK4.out p hp).2.1) HSR.out HM.out (fun x => by
        rw [(HPM.out.map (·.2)).mem_iff, List.map_snd_zip (by have := HUR.out; omega)])
    refine ⟨by rw [List.length_map]; exact hown5, by rw [← hD]; simp, ?_⟩
    intro i x r hx hr
    rw [← hD] at hr
    rw [List.getElem?_map] at hx hr
    obtain ⟨p, hp, rfl⟩ := Option.map_eq_some_iff.1 hx
    rw [hp] at hr
    cases hr
    obtain ⟨i', _, hi'⟩ := dk_mem ps _ p (List.mem_of_getElem? hp)
    exact inner_kept (HIN4.out p (List.mem_of_getElem? hi')) HO4.out hg5
theorem settle_below (base m : Nat) (v : Value) (us : List Value) (rows : List (List (List UInt8))) (w0 w : World) (h : Deep base w v us rows) (hb : Below base w0 w) (hbs : base ≤ w.heap.size) (hl : rows.length ≤ 1073741824) (hm : ∀ r ∈ rows, r.length = m) (hm8 : m ≤ 1099511627776) :
    Calls Tryz.prog 37 #[v] w fun e w' => (∃ v' us', e = .returned v' ∧ Deep base w' v' us' (sortU rows)) ∧ Below base w0 w' :=
  (settle_any base m v us rows w h hl hm hm8).mono fun e w' ⟨h1, hg⟩ => ⟨h1, hb.grown hg hbs (fun k hk => (h.1.lt k hk).1)⟩
set_option maxRecDepth 100000 in
set_option maxHeartbeats 2000000 in
theorem rising_any (m : Nat) (v : Value) (vs : List Value) (rows : List (List (List UInt8))) (w : World) (h : Rows2 w v vs rows) (hl : rows.length ≤ 1073741824) (hm : ∀ r ∈ rows, r.length = m) (hm8 : m ≤ 1099511627776) :
    Calls Tryz.prog 48 #[v] w fun e w' => (∃ v' us, e = .returned v' ∧ Deep w.heap.size w' v' us (sortU rows)) ∧ Below w.heap.size w w' := by
  have HH : Hid (Rows2 w v vs rows) := h
  have HM : Hid (∀ r ∈ rows, r.length = m) := hm
  have H1 : Hid (∀ x ∈ vs, x.oneCell' = true) := by
    intro x hx
    obtain ⟨i, hi, rfl⟩ := List.getElem_of_mem hx
    have hir : i < rows.length := by have := h.2.1; omega
    obtain ⟨a, c, e, _⟩ := h.2.2 i vs[i] rows[i] (val_at hi) (row_at hir)
    rw [e]; rfl
  have hvl : vs.length ≤ 1073741824 := by have := h.2.1; omega
  clear hm
  obtain ⟨⟨a, cap, rfl, -⟩, -, -⟩ := h
  go_enter Tryz.func48, Tryz.ntmps48
  go_wp2_with fail
  refine (cloneVals_any _ vs _ HH.out.1 hvl H1.out).mono ?_
  rintro e w1 ⟨⟨v1, rfl, hown1⟩, hb1⟩
  obtain ⟨a1, c1, rfl⟩ := own_shape' hown1
  by_cases h0 : vs.length = 0
  · have hv0 : vs = [] := List.eq_nil_of_length_eq_zero h0
    have hr0 : rows = [] := List.eq_nil_of_length_eq_zero (by have := HH.out.2.1; omega)
    subst hv0 hr0
    have HD0 : Hid (Deep w.heap.size w1 (.slice a1 0 c1) [] []) := ⟨hown1, rfl, fun i x r hx => by simp at hx⟩
    have HB1 : Hid (Below w.heap.size w w1) := hb1
    clear hown1 h0 hb1
    go_wp2
    refine wp_loop_rounds 1 ?_
    rw [rounds_succ]
    go_wp2_with fail
    refine (settle_below w.heap.size m _ [] [] w _ HD0.out HB1.out HB1.out.size (by simp) (by simp) hm8).mono ?_
    rintro e w2 ⟨⟨v2, us2, rfl, hd2⟩, hb2⟩
    go_wp2
    go_ret
    exact ⟨⟨_, us2, rfl, hd2⟩, hb2⟩
  · obtain ⟨g, hbg, rfl⟩ : ∃ g, w.heap.size ≤ g ∧ a1 = some ⟨g, 0, none⟩ := by
      rcases hown1.2 with ⟨e, e0⟩ | ⟨g, cap', cur, e, hb, _⟩
      · exact absurd e0 h0
      · cases e; exact ⟨g, hb, rfl⟩
    have HLE : Hid (vs.length = rows.length) := HH.out.2.1
    have HIN : Hid (∀ (i : Nat) (x : Value) (r : List (List UInt8)), vs[i]? = some x → rows[i]? = some r → Strs w x r) := HH.out.2.2
    have HO1 : Hid (w1.ownsRow w.heap.size 28 1 (.slice (some ⟨g, 0, none⟩) vs.length c1) vs.length vs) := hown1
    have HB1 : Hid (Below w.heap.size w w1) := hb1
    have hpos : 0 < vs.length := by omega
    clear hown1 hb1 h0
    go_wp2
    go_loopw [10] (fun iv wr => ∃ (k : Nat) (us : List Value), k ≤ vs.length ∧ iv = .int .i64 k ∧ Hid (us.length = vs.length) ∧ Hid (wr.ownsRow w.heap.size 28 1 (.slice (some ⟨g, 0, none⟩) vs.length c1) vs.length us) ∧ Hid (∀ (i : Nat) (x : Value) (r : List (List UInt8)), i < k → us[i]? = some x → rows[i]? = some r → wr.ownsRow w.heap.size 9 1 x r.length (ts r)) ∧ Hid (∀ i, k ≤ i → us[i]? = vs[i]?) ∧ Hid (Below w.heap.size w wr)) (fun iv _ => vs.length - (intOf iv).toNat)
    case atStart => exact ⟨0, vs, by omega, rfl, (rfl : _ = _), HO1, fun i x r hi => absurd hi (by omega), fun i _ => rfl, HB1⟩
    case round =>
      obtain ⟨k, us, hk, rfl, HUL, HO, HI, HV, HB⟩ := hrel
      by_cases hlt : k < vs.length
      · have hkr : k < rows.length := by have := HLE.out; omega
        have cx : wr.cell? ⟨g, k, none⟩ = some vs[k] := own_get HO.out k _ (by rw [HV.out k (Nat.le_refl _)]; exact val_at hlt)
        have fx : wr.frozen? ⟨g, k, none⟩ = false := own_thaw HO.out k
        have HS : Hid (Strs wr vs[k] rows[k]) := (HIN.out k _ _ (val_at hlt) (row_at hkr)).kept HB.out
        have HRL : Hid (rows[k].length ≤ 1099511627776) := by
          have := HM.out _ (List.getElem_mem hkr)
          show _ ≤ _; omega
        generalize vs[k] = x at *
        obtain ⟨xa, xc, hxe, -⟩ := HS.out
        subst hxe
        go_wp2_with fail
        refine (cloneStrs_any _ rows[k] _ HS.out HRL.out).mono ?_
        rintro e w2 ⟨⟨x2, rfl, hown2⟩, hb2⟩
        obtain ⟨x2a, x2c, rfl⟩ := own_shape' hown2
        have ho2 := own_below HO.out hb2
        have cx2 : w2.cell? ⟨g, k, none⟩ = some (.slice xa rows[k].length xc) := by rw [hb2.cell (p := ⟨g, k, none⟩) (World.block_lt_of_cell? wr ⟨g, k, none⟩ cx)]; exact cx
        have fx2 : w2.frozen? ⟨g, k, none⟩ = false := own_thaw ho2 k
        have HO2 : Hid (w2.ownsRow w.heap.size 28 1 (.slice (some ⟨g, 0, none⟩) vs.length c1) vs.length us) := ho2
        have HX2 : Hid (w2.ownsRow w.heap.size 9 1 (.slice x2a rows[k].length x2c) rows[k].length (ts rows[k])) := own_mono hown2 HB.out.size
        have HB2 : Hid (Below w.heap.size w w2) := HB.out.trans (hb2.mono HB.out.size)
        have HI2 : Hid (∀ (i : Nat) (x : Value) (r : List (List UInt8)), i < k → us[i]? = some x → rows[i]? = some r → w2.ownsRow w.heap.size 9 1 x r.length (ts r)) := fun i x r hi hx hr => own_below (HI.out i x r hi hx hr) hb2
        clear hown2 hb2 ho2 cx fx
        go_wp2
        go_roundw
        case rel =>
          refine ⟨k + 1, us.set k (.slice x2a rows[k].length x2c), by omega, by go_num, by show _ = _; rw [List.length_set]; exact HUL.out, own_set HO2.out k _, ?_, ?_, HB2.out.setCell (p := ⟨g, k, none⟩) hbg _⟩
          · intro i x r hi hx hr
            by_cases hik : i = k
            · subst hik
              have hkx : i < us.length := by have := HUL.out; omega
              rw [List.getElem?_set_self hkx] at hx
              rw [row_at hkr] at hr
              cases hx; cases hr
              exact inner_kept HX2.out HO2.out (grown_set _)
            · rw [List.getElem?_set_ne (by omega)] at hx
              exact inner_kept (HI2.out i x r (by omega) hx hr) HO2.out (grown_set _)
          · intro i hi
            rw [List.getElem?_set_ne (by omega)]
            exact HV.out i (by omega)
        case measure => simp [intOf]; omega
      · have hul : us.length = vs.length := HUL.out
        have HDP : Hid (Deep w.heap.size wr (.slice (some ⟨g, 0, none⟩) vs.length c1) us rows) := by
          refine ⟨by rw [hul]; exact HO.out, by have := HLE.out; omega, fun i x r hx hr => HI.out i x r ?_ hx hr⟩
          have := lt_of_some hx
          omega
        go_wp2_with fail
        refine (settle_below w.heap.size m _ us rows w _ HDP.out HB.out HB.out.size hl HM.out hm8).mono ?_
        rintro e w2 ⟨⟨v2, us2, rfl, hd2⟩, hb2⟩
        go_wp2
        go_ret
        exact ⟨⟨_, us2, rfl, hd2⟩, hb2⟩
end Go.Proofs.YtdfbjnachakkhaaGreatDoor
