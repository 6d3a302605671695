/-
  slices.IndexFunc and slices.DeleteFunc over rows, with the closure of Minus, walked.
-/
import Derived.Test.YtaeloanlllaphaaDoorKeysOf
import Derived.Test.YtaeloanlllaphaaDoorRisingL
namespace Go.Proofs.YtaeloanlllaphaaDoor
open Go.ChangeShapes Go.WideShapes Go.ChangeAt Go.RowKit
set_option linter.unusedVariables false
theorem grown_of_below {w w' : World} (h : Below w.heap.size w w') : w.grownBy w' none := ⟨h.os, h.tape, h.output, h.size, fun k hk _ => h.block k hk⟩
theorem grown_more {w w' : World} (r : Option Nat) (h : w.grownBy w' none) : w.grownBy w' r := ⟨h.os, h.tape, h.output, h.size, fun k hk _ => h.block k hk (by simp)⟩
theorem own_fresh {w w' : World} {base : Nat} {e : TypeId} {size : Nat} {v : Value} {n : Nat} {xs : List Value} (h : w.ownsRow base e size v n xs) (hg : w.grownBy w' none) : w'.ownsRow base e size v n xs :=
  h.kept hg (by cases v.ownBlock with
    | none => exact Or.inl rfl
    | some g => exact Or.inr (by simp))
theorem enterM : ∀ args w, (callFunc 23 args).run Tryd.prog w = .ok (.enter 23 args) w := enters_of Tryd.func23 (by kernel_rfl) rfl
/-- what the closure answers of each row, in whatever world but for the list's own block -/
def Asks (w : World) (g pb : Nat) (ps : List (Value × List (List UInt8))) (q : List (List UInt8) → Bool) : Prop :=
  ∀ (W : World), w.grownBy W (some g) → ∀ (i : Nat) (hi : i < ps.length), Calls Tryd.prog 23 #[ps[i].1, .pointer (some ⟨pb, 0, none⟩)] W fun e w' => e = .returned (.bool (q ps[i].2)) ∧ W.grownBy w' none
set_option maxRecDepth 100000 in
set_option maxHeartbeats 2000000 in
theorem index_any (base g cap pb : Nat) (ps : List (Value × List (List UInt8))) (q : List (List UInt8) → Bool) (w : World) (hown : w.ownsRow base 33 1 (.slice (some ⟨g, 0, none⟩) ps.length cap) ps.length (ps.map (·.1)))
    (hq : Asks w g pb ps q) (hl : ps.length ≤ 1099511627776) :
    Calls Tryd.prog 37 #[.slice (some ⟨g, 0, none⟩) ps.length cap, .func (.func 23) #[] #[.pointer (some ⟨pb, 0, none⟩)]] w fun e w' =>
      w.grownBy w' none ∧ ((e = .returned (.int .i64 (-1)) ∧ ∀ p ∈ ps, q p.2 = false) ∨ ∃ k : Nat, ∃ hk : k < ps.length, e = .returned (.int .i64 k) ∧ q ps[k].2 = true ∧ ∀ p ∈ ps.take k, q p.2 = false) := by
  have HOW : Hid (w.ownsRow base 33 1 (.slice (some ⟨g, 0, none⟩) ps.length cap) ps.length (ps.map (·.1))) := hown
  have HQ : Hid (Asks w g pb ps q) := hq
  have EG := enterM
  clear hq hown
  go_enter Tryd.func37, Tryd.ntmps37
  go_wp2
  go_loopw [8] (fun iv wr => ∃ k : Nat, k ≤ ps.length ∧ iv = .int .i64 k ∧ Hid (w.grownBy wr none) ∧ Hid (∀ p ∈ ps.take k, q p.2 = false)) (fun iv _ => ps.length - (intOf iv).toNat)
  case atStart => exact ⟨0, by omega, rfl, grown_draws 0, fun p hp => by simp at hp⟩
  case round =>
    obtain ⟨k, hk, rfl, HG, HN⟩ := hrel
    by_cases hlt : k < ps.length
    · have c1 : wr.cell? ⟨g, k, none⟩ = some ps[k].1 := own_get (own_fresh HOW.out HG.out) k _ (fst_at ps k hlt)
      have HCA : Hid (Calls Tryd.prog 23 #[ps[k].1, .pointer (some ⟨pb, 0, none⟩)] wr fun e w' => e = .returned (.bool (q ps[k].2)) ∧ wr.grownBy w' none) := HQ.out wr (grown_more _ HG.out) k hlt
      obtain ⟨x, HX⟩ : ∃ x : Value, Hid (x = ps[k].1) := ⟨ps[k].1, (rfl : ps[k].1 = _)⟩
      rw [← HX.out] at c1 HCA
      cases hqk : q ps[k].2 with
      | true =>
        rw [hqk] at HCA
        have HQK : Hid (q ps[k].2 = true) := hqk
        clear hqk
        go_wp2_with fail
        refine HCA.out.mono ?_
        rintro e w2 ⟨rfl, hg2⟩
        have HG2 : Hid (w.grownBy w2 none) := HG.out.trans hg2
        clear hg2
        go_wp2
        go_ret
        exact ⟨HG2.out, Or.inr ⟨k, hlt, rfl, HQK.out, HN.out⟩⟩
      | false =>
        rw [hqk] at HCA
        have HN2 : Hid (∀ p ∈ ps.take (k + 1), q p.2 = false) := by
          intro p hp
          rw [List.take_succ_eq_append_getElem hlt] at hp
          rcases List.mem_append.1 hp with hp | hp
          · exact HN.out p hp
          · simp at hp; subst hp; exact hqk
        clear hqk
        go_wp2_with fail
        refine HCA.out.mono ?_
        rintro e w2 ⟨rfl, hg2⟩
        have HG2 : Hid (w.grownBy w2 none) := HG.out.trans hg2
        clear hg2
        go_wp2
        go_roundw
        case rel => exact ⟨k + 1, by omega, by go_num, HG2, HN2⟩
        case measure => simp [intOf]; omega
    · have HE : Hid (∀ p ∈ ps, q p.2 = false) := by
        have := HN.out
        rw [List.take_of_length_le (by omega)] at this
        exact this
      go_wp2
      go_ret
      exact ⟨HG.out, Or.inl ⟨rfl, HE.out⟩⟩
theorem filt_next (ps : List (Value × List (List UInt8))) (q : List (List UInt8) → Bool) (j : Nat) (h : j < ps.length) : (ps.take (j + 1)).filter (fun p => !q p.2) = (ps.take j).filter (fun p => !q p.2) ++ (if q ps[j].2 then [] else [ps[j]]) := by
  rw [List.take_succ_eq_append_getElem h, List.filter_append]
  congr 1
  cases hq : q ps[j].2 <;> simp [hq]
set_option maxRecDepth 100000 in
set_option maxHeartbeats 4000000 in
theorem delete_any (base g cap pb : Nat) (ps : List (Value × List (List UInt8))) (q : List (List UInt8) → Bool) (w : World) (hown : w.ownsRow base 33 1 (.slice (some ⟨g, 0, none⟩) ps.length cap) ps.length (ps.map (·.1)))
    (hq : Asks w g pb ps q) (hl : ps.length ≤ 1099511627776) (hsh : ∀ p ∈ ps, ∃ a n c, p.1 = .slice a n c) :
    Calls Tryd.prog 22 #[.slice (some ⟨g, 0, none⟩) ps.length cap, .func (.func 23) #[] #[.pointer (some ⟨pb, 0, none⟩)]] w fun e w' =>
      ∃ c, e = .returned (.slice (some ⟨g, 0, none⟩) (ps.filter fun p => !q p.2).length c) ∧ w'.ownsRow base 33 1 (.slice (some ⟨g, 0, none⟩) (ps.filter fun p => !q p.2).length c) (ps.filter fun p => !q p.2).length ((ps.filter fun p => !q p.2).map (·.1)) ∧ w.grownBy w' (some g) := by
  have HOW : Hid (w.ownsRow base 33 1 (.slice (some ⟨g, 0, none⟩) ps.length cap) ps.length (ps.map (·.1))) := hown
  have HQ : Hid (Asks w g pb ps q) := hq
  have HSH : Hid (∀ p ∈ ps, ∃ a n c, p.1 = .slice a n c) := hsh
  have hcap : ps.length ≤ cap := by
    rcases hown.2 with ⟨h', _⟩ | ⟨g', cap', cur, hv, hb, hg, hn, hc, hs, ht⟩
    · cases h'
    · cases hv; exact hn
  have HIX := index_any base g cap pb ps q w hown hq hl
  have HIX2 : Hid (Calls Tryd.prog 37 #[.slice (some ⟨g, 0, none⟩) ps.length cap, .func (.func 23) #[] #[.pointer (some ⟨pb, 0, none⟩)]] w fun e w' =>
      w.grownBy w' none ∧ ((e = .returned (.int .i64 (-1)) ∧ ∀ p ∈ ps, q p.2 = false) ∨ ∃ k : Nat, ∃ hk : k < ps.length, e = .returned (.int .i64 k) ∧ q ps[k].2 = true ∧ ∀ p ∈ ps.take k, q p.2 = false)) := HIX
  have EG := enterM
  clear hq hown hsh HIX
  go_enter Tryd.func22, Tryd.ntmps22
  go_wp2_with fail
  refine HIX2.out.mono ?_
  rintro e w1 ⟨hg1, ⟨rfl, hall⟩ | ⟨k, hk, rfl, hqk, hall⟩⟩
  · have HF : Hid (ps.filter (fun p => !q p.2) = ps) := by
      show _ = _
      rw [List.filter_eq_self]; intro p hp; rw [hall p hp]; rfl
    have HG1 : Hid (w.grownBy w1 none) := hg1
    clear hg1 hall
    go_wp2
    go_ret
    rw [HF.out]
    exact ⟨cap, rfl, own_fresh HOW.out HG1.out, grown_more _ HG1.out⟩
  · have HF0 : Hid ((ps.take (k + 1)).filter (fun p => !q p.2) = ps.take k) := by
      show _ = _
      rw [filt_next ps q k hk, hqk, if_pos rfl, List.append_nil, List.filter_eq_self]
      intro p hp; rw [hall p hp]; rfl
    have HG1 : Hid (w.grownBy w1 none) := hg1
    have HO1 : Hid (w1.ownsRow base 33 1 (.slice (some ⟨g, 0, none⟩) ps.length cap) ps.length (ps.map (·.1))) := own_fresh HOW.out hg1
    have hk1 : (((k : Nat) : Int) == -1) = false := by rw [beq_eq_false_iff_ne]; omega
    clear hg1 hall hqk
    go_wp2
    go_loopw [5, 6] (fun iv jv wr => ∃ (kk j : Nat) (xs : List Value), iv = .int .i64 kk ∧ jv = .int .i64 j ∧ j ≤ ps.length ∧ kk + 1 ≤ j ∧ Hid (kk = ((ps.take j).filter fun p => !q p.2).length) ∧ Hid (wr.ownsRow base 33 1 (.slice (some ⟨g, 0, none⟩) ps.length cap) ps.length xs) ∧ Hid (w.grownBy wr (some g)) ∧ Hid (xs.take kk = ((ps.take j).filter fun p => !q p.2).map (·.1)) ∧ Hid (∀ m, j ≤ m → xs[m]? = (ps.map (·.1))[m]?)) (fun _ jv _ => ps.length - (intOf jv).toNat)
    case atStart => exact ⟨k, k + 1, ps.map (·.1), rfl, by go_num, by omega, by omega, by show _ = _; rw [HF0.out, List.length_take]; omega, HO1, grown_more _ HG1.out, by show _ = _; rw [HF0.out, List.map_take], fun m _ => rfl⟩
    case round =>
      obtain ⟨kk, j, xs, rfl, rfl, hj, hkj, HKL, HO, HG, HX, HT⟩ := hrel
      by_cases hlt : j < ps.length
      · have cj : wr.cell? ⟨g, j, none⟩ = some ps[j].1 := own_get HO.out _ _ (by rw [HT.out _ (Nat.le_refl _)]; exact fst_at ps _ hlt)
        have HCA : Hid (Calls Tryd.prog 23 #[ps[j].1, .pointer (some ⟨pb, 0, none⟩)] wr fun e w' => e = .returned (.bool (q ps[j].2)) ∧ wr.grownBy w' none) := HQ.out wr HG.out j hlt
        have hfn := filt_next ps q j hlt
        obtain ⟨xa, xn, xc, HXV⟩ : ∃ xa xn xc, Hid (Value.slice xa xn xc = ps[j].1) := by
          obtain ⟨a, n, c, hv⟩ := HSH.out ps[j] (List.getElem_mem hlt)
          exact ⟨a, n, c, hv.symm⟩
        rw [← HXV.out] at cj HCA
        cases hqk : q ps[j].2 with
        | true =>
          rw [hqk] at HCA hfn
          have HFN : Hid ((ps.take (j + 1)).filter (fun p => !q p.2) = (ps.take j).filter fun p => !q p.2) := by rw [hfn]; exact (List.append_nil _)
          clear hqk hfn
          go_wp2_with fail
          refine HCA.out.mono ?_
          rintro e w2 ⟨rfl, hg2⟩
          have HG2 : Hid (w.grownBy w2 (some g)) := HG.out.trans (grown_more _ hg2)
          have HO2 : Hid (w2.ownsRow base 33 1 (.slice (some ⟨g, 0, none⟩) ps.length cap) ps.length xs) := own_fresh HO.out hg2
          clear hg2
          go_wp2
          go_roundw
          case rel => exact ⟨kk, j + 1, xs, rfl, by go_num, by omega, by omega, by rw [HFN.out]; exact HKL, HO2, HG2, by rw [HFN.out]; exact HX, fun m hm => HT.out m (by omega)⟩
          case measure => simp [intOf]; omega
        | false =>
          rw [hqk] at HCA hfn
          have HFN : Hid ((ps.take (j + 1)).filter (fun p => !q p.2) = ((ps.take j).filter fun p => !q p.2) ++ [ps[j]]) := by rw [hfn]; exact rfl
          clear hqk hfn
          obtain ⟨old, HOLD⟩ : ∃ old, Hid (xs[kk]? = some old) := by
            have hxl : xs.length = ps.length := by have := HO.out.1; omega
            exact ⟨xs[kk]'(by omega), List.getElem?_eq_getElem (by omega)⟩
          go_wp2_with fail
          refine HCA.out.mono ?_
          rintro e w2 ⟨rfl, hg2⟩
          have HG2 : Hid (w.grownBy w2 (some g)) := HG.out.trans (grown_more _ hg2)
          have HO2 : Hid (w2.ownsRow base 33 1 (.slice (some ⟨g, 0, none⟩) ps.length cap) ps.length xs) := own_fresh HO.out hg2
          have ck : w2.cell? ⟨g, kk, none⟩ = some old := own_get HO2.out _ _ HOLD.out
          have fk : w2.frozen? ⟨g, kk, none⟩ = false := own_thaw HO2.out kk
          clear hg2
          go_wp2
          go_roundw
          case rel =>
            refine ⟨kk + 1, j + 1, xs.set kk (.slice xa xn xc), by go_num, by go_num, by omega, by omega, ?_, own_set HO2.out kk _, HG2.out.trans (grown_set _), ?_, ?_⟩
            · show _ = _
              rw [HFN.out, List.length_append, ← HKL.out]; rfl
            · show _ = _
              have hkx : kk < xs.length := (List.getElem?_eq_some_iff.1 HOLD.out).1
              rw [HFN.out, List.map_append, ← HX.out, List.take_succ_eq_append_getElem (by rw [List.length_set]; exact hkx), List.take_set_of_le (Nat.le_refl _), HXV.out]
              simp
            · intro m hm
              rw [List.getElem?_set_ne (by omega)]
              exact HT.out m (by omega)
          case measure => simp [intOf]; omega
      · have hcl : ∀ ty, (Builtin.clear_ #[22] ty #[.slice (some ⟨g, kk, none⟩) (ps.length - kk) (cap - kk)]).run Tryd.prog wr = .ok (.tuple #[]) (wr.setCells g kk (List.replicate (ps.length - kk) (.slice none 0 0))) :=
          fun ty => Lib.run_clear_slice wr _ _ ty _ Tryd.underlying22 Tryd.zeroValue33 rfl rfl g kk _ _ (by omega) (fun j hj => by
            have hxl : xs.length = ps.length := by have := HO.out.1; omega
            rw [own_get HO.out (kk + j) xs[kk + j] (List.getElem?_eq_getElem (by omega))]; rfl) (fun j hj => own_thaw HO.out _)
        have HR : Hid (ps.filter (fun p => !q p.2) = (ps.take j).filter fun p => !q p.2) := by show _ = _; rw [List.take_of_length_le (by omega)]
        have hkk2 : kk ≤ ps.length := by omega
        go_wp2
        go_ret
        rw [HR.out, ← HKL.out]
        obtain ⟨ys, ho, ht⟩ := own_clear (List.replicate (ps.length - kk) (.slice none 0 0)) kk wr xs HO.out
        refine ⟨cap, rfl, ?_, HG.out.trans (grown_clear _ _ _)⟩
        have := own_cut ho hkk2
        rw [ht, HX.out] at this
        exact this
end Go.Proofs.YtaeloanlllaphaaDoor
