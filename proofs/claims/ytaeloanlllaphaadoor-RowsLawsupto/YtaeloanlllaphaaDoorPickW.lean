/-
  The program's Pick, walked.
-/
import Derived.Test.YtaeloanlllaphaaDoorTake
import Derived.Test.YtaeloanlllaphaaDoorDeepPush
import Derived.Test.YtaeloanlllaphaaDoorRisingL
namespace Go.Proofs.YtaeloanlllaphaaDoor
open Go.ChangeShapes Go.WideShapes Go.ChangeAt Go.RowKit
set_option linter.unusedVariables false
theorem deep_shape {base : Nat} {w : World} {v : Value} {us : List Value} {L : List (List (List UInt8))} (h : Deep base w v us L) : ∃ a c, v = .slice a us.length c := own_shape3 h.1
theorem Deep.nil (base : Nat) (w : World) : Deep base w (.slice none 0 0) [] [] := ⟨World.ownsRow_nil _ _ _ _, rfl, fun i x r hx => by simp at hx⟩
theorem filterMap_next {α β : Type} (L : List α) (f : α → Option β) (k : Nat) (h : k < L.length) : (L.take (k + 1)).filterMap f = (L.take k).filterMap f ++ (match f L[k] with | none => [] | some t => [t]) := by
  rw [List.take_succ_eq_append_getElem h, List.filterMap_append]
  cases hf : f L[k] <;> simp [hf]
set_option maxRecDepth 100000 in
set_option maxHeartbeats 1000000 in
theorem pick_any (va vc : Value) (xs : List Value) (la : List (List (List UInt8))) (cols : List Int) (w : World) (ha : Rows2 w va xs la) (hc : Ints w vc cols) (hla : la.length ≤ 1073741824) (hcl : cols.length ≤ 1073741824) (hra : ∀ r ∈ la, r.length ≤ 1099511627776) :
    Calls Tryd.prog 15 #[va, vc] w fun e w' => (∃ v us, e = .returned v ∧ Deep w.heap.size w' v us (pickL la cols)) ∧ Below w.heap.size w w' := by
  obtain ⟨i0, hi, hz0, hz1, hz2⟩ := info_parts infoRow
  have HC : Hid (Ints w vc cols) := hc
  have HRA : Hid (∀ r ∈ la, r.length ≤ 1099511627776) := hra
  obtain ⟨aa, ca, rfl, hca⟩ := rows_cell ha
  have HCA : Hid (∀ k (hk : k < la.length), ∃ b off x, aa = some ⟨b, off, none⟩ ∧ w.cell? ⟨b, off + k, none⟩ = some x ∧ b < w.heap.size ∧ Strs w x la[k]) := hca
  obtain ⟨cca, ccc, rfl, -⟩ := hc
  clear ha hca hra
  go_enter Tryd.func15, Tryd.ntmps15
  go_wp2
  go_loopw [5, 12] (fun pv iv wr => ∃ (k : Nat) (us : List Value) (K : List (List (List UInt8))), k ≤ la.length ∧ iv = .int .i64 k ∧ us.length ≤ k ∧ Hid (Deep w.heap.size wr pv us K) ∧ Hid (K = (la.take k).filterMap fun r => takeL r cols) ∧ Hid (Below w.heap.size w wr)) (fun _ iv _ => la.length - (intOf iv).toNat)
  case atStart => exact ⟨0, [], [], by omega, rfl, by simp, Deep.nil _ _, rfl, Below.refl _ _⟩
  case round =>
    obtain ⟨k, us, K, hk, rfl, hul, HD, HK, HB⟩ := hrel
    obtain ⟨pa, pc, hpe⟩ := deep_shape HD.out
    subst hpe
    by_cases hlt : k < la.length
    · obtain ⟨b, off, x, rfl, c0, hbw, hst⟩ := HCA.out k hlt
      have cx := (HB.out.cell (p := ⟨b, off + k, none⟩) hbw).trans c0
      have hrl : la[k].length ≤ 1099511627776 := HRA.out _ (List.getElem_mem hlt)
      have HTA : Hid (Calls Tryd.prog 30 #[x, .slice cca cols.length ccc] wr fun e w' => ((∃ t v, takeL la[k] cols = some t ∧ e = .returned (.tuple #[v, .bool true]) ∧ w'.ownsRow wr.heap.size 9 1 v t.length (ts t)) ∨ (takeL la[k] cols = none ∧ e = .returned (.tuple #[.slice none 0 0, .bool false]))) ∧ Below wr.heap.size wr w') := take_any x _ la[k] cols wr (hst.kept HB.out) (HC.out.kept HB.out) hrl hcl
      have HFN := filterMap_next la (fun r => takeL r cols) k hlt
      obtain ⟨xa, xc, hxe, -⟩ := hst
      subst hxe
      clear c0
      go_wp2_with fail
      refine HTA.out.mono ?_
      rintro e w1 ⟨⟨t, vt, ht, rfl, hot⟩ | ⟨ht, rfl⟩, hb1⟩
      · have HFN2 : Hid ((la.take (k + 1)).filterMap (fun r => takeL r cols) = K ++ [t]) := by show _ = _; rw [HFN, ht, HK.out]
        have HD1 : Hid (Deep w.heap.size w1 (.slice pa us.length pc) us K) := HD.out.kept hb1
        have HB1 : Hid (Below w.heap.size w w1) := HB.out.trans (hb1.mono HB.out.size)
        have HOT : Hid (w1.ownsRow wr.heap.size 9 1 vt t.length (ts t)) := hot
        have HBS : Hid (w.heap.size ≤ wr.heap.size) := HB.out.size
        obtain ⟨ta, tc, hte⟩ := own_shape3 hot
        subst hte
        clear hot hb1 HFN ht HTA
        go_wp2_with (at_builtin; refine wpList_append_own_at _ rfl _ _ 22 rfl w.heap.size 33 i0 (.slice none 0 0) 1 24 Tryd.underlying22 hi hz0 hz1 hz2 rfl (by decide) _ _ _ rfl (HD1.out.1.alloc _) ⟨w1.heap.size, 0, none⟩ 1 1 [.slice ta t.length tc] rfl rfl ?c1 ?c2 ?c3 ?c4 ?c5 ?_)
        case c1 =>
          intro j' u hj'
          match j', hj' with
          | 0, hj' => simp at hj'; subst hj'; exact World.cell?_alloc_at _ _ _ _ rfl
        case c2 => intro u hu; simp at hu; subst hu; rfl
        case c3 => unfold maxLen; omega
        case c4 => omega
        case c5 => have := HB1.out.size; simp; omega
        intro v2 w2 hown2 hg2 _ _
        have HD2 : Hid (Deep w.heap.size w2 v2 (us ++ [.slice ta t.length tc]) (K ++ [t])) := Deep.push HD1.out HOT.out HBS.out ((Below.refl _ _).alloc (Nat.le_refl _) _) hg2 hown2
        have HB2 : Hid (Below w.heap.size w w2) := (HB1.out.alloc HB1.out.size _).grown hg2 (by have := HB1.out.size; simp; omega) (fun q hq => (HD1.out.1.lt q hq).1)
        clear hown2 hg2
        go_wp2
        go_roundw
        case rel => exact ⟨k + 1, _, _, by omega, by go_num, by simp; omega, HD2, HFN2.out.symm, HB2⟩
        case measure => simp [intOf]; omega
      · have HFN2 : Hid ((la.take (k + 1)).filterMap (fun r => takeL r cols) = K) := by show _ = _; rw [HFN, ht, HK.out]; exact List.append_nil _
        have HD1 : Hid (Deep w.heap.size w1 (.slice pa us.length pc) us K) := HD.out.kept hb1
        have HB1 : Hid (Below w.heap.size w w1) := HB.out.trans (hb1.mono HB.out.size)
        clear hb1 HFN ht HTA
        go_wp2
        go_roundw
        case rel => exact ⟨k + 1, us, K, by omega, by go_num, by omega, HD1, HFN2.out.symm, HB1⟩
        case measure => simp [intOf]; omega
    · have HE : Hid (K = la.filterMap fun r => takeL r cols) := by show _ = _; rw [HK.out, List.take_of_length_le (by omega)]
      have HKB : Hid (∀ r ∈ K, r.length ≤ 1099511627776) := by
        intro r hr
        rw [HE.out] at hr
        obtain ⟨q, _, hq⟩ := List.mem_filterMap.1 hr
        rw [takeL_len q cols r hq]; omega
      have HKL : Hid (K.length ≤ 1099511627776) := by have := HD.out.2.1; show _ ≤ _; omega
      go_wp2_with fail
      refine (settle_below w.heap.size _ us K w _ HD.out HB.out HB.out.size HKL.out HKB.out).mono ?_
      rintro e w2 ⟨⟨v2, us2, rfl, hd2⟩, hb2⟩
      rw [HE.out] at hd2
      go_wp2
      go_ret
      exact ⟨⟨_, us2, rfl, hd2⟩, hb2⟩
end Go.Proofs.YtaeloanlllaphaaDoor
