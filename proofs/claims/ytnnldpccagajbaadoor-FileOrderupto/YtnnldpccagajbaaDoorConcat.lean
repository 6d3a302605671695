/-
  slices.Grow (laid) and slices.Concat at texts, walked.
-/
import Derived.Test.YtnnldpccagajbaaDoorRowsWalk
import Derived.Test.YtnnldpccagajbaaDoorShelf
namespace Go.Proofs.YtnnldpccagajbaaDoor
open Go.ChangeShapes Go.WideShapes Go.ChangeAt Go.RowKit
set_option linter.unusedVariables false
set_option maxRecDepth 100000 in
set_option maxHeartbeats 1000000 in
theorem grow_none (w : World) : Calls Tryd.prog 63 #[.slice none 0 0, .int .i64 0] w fun e w' => e = .returned (.slice none 0 0) ∧ w = w' := by
  go_enter Tryd.func63, Tryd.ntmps63
  go_wp2
  go_ret
  exact ⟨rfl, rfl⟩
theorem grow_some (n : Nat) (w : World) (h0 : 0 < n) (hn : n ≤ 1073741824) : Calls Tryd.prog 63 #[.slice none 0 0, .int .i64 n] w fun e w' => (∃ g cap, e = .returned (.slice (some ⟨g, 0, none⟩) 0 cap) ∧ w'.ownsRow w.heap.size 9 1 (.slice (some ⟨g, 0, none⟩) 0 cap) 0 []) ∧ Below w.heap.size w w' := by
  obtain ⟨i0, hi, hz0, hz1, hz2⟩ := info_parts info9
  have hcon := Any8.slices_Grow_grow Tryd.growS i0 (.string { data := #[] }) hi hz0 (by rw [hz1]; decide) none 0 0 n [] w (Nat.le_refl _) (by omega) (by rw [hz2]; omega) (by omega) (by simp) (fun _ => rfl) (fun a ha => by cases ha)
  change Calls Tryd.prog 63 _ _ _ at hcon
  refine hcon.mono ?_
  rintro e w' ⟨rfl, rfl⟩
  have hge := grownCap_ge w (0 + n) 0 (Tryd.growS_ren.t 25)
  rw [Nat.zero_add] at hge
  refine ⟨⟨_, _, rfl, World.ownsRow_made w.drew _ _ (Nat.le_refl _) ?_ ?_⟩, (Below.refl _ _).drew.alloc (Nat.le_refl _) _⟩
  · exact grownCap_le_maxLen w (0 + n) 0 _ (by unfold maxLen; omega)
  · rw [Array.size_append, Array.size_append, size_zeroCells, size_zeroCells]
    simp [Value.cells]
    omega
theorem own_shape2 {w : World} {base : Nat} {e : TypeId} {size : Nat} {v : Value} {n : Nat} {xs : List Value} (h : w.ownsRow base e size v n xs) : ∃ a c, v = .slice a n c := by
  rcases h.2 with ⟨rfl, h0⟩ | ⟨g, cap, cur, rfl, _⟩
  · exact ⟨none, 0, by rw [h0]⟩
  · exact ⟨_, cap, rfl⟩
theorem flat_next (rows : List (List (List UInt8))) (i : Nat) (h : i < rows.length) : (rows.take (i + 1)).flatten = (rows.take i).flatten ++ rows[i] := by
  rw [List.take_succ_eq_append_getElem h, List.flatten_append]; simp
theorem flat_part (rows : List (List (List UInt8))) (i : Nat) : (rows.take i).flatten.length ≤ rows.flatten.length := by
  conv => rhs; rw [← List.take_append_drop i rows, List.flatten_append, List.length_append]
  omega
set_option maxRecDepth 100000 in
set_option maxHeartbeats 2000000 in
theorem concat_any (v : Value) (vs : List Value) (rows : List (List (List UInt8))) (w : World) (h : Rows2 w v vs rows) (hl : rows.length ≤ 1073741824) (hf : rows.flatten.length ≤ 67108864) :
    Calls Tryd.prog 45 #[v] w fun e w' => (∃ v', e = .returned v' ∧ w'.ownsRow w.heap.size 9 1 v' rows.flatten.length (ts rows.flatten)) ∧ Below w.heap.size w w' := by
  obtain ⟨i0, hi, hz0, hz1, hz2⟩ := info_parts info9
  have hvl : vs.length ≤ 1073741824 := by have := h.2.1; omega
  obtain ⟨⟨a, cap, rfl, hv⟩, hlen, hin⟩ := h
  have HLE : Hid (vs.length = rows.length) := hlen
  have HIN : Hid (∀ (i : Nat) (x : Value) (r : List (List UInt8)), vs[i]? = some x → rows[i]? = some r → Strs w x r) := hin
  have HV : Hid (∀ k, k < vs.length → ∃ b off, a = some ⟨b, off, none⟩ ∧ ∀ (i : Nat) (x : Value), vs[i]? = some x → w.cell? ⟨b, off + i, none⟩ = some x) := by
    intro k hk
    rcases hv with ⟨rfl, _⟩ | ⟨b, off, rfl, hc⟩
    · simp at hk
    · exact ⟨b, off, rfl, hc⟩
  clear hv hlen hin
  go_enter Tryd.func45, Tryd.ntmps45
  go_wp2
  go_loopw [3, 11] (fun sv iv wr => ∃ (i n : Nat), i ≤ vs.length ∧ iv = .int .i64 i ∧ sv = .int .i64 ((rows.take i).flatten.length : Nat) ∧ wr = w.drewN n) (fun _ iv _ => vs.length - (intOf iv).toNat)
  case atStart => exact ⟨0, 0, by omega, rfl, rfl, rfl⟩
  case round =>
    obtain ⟨i, n, hi2, rfl, rfl, rfl⟩ := hrel
    have hfp := flat_part rows i
    by_cases hlt : i < vs.length
    · have hir : i < rows.length := by have := HLE.out; omega
      obtain ⟨b, off, rfl, hcc⟩ := HV.out i hlt
      have cx := hcc i vs[i] (val_at hlt)
      obtain ⟨xa, xc, hxe, -⟩ := HIN.out i _ _ (val_at hlt) (row_at hir)
      have hfn := flat_part rows (i + 1)
      have HFN : Hid ((rows.take (i + 1)).flatten.length = (rows.take i).flatten.length + rows[i].length) := by show _ = _; rw [flat_next rows i hir, List.length_append]
      have hsum : (rows.take i).flatten.length + rows[i].length ≤ 67108864 := by rw [← HFN.out]; omega
      rw [hxe] at cx
      obtain ⟨fl, HFL⟩ : ∃ fl, Hid (fl = (rows.take i).flatten.length) := ⟨_, (rfl : (rows.take i).flatten.length = _)⟩
      obtain ⟨rl, HRL⟩ : ∃ rl, Hid (rl = rows[i].length) := ⟨_, (rfl : rows[i].length = _)⟩
      rw [← HFL.out, ← HRL.out] at hsum
      rw [← HRL.out] at cx
      rw [← HFL.out]
      clear hcc hxe hfp hfn
      go_wp2
      go_roundw
      case rel => exact ⟨i + 1, n, by omega, by go_num, by rw [HFN.out, ← HFL.out, ← HRL.out]; go_num, rfl⟩
      case measure => simp [intOf]; omega
    · have HFE : Hid ((rows.take i).flatten = rows.flatten) := by show _ = _; rw [List.take_of_length_le (by have := HLE.out; omega)]
      rw [HFE.out] at hfp ⊢
      obtain ⟨fl, HFL⟩ : ∃ fl, Hid (fl = rows.flatten.length) := ⟨_, (rfl : rows.flatten.length = _)⟩
      rw [← HFL.out] at hf hfp ⊢
      clear HFE hfp
      have HGR : Hid (Calls Tryd.prog 63 #[.slice none 0 0, .int .i64 fl] (w.drewN n) fun e w' => (∃ (ga : Option Addr) (gc : Nat), e = .returned (.slice ga 0 gc) ∧ Hid (w'.ownsRow w.heap.size 9 1 (.slice ga 0 gc) 0 [])) ∧ Hid (Below w.heap.size w w')) := by
        by_cases hz : fl = 0
        · rw [hz]
          refine (grow_none (w.drewN n)).mono ?_
          rintro e w2 ⟨rfl, rfl⟩
          exact ⟨⟨none, 0, rfl, World.ownsRow_nil _ _ _ _⟩, below_drewN (Below.refl _ _) n⟩
        · refine (grow_some fl (w.drewN n) (by omega) (by omega)).mono ?_
          rintro e w2 ⟨⟨g, gc, rfl, ho⟩, hb⟩
          exact ⟨⟨_, gc, rfl, ho⟩, (below_drewN (Below.refl w.heap.size w) n).trans hb⟩
      go_wp2_with fail
      refine HGR.out.mono ?_
      rintro e w2 ⟨⟨ga, gc, rfl, HO2⟩, HB2⟩
      clear HGR
      go_wp2
      go_loopw [6, 27] (fun ov jv wr => ∃ (j : Nat) (done : List (List UInt8)), j ≤ vs.length ∧ jv = .int .i64 j ∧ Hid (done = (rows.take j).flatten) ∧ Hid (wr.ownsRow w.heap.size 9 1 ov done.length (ts done)) ∧ Hid (Below w.heap.size w wr)) (fun _ jv _ => vs.length - (intOf jv).toNat)
      case atStart => exact ⟨0, [], by omega, rfl, (rfl : _ = _), HO2, HB2⟩
      case round =>
        obtain ⟨j, done, hj, rfl, HDN, HO, HB⟩ := hrel
        obtain ⟨oa, oc, hoe⟩ := own_shape2 HO.out
        subst hoe
        by_cases hjl : j < vs.length
        · have hjr : j < rows.length := by have := HLE.out; omega
          obtain ⟨b, off, rfl, hcc⟩ := HV.out j hjl
          have cx0 := hcc j vs[j] (val_at hjl)
          have cx := (HB.out.cell (p := ⟨b, off + j, none⟩) (World.block_lt_of_cell? w ⟨b, off + j, none⟩ cx0)).trans cx0
          obtain ⟨xa, xc, hxe, hxs⟩ := (HIN.out j _ _ (val_at hjl) (row_at hjr)).kept HB.out
          obtain ⟨row, HRW⟩ : ∃ row, Hid (row = rows[j]) := ⟨rows[j], (rfl : rows[j] = rows[j])⟩
          have hsum : done.length + row.length ≤ 67108864 := by
            have h1 := flat_part rows (j + 1)
            rw [flat_next rows j hjr, List.length_append] at h1
            have h2 := HFL.out
            rw [HDN.out, HRW.out]; omega
          have HDX : Hid (done ++ row = (rows.take (j + 1)).flatten) := by show _ = _; rw [flat_next rows j hjr, HDN.out, HRW.out]
          rw [hxe] at cx
          rw [← HRW.out] at cx hxs
          clear hcc cx0 hxe
          rcases hxs with ⟨hrn, hxn⟩ | ⟨bx, ox, rfl, hcx⟩
          · subst hrn
            cases xa with
            | none =>
              obtain rfl := hxn rfl
              have HDX2 : Hid (done = (rows.take (j + 1)).flatten) := by have := HDX.out; rw [List.append_nil] at this; exact this
              go_wp2_with (at_builtin; refine wpList_append_own_none rfl _ _ 35 rfl w.heap.size 9 i0 1 Tryd.underlying35 hi _ _ _ rfl HO.out rfl ?_)
              go_wp2
              go_roundw
              case rel => exact ⟨j + 1, done, by omega, by go_num, HDX2, HO, HB⟩
              case measure => simp [intOf]; omega
            | some ad =>
              go_wp2_with (at_builtin; refine wpList_append_own _ rfl _ _ 35 rfl w.heap.size 9 i0 (.string { data := #[] }) 1 16 Tryd.underlying35 hi hz0 hz1 hz2 rfl (by decide) _ _ _ rfl HO.out ad 0 xc [] rfl rfl ?c1 ?c2 ?c3 ?c4 ?c5 ?_)
              case c1 => intro j' u hj'; simp at hj'
              case c2 => intro u hu; simp at hu
              case c3 => unfold maxLen; omega
              case c4 => omega
              case c5 => exact HB.out.size
              intro v4 w4 hown4 hg4 _
              have HB4 : Hid (Below w.heap.size w w4) := HB.out.grown hg4 HB.out.size (fun q hq => (HO.out.lt q hq).1)
              have HO4 : Hid (w4.ownsRow w.heap.size 9 1 v4 done.length (ts done)) := by simpa [Hid] using hown4
              have HDX2 : Hid (done = (rows.take (j + 1)).flatten) := by have := HDX.out; rw [List.append_nil] at this; exact this
              clear hown4 hg4
              go_wp2
              go_roundw
              case rel => exact ⟨j + 1, done, by omega, by go_num, HDX2, HO4, HB4⟩
              case measure => simp [intOf]; omega
          · have HCX : Hid (∀ (j' : Nat) (u : Value), (ts row)[j']? = some u → wr.cell? ((⟨bx, ox, none⟩ : Addr).add j') = some u) := by
              intro j' u hu
              have hjl' : j' < row.length := by
                rcases Nat.lt_or_ge j' row.length with h | h
                · exact h
                · rw [List.getElem?_eq_none (by rw [ts_length]; exact h)] at hu; cases hu
              rw [ts_at (get_at hjl')] at hu
              cases hu
              rw [show (⟨bx, ox, none⟩ : Addr).add j' = ⟨bx, ox + j', none⟩ from by unfold Addr.add; split <;> simp_all]
              exact hcx j' _ (get_at hjl')
            clear hcx
            go_wp2_with (at_builtin; refine wpList_append_own _ rfl _ _ 35 rfl w.heap.size 9 i0 (.string { data := #[] }) 1 16 Tryd.underlying35 hi hz0 hz1 hz2 rfl (by decide) _ _ _ rfl HO.out ⟨bx, ox, none⟩ row.length xc (ts row) rfl ?c0 ?c1 ?c2 ?c3 ?c4 ?c5 ?_)
            case c0 => rw [ts_length, Nat.mul_one]
            case c1 => exact HCX.out
            case c2 =>
              intro u hu
              obtain ⟨x, _, rfl⟩ := List.mem_map.1 hu
              rfl
            case c3 => unfold maxLen; omega
            case c4 => omega
            case c5 => exact HB.out.size
            intro v4 w4 hown4 hg4 _
            have HB4 : Hid (Below w.heap.size w w4) := HB.out.grown hg4 HB.out.size (fun q hq => (HO.out.lt q hq).1)
            have HO4 : Hid (w4.ownsRow w.heap.size 9 1 v4 (done ++ row).length (ts (done ++ row))) := by
              have e : ts done ++ ts row = ts (done ++ row) := by simp [ts]
              rw [e] at hown4
              rw [List.length_append]; exact hown4
            clear hown4 hg4
            go_wp2
            go_roundw
            case rel => exact ⟨j + 1, done ++ row, by omega, by go_num, HDX, HO4, HB4⟩
            case measure => simp [intOf]; omega
        · have HE : Hid (done = rows.flatten) := by show _ = _; rw [HDN.out, List.take_of_length_le (by have := HLE.out; omega)]
          go_wp2
          go_ret
          have ho := HO.out
          rw [HE.out] at ho
          exact ⟨⟨_, rfl, by rw [HE.out, HFL.out]; exact ho⟩, HB.out⟩
end Go.Proofs.YtnnldpccagajbaaDoor
