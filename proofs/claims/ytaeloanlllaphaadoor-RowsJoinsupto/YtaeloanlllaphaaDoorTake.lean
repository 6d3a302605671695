/-
  Lists of numbers and of pairs in memory; the program's take and side, walked.
-/
import Derived.Test.YtaeloanlllaphaaDoorJoinL
import Derived.Test.YtaeloanlllaphaaDoorRefUnion
namespace Go.Proofs.YtaeloanlllaphaaDoor
open Go.ChangeShapes Go.WideShapes Go.ChangeAt Go.RowKit
set_option linter.unusedVariables false
/-- a slice of numbers -/
def Ints (w : World) (v : Value) (l : List Int) : Prop :=
  ∃ (a : Option Addr) (cap : Nat), v = .slice a l.length cap ∧ (∀ z ∈ l, -9223372036854775808 ≤ z ∧ z ≤ 9223372036854775807) ∧ ∀ k (hk : k < l.length), ∃ b off, a = some ⟨b, off, none⟩ ∧ w.cell? ⟨b, off + k, none⟩ = some (.int .i64 l[k]) ∧ b < w.heap.size
theorem Ints.kept {w w' : World} {v : Value} {l : List Int} (h : Ints w v l) (hb : Below w.heap.size w w') : Ints w' v l := by
  obtain ⟨a, cap, hv, hz, hc⟩ := h
  refine ⟨a, cap, hv, hz, fun k hk => ?_⟩
  obtain ⟨b, off, ha, hc2, hlt⟩ := hc k hk
  exact ⟨b, off, ha, (hb.cell (p := ⟨b, off + k, none⟩) hlt).trans hc2, Nat.lt_of_lt_of_le hlt hb.size⟩
/-- a slice of pairs -/
def Prs (w : World) (v : Value) (l : List (Int × Int)) : Prop :=
  ∃ (a : Option Addr) (cap : Nat), v = .slice a l.length cap ∧ (∀ z ∈ l, (-9223372036854775808 ≤ z.1 ∧ z.1 ≤ 9223372036854775807) ∧ -9223372036854775808 ≤ z.2 ∧ z.2 ≤ 9223372036854775807) ∧ ∀ k (hk : k < l.length), ∃ b off, a = some ⟨b, off, none⟩ ∧ w.cell? ⟨b, off + k * 2, none⟩ = some (.int .i64 l[k].1) ∧ w.cell? ⟨b, off + k * 2 + 1, none⟩ = some (.int .i64 l[k].2) ∧ b < w.heap.size
theorem Prs.kept {w w' : World} {v : Value} {l : List (Int × Int)} (h : Prs w v l) (hb : Below w.heap.size w w') : Prs w' v l := by
  obtain ⟨a, cap, hv, hz, hc⟩ := h
  refine ⟨a, cap, hv, hz, fun k hk => ?_⟩
  obtain ⟨b, off, ha, hc2, hc3, hlt⟩ := hc k hk
  exact ⟨b, off, ha, (hb.cell (p := ⟨b, off + k * 2, none⟩) hlt).trans hc2, (hb.cell (p := ⟨b, off + k * 2 + 1, none⟩) hlt).trans hc3, Nat.lt_of_lt_of_le hlt hb.size⟩
theorem strs_cell {w : World} {v : Value} {l : List (List UInt8)} (h : Strs w v l) : ∃ a cap, v = .slice a l.length cap ∧ ∀ k (hk : k < l.length), ∃ b off, a = some ⟨b, off, none⟩ ∧ w.cell? ⟨b, off + k, none⟩ = some (.string (str l[k])) ∧ b < w.heap.size := by
  obtain ⟨a, cap, rfl, hc⟩ := h
  refine ⟨a, cap, rfl, fun k hk => ?_⟩
  rcases hc with ⟨rfl, _⟩ | ⟨b, off, rfl, hc⟩
  · simp at hk
  · exact ⟨b, off, rfl, hc k _ (get_at hk), World.block_lt_of_cell? w ⟨b, off + k, none⟩ (hc k _ (get_at hk))⟩
theorem goodC_true {row : List (List UInt8)} {c : Int} (h0 : 0 ≤ c) (h1 : c < row.length) : goodC row c = true := by simp [goodC, h0, h1]
theorem own_shape3 {w : World} {base : Nat} {e : TypeId} {size : Nat} {v : Value} {n : Nat} {xs : List Value} (h : w.ownsRow base e size v n xs) : ∃ a c, v = .slice a n c := by
  rcases h.2 with ⟨rfl, h0⟩ | ⟨g, cap, cur, rfl, _⟩
  · exact ⟨none, 0, by rw [h0]⟩
  · exact ⟨_, cap, rfl⟩
set_option maxRecDepth 100000 in
set_option maxHeartbeats 1000000 in
theorem take_any (vr vc : Value) (row : List (List UInt8)) (cols : List Int) (w : World) (hr : Strs w vr row) (hc : Ints w vc cols) (hrl : row.length ≤ 1099511627776) (hcl : cols.length ≤ 1073741824) :
    Calls Tryd.prog 30 #[vr, vc] w fun e w' => ((∃ t v, takeL row cols = some t ∧ e = .returned (.tuple #[v, .bool true]) ∧ w'.ownsRow w.heap.size 9 1 v t.length (ts t)) ∨ (takeL row cols = none ∧ e = .returned (.tuple #[.slice none 0 0, .bool false]))) ∧ Below w.heap.size w w' := by
  obtain ⟨i0, hi, hz0, hz1, hz2⟩ := info_parts info9
  obtain ⟨ra, rc, rfl, hrc⟩ := strs_cell hr
  obtain ⟨ca, cc, rfl, hcz, hcc⟩ := hc
  have HRC : Hid (∀ k (hk : k < row.length), ∃ b off, ra = some ⟨b, off, none⟩ ∧ w.cell? ⟨b, off + k, none⟩ = some (.string (str row[k])) ∧ b < w.heap.size) := hrc
  have HCC : Hid (∀ k (hk : k < cols.length), ∃ b off, ca = some ⟨b, off, none⟩ ∧ w.cell? ⟨b, off + k, none⟩ = some (.int .i64 cols[k]) ∧ b < w.heap.size) := hcc
  have HCZ : Hid (∀ z ∈ cols, -9223372036854775808 ≤ z ∧ z ≤ 9223372036854775807) := hcz
  clear hr hrc hcc hcz
  go_enter Tryd.func30, Tryd.ntmps30
  go_wp2
  go_loopw [6, 11] (fun tv iv wr => ∃ (k : Nat) (dn : List (List UInt8)), k ≤ cols.length ∧ iv = .int .i64 k ∧ Hid (dn = (cols.take k).map (atC row)) ∧ Hid ((cols.take k).all (goodC row) = true) ∧ Hid (wr.ownsRow w.heap.size 9 1 tv k (ts dn)) ∧ Hid (Below w.heap.size w wr)) (fun _ iv _ => cols.length - (intOf iv).toNat)
  case atStart => exact ⟨0, [], by omega, rfl, rfl, rfl, World.ownsRow_nil _ _ _ _, Below.refl _ _⟩
  case round =>
    obtain ⟨k, dn, hk, rfl, HDN, HG, HO, HB⟩ := hrel
    obtain ⟨ta, tc, hte⟩ := own_shape3 HO.out
    subst hte
    by_cases hlt : k < cols.length
    · obtain ⟨b, off, rfl, c0, hbw⟩ := HCC.out k hlt
      have cx := (HB.out.cell (p := ⟨b, off + k, none⟩) hbw).trans c0
      have hzb := HCZ.out _ (List.getElem_mem hlt)
      have HTK : Hid (cols.take (k + 1) = cols.take k ++ [cols[k]]) := List.take_succ_eq_append_getElem hlt
      have HMEM : Hid (cols[k] ∈ cols) := List.getElem_mem hlt
      obtain ⟨c, HCK⟩ : ∃ c : Int, Hid (c = cols[k]) := ⟨cols[k], (rfl : cols[k] = _)⟩
      rw [← HCK.out] at cx hzb HTK HMEM
      clear c0
      by_cases hneg : c < 0
      · have HE : Hid (takeL row cols = none) := by
          show _ = _
          unfold takeL
          rw [if_neg]
          intro h
          have := List.all_eq_true.1 h c HMEM.out
          simp only [goodC, Bool.and_eq_true, decide_eq_true_eq] at this
          omega
        go_wp2
        go_ret2
        exact ⟨Or.inr ⟨HE.out, rfl⟩, HB.out⟩
      · obtain ⟨m, rfl⟩ := Int.eq_ofNat_of_zero_le (by omega : 0 ≤ c)
        by_cases hge : m < row.length
        · obtain ⟨rb, ro, rfl, r0, rbw⟩ := HRC.out m hge
          have rx := (HB.out.cell (p := ⟨rb, ro + m, none⟩) rbw).trans r0
          have HG2 : Hid ((cols.take (k + 1)).all (goodC row) = true) := by
            show _ = _
            rw [HTK.out, List.all_append, HG.out]
            simp [goodC_true (row := row) (c := (m : Int)) (by omega) (by omega)]
          have HAT : Hid (row[m] = atC row (m : Int)) := by
            show _ = _
            unfold atC
            simp [List.getD, List.getElem?_eq_getElem hge]
          obtain ⟨tx, HTX⟩ : ∃ tx, Hid (tx = row[m]) := ⟨row[m], (rfl : row[m] = _)⟩
          rw [← HTX.out] at rx HAT
          obtain ⟨st, HST⟩ : ∃ st, Hid (st = str tx) := ⟨_, (rfl : str tx = _)⟩
          rw [← HST.out] at rx
          clear r0
          go_wp2_with (at_builtin; refine wpList_append_own_at _ rfl _ _ 33 rfl w.heap.size 9 i0 (.string { data := #[] }) 1 16 Tryd.underlying33 hi hz0 hz1 hz2 rfl (by decide) _ _ _ rfl (HO.out.alloc _) ⟨wr.heap.size, 0, none⟩ 1 1 [.string st] rfl rfl ?c1 ?c2 ?c3 ?c4 ?c5 ?_)
          case c2 => rfl
          case c3 => unfold maxLen; omega
          case c4 => omega
          case c5 => have := HB.out.size; simp; omega
          intro v2 w2 hown2 hg2 _ _
          have HO2 : Hid (w2.ownsRow w.heap.size 9 1 v2 (k + 1) (ts (dn ++ [tx]))) := by
            show World.ownsRow _ _ _ _ _ _ _
            rw [← ts_snoc, ← HST.out]
            exact hown2
          have HDN2 : Hid (dn ++ [tx] = (cols.take (k + 1)).map (atC row)) := by
            show _ = _
            rw [HTK.out, List.map_append, HDN.out, HAT.out]; rfl
          have HB2 : Hid (Below w.heap.size w w2) := (HB.out.alloc HB.out.size _).grown hg2 (by have := HB.out.size; simp; omega) (fun q hq => (HO.out.lt q hq).1)
          clear hown2 hg2
          go_wp2
          go_roundw
          case rel => exact ⟨k + 1, _, by omega, by go_num, HDN2, HG2, HO2, HB2⟩
          case measure => simp [intOf]; omega
        · have HE : Hid (takeL row cols = none) := by
            show _ = _
            unfold takeL
            rw [if_neg]
            intro h
            have := List.all_eq_true.1 h _ HMEM.out
            simp only [goodC, Bool.and_eq_true, decide_eq_true_eq] at this
            omega
          go_wp2
          go_ret2
          exact ⟨Or.inr ⟨HE.out, rfl⟩, HB.out⟩
    · have HE : Hid (takeL row cols = some (cols.map (atC row))) := by
        show _ = _
        have := HG.out
        rw [List.take_of_length_le (by omega)] at this
        unfold takeL
        rw [if_pos this]
      have HO2 : Hid (wr.ownsRow w.heap.size 9 1 (.slice ta k tc) (cols.map (atC row)).length (ts (cols.map (atC row)))) := by
        have := HO.out
        rw [HDN.out, List.take_of_length_le (by omega)] at this
        show World.ownsRow _ _ _ _ _ _ _
        rw [List.length_map, show cols.length = k from by omega]; exact this
      go_wp2
      go_ret2
      exact ⟨Or.inl ⟨_, _, HE.out, rfl, HO2.out⟩, HB.out⟩
theorem infoInt : (Tryd.prog.info? 3).map (fun i => (i.zero, i.size, i.bytes)) = some (some (.int .i64 0), 1, 8) := by kernel_rfl
def is (l : List Int) : List Value := l.map (Value.int .i64)
theorem is_snoc (l : List Int) (x : Int) : is l ++ [Value.int .i64 x] = is (l ++ [x]) := by simp [is]
theorem own_ints {w : World} {base : Nat} {v : Value} {l : List Int} (h : w.ownsRow base 3 1 v l.length (is l)) (hb : ∀ z ∈ l, -9223372036854775808 ≤ z ∧ z ≤ 9223372036854775807) : Ints w v l := by
  obtain ⟨a, c, rfl⟩ := own_shape3 h
  refine ⟨a, c, rfl, hb, fun k hk => ?_⟩
  rcases h.2 with ⟨e, e0⟩ | ⟨g, cap, cur, e, hbg, hg, _⟩
  · omega
  · cases e
    refine ⟨g, 0, rfl, ?_, ?_⟩
    · have := h.cells (g := g) rfl k (.int .i64 l[k]) (by simp [is, hk])
      rw [show (⟨g, 0, none⟩ : Addr).add k = ⟨g, k, none⟩ from by unfold Addr.add; split <;> simp_all] at this
      rw [Nat.zero_add]; exact this
    · exact ((h.lt g rfl).2)
set_option maxRecDepth 100000 in
set_option maxHeartbeats 1000000 in
theorem side0_any (vo : Value) (on : List (Int × Int)) (w : World) (ho : Prs w vo on) (hcl : on.length ≤ 1073741824) :
    Calls Tryd.prog 29 #[vo, .int .i64 0] w fun e w' => (∃ v, e = .returned v ∧ Ints w' v (on.map (·.1))) ∧ Below w.heap.size w w' := by
  obtain ⟨i0, hi, hz0, hz1, hz2⟩ := info_parts infoInt
  obtain ⟨ra, rc, rfl, hrz, hrc⟩ := ho
  have HRC : Hid (∀ k (hk : k < on.length), ∃ b off, ra = some ⟨b, off, none⟩ ∧ w.cell? ⟨b, off + k * 2, none⟩ = some (.int .i64 on[k].1) ∧ w.cell? ⟨b, off + k * 2 + 1, none⟩ = some (.int .i64 on[k].2) ∧ b < w.heap.size) := hrc
  have HRZ : Hid (∀ z ∈ on.map (·.1), -9223372036854775808 ≤ z ∧ z ≤ 9223372036854775807) := by
    intro z hz
    obtain ⟨p, hp, rfl⟩ := List.mem_map.1 hz
    have := hrz p hp
    exact ⟨by omega, by omega⟩
  clear hrc hrz
  go_enter Tryd.func29, Tryd.ntmps29
  go_wp2
  go_loopw [5, 10] (fun tv iv wr => ∃ (k : Nat) (dn : List Int), k ≤ on.length ∧ iv = .int .i64 k ∧ Hid (dn = (on.take k).map (·.1)) ∧ Hid (wr.ownsRow w.heap.size 3 1 tv k (is dn)) ∧ Hid (Below w.heap.size w wr)) (fun _ iv _ => on.length - (intOf iv).toNat)
  case atStart => exact ⟨0, [], by omega, rfl, rfl, World.ownsRow_nil _ _ _ _, Below.refl _ _⟩
  case round =>
    obtain ⟨k, dn, hk, rfl, HDN, HO, HB⟩ := hrel
    obtain ⟨ta, tc, hte⟩ := own_shape3 HO.out
    subst hte
    by_cases hlt : k < on.length
    · obtain ⟨b, off, rfl, c0, c1, hbw⟩ := HRC.out k hlt
      have cx := (HB.out.cell (p := ⟨b, off + k * 2, none⟩) hbw).trans c0
      have cy := (HB.out.cell (p := ⟨b, off + k * 2 + 1, none⟩) hbw).trans c1
      have HTK : Hid ((on.take (k + 1)).map (·.1) = (on.take k).map (·.1) ++ [on[k].1]) := by show _ = _; rw [List.take_succ_eq_append_getElem hlt, List.map_append]; rfl
      obtain ⟨x, HX⟩ : ∃ x : Int, Hid (x = on[k].1) := ⟨on[k].1, (rfl : on[k].1 = _)⟩
      obtain ⟨y, HY⟩ : ∃ y : Int, Hid (y = on[k].2) := ⟨on[k].2, (rfl : on[k].2 = _)⟩
      rw [← HX.out] at cx
      rw [← HY.out] at cy
      rw [← HX.out] at HTK
      clear c0 c1
      go_wp2_with (at_builtin; refine wpList_append_own_at _ rfl _ _ 28 rfl w.heap.size 3 i0 (.int .i64 0) 1 8 Tryd.underlying28 hi hz0 hz1 hz2 rfl (by decide) _ _ _ rfl ((HO.out.alloc _).alloc _) ⟨wr.heap.size + 1, 0, none⟩ 1 1 [.int .i64 x] rfl rfl ?c1 ?c2 ?c3 ?c4 ?c5 ?_)
      case c2 => rfl
      case c3 => unfold maxLen; omega
      case c4 => omega
      case c5 => have := HB.out.size; simp; omega
      intro v2 w2 hown2 hg2 _ _
      have HO2 : Hid (w2.ownsRow w.heap.size 3 1 v2 (k + 1) (is (dn ++ [x]))) := by
        show World.ownsRow _ _ _ _ _ _ _
        rw [← is_snoc]
        exact hown2
      have HDN2 : Hid (dn ++ [x] = (on.take (k + 1)).map (·.1)) := by
        show _ = _
        rw [HTK.out, HDN.out]
      have HB2 : Hid (Below w.heap.size w w2) := ((HB.out.alloc HB.out.size _).alloc (by have := HB.out.size; simp; omega) _).grown hg2 (by have := HB.out.size; simp; omega) (fun q hq => (HO.out.lt q hq).1)
      clear hown2 hg2
      go_wp2
      go_roundw
      case rel => exact ⟨k + 1, _, by omega, by go_num, HDN2, HO2, HB2⟩
      case measure => simp [intOf]; omega
    · have HO2 : Hid (wr.ownsRow w.heap.size 3 1 (.slice ta k tc) (on.map (·.1)).length (is (on.map (·.1)))) := by
        have := HO.out
        rw [HDN.out, List.take_of_length_le (by omega)] at this
        show World.ownsRow _ _ _ _ _ _ _
        rw [List.length_map, show on.length = k from by omega]; exact this
      go_wp2
      go_ret
      exact ⟨⟨_, rfl, own_ints HO2.out HRZ.out⟩, HB.out⟩
set_option maxRecDepth 100000 in
set_option maxHeartbeats 1000000 in
theorem side1_any (vo : Value) (on : List (Int × Int)) (w : World) (ho : Prs w vo on) (hcl : on.length ≤ 1073741824) :
    Calls Tryd.prog 29 #[vo, .int .i64 1] w fun e w' => (∃ v, e = .returned v ∧ Ints w' v (on.map (·.2))) ∧ Below w.heap.size w w' := by
  obtain ⟨i0, hi, hz0, hz1, hz2⟩ := info_parts infoInt
  obtain ⟨ra, rc, rfl, hrz, hrc⟩ := ho
  have HRC : Hid (∀ k (hk : k < on.length), ∃ b off, ra = some ⟨b, off, none⟩ ∧ w.cell? ⟨b, off + k * 2, none⟩ = some (.int .i64 on[k].1) ∧ w.cell? ⟨b, off + k * 2 + 1, none⟩ = some (.int .i64 on[k].2) ∧ b < w.heap.size) := hrc
  have HRZ : Hid (∀ z ∈ on.map (·.2), -9223372036854775808 ≤ z ∧ z ≤ 9223372036854775807) := by
    intro z hz
    obtain ⟨p, hp, rfl⟩ := List.mem_map.1 hz
    have := hrz p hp
    exact ⟨by omega, by omega⟩
  clear hrc hrz
  go_enter Tryd.func29, Tryd.ntmps29
  go_wp2
  go_loopw [5, 10] (fun tv iv wr => ∃ (k : Nat) (dn : List Int), k ≤ on.length ∧ iv = .int .i64 k ∧ Hid (dn = (on.take k).map (·.2)) ∧ Hid (wr.ownsRow w.heap.size 3 1 tv k (is dn)) ∧ Hid (Below w.heap.size w wr)) (fun _ iv _ => on.length - (intOf iv).toNat)
  case atStart => exact ⟨0, [], by omega, rfl, rfl, World.ownsRow_nil _ _ _ _, Below.refl _ _⟩
  case round =>
    obtain ⟨k, dn, hk, rfl, HDN, HO, HB⟩ := hrel
    obtain ⟨ta, tc, hte⟩ := own_shape3 HO.out
    subst hte
    by_cases hlt : k < on.length
    · obtain ⟨b, off, rfl, c0, c1, hbw⟩ := HRC.out k hlt
      have cx := (HB.out.cell (p := ⟨b, off + k * 2, none⟩) hbw).trans c0
      have cy := (HB.out.cell (p := ⟨b, off + k * 2 + 1, none⟩) hbw).trans c1
      have HTK : Hid ((on.take (k + 1)).map (·.2) = (on.take k).map (·.2) ++ [on[k].2]) := by show _ = _; rw [List.take_succ_eq_append_getElem hlt, List.map_append]; rfl
      obtain ⟨x, HX⟩ : ∃ x : Int, Hid (x = on[k].1) := ⟨on[k].1, (rfl : on[k].1 = _)⟩
      obtain ⟨y, HY⟩ : ∃ y : Int, Hid (y = on[k].2) := ⟨on[k].2, (rfl : on[k].2 = _)⟩
      rw [← HX.out] at cx
      rw [← HY.out] at cy
      rw [← HY.out] at HTK
      clear c0 c1
      go_wp2_with (at_builtin; refine wpList_append_own_at _ rfl _ _ 28 rfl w.heap.size 3 i0 (.int .i64 0) 1 8 Tryd.underlying28 hi hz0 hz1 hz2 rfl (by decide) _ _ _ rfl ((HO.out.alloc _).alloc _) ⟨wr.heap.size + 1, 0, none⟩ 1 1 [.int .i64 y] rfl rfl ?c1 ?c2 ?c3 ?c4 ?c5 ?_)
      case c2 => rfl
      case c3 => unfold maxLen; omega
      case c4 => omega
      case c5 => have := HB.out.size; simp; omega
      intro v2 w2 hown2 hg2 _ _
      have HO2 : Hid (w2.ownsRow w.heap.size 3 1 v2 (k + 1) (is (dn ++ [y]))) := by
        show World.ownsRow _ _ _ _ _ _ _
        rw [← is_snoc]
        exact hown2
      have HDN2 : Hid (dn ++ [y] = (on.take (k + 1)).map (·.2)) := by
        show _ = _
        rw [HTK.out, HDN.out]
      have HB2 : Hid (Below w.heap.size w w2) := ((HB.out.alloc HB.out.size _).alloc (by have := HB.out.size; simp; omega) _).grown hg2 (by have := HB.out.size; simp; omega) (fun q hq => (HO.out.lt q hq).1)
      clear hown2 hg2
      go_wp2
      go_roundw
      case rel => exact ⟨k + 1, _, by omega, by go_num, HDN2, HO2, HB2⟩
      case measure => simp [intOf]; omega
    · have HO2 : Hid (wr.ownsRow w.heap.size 3 1 (.slice ta k tc) (on.map (·.2)).length (is (on.map (·.2)))) := by
        have := HO.out
        rw [HDN.out, List.take_of_length_le (by omega)] at this
        show World.ownsRow _ _ _ _ _ _ _
        rw [List.length_map, show on.length = k from by omega]; exact this
      go_wp2
      go_ret
      exact ⟨⟨_, rfl, own_ints HO2.out HRZ.out⟩, HB.out⟩
end Go.Proofs.YtaeloanlllaphaaDoor
