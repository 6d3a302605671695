import Derived.Test.YtnnldpccagajbaaGreatDoorM01
import Derived.Test.YtnnldpccagajbaaGreatDoorM10
import Derived.Test.YtnnldpccagajbaaGreatDoorM17
import Derived.Test.YtnnldpccagajbaaGreatDoorM12
/-
  Unfold of the program and of the document, walked.
-/
namespace Go.Proofs.YtnnldpccagajbaaGreatDoor
open Go.ChangeShapes Go.WideShapes Go.ChangeAt Go.RowKit
set_option linter.unusedVariables false
namespace UnfoldCalls
theorem u1 (n : Int) (h : n < 0) : 0 = unfold n := by unfold Go.Proofs.YtnnldpccagajbaaGreatDoor.unfold; rw [if_pos h]
theorem u2 (n : Int) (h2 : n ≤ 9223372036854775807) (h3 : 0 ≤ n) (h : (bits .and .i64 n 1 == 1) = true) : bits .xor .i64 (-1) (n / 2) = unfold n := by
  rw [and1] at h; simp at h; rw [not64 _ (by omega) (by omega)]; unfold Go.Proofs.YtnnldpccagajbaaGreatDoor.unfold; rw [if_neg (by omega), if_neg (by omega)]
theorem u3 (n : Int) (h3 : 0 ≤ n) (h : (bits .and .i64 n 1 == 1) = false) : n / 2 = unfold n := by
  rw [and1] at h; simp at h; unfold Go.Proofs.YtnnldpccagajbaaGreatDoor.unfold; rw [if_neg (by omega), if_pos (by omega)]
end UnfoldCalls
open UnfoldCalls in
set_option maxHeartbeats 400000 in
theorem punfold_any (n : Int) (w : World) (h1 : -9223372036854775808 ≤ n) (h2 : n ≤ 9223372036854775807) :
    Calls Tryz.prog 73 #[.int .i64 n] w fun e w' => e = .returned (.int .i64 (unfold n)) ∧ w = w' := by
  go_enter Tryz.func73, Tryz.ntmps73
  go_wp2
  · go_ret; exact ⟨ret_int (u1 n ‹_›), rfl⟩
  · go_ret; exact ⟨ret_int (u2 n h2 ‹_› ‹_›), rfl⟩
  · go_ret; exact ⟨ret_int (u3 n ‹_› ‹_›), rfl⟩
open UnfoldCalls in
set_option maxHeartbeats 400000 in
theorem runfold_at (n : Int) (w : World) (h1 : -9223372036854775808 ≤ n) (h2 : n ≤ 9223372036854775807) :
    Calls Tryz.prog 74 #[.int .i64 n] w fun e w' => e = .returned (.int .i64 (unfold n)) ∧ w = w' := by
  go_enter Tryz.func74, Tryz.ntmps74
  go_wp2
  · go_ret; exact ⟨ret_int (u1 n ‹_›), rfl⟩
  all_goals
    have _p : 0 ≤ n := by assumption
    go_ret; refine ⟨ret_int ?_, rfl⟩
    unfold Go.Proofs.YtnnldpccagajbaaGreatDoor.unfold; rw [if_neg (by omega)]
    simp_all
    try omega
end Go.Proofs.YtnnldpccagajbaaGreatDoor

/-
  The document's filled, walked.
-/
namespace Go.Proofs.YtnnldpccagajbaaGreatDoor
open Go.ChangeShapes Go.WideShapes Go.ChangeAt Go.RowKit
set_option linter.unusedVariables false
theorem fill_none (all : List (List UInt8)) (last : Int) (r : List (List UInt8)) (rest : List (List (List UInt8))) (s : List UInt8) (h : uv 0 0 s = none) : fill all last (r :: rest) s = none := by rw [fill, h]
theorem fill_out (all : List (List UInt8)) (last : Int) (r : List (List UInt8)) (rest : List (List (List UInt8))) (s : List UInt8) (n k : Nat) (h : uv 0 0 s = some (n, k)) (ho : last + unfold n < 0 ∨ (all.length : Int) ≤ last + unfold n) : fill all last (r :: rest) s = none := by
  rw [fill, h]; simp only; rw [if_pos ho]
theorem fill_next (all : List (List UInt8)) (last : Int) (r : List (List UInt8)) (rest : List (List (List UInt8))) (s : List UInt8) (n k : Nat) (h : uv 0 0 s = some (n, k)) (ho : ¬ (last + unfold n < 0 ∨ (all.length : Int) ≤ last + unfold n)) :
    fill all last (r :: rest) s = (fill all (last + unfold n) rest (s.drop k)).map fun q => ((r ++ [all.getD (last + unfold n).toNat []]) :: q.1, q.2) := by
  rw [fill, h]; simp only; rw [if_neg ho]
  cases fill all (last + unfold n) rest (s.drop k) <;> rfl
theorem fill_start (all : List (List UInt8)) (rows : List (List (List UInt8))) (s : List UInt8) : fill all 0 rows s = (fill all ((0 : Nat) : Int) (rows.drop 0) s).map fun q => ([] ++ q.1, q.2) := by
  rw [List.drop_zero, show ((0 : Nat) : Int) = 0 from rfl]
  cases fill all 0 rows s <;> rfl
/-- what 'filled' answers -/
def Filled (base : Nat) (r : Option (List (List (List UInt8)) × List UInt8)) (e : Ending) (w' : World) : Prop := match r with
  | some (o, []) => ∃ v us, e = .returned (.tuple #[v, .bool true]) ∧ Deep base w' v us o
  | _ => ∃ a n c, e = .returned (.tuple #[.slice a n c, .bool false])
theorem filled_none {base : Nat} {r : Option (List (List (List UInt8)) × List UInt8)} {w' : World} (h : r = none) (a : Option Addr) (n c : Nat) : Filled base r (.returned (.tuple #[.slice a n c, .bool false])) w' := by subst h; exact ⟨a, n, c, rfl⟩
theorem filled_more {base : Nat} {r : Option (List (List (List UInt8)) × List UInt8)} {w' : World} {o : List (List (List UInt8))} {t : List UInt8} (h : r = some (o, t)) (ht : t ≠ []) (a : Option Addr) (n c : Nat) : Filled base r (.returned (.tuple #[.slice a n c, .bool false])) w' := by
  subst h
  cases t with
  | nil => exact absurd rfl ht
  | cons _ _ => exact ⟨a, n, c, rfl⟩
theorem filled_some {base : Nat} {r : Option (List (List (List UInt8)) × List UInt8)} {w' : World} {o : List (List (List UInt8))} {us : List Value} {v : Value} (h : r = some (o, [])) (hd : Deep base w' v us o) : Filled base r (.returned (.tuple #[v, .bool true])) w' := by
  subst h; exact ⟨v, us, rfl, hd⟩
/-- a slice, or an empty one: where its texts lie -/
theorem strs_lie {w : World} {v : Value} {l : List (List UInt8)} (h : Strs w v l) : (v = .slice none 0 0 ∧ l = []) ∨ ∃ ad cap, v = .slice (some ad) l.length cap ∧ ∀ (j : Nat) (u : Value), (ts l)[j]? = some u → w.cell? (ad.add j) = some u := by
  obtain ⟨a, cap, rfl, h⟩ := h
  rcases h with ⟨rfl, hn⟩ | ⟨b, off, rfl, hc⟩
  · cases a with
    | none => obtain rfl := hn rfl; exact Or.inl ⟨rfl, rfl⟩
    | some ad => exact Or.inr ⟨ad, cap, rfl, fun j u hu => by simp [ts] at hu⟩
  · refine Or.inr ⟨⟨b, off, none⟩, cap, rfl, fun j u hu => ?_⟩
    have hj : j < l.length := by
      rcases Nat.lt_or_ge j l.length with h | h
      · exact h
      · rw [List.getElem?_eq_none (by rw [ts_length]; exact h)] at hu; cases hu
    rw [ts_at (get_at hj)] at hu
    cases hu
    rw [show (⟨b, off, none⟩ : Addr).add j = ⟨b, off + j, none⟩ from by unfold Addr.add; split <;> simp_all]
    exact hc j _ (get_at hj)
/-- rows of one's own, with one more -/
theorem Deep.snoc {base B : Nat} {w1 w2 : World} {v v2 x : Value} {us : List Value} {L : List (List (List UInt8))} {row : List (List UInt8)} {o : Obj} (h : Deep base w1 v us L) (hx : w1.ownsRow B 9 1 x row.length (ts row)) (hB : base ≤ B)
    (hown : w2.ownsRow base 45 1 v2 (us ++ [x]).length (us ++ [x])) (hg : (w1.alloc o).grownBy w2 v.ownBlock) : Deep base w2 v2 (us ++ [x]) (L ++ [row]) := by
  have hbA : Below w1.heap.size w1 (w1.alloc o) := (Below.refl w1.heap.size w1).alloc (Nat.le_refl _) _
  have hvA := own_below h.1 hbA
  have hl := h.2.1
  refine ⟨hown, by simp [hl], fun i y r hy hr => ?_⟩
  by_cases hik : i < us.length
  · rw [List.getElem?_append_left hik] at hy
    rw [List.getElem?_append_left (by omega)] at hr
    have h0 := own_below (h.2.2 i y r hy hr) hbA
    exact h0.kept hg (kind_ne h0 hvA (by decide))
  · have hi2 : i = us.length := by
      have := (List.getElem?_eq_some_iff.1 hy).1
      simp at this; omega
    subst hi2
    rw [List.getElem?_append_right (Nat.le_refl _)] at hy
    rw [List.getElem?_append_right (by omega)] at hr
    rw [Nat.sub_self] at hy
    rw [hl, Nat.sub_self] at hr
    simp at hy hr
    subst hy
    subst hr
    have h0 := own_below hx hbA
    exact (own_mono h0 hB).kept hg (kind_ne h0 hvA (by decide))
set_option maxRecDepth 100000 in
set_option maxHeartbeats 4000000 in
theorem rfilled_any (v va : Value) (vs : List Value) (rows : List (List (List UInt8))) (all : List (List UInt8)) (s : ByteArray) (w : World) (h : Rows2 w v vs rows) (ha : Strs w va all) (hl : rows.length ≤ 1048576) (hr : ∀ r ∈ rows, r.length ≤ 1048576) (hal : all.length ≤ 1073741824) (hs : s.size ≤ 1073741824) :
    Calls Tryz.prog 45 #[v, .string s, va] w fun e w' => Filled w.heap.size (fill all 0 rows s.data.toList) e w' ∧ Below w.heap.size w w' := by
  obtain ⟨i0, hi, hz0, hz1, hz2⟩ := info_parts infoRow
  obtain ⟨j0, hj, hy0, hy1, hy2⟩ := info_parts info9
  have HH : Hid (Rows2 w v vs rows) := h
  have HA : Hid (Strs w va all) := ha
  have HRR : Hid (∀ r ∈ rows, r.length ≤ 1048576) := hr
  obtain ⟨⟨a, cap, rfl, hv⟩, hlen, -⟩ := h
  obtain ⟨aa, acap, rfl, -⟩ := ha
  have HC : Hid (vs = [] ∨ ∃ b off, a = some ⟨b, off, none⟩ ∧ ∀ (i : Nat) (x : Value), vs[i]? = some x → w.cell? ⟨b, off + i, none⟩ = some x) := by
    rcases hv with ⟨h1, _⟩ | h1
    · exact Or.inl h1
    · exact Or.inr h1
  have HLE : Hid (vs.length = rows.length) := hlen
  have hvl : vs.length ≤ 1048576 := by omega
  have HS0 : Hid (s.data.toList = from_ s 0) := (from_zero s).symm
  clear hr hv hlen
  go_enter Tryz.func45, Tryz.ntmps45
  go_wp2
  go_loopw [8, 9, 10, 11] (fun atv lv ov iv wr => ∃ (k p l : Nat) (us : List Value) (out : List (List (List UInt8))), k ≤ vs.length ∧ p ≤ s.size ∧ l ≤ all.length ∧ iv = .int .i64 k ∧ atv = .int .i64 p ∧ lv = .int .i64 l ∧ Hid (us.length = k) ∧ Hid (Deep w.heap.size wr ov us out) ∧ Hid (Below w.heap.size w wr) ∧ Hid (fill all 0 rows s.data.toList = (fill all l (rows.drop k) (from_ s p)).map fun q => (out ++ q.1, q.2))) (fun _ _ _ iv _ => vs.length - (intOf iv).toNat)
  case atStart => exact ⟨0, 0, 0, [], [], by omega, by omega, by omega, rfl, rfl, rfl, rfl, ⟨World.ownsRow_nil _ _ _ _, rfl, fun i x r hx => by simp at hx⟩, Below.refl _ _, by
    show _ = _
    rw [HS0.out]; exact fill_start all rows _⟩
  case round =>
    obtain ⟨k, p, l, us, out, hk, hp, hll, rfl, rfl, rfl, HUL, HD, HB, HFI⟩ := hrel
    by_cases hlt : k < vs.length
    · have hltL : k < rows.length := by have := HLE.out; omega
      have HDR : Hid (rows.drop k = rows[k] :: rows.drop (k + 1)) := List.drop_eq_getElem_cons hltL
      cases hu : uv 0 0 (from_ s p) with
      | none =>
        have HF : Hid (fill all 0 rows s.data.toList = none) := by show _ = _; rw [HFI.out, HDR.out, fill_none all l _ _ _ hu]; rfl
        have HU : Hid (uv 0 0 (from_ s (p : Int).toNat) = none) := by show _ = _; rw [Int.toNat_natCast]; exact hu
        clear hu
        go_wp2_with fail
        refine (runv_none s p _ (by omega) (by omega) (by omega) HU).mono ?_
        rintro e w1 ⟨rfl, rfl⟩
        go_wp2
        go_ret2
        exact ⟨filled_none HF.out _ _ _, HB.out⟩
      | some q =>
        obtain ⟨n, kk⟩ := q
        obtain ⟨hk0, hkp, hn⟩ := uv_in s p n kk hp hu
        have HU : Hid (uv 0 0 (from_ s (p : Int).toNat) = some (n, kk)) := by show _ = _; rw [Int.toNat_natCast]; exact hu
        obtain ⟨f1, f2⟩ := unfold_bd (n : Int) (by omega)
        obtain ⟨d, HDD⟩ : ∃ d, Hid (d = unfold (n : Int)) := ⟨_, (rfl : unfold (n : Int) = _)⟩
        rw [← HDD.out] at f1 f2
        by_cases ho : (l : Int) + d < 0 ∨ (all.length : Int) ≤ l + d
        · have HF : Hid (fill all 0 rows s.data.toList = none) := by show _ = _; rw [HFI.out, HDR.out, fill_out all l _ _ _ n kk hu (by rw [← HDD.out]; exact ho)]; rfl
          clear hu
          have hcase : (all.length : Int) < d ∨ (d ≤ (all.length : Int) ∧ d < -(all.length : Int)) ∨ (d ≤ (all.length : Int) ∧ -(all.length : Int) ≤ d ∧ (l : Int) + d < 0) ∨ (d ≤ (all.length : Int) ∧ -(all.length : Int) ≤ d ∧ 0 ≤ (l : Int) + d ∧ (all.length : Int) ≤ l + d) := by omega
          clear ho
          rcases hcase with g1 | ⟨g1, g2⟩ | ⟨g1, g2, g3⟩ | ⟨g1, g2, g3, g4⟩
          all_goals
            go_wp2_with fail
            refine (runv_some s p n kk _ (by omega) (by omega) (by omega) HU).mono ?_
            rintro e w1 ⟨rfl, rfl⟩
            go_wp2_with fail
            refine (runfold_at n _ (by omega) (by omega)).mono ?_
            rintro e w2 ⟨rfl, rfl⟩
            rw [← HDD.out]
            go_wp2
            go_ret2
            exact ⟨filled_none HF.out _ _ _, HB.out⟩
        · obtain ⟨l2, hl2⟩ := Int.eq_ofNat_of_zero_le (show 0 ≤ (l : Int) + d from by omega)
          have hl2a : l2 < all.length := by omega
          have g1 : d ≤ (all.length : Int) := by omega
          have g2 : -(all.length : Int) ≤ d := by omega
          have g3 : 0 ≤ (l : Int) + d := by omega
          have g4 : (l : Int) + d < (all.length : Int) := by omega
          obtain ⟨row, HRW⟩ : ∃ row, Hid (row = rows[k]) := ⟨rows[k], rfl⟩
          have HF2 : Hid (fill all 0 rows s.data.toList = (fill all (l2 : Int) (rows.drop (k + 1)) (from_ s (p + kk))).map fun q => (out ++ [row ++ [all[l2]]] ++ q.1, q.2)) := by
            show _ = _
            rw [HFI.out, HDR.out, fill_next all l _ _ _ n kk hu (by rw [← HDD.out]; exact ho), ← HDD.out, hl2, from_drop, Int.toNat_natCast, HRW.out, Option.map_map]
            congr 1
            funext q
            simp [List.getD, hl2a]
          have HL2 : Hid ((l : Int) + d = (l2 : Int)) := hl2
          clear hu ho hl2
          obtain ⟨b, off, rfl, hc⟩ : ∃ b off, a = some ⟨b, off, none⟩ ∧ ∀ (i : Nat) (x : Value), vs[i]? = some x → w.cell? ⟨b, off + i, none⟩ = some x := by
            rcases HC.out with h0 | h0
            · rw [h0] at hlt; simp at hlt
            · exact h0
          have cx0 := hc k vs[k] (val_at hlt)
          have hbw : b < w.heap.size := World.block_lt_of_cell? w ⟨b, off + k, none⟩ cx0
          have cx := (HB.out.cell (p := ⟨b, off + k, none⟩) hbw).trans cx0
          have hst : Strs w vs[k] row := by rw [HRW.out]; exact HH.out.2.2 k _ _ (val_at hlt) (row_at hltL)
          have hrowl : row.length ≤ 1048576 := by rw [HRW.out]; exact HRR.out _ (List.getElem_mem hltL)
          have hst2 := hst.kept HB.out
          have hal2 := HA.out.kept HB.out
          clear hc cx0 hst
          obtain ⟨st, HST⟩ : ∃ st, Hid (st = str all[l2]) := ⟨_, (rfl : str all[l2] = _)⟩
          have hl2t : ((l : Int) + d).toNat = l2 := by rw [HL2.out]; rfl
          obtain ⟨ab, aoff, ha1, ha2⟩ : ∃ ab aoff, aa = some ⟨ab, aoff, none⟩ ∧ wr.cell? ⟨ab, aoff + ((l : Int) + d).toNat, none⟩ = some (.string st) := by
            rw [hl2t, HST.out]
            obtain ⟨a', c', he, hh⟩ := hal2
            cases he
            rcases hh with ⟨hh, -⟩ | ⟨ab, aoff, rfl, hh⟩
            · rw [hh] at hl2a; simp at hl2a
            · exact ⟨ab, aoff, rfl, hh l2 _ (get_at hl2a)⟩
          subst ha1
          have HX2 : Hid (Strs wr vs[k] row) := hst2
          have HCX : Hid (wr.cell? ⟨b, off + k, none⟩ = some vs[k]) := cx
          have HCA : Hid (wr.cell? ⟨ab, aoff + ((l : Int) + d).toNat, none⟩ = some (.string st)) := ha2
          have hab : ab < wr.heap.size := World.block_lt_of_cell? wr ⟨ab, aoff + ((l : Int) + d).toNat, none⟩ ha2
          clear hst2 cx ha2 hal2 hl2t
          have hownN : wr.ownsRow wr.heap.size 9 1 (.slice none 0 0) 0 [] := World.ownsRow_nil _ _ _ _
          rcases strs_lie HX2.out with ⟨hx, hr0⟩ | ⟨ad, xcap, hx, hxc⟩
          · have cx := HCX.out
            rw [hx] at cx
            have ca := HCA.out
            have HO1 : Hid (wr.ownsRow wr.heap.size 9 1 (.slice none 0 0) row.length (ts row)) := by rw [hr0]; exact hownN
            have HB1 : Hid (Below wr.heap.size wr wr) := Below.refl _ _
            have hrl1 : row.length + 1 ≤ 1048577 := by omega
            go_wp2_with fail
            refine (runv_some s p n kk _ (by omega) (by omega) (by omega) HU).mono ?_
            rintro e w1 ⟨rfl, rfl⟩
            go_wp2_with fail
            refine (runfold_at n _ (by omega) (by omega)).mono ?_
            rintro e w2 ⟨rfl, rfl⟩
            rw [← HDD.out]
            go_wp2_with (first | (at_builtin; refine wpList_append_own_none rfl _ _ 45 rfl wr.heap.size 9 j0 1 Tryz.underlying45 hj _ _ _ rfl hownN rfl ?_) | (at_builtin; refine wpList_append_own _ rfl _ _ 45 rfl wr.heap.size 9 j0 (.string { data := #[] }) 1 16 Tryz.underlying45 hj hy0 hy1 hy2 rfl (by decide) _ _ _ rfl (HO1.out.alloc _) ⟨wr.heap.size, 0, none⟩ 1 1 [.string st] rfl rfl ?c1 ?c2 ?c3 ?c4 ?c5 ?_))
            case c1 =>
              intro j' u hj'
              match j', hj' with
              | 0, hj' => simp at hj'; subst hj'; exact World.cell?_alloc_at _ _ _ _ rfl
            case c2 => intro u hu; simp at hu; subst hu; rfl
            case c3 => unfold maxLen; omega
            case c4 => omega
            case c5 => simp
            intro v2 w2 hown2 hg2 _
            have HO2 : Hid (w2.ownsRow wr.heap.size 9 1 v2 (row ++ [all[l2]]).length (ts (row ++ [all[l2]]))) := by
              rw [HST.out, ts_snoc] at hown2
              rw [hr0]; exact hown2
            have HB2 : Hid (Below wr.heap.size wr w2) := grown_own HB1.out HO1.out hg2
            clear hown2 hg2 ca
            obtain ⟨row2, HR2⟩ : ∃ row2, Hid (row2 = row ++ [all[l2]]) := ⟨_, (rfl : row ++ [all[l2]] = _)⟩
            rw [← HR2.out] at HO2 HF2
            obtain ⟨a2, c2, rfl⟩ := ownShape HO2.out
            have HD2 : Hid (Deep w.heap.size w2 u10 us out) := HD.out.kept HB2.out
            have HBW2 : Hid (Below w.heap.size w w2) := HB.out.trans (HB2.out.mono HB.out.size)
            have hul : us.length ≤ 1048576 := by have := HUL.out; omega
            have hown3 := HD2.out.1
            obtain ⟨a3, c3, hv3⟩ := ownShape hown3
            subst hv3
            go_wp2_with (at_builtin; refine wpList_append_own _ rfl _ _ 22 rfl w.heap.size 45 i0 (.slice none 0 0) 1 24 Tryz.underlying22 hi hz0 hz1 hz2 rfl (by decide) _ _ _ rfl (hown3.alloc _) ⟨w2.heap.size, 0, none⟩ 1 1 [.slice a2 row2.length c2] rfl rfl ?d1 ?d2 ?d3 ?d4 ?d5 ?_)
            case d1 =>
              intro j' u hj'
              match j', hj' with
              | 0, hj' => simp at hj'; subst hj'; exact World.cell?_alloc_at _ _ _ _ rfl
            case d2 => intro u hu; simp at hu; subst hu; rfl
            case d3 => unfold maxLen; omega
            case d4 => omega
            case d5 => have := HBW2.out.size; simp; omega
            intro v3 w3 hown4 hg3 _
            have HD3 : Hid (Deep w.heap.size w3 v3 (us ++ [.slice a2 row2.length c2]) (out ++ [row2])) := HD2.out.snoc HO2.out HB.out.size (by rw [List.length_append]; exact hown4) hg3
            have HB3 : Hid (Below w.heap.size w w3) := (HBW2.out.alloc HBW2.out.size _).grown hg3 (by have := HBW2.out.size; simp; omega) (fun g hg => (hown3.lt g hg).1)
            have HU3 : Hid ((us ++ [Value.slice a2 row2.length c2]).length = k + 1) := by show _ = _; rw [List.length_append, HUL.out]; rfl
            clear hown4 hg3 hown3
            go_wp2
            go_roundw
            case rel => exact ⟨k + 1, p + kk, l2, _, _, by omega, by omega, by omega, by go_num, by go_num, by rw [HL2.out], HU3, HD3, HB3, HF2⟩
            case measure => simp [intOf]; omega
          · have cx := HCX.out
            rw [hx] at cx
            have HXC : Hid (∀ (j : Nat) (u : Value), (ts row)[j]? = some u → wr.cell? (ad.add j) = some u) := hxc
            clear hxc
            go_wp2_with fail
            refine (runv_some s p n kk _ (by omega) (by omega) (by omega) HU).mono ?_
            rintro e w1 ⟨rfl, rfl⟩
            go_wp2_with fail
            refine (runfold_at n _ (by omega) (by omega)).mono ?_
            rintro e w2 ⟨rfl, rfl⟩
            rw [← HDD.out]
            go_wp2_with (at_builtin; refine wpList_append_own _ rfl _ _ 45 rfl wr.heap.size 9 j0 (.string { data := #[] }) 1 16 Tryz.underlying45 hj hy0 hy1 hy2 rfl (by decide) _ _ _ rfl hownN ad row.length xcap (ts row) rfl ?b0 ?b1 ?b2 ?b3 ?b4 ?b5 ?_)
            case b0 => rw [ts_length, Nat.mul_one]
            case b1 => exact HXC.out
            case b2 =>
              intro u hu
              obtain ⟨x, _, rfl⟩ := List.mem_map.1 hu
              rfl
            case b3 => unfold maxLen; omega
            case b4 => omega
            case b5 => exact Nat.le_refl _
            intro v1 w1 hown1 hg1 _
            have HO1 : Hid (w1.ownsRow wr.heap.size 9 1 v1 row.length (ts row)) := by
              have h5 : w1.ownsRow wr.heap.size 9 1 v1 row.length (ts row) := by simpa using hown1
              exact h5
            have HB1 : Hid (Below wr.heap.size wr w1) := (Below.refl _ _).grown hg1 (Nat.le_refl _) (fun k hk => by cases hk)
            clear hown1 hg1
            obtain ⟨a1, c1, rfl⟩ := ownShape HO1.out
            have ca := (HB1.out.cell (p := ⟨ab, aoff + ((l : Int) + d).toNat, none⟩) hab).trans HCA.out
            have hrl1 : row.length + 1 ≤ 1048577 := by omega
            go_wp2_with (at_builtin; refine wpList_append_own _ rfl _ _ 45 rfl wr.heap.size 9 j0 (.string { data := #[] }) 1 16 Tryz.underlying45 hj hy0 hy1 hy2 rfl (by decide) _ _ _ rfl (HO1.out.alloc _) ⟨w1.heap.size, 0, none⟩ 1 1 [.string st] rfl rfl ?c1 ?c2 ?c3 ?c4 ?c5 ?_)
            case c1 =>
              intro j' u hj'
              match j', hj' with
              | 0, hj' => simp at hj'; subst hj'; exact World.cell?_alloc_at _ _ _ _ rfl
            case c2 => intro u hu; simp at hu; subst hu; rfl
            case c3 => unfold maxLen; omega
            case c4 => omega
            case c5 => have := HB1.out.size; simp; omega
            intro v2 w2 hown2 hg2 _
            have HO2 : Hid (w2.ownsRow wr.heap.size 9 1 v2 (row ++ [all[l2]]).length (ts (row ++ [all[l2]]))) := by
              rw [HST.out, ts_snoc] at hown2
              rw [List.length_append]; exact hown2
            have HB2 : Hid (Below wr.heap.size wr w2) := grown_own HB1.out HO1.out hg2
            clear hown2 hg2 ca
            obtain ⟨row2, HR2⟩ : ∃ row2, Hid (row2 = row ++ [all[l2]]) := ⟨_, (rfl : row ++ [all[l2]] = _)⟩
            rw [← HR2.out] at HO2 HF2
            obtain ⟨a2, c2, rfl⟩ := ownShape HO2.out
            have HD2 : Hid (Deep w.heap.size w2 u10 us out) := HD.out.kept HB2.out
            have HBW2 : Hid (Below w.heap.size w w2) := HB.out.trans (HB2.out.mono HB.out.size)
            have hul : us.length ≤ 1048576 := by have := HUL.out; omega
            have hown3 := HD2.out.1
            obtain ⟨a3, c3, hv3⟩ := ownShape hown3
            subst hv3
            go_wp2_with (at_builtin; refine wpList_append_own _ rfl _ _ 22 rfl w.heap.size 45 i0 (.slice none 0 0) 1 24 Tryz.underlying22 hi hz0 hz1 hz2 rfl (by decide) _ _ _ rfl (hown3.alloc _) ⟨w2.heap.size, 0, none⟩ 1 1 [.slice a2 row2.length c2] rfl rfl ?d1 ?d2 ?d3 ?d4 ?d5 ?_)
            case d1 =>
              intro j' u hj'
              match j', hj' with
              | 0, hj' => simp at hj'; subst hj'; exact World.cell?_alloc_at _ _ _ _ rfl
            case d2 => intro u hu; simp at hu; subst hu; rfl
            case d3 => unfold maxLen; omega
            case d4 => omega
            case d5 => have := HBW2.out.size; simp; omega
            intro v3 w3 hown4 hg3 _
            have HD3 : Hid (Deep w.heap.size w3 v3 (us ++ [.slice a2 row2.length c2]) (out ++ [row2])) := HD2.out.snoc HO2.out HB.out.size (by rw [List.length_append]; exact hown4) hg3
            have HB3 : Hid (Below w.heap.size w w3) := (HBW2.out.alloc HBW2.out.size _).grown hg3 (by have := HBW2.out.size; simp; omega) (fun g hg => (hown3.lt g hg).1)
            have HU3 : Hid ((us ++ [Value.slice a2 row2.length c2]).length = k + 1) := by show _ = _; rw [List.length_append, HUL.out]; rfl
            clear hown4 hg3 hown3
            go_wp2
            go_roundw
            case rel => exact ⟨k + 1, p + kk, l2, _, _, by omega, by omega, by omega, by go_num, by go_num, by rw [HL2.out], HU3, HD3, HB3, HF2⟩
            case measure => simp [intOf]; omega
    · have hk2 : k = vs.length := by omega
      have HFE : Hid (fill all 0 rows s.data.toList = some (out, from_ s p)) := by
        show _ = _
        rw [HFI.out, List.drop_eq_nil_of_le (by have := HLE.out; omega)]
        simp [fill]
      obtain ⟨a3, c3, hv3⟩ := ownShape HD.out.1
      subst hv3
      by_cases hps : p = s.size
      · have HFZ : Hid (fill all 0 rows s.data.toList = some (out, [])) := by
          show _ = _
          rw [HFE.out, from_end s p (by omega)]
        have cz : ((p : Int) == (s.size : Int)) = true := by rw [beq_iff_eq]; omega
        clear hps hk2
        go_wp2
        go_ret2
        exact ⟨filled_some HFZ.out HD.out, HB.out⟩
      · have hne : from_ s p ≠ [] := by
          intro h0
          have := from_len s p
          rw [h0] at this
          simp at this; omega
        have HNE : Hid (from_ s p ≠ []) := hne
        have cz : ((p : Int) == (s.size : Int)) = false := by rw [beq_eq_false_iff_ne]; omega
        clear hps hk2 hne
        go_wp2
        go_ret2
        exact ⟨filled_more HFE.out HNE.out _ _ _, HB.out⟩
end Go.Proofs.YtnnldpccagajbaaGreatDoor
