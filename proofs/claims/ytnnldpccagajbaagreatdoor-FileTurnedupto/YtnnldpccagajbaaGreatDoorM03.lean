import Derived.Test.YtnnldpccagajbaaGreatDoorM01
import Derived.Test.YtnnldpccagajbaaGreatDoorM02
import Derived.Lib.Strings
/-
  The document's Varint, walked.
-/
namespace Go.Proofs.YtnnldpccagajbaaGreatDoor
open Go.ChangeShapes Go.WideShapes Go.ChangeAt Go.RowKit
set_option linter.unusedVariables false
theorem one_byte (W : World) (x : Int) : Sem.run Tryz.prog (convert 65 9 (.slice (some ⟨W.heap.size, 0, none⟩) 1 1)) (W.alloc (.cells #[.int .u8 x] 5)) = .ok (.string (str [UInt8.ofNat x.toNat])) (W.alloc (.cells #[.int .u8 x] 5)) := by
  have h := run_convert_bytes_arg (P := Tryz.prog) (W.alloc (.cells #[.int .u8 x] 5)) 65 5 Tryz.underlying65 Tryz.underlying5 W.heap.size 0 1 1 [x] rfl (fun i hi => by
    obtain rfl : i = 0 := by omega
    simp) 9 Tryz.underlying9
  exact h
set_option maxRecDepth 100000 in
set_option maxHeartbeats 400000 in
theorem rvarint_any (n : Nat) (w : World) (hn : n < 9223372036854775808) :
    Calls Tryz.prog 28 #[.int .i64 n] w fun e w' => e = .returned (.string (str (vb n))) ∧ Below w.heap.size w w' := by
  go_enter Tryz.func28, Tryz.ntmps28
  go_wp2
  go_loopw [0, 3] (fun v o wr => ∃ (m : Nat) (l : List UInt8), m < 9223372036854775808 ∧ v = .int .i64 m ∧ o = .string (str l) ∧ Hid (l ++ vb m = vb n) ∧ Below w.heap.size w wr) (fun v _ _ => (intOf v).toNat)
  case atStart => exact ⟨n, [], hn, rfl, rfl, rfl, Below.refl _ _⟩
  case round =>
    obtain ⟨m, l, hm, rfl, rfl, HL, hb⟩ := hrel
    have kb := one_byte
    have hz : ∀ x : UInt8, (str [x]).size = 1 := fun _ => rfl
    have hzl : (str l).size ≤ 9 := by
      have h9 := vb_length9 n hn
      rw [← HL.out] at h9
      simp at h9
      rw [str_size]; omega
    by_cases hlt : m < 128
    · go_wp2
      go_ret
      exact ⟨ret_str (by rw [← HL.out, vb_small m hlt, str_app]), hb.alloc hb.size _⟩
    · have hl : l ++ [UInt8.ofNat (m % 128 + 128)] ++ vb (m / 128) = vb n := by rw [← HL.out, vb_great m (by omega)]; simp
      have HL2 : Hid (l ++ [UInt8.ofNat (m % 128 + 128)] ++ vb (m / 128) = vb n) := hl
      clear hl
      have ht : ((m : Int) % 128 + 128).toNat = m % 128 + 128 := by omega
      go_wp2
      go_roundw
      case rel => exact ⟨m / 128, l ++ [UInt8.ofNat (m % 128 + 128)], by omega, by go_num, by rw [str_app, UInt8.ofNat_add]; rfl, HL2, hb.alloc hb.size _⟩
      case measure => simp [intOf]; omega
end Go.Proofs.YtnnldpccagajbaaGreatDoor

/-
  The document's Build, walked.
-/
namespace Go.Proofs.YtnnldpccagajbaaGreatDoor
open Go.ChangeShapes Go.WideShapes Go.ChangeAt Go.RowKit
set_option linter.unusedVariables false
theorem bs_str (s : ByteArray) : Lib.strCells s = bs s.data.toList := rfl
theorem own_app {w : World} {base : Nat} {v : Value} {n : Nat} {l m : List UInt8} {s : ByteArray} (h : w.ownsRow base 5 1 v n (bs l ++ Lib.strCells s)) (hs : s = str m) : w.ownsRow base 5 1 v (l ++ m).length (bs (l ++ m)) := by
  subst hs
  have hn := h.1
  rw [bs_str, data_str, bs_app] at h hn
  rw [bs_length, Nat.mul_one] at hn
  rw [hn]; exact h
/-- what Build answers, as values -/
def built (r : List UInt8 × Nat × Nat) : Value := .tuple #[.string (str r.1), .int .i64 (r.2.1 : Nat), .int .i64 (r.2.2 : Nat)]
theorem own_kept {w w' : World} {base : Nat} {e : TypeId} {size : Nat} {v : Value} {n : Nat} {xs : List Value} (h : w.ownsRow base e size v n xs) (hb : Below w.heap.size w w') : w'.ownsRow base e size v n xs := by
  refine h.kept (row := none) ⟨hb.os, hb.tape, hb.output, hb.size, fun k hk _ => hb.block k hk⟩ ?_
  cases v.ownBlock with
  | none => exact Or.inl rfl
  | some g => exact Or.inr (by simp)
theorem own_draws {w : World} {base : Nat} {e : TypeId} {size : Nat} {v : Value} {n : Nat} {xs : List Value} (h : w.ownsRow base e size v n xs) (m : Nat) : (w.drewN m).ownsRow base e size v n xs := own_kept h (below_drewN (Below.refl _ _) m)
theorem str_cut (x : List UInt8) (n : Nat) : (str x).extract n (str x).size = str (x.drop n) := by
  apply WideShapes.bytes_inj
  rw [Lib.extract_data, data_str, data_str, str_size]
  exact List.take_of_length_le (by simp)
theorem rcommon_at (s t : ByteArray) (w : World) (hs : s.size ≤ 140737488355328) (ht : t.size ≤ 140737488355328) :
    Calls Tryz.prog 58 #[.string s, .string t] w fun e w' => ∃ n : Nat, e = .returned (.int .i64 n) ∧ n ≤ t.size ∧ Hid (n = common s.data.toList t.data.toList) ∧ Hid (∃ m, w' = w.drewN m) := by
  refine (rcommon_any s t w hs ht).mono ?_
  rintro e w' ⟨rfl, h⟩
  exact ⟨_, rfl, by have := (common_le s.data.toList t.data.toList).2; simpa using this, rfl, h⟩
theorem rvarint_at (z : Int) (w : World) (h0 : 0 ≤ z) (h1 : z < 9223372036854775808) :
    Calls Tryz.prog 28 #[.int .i64 z] w fun e w' => e = .returned (.string (str (vb z.toNat))) ∧ Below w.heap.size w w' := by
  obtain ⟨m, rfl⟩ := Int.eq_ofNat_of_zero_le h0
  exact rvarint_any m w (by omega)
set_option maxRecDepth 100000 in
set_option maxHeartbeats 2000000 in
theorem rbuild_any (v : Value) (l : List (List UInt8)) (w : World) (h : Strs w v l) (hl : l.length ≤ 1073741824) :
    Calls Tryz.prog 30 #[v] w fun e w' => e = .returned (built (build l)) ∧ Below w.heap.size w w' := by
  obtain ⟨i0, hi, hz0, hz1, hz2⟩ := info_parts info5
  obtain ⟨a, cap, rfl, h⟩ := h
  have hvl := vb_length9 l.length (by omega)
  have H : Hid ((l = [] ∧ (a = none → cap = 0)) ∨ ∃ b off, a = some ⟨b, off, none⟩ ∧ ∀ (i : Nat) (x : List UInt8), l[i]? = some x → w.cell? ⟨b, off + i, none⟩ = some (.string (str x))) := h
  clear h
  go_enter Tryz.func30, Tryz.ntmps30
  go_wp2_with fail
  refine (rvarint_any l.length _ (by omega)).mono ?_
  rintro e w1 ⟨rfl, hb1⟩
  have hown : w1.ownsRow w.heap.size 5 1 (.slice none 0 0) 0 [] := World.ownsRow_nil _ _ _ _
  go_wp2_with (at_builtin; refine Lib.wpList_append_own_string _ rfl _ _ 65 9 rfl w.heap.size 5 i0 Tryz.underlying65 Tryz.underlying9 hi hz0 hz1 hz2 _ _ _ rfl hown (str (vb l.length)) rfl ?c3 ?c4 ?c5 ?_)
  case c3 => rw [str_size]; unfold maxLen; omega
  case c4 => rw [str_size]; omega
  case c5 => exact hb1.size
  intro v2 w2 hown2 hg2 _
  have hb2 : Below w.heap.size w w2 := hb1.grown hg2 hb1.size (fun k hk => by cases hk)
  have hown3 : w2.ownsRow w.heap.size 5 1 v2 (vb l.length).length (bs (vb l.length)) := by
    rw [str_size, bs_str, data_str] at hown2; exact hown2
  clear hown2 hg2 hown hb1
  go_wp2
  rcases H.out with ⟨rfl, _⟩ | ⟨b, off, rfl, hc⟩
  · clear H
    have hcv := own_string hown3
    refine wp_loop_rounds 1 ?_
    rw [rounds_succ]
    go_wp2
    go_ret3
    exact ⟨rfl, hb2⟩
  · clear H
    have HC : Hid (∀ (i : Nat) (x : List UInt8), l[i]? = some x → w.cell? ⟨b, off + i, none⟩ = some (.string (str x))) := hc
    clear hc
    go_loopw [6, 7] (fun o i wr => ∃ (k : Nat) (out : List UInt8), k ≤ l.length ∧ i = .int .i64 k ∧ wr.ownsRow w.heap.size 5 1 o out.length (bs out) ∧ Below w.heap.size w wr ∧ out.length ≤ 9 + 218 * k ∧ Hid (∀ q, prev l k = some q → q.length ≤ 200) ∧ Hid (build l = bld k (prev l k) out (l.drop k))) (fun _ i _ => l.length - (intOf i).toNat)
    case atStart => exact ⟨0, vb l.length, by omega, rfl, hown3, hb2, by omega, fun q hq => by simp [prev] at hq, rfl⟩
    case round =>
      obtain ⟨k, out, hk, rfl, hown, hbl, hol, HP, HU⟩ := hrel
      clear hown3 hb2
      by_cases hlt : k < l.length
      · have c1 : wr.cell? ⟨b, off + k, none⟩ = some (.string (str l[k])) := by
          have h0 := HC.out k l[k] (get_at hlt)
          rw [hbl.cell (p := ⟨b, off + k, none⟩) (World.block_lt_of_cell? w ⟨b, off + k, none⟩ h0)]; exact h0
        have cw := HC.out k l[k] (get_at hlt)
        have hbw : b < w.heap.size := World.block_lt_of_cell? w ⟨b, off + k, none⟩ cw
        obtain ⟨x, HX⟩ : ∃ x, Hid (x = l[k]) := ⟨l[k], rfl⟩
        rw [← HX.out] at c1 cw
        have HU2 : Hid (build l = bld k (prev l k) out (x :: l.drop (k + 1))) := by show _ = _; rw [HU.out, drop_row l k hlt, HX.out]
        obtain ⟨sx, HSX⟩ : ∃ sx, Hid (sx = str x) := ⟨str x, rfl⟩
        have hsz : sx.size = x.length := by rw [HSX.out, str_size]
        have HSZ : Hid (sx.size = x.length) := hsz
        rw [← HSX.out] at c1 cw
        by_cases h200 : 200 < x.length
        · have h200' : 200 < sx.size := by omega
          have HE : Hid (build l = ([], 1, k)) := by show _ = _; rw [HU2.out, bld_long _ _ _ _ _ h200]
          clear hsz
          go_wp2
          go_ret3
          exact ⟨by rw [HE.out]; rfl, hbl⟩
        · have h200' : sx.size ≤ 200 := by omega
          clear hsz
          by_cases hk0 : k = 0
          · have HK0 : Hid (k = 0) := hk0
            have hkz : (k : Int) ≤ 0 := by omega
            clear hk0
            go_wp2_with fail
            refine (rcommon_at { data := #[] } sx _ (by decide) (by omega)).mono ?_
            rintro e w3 ⟨n, rfl, hn1, HN, HD⟩
            obtain ⟨nd, rfl⟩ := HD.out
            clear HD
            go_wp2_with fail
            refine (rvarint_at n _ (by omega) (by omega)).mono ?_
            rintro e w4 ⟨rfl, hb4⟩
            have hbl4 : Below w.heap.size w w4 := (below_drewN hbl _).trans (hb4.mono hbl.size)
            have c4 := (hbl4.cell (p := ⟨b, off + k, none⟩) hbw).trans cw
            have hown4 : w4.ownsRow w.heap.size 5 1 u6 out.length (bs out) := own_kept (own_draws hown nd) hb4
            clear hb4 hbl hown c1
            go_wp2_with fail
            refine (rvarint_at ((sx.size : Int) - (n : Int)) _ (by omega) (by omega)).mono ?_
            rintro e w5 ⟨rfl, hb5⟩
            have hbl5 : Below w.heap.size w w5 := hbl4.trans (hb5.mono hbl4.size)
            have c5 := (hbl5.cell (p := ⟨b, off + k, none⟩) hbw).trans cw
            have hown5 : w5.ownsRow w.heap.size 5 1 u6 out.length (bs out) := own_kept hown4 hb5
            clear hb5 hown4 hbl4 c4
            rw [show ((sx.size : Int) - (n : Int)).toNat = sx.size - n from by omega]
            have l1 := vb_length9 n (by omega)
            have l2 := vb_length9 (sx.size - n) (by omega)
            go_wp2_with (at_builtin; refine Lib.wpList_append_own_string _ rfl _ _ 65 9 rfl w.heap.size 5 i0 Tryz.underlying65 Tryz.underlying9 hi hz0 hz1 hz2 _ _ _ rfl hown5 (str (vb n)) rfl ?c3 ?c4 ?c5 ?_)
            case c3 => rw [str_size]; unfold maxLen; omega
            case c4 => rw [str_size]; omega
            case c5 => exact hbl5.size
            intro v6 w6 hown6 hg6 _
            have hbl6 : Below w.heap.size w w6 := hbl5.grown hg6 hbl5.size (fun g hg => (hown5.lt g hg).1)
            have hown6' := own_app hown6 rfl
            have c6 := (hbl6.cell (p := ⟨b, off + k, none⟩) hbw).trans cw
            clear hown6 hg6 hown5 hbl5 c5
            go_wp2_with (at_builtin; refine Lib.wpList_append_own_string _ rfl _ _ 65 9 rfl w.heap.size 5 i0 Tryz.underlying65 Tryz.underlying9 hi hz0 hz1 hz2 _ _ _ rfl hown6' (str (vb (sx.size - n))) rfl ?c3 ?c4 ?c5 ?_)
            case c3 => rw [str_size, List.length_append]; unfold maxLen; omega
            case c4 => rw [str_size, List.length_append]; omega
            case c5 => exact hbl6.size
            intro v7 w7 hown7 hg7 _
            have hbl7 : Below w.heap.size w w7 := hbl6.grown hg7 hbl6.size (fun g hg => (hown6'.lt g hg).1)
            have hown7' := own_app hown7 rfl
            have c7 := (hbl7.cell (p := ⟨b, off + k, none⟩) hbw).trans cw
            clear hown7 hg7 hown6' hbl6 c6
            have hcut : sx.extract n sx.size = str (x.drop n) := by rw [HSX.out]; exact str_cut x n
            have HCUT : Hid (sx.extract n sx.size = str (x.drop n)) := hcut
            have hcs : (sx.extract n sx.size).size ≤ 200 := by rw [hcut, str_size, List.length_drop]; have := HSZ.out; omega
            clear hcut
            go_wp2_with (at_builtin; refine Lib.wpList_append_own_string _ rfl _ _ 65 9 rfl w.heap.size 5 i0 Tryz.underlying65 Tryz.underlying9 hi hz0 hz1 hz2 _ _ _ rfl hown7' (sx.extract n sx.size) rfl ?c3 ?c4 ?c5 ?_)
            case c3 => rw [List.length_append, List.length_append]; unfold maxLen; omega
            case c4 => rw [List.length_append, List.length_append]; omega
            case c5 => exact hbl7.size
            intro v8 w8 hown8 hg8 _
            have hbl8 : Below w.heap.size w w8 := hbl7.grown hg8 hbl7.size (fun g hg => (hown7'.lt g hg).1)
            have hown8' := own_app hown8 HCUT.out
            clear hown8 hg8 hown7' hbl7 c7
            have hpart : out ++ (vb n ++ vb (sx.size - n)) ++ x.drop n = out ++ part ((prev l k).getD []) x := by
              rw [show (prev l k).getD [] = [] from by rw [HK0.out]; rfl, part, HN.out, HSZ.out, HSX.out, data_str]; simp
            rw [hpart] at hown8'
            have hpl := part_length ((prev l k).getD []) x (by omega)
            have HU3 : Hid (build l = bld (k + 1) (prev l (k + 1)) (out ++ part ((prev l k).getD []) x) (l.drop (k + 1))) := by
              show _ = _
              rw [HU2.out, bld_next _ _ _ _ _ (by omega) (by rw [HK0.out]; rfl), prev_succ l k hlt, HX.out]
            have HP2 : Hid (∀ q, prev l (k + 1) = some q → q.length ≤ 200) := by
              intro q' hq'
              rw [prev_succ l k hlt] at hq'; cases hq'; rw [← HX.out]; omega
            have hpl2 : (out ++ part ((prev l k).getD []) x).length ≤ 9 + 218 * (k + 1) := by rw [List.length_append]; omega
            clear hpart
            go_wp2
            go_roundw
            case rel => exact ⟨k + 1, _, by omega, by go_num, hown8', hbl8, hpl2, HP2, HU3⟩
            case measure => simp [intOf]; omega
          · have hkp : 0 < k := by omega
            have c0 : wr.cell? ⟨b, off + (k - 1), none⟩ = some (.string (str l[k - 1])) := by
              have h0 := HC.out (k - 1) l[k - 1] (get_at (by omega))
              rw [hbl.cell (p := ⟨b, off + (k - 1), none⟩) (World.block_lt_of_cell? w ⟨b, off + (k - 1), none⟩ h0)]; exact h0
            obtain ⟨q, HQ⟩ : ∃ q, Hid (prev l k = some q ∧ str l[k - 1] = str q) := ⟨l[k - 1], by simp [prev, hk0, get_at (show k - 1 < l.length by omega)], rfl⟩
            rw [HQ.out.2] at c0
            obtain ⟨sp, HSP⟩ : ∃ sp, Hid (sp = str q) := ⟨str q, rfl⟩
            rw [← HSP.out] at c0
            by_cases hf : behind q x = true
            · have hle : (Op.bytesLess sx.toList sp.toList || sx.toList == sp.toList) = false := by
                rw [HSX.out, HSP.out, toList_str, toList_str, leq_not, hf]; rfl
              have hspl : sp.size ≤ 140737488355328 := by rw [HSP.out, str_size]; have := HP.out q HQ.out.1; omega
              go_wp2_with fail
              refine (rcommon_at sp sx _ (by exact hspl) (by omega)).mono ?_
              rintro e w3 ⟨n, rfl, hn1, HN, HD⟩
              obtain ⟨nd, rfl⟩ := HD.out
              clear HD
              go_wp2_with fail
              refine (rvarint_at n _ (by omega) (by omega)).mono ?_
              rintro e w4 ⟨rfl, hb4⟩
              have hbl4 : Below w.heap.size w w4 := (below_drewN hbl _).trans (hb4.mono hbl.size)
              have c4 := (hbl4.cell (p := ⟨b, off + k, none⟩) hbw).trans cw
              have hown4 : w4.ownsRow w.heap.size 5 1 u6 out.length (bs out) := own_kept (own_draws hown nd) hb4
              clear hb4 hbl hown c1 c0
              go_wp2_with fail
              refine (rvarint_at ((sx.size : Int) - (n : Int)) _ (by omega) (by omega)).mono ?_
              rintro e w5 ⟨rfl, hb5⟩
              have hbl5 : Below w.heap.size w w5 := hbl4.trans (hb5.mono hbl4.size)
              have c5 := (hbl5.cell (p := ⟨b, off + k, none⟩) hbw).trans cw
              have hown5 : w5.ownsRow w.heap.size 5 1 u6 out.length (bs out) := own_kept hown4 hb5
              clear hb5 hown4 hbl4 c4
              rw [show ((sx.size : Int) - (n : Int)).toNat = sx.size - n from by omega]
              have l1 := vb_length9 n (by omega)
              have l2 := vb_length9 (sx.size - n) (by omega)
              go_wp2_with (at_builtin; refine Lib.wpList_append_own_string _ rfl _ _ 65 9 rfl w.heap.size 5 i0 Tryz.underlying65 Tryz.underlying9 hi hz0 hz1 hz2 _ _ _ rfl hown5 (str (vb n)) rfl ?c3 ?c4 ?c5 ?_)
              case c3 => rw [str_size]; unfold maxLen; omega
              case c4 => rw [str_size]; omega
              case c5 => exact hbl5.size
              intro v6 w6 hown6 hg6 _
              have hbl6 : Below w.heap.size w w6 := hbl5.grown hg6 hbl5.size (fun g hg => (hown5.lt g hg).1)
              have hown6' := own_app hown6 rfl
              have c6 := (hbl6.cell (p := ⟨b, off + k, none⟩) hbw).trans cw
              clear hown6 hg6 hown5 hbl5 c5
              go_wp2_with (at_builtin; refine Lib.wpList_append_own_string _ rfl _ _ 65 9 rfl w.heap.size 5 i0 Tryz.underlying65 Tryz.underlying9 hi hz0 hz1 hz2 _ _ _ rfl hown6' (str (vb (sx.size - n))) rfl ?c3 ?c4 ?c5 ?_)
              case c3 => rw [str_size, List.length_append]; unfold maxLen; omega
              case c4 => rw [str_size, List.length_append]; omega
              case c5 => exact hbl6.size
              intro v7 w7 hown7 hg7 _
              have hbl7 : Below w.heap.size w w7 := hbl6.grown hg7 hbl6.size (fun g hg => (hown6'.lt g hg).1)
              have hown7' := own_app hown7 rfl
              have c7 := (hbl7.cell (p := ⟨b, off + k, none⟩) hbw).trans cw
              clear hown7 hg7 hown6' hbl6 c6
              have hcut : sx.extract n sx.size = str (x.drop n) := by rw [HSX.out]; exact str_cut x n
              have HCUT : Hid (sx.extract n sx.size = str (x.drop n)) := hcut
              have hcs : (sx.extract n sx.size).size ≤ 200 := by rw [hcut, str_size, List.length_drop]; have := HSZ.out; omega
              clear hcut
              go_wp2_with (at_builtin; refine Lib.wpList_append_own_string _ rfl _ _ 65 9 rfl w.heap.size 5 i0 Tryz.underlying65 Tryz.underlying9 hi hz0 hz1 hz2 _ _ _ rfl hown7' (sx.extract n sx.size) rfl ?c3 ?c4 ?c5 ?_)
              case c3 => rw [List.length_append, List.length_append]; unfold maxLen; omega
              case c4 => rw [List.length_append, List.length_append]; omega
              case c5 => exact hbl7.size
              intro v8 w8 hown8 hg8 _
              have hbl8 : Below w.heap.size w w8 := hbl7.grown hg8 hbl7.size (fun g hg => (hown7'.lt g hg).1)
              have hown8' := own_app hown8 HCUT.out
              clear hown8 hg8 hown7' hbl7 c7
              have hpart : out ++ (vb n ++ vb (sx.size - n)) ++ x.drop n = out ++ part ((prev l k).getD []) x := by
                rw [HQ.out.1, Option.getD_some, part, HN.out, HSZ.out, HSP.out, data_str, HSX.out, data_str]; simp
              rw [hpart] at hown8'
              have hpl := part_length ((prev l k).getD []) x (by omega)
              have HU3 : Hid (build l = bld (k + 1) (prev l (k + 1)) (out ++ part ((prev l k).getD []) x) (l.drop (k + 1))) := by
                show _ = _
                rw [HU2.out, bld_next _ _ _ _ _ (by omega) (by rw [HQ.out.1]; exact hf), prev_succ l k hlt, HX.out]
              have HP2 : Hid (∀ q, prev l (k + 1) = some q → q.length ≤ 200) := by
                intro q' hq'
                rw [prev_succ l k hlt] at hq'; cases hq'; rw [← HX.out]; omega
              have hpl2 : (out ++ part ((prev l k).getD []) x).length ≤ 9 + 218 * (k + 1) := by rw [List.length_append]; omega
              clear hpart
              go_wp2
              go_roundw
              case rel => exact ⟨k + 1, _, by omega, by go_num, hown8', hbl8, hpl2, HP2, HU3⟩
              case measure => simp [intOf]; omega
            · have hle : (Op.bytesLess sx.toList sp.toList || sx.toList == sp.toList) = true := by
                rw [HSX.out, HSP.out, toList_str, toList_str, leq_not]; simp only [Bool.not_eq_true] at hf; rw [hf]; rfl
              have HE : Hid (build l = ([], 6, k)) := by
                show _ = _
                simp only [Bool.not_eq_true] at hf
                rw [HU2.out, bld_order _ _ _ _ _ (by omega) (by rw [HQ.out.1]; exact hf)]
              clear hf
              go_wp2
              go_ret3
              exact ⟨by rw [HE.out]; rfl, hbl⟩
      · have HE : Hid (build l = (out, 0, 0)) := by show _ = _; rw [HU.out, List.drop_of_length_le (by omega)]; rfl
        have hcv := own_string hown
        go_wp2
        go_ret3
        exact ⟨by rw [HE.out]; rfl, hbl⟩
/-- the program's Build answers the document's -/
def BuildSaid : Prop := ∀ (v : Value) (l : List (List UInt8)) (w : World), Strs w v l → l.length ≤ 1073741824 → Calls Tryz.prog 50 #[v] w fun e w' => e = .returned (built (build l)) ∧ Below w.heap.size w w'
end Go.Proofs.YtnnldpccagajbaaGreatDoor
