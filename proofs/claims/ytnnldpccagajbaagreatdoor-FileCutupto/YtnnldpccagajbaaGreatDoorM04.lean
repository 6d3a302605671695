import Derived.Test.YtnnldpccagajbaaGreatDoorM03
namespace Go.Proofs.YtnnldpccagajbaaGreatDoor.wireVarints
open Go.ChangeShapes Go.WideShapes Go.ChangeAt Go.RowKit
set_option linter.unusedVariables false
theorem or128 (x : Int) (h0 : 0 ≤ x) (h1 : x < 256) : bits .or .u8 x 128 = x % 128 + 128 := by
  have key : ∀ y : Fin 256, (y.val ||| 128) = y.val % 128 + 128 := by decide +kernel
  rw [u8_or x 128 h0 h1 (by decide) (by decide)]
  have := key ⟨x.toNat, by omega⟩
  simp only at this
  show ((x.toNat ||| 128 : Nat) : Int) = _
  rw [this]; omega
theorem ret_strint {a b : ByteArray} {n : Int} (h : a = b) : Ending.returned (.tuple #[.string a, .int .i64 n]) = .returned (.tuple #[.string b, .int .i64 n]) := by rw [h]
theorem str_congr {a b : List UInt8} (h : a = b) : str a = str b := by rw [h]
set_option maxRecDepth 100000 in
set_option maxHeartbeats 400000 in
theorem varint_neg (n : Int) (w : World) (hn : n < 0) :
    Calls Tryz.prog 102 #[.int .i64 n] w fun e w' => e = .returned (.tuple #[.string (str []), .int .i64 3]) ∧ w' = w := by
  go_enter Tryz.func102, Tryz.ntmps102
  go_wp2
  go_ret2
  exact ⟨rfl, rfl⟩
set_option maxRecDepth 100000 in
set_option maxHeartbeats 400000 in
theorem varint_any (n : Nat) (w : World) (hn : n < 9223372036854775808) :
    Calls Tryz.prog 102 #[.int .i64 n] w fun e w' => e = .returned (.tuple #[.string (str (vb n)), .int .i64 0]) ∧ Below w.heap.size w w' := by
  obtain ⟨i0, hi, hz0, hz1, hz2⟩ := info_parts info5
  go_enter Tryz.func102, Tryz.ntmps102
  go_wp2
  go_loopw [0, 4] (fun v o wr => ∃ (m : Nat) (l : List UInt8), m < 9223372036854775808 ∧ v = .int .i64 m ∧ Hid (l ++ vb m = vb n) ∧ wr.ownsRow w.heap.size 5 1 o l.length (bs l) ∧ Below w.heap.size w wr) (fun v _ _ => (intOf v).toNat)
  case atStart => exact ⟨n, [], hn, rfl, rfl, World.ownsRow_nil _ _ _ _, Below.refl _ _⟩
  case round =>
    obtain ⟨m, l, hm, rfl, HL, hown, hb⟩ := hrel
    have hzl : l.length ≤ 9 := by
      have h9 := vb_length9 n hn
      rw [← HL.out] at h9
      simp at h9
      omega
    by_cases hlt : m < 128
    · go_wp2_with (at_builtin; refine wpList_append_own _ rfl _ _ 65 rfl w.heap.size 5 i0 (.int .u8 0) 1 1 Tryz.underlying65 hi hz0 hz1 hz2 rfl (by decide) _ _ _ rfl (hown.alloc _) ⟨wr.heap.size, 0, none⟩ 1 1 [.int .u8 (m : Int)] rfl rfl ?c1 ?c2 ?c3 ?c4 ?c5 ?_)
      case c1 =>
        intro j u hj
        match j, hj with
        | 0, hj => simp at hj; subst hj; simp [Addr.add]
      case c2 => intro u hu; simp at hu; subst hu; rfl
      case c3 => unfold maxLen; omega
      case c4 => omega
      case c5 => have := hb.size; simp; omega
      intro v' w1 hown' hg _
      have hb1 : Below w.heap.size w w1 := grown_own hb hown hg
      have hown2 : w1.ownsRow w.heap.size 5 1 v' (l.length + 1) (bs (l ++ [UInt8.ofNat m])) := by
        rw [← bs_snoc, ofNat_toNat _ (by omega)]; exact hown'
      have hcv := own_string hown2
      clear hown' hg hown2 hown
      go_wp2
      go_ret2
      exact ⟨ret_strint (by rw [← HL.out, vb_small m hlt]), hb1⟩
    · have hl : l ++ [UInt8.ofNat (m % 128 + 128)] ++ vb (m / 128) = vb n := by rw [← HL.out, vb_great m (by omega)]; simp
      have HL2 : Hid (l ++ [UInt8.ofNat (m % 128 + 128)] ++ vb (m / 128) = vb n) := hl
      clear hl
      go_wp2_with (at_builtin; refine wpList_append_own _ rfl _ _ 65 rfl w.heap.size 5 i0 (.int .u8 0) 1 1 Tryz.underlying65 hi hz0 hz1 hz2 rfl (by decide) _ _ _ rfl (hown.alloc _) ⟨wr.heap.size, 0, none⟩ 1 1 [.int .u8 (bits .or .u8 ((m : Int) % 256) 128)] rfl rfl ?c1 ?c2 ?c3 ?c4 ?c5 ?_)
      case c1 =>
        intro j u hj
        match j, hj with
        | 0, hj => simp at hj; subst hj; simp [Addr.add]
      case c2 => intro u hu; simp at hu; subst hu; rfl
      case c3 => unfold maxLen; omega
      case c4 => omega
      case c5 => have := hb.size; simp; omega
      intro v' w1 hown' hg _
      have hb1 : Below w.heap.size w w1 := grown_own hb hown hg
      have hown2 : w1.ownsRow w.heap.size 5 1 v' (l ++ [UInt8.ofNat (m % 128 + 128)]).length (bs (l ++ [UInt8.ofNat (m % 128 + 128)])) := by
        rw [← bs_snoc, ofNat_toNat _ (by omega), List.length_append]
        rw [or128 _ (by omega) (by omega), show (m : Int) % 256 % 128 + 128 = ((m % 128 + 128 : Nat) : Int) from by omega] at hown'
        exact hown'
      clear hown' hg hown
      go_wp2
      go_roundw
      case rel => exact ⟨m / 128, _, by omega, by go_num, HL2, hown2, hb1⟩
      case measure => simp [intOf]; omega
end Go.Proofs.YtnnldpccagajbaaGreatDoor.wireVarints

/-
  The program's stream.Writer, walked.
-/
namespace Go.Proofs.YtnnldpccagajbaaGreatDoor
open Go.ChangeShapes Go.WideShapes Go.ChangeAt Go.RowKit
open wireVarints (varint_any)
set_option linter.unusedVariables false
theorem own_shape {w : World} {base : Nat} {e : TypeId} {size : Nat} {v : Value} {n : Nat} {xs : List Value} (h : w.ownsRow base e size v n xs) : ∃ a c, v = .slice a n c := by
  rcases h.2 with ⟨rfl, h0⟩ | ⟨g, cap, cur, rfl, _⟩
  · exact ⟨none, 0, by rw [h0]⟩
  · exact ⟨_, cap, rfl⟩
/-- a writer at block b, that has these bytes -/
structure Wr (w : World) (b : Nat) (l : List UInt8) : Prop where
  lt : b < w.heap.size
  fz : w.frozen? ⟨b, 0, none⟩ = false
  row : ∃ v, w.cell? ⟨b, 0, none⟩ = some v ∧ w.ownsRow (b + 1) 5 1 v l.length (bs l)
theorem Wr.new (w : World) (b : Nat) (hb : b = w.heap.size) : Wr (w.alloc (.cells #[.slice none 0 0] 95)) b [] := by
  subst hb
  exact ⟨by simp, World.frozen?_alloc_at _ _ _ _ rfl, _, by simp, World.ownsRow_nil _ _ _ _⟩
theorem Wr.kept {w w' : World} {b : Nat} {l : List UInt8} (h : Wr w b l) (hb : Below w.heap.size w w') : Wr w' b l := by
  obtain ⟨h1, h2, v, h3, h4⟩ := h
  exact ⟨Nat.lt_of_lt_of_le h1 hb.size, by rw [hb.frozen (p := ⟨b, 0, none⟩) h1]; exact h2, v, by rw [hb.cell (p := ⟨b, 0, none⟩) h1]; exact h3, own_kept h4 hb⟩
theorem app_size (l : List UInt8) (s : ByteArray) : (l ++ s.data.toList).length = l.length + s.size := by simp
theorem setCell_size (w : World) (a : Addr) (u : Value) : (w.setCell a u).heap.size = w.heap.size := by simp [World.setCell]
set_option maxRecDepth 100000 in
set_option maxHeartbeats 1000000 in
theorem wtext_any (b : Nat) (l : List UInt8) (s : ByteArray) (w : World) (h : Wr w b l) (hz : l.length + s.size ≤ 70368744177664) :
    Calls Tryz.prog 52 #[.pointer (some ⟨b, 0, none⟩), .string s] w fun e w' => e = .returned (.tuple #[]) ∧ Wr w' b (l ++ s.data.toList) ∧ Below b w w' := by
  obtain ⟨i0, hi, hz0, hz1, hz2⟩ := info_parts info5
  obtain ⟨h1, h2, v, h3, h4⟩ := h
  go_enter Tryz.func52, Tryz.ntmps52
  go_wp2_with (at_builtin; refine Lib.wpList_append_own_string _ rfl _ _ 65 9 rfl (b + 1) 5 i0 Tryz.underlying65 Tryz.underlying9 hi hz0 hz1 hz2 _ _ _ rfl h4 s rfl ?c3 ?c4 ?c5 ?_)
  case c3 => unfold maxLen; omega
  case c4 => omega
  case c5 => exact h1
  intro v' w1 hown hg _
  have hne : some b ≠ v.ownBlock := fun e => by have := (h4.lt b e.symm).1; omega
  have e1 : w1.cell? ⟨b, 0, none⟩ = some v := by rw [World.cell?_of_block (w := w) (hg.block b h1 hne)]; exact h3
  have e2 : w1.frozen? ⟨b, 0, none⟩ = false := by rw [World.frozen?_of_block (w := w) (hg.block b h1 hne)]; exact h2
  have hbl : Below b w w1 := (Below.refl b w).grown hg (Nat.le_of_lt h1) (fun k hk => by have := (h4.lt k hk).1; omega)
  have hown' := own_app hown (str_data s).symm
  rw [app_size] at hown'
  have hsz : b < w1.heap.size := Nat.lt_of_lt_of_le h1 hg.size
  have HO : Hid (w1.ownsRow (b + 1) 5 1 v' (l.length + s.size) (bs (l ++ s.data.toList))) := hown'
  have HB : Hid (Below b w w1) := hbl
  obtain ⟨a', c', rfl⟩ := own_shape hown'
  clear hown hown' hbl hg
  go_wp2
  go_end0
  refine ⟨rfl, ⟨by rw [setCell_size]; exact hsz, by rw [World.frozen?_setCell]; exact e2, _, World.cell?_setCell_same _ _ _ e1, by rw [app_size]; exact ownsRow_setCell_below HO.out (Nat.lt_succ_self b) _⟩, HB.out.setCell (p := ⟨b, 0, none⟩) (Nat.le_refl b) _⟩
set_option maxRecDepth 100000 in
set_option maxHeartbeats 400000 in
theorem wnumber_any (b : Nat) (l : List UInt8) (n : Nat) (w : World) (h : Wr w b l) (hn : n < 9223372036854775808) (hz : l.length + 9 ≤ 70368744177664) :
    Calls Tryz.prog 85 #[.pointer (some ⟨b, 0, none⟩), .int .i64 n] w fun e w' => e = .returned (.tuple #[]) ∧ Wr w' b (l ++ vb n) ∧ Below b w w' := by
  have h9 := vb_length9 n hn
  go_enter Tryz.func85, Tryz.ntmps85
  go_wp2_with fail
  refine (varint_any n _ hn).mono ?_
  rintro e w1 ⟨rfl, hb1⟩
  have h1 := h.kept hb1
  have HB : Hid (Below b w w1) := hb1.mono (Nat.le_of_lt h.lt)
  clear hb1
  go_wp2_with fail
  refine (wtext_any b l (str (vb n)) _ h1 (by rw [str_size]; omega)).mono ?_
  rintro e w2 ⟨rfl, h2, hb2⟩
  rw [data_str] at h2
  go_wp2
  go_end0
  exact ⟨rfl, h2, HB.out.trans hb2⟩
theorem wnumber_at (b : Nat) (l : List UInt8) (z : Int) (w : World) (h : Wr w b l) (h0 : 0 ≤ z) (h1 : z < 9223372036854775808) (hz : l.length + 9 ≤ 70368744177664) :
    Calls Tryz.prog 85 #[.pointer (some ⟨b, 0, none⟩), .int .i64 z] w fun e w' => e = .returned (.tuple #[]) ∧ Wr w' b (l ++ vb z.toNat) ∧ Below b w w' := by
  obtain ⟨m, rfl⟩ := Int.eq_ofNat_of_zero_le h0
  exact wnumber_any b l m w h (by omega) hz
set_option maxRecDepth 100000 in
set_option maxHeartbeats 400000 in
theorem wcounted_any (b : Nat) (l : List UInt8) (s : ByteArray) (w : World) (h : Wr w b l) (hz : l.length + 9 + s.size ≤ 70368744177664) :
    Calls Tryz.prog 84 #[.pointer (some ⟨b, 0, none⟩), .string s] w fun e w' => e = .returned (.tuple #[]) ∧ Wr w' b (l ++ (vb s.size ++ s.data.toList)) ∧ Below b w w' := by
  have h9 := vb_length9 s.size (by omega)
  go_enter Tryz.func84, Tryz.ntmps84
  go_wp2_with fail
  refine (wnumber_any b l s.size _ h (by omega) (by omega)).mono ?_
  rintro e w1 ⟨rfl, h1, hb1⟩
  have HB : Hid (Below b w w1) := hb1
  clear hb1
  go_wp2_with fail
  refine (wtext_any b _ s _ h1 (by rw [List.length_append]; omega)).mono ?_
  rintro e w2 ⟨rfl, h2, hb2⟩
  rw [List.append_assoc] at h2
  go_wp2
  go_end0
  exact ⟨rfl, h2, HB.out.trans hb2⟩
set_option maxRecDepth 100000 in
set_option maxHeartbeats 400000 in
theorem written_any (b : Nat) (l : List UInt8) (w : World) (h : Wr w b l) :
    Calls Tryz.prog 56 #[.pointer (some ⟨b, 0, none⟩)] w fun e w' => e = .returned (.string (str l)) ∧ w = w' := by
  obtain ⟨h1, h2, v, h3, h4⟩ := h
  have hcv := own_string h4
  go_enter Tryz.func56, Tryz.ntmps56
  go_wp2
  go_ret
  exact ⟨rfl, rfl⟩
end Go.Proofs.YtnnldpccagajbaaGreatDoor

namespace Go.Proofs.YtnnldpccagajbaaGreatDoor
open Go.ChangeShapes Go.WideShapes Go.ChangeAt Go.RowKit
set_option linter.unusedVariables false
/-- what the reader answers, as the document's function gives it -/
def two (at_ : Nat) : Option (Nat × Nat) → Value
  | none => .tuple #[.int .i64 0, .int .i64 (-1)]
  | some (n, k) => .tuple #[.int .i64 n, .int .i64 (at_ + k : Nat)]
theorem mul_in (P c : Nat) (hp : P ≤ 72057594037927936) : 0 ≤ (P : Int) * ((c : Int) % 128) ∧ (P : Int) * ((c : Int) % 128) ≤ 9151314442816847872 := by
  have e : (P : Int) * ((c : Int) % 128) = ((P * (c % 128) : Nat) : Int) := by push_cast; rfl
  have b : P * (c % 128) ≤ P * 127 := Nat.mul_le_mul_left _ (by omega)
  rw [e]; omega
theorem acc_cast (acc P c : Nat) : (acc : Int) + (P : Int) * ((c : Int) % 128) = ((acc + P * (c % 128) : Nat) : Int) := by push_cast; rfl
theorem acc_lt (acc P c : Nat) (h : acc < P) : acc + P * (c % 128) < P * 128 := by
  have b : P * (c % 128) ≤ P * 127 := Nat.mul_le_mul_left _ (by omega)
  omega
theorem p128 (P k : Nat) (h : P = pw k) (hk : k + 1 ≤ 8) : Value.int .i64 (wrap64 ((P : Int) * 128)) = .int .i64 ((P * 128 : Nat) : Int) := by
  have b : P * 128 ≤ 72057594037927936 := by rw [h, ← pw_succ]; exact pw_le _ hk
  rw [show wrap64 ((P : Int) * 128) = ((P * 128 : Nat) : Int) from by unfold wrap64; omega]
theorem ret_two {a : Nat} {r : Option (Nat × Nat)} {v1 v2 : Int} (n k : Nat) (h : r = some (n, k)) (h1 : v1 = n) (h2 : v2 = (a + k : Nat)) :
    Ending.returned (.tuple #[.int .i64 v1, .int .i64 v2]) = .returned (two a r) := by
  rw [h, h1, h2]; rfl
theorem ret_none {a : Nat} {r : Option (Nat × Nat)} (h : r = none) : Ending.returned (.tuple #[.int .i64 0, .int .i64 (-1)]) = .returned (two a r) := by
  rw [h]; rfl
set_option maxRecDepth 100000 in
set_option maxHeartbeats 400000 in
theorem runvarint_any (s : ByteArray) (a : Nat) (w : World) (hs : s.size ≤ 140737488355328) (ha : a ≤ s.size) :
    Calls Tryz.prog 43 #[.string s, .int .i64 a] w fun e w' => e = .returned (two a (uv 0 0 (from_ s a))) ∧ w' = w := by
  go_enter Tryz.func43, Tryz.ntmps43
  go_wp2
  go_loop [6, 7, 8] (fun n b i => ∃ j acc P : Nat, a ≤ j ∧ j ≤ a + 9 ∧ j ≤ s.size ∧ i = .int .i64 j ∧ n = .int .i64 acc ∧ b = .int .i64 P ∧ Hid (P = pw (min (j - a) 8)) ∧ Hid (acc < pw (j - a)) ∧ Hid (uv 0 0 (from_ s a) = uv (j - a) acc (from_ s j))) (fun _ _ i => s.size - (intOf i).toNat)
  case atStart => exact ⟨a, 0, 1, by omega, by omega, ha, rfl, rfl, rfl, by rw [Nat.sub_self]; rfl, by rw [Nat.sub_self]; show 0 < pw 0; decide, by rw [Nat.sub_self]; rfl⟩
  case round =>
    obtain ⟨j, acc, P, hj1, hj2, hj3, rfl, rfl, rfl, HP, HA, HU⟩ := hrel
    by_cases hlt : j < s.size
    · by_cases hk9 : j < a + 9
      · have hp : P ≤ 72057594037927936 := by rw [HP.out]; exact pw_le _ (by omega)
        have hacc : acc < P := by rw [HP.out, show min (j - a) 8 = j - a from by omega]; exact HA.out
        have hc : (s[j].toNat : Int) ≤ 255 := by have := s[j].toNat_lt; omega
        obtain ⟨hm1, hm2⟩ := mul_in P s[j].toNat hp
        have hd : min (j - a) 8 = j - a := by omega
        have HP2 : Hid (P = pw (j - a)) := by rw [hd] at HP; exact HP
        clear hd
        go_wp2
        · have c0 : s[j].toNat = 0 := by assumption
          have c1 : a < j := by assumption
          go_ret2
          exact ⟨ret_none (by rw [HU.out, from_cons s _ hlt, uv_needless _ acc _ _ (by omega) c0 (by omega)]), rfl⟩
        · have c0 : s[j].toNat = 0 := by assumption
          have c1 : ¬ a < j := by assumption
          go_ret2
          exact ⟨ret_two _ _ (by rw [HU.out, from_cons s _ hlt, uv_last _ acc _ _ (by omega) (by omega) (by omega)]) (by rw [c0]; simp) (by omega), rfl⟩
        · have c0 : ¬ s[j].toNat = 0 := by assumption
          have c1 : (s[j].toNat : Int) < 128 := by assumption
          go_ret2
          exact ⟨ret_two _ _ (by rw [HU.out, from_cons s _ hlt, uv_last _ acc _ _ (by omega) (by omega) (by omega)]) (by rw [acc_cast, ← HP2.out]) (by omega), rfl⟩
        all_goals
          have c1 : 128 ≤ (s[j].toNat : Int) := by assumption
          have ea : acc + P * (s[j].toNat % 128) < pw (j + 1 - a) := by rw [show j + 1 - a = j - a + 1 from by omega, pw_succ, ← HP2.out]; exact acc_lt acc P _ hacc
          have eu : uv 0 0 (from_ s a) = uv (j + 1 - a) (acc + P * (s[j].toNat % 128)) (from_ s (j + 1)) := by
            rw [HU.out, from_cons s _ hlt, uv_more _ acc _ _ (by omega) (by omega), show j + 1 - a = j - a + 1 from by omega, ← HP2.out]
          go_round
        case rel =>
          exact ⟨j + 1, acc + P * (s[j].toNat % 128), P * 128, by omega, by omega, by omega, by go_num, by rw [acc_cast], p128 P (j - a) HP2.out (by omega), by show _ = _; rw [show min (j + 1 - a) 8 = j - a + 1 from by omega, pw_succ, ← HP2.out], ea, eu⟩
        case measure => simp [intOf]; omega
        case rel =>
          exact ⟨j + 1, acc + P * (s[j].toNat % 128), P, by omega, by omega, by omega, by go_num, by rw [acc_cast], by go_num, by show _ = _; rw [show min (j + 1 - a) 8 = j - a from by omega, ← HP2.out], ea, eu⟩
        case measure => simp [intOf]; omega
      · have e9 : j - a = 9 := by omega
        rw [e9] at HU
        go_wp2
        go_ret2
        exact ⟨ret_none (by rw [HU.out, uv_nine]), rfl⟩
    · go_wp2
      go_ret2
      exact ⟨ret_none (by rw [HU.out, from_end s _ (by omega), uv_nil]), rfl⟩
end Go.Proofs.YtnnldpccagajbaaGreatDoor
