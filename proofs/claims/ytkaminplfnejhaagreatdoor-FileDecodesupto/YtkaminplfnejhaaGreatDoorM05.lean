import Derived.Test.YtkaminplfnejhaaGreatDoorM03
import Derived.Test.YtkaminplfnejhaaGreatDoorM04
/-
  The program's stream.Writer, walked.
-/
namespace Go.Proofs.YtkaminplfnejhaaGreatDoor
open Go.ChangeShapes Go.WideShapes Go.ChangeAt Go.RowKit
open wireVarints (varint_any)
set_option linter.unusedVariables false
theorem own_shape {w : World} {base : Nat} {e : TypeId} {size : Nat} {v : Value} {n : Nat} {xs : List Value} (h : w.ownsRow base e size v n xs) : ∃ a c, v = .slice a n c := by
  rcases h.2 with ⟨rfl, h0⟩ | ⟨g, cap, cur, rfl, _⟩
  · exact ⟨none, 0, by rw [h0]⟩
  · exact ⟨_, cap, rfl⟩
/-- a writer at block b, that has these bytes -/
structure Wr (w : World) (b : Nat) (l : List UInt8) : Prop where
  lt : b < w.heap.size
  fz : w.frozen? ⟨b, 0, none⟩ = false
  row : ∃ v, w.cell? ⟨b, 0, none⟩ = some v ∧ w.ownsRow (b + 1) 5 1 v l.length (bs l)
theorem Wr.new (w : World) (b : Nat) (hb : b = w.heap.size) : Wr (w.alloc (.cells #[.slice none 0 0] 96)) b [] := by
  subst hb
  exact ⟨by simp, World.frozen?_alloc_at _ _ _ _ rfl, _, by simp, World.ownsRow_nil _ _ _ _⟩
theorem Wr.kept {w w' : World} {b : Nat} {l : List UInt8} (h : Wr w b l) (hb : Below w.heap.size w w') : Wr w' b l := by
  obtain ⟨h1, h2, v, h3, h4⟩ := h
  exact ⟨Nat.lt_of_lt_of_le h1 hb.size, by rw [hb.frozen (p := ⟨b, 0, none⟩) h1]; exact h2, v, by rw [hb.cell (p := ⟨b, 0, none⟩) h1]; exact h3, own_kept h4 hb⟩
theorem app_size (l : List UInt8) (s : ByteArray) : (l ++ s.data.toList).length = l.length + s.size := by simp
theorem setCell_size (w : World) (a : Addr) (u : Value) : (w.setCell a u).heap.size = w.heap.size := by simp [World.setCell]
set_option maxRecDepth 100000 in
set_option maxHeartbeats 1000000 in
theorem wtext_any (b : Nat) (l : List UInt8) (s : ByteArray) (w : World) (h : Wr w b l) (hz : l.length + s.size ≤ 70368744177664) :
    Calls Tryz.prog 55 #[.pointer (some ⟨b, 0, none⟩), .string s] w fun e w' => e = .returned (.tuple #[]) ∧ Wr w' b (l ++ s.data.toList) ∧ Below b w w' := by
  obtain ⟨i0, hi, hz0, hz1, hz2⟩ := info_parts info5
  obtain ⟨h1, h2, v, h3, h4⟩ := h
  go_enter Tryz.func55, Tryz.ntmps55
  go_wp2_with (at_builtin; refine Lib.wpList_append_own_string _ rfl _ _ 69 9 rfl (b + 1) 5 i0 Tryz.underlying69 Tryz.underlying9 hi hz0 hz1 hz2 _ _ _ rfl h4 s rfl ?c3 ?c4 ?c5 ?_)
  case c3 => unfold maxLen; omega
  case c4 => omega
  case c5 => exact h1
  intro v' w1 hown hg _
  have hne : some b ≠ v.ownBlock := fun e => by have := (h4.lt b e.symm).1; omega
  have e1 : w1.cell? ⟨b, 0, none⟩ = some v := by rw [World.cell?_of_block (w := w) (hg.block b h1 hne)]; exact h3
  have e2 : w1.frozen? ⟨b, 0, none⟩ = false := by rw [World.frozen?_of_block (w := w) (hg.block b h1 hne)]; exact h2
  have hbl : Below b w w1 := (Below.refl b w).grown hg (Nat.le_of_lt h1) (fun k hk => by have := (h4.lt k hk).1; omega)
  have hown' := own_app hown (str_data s).symm
  rw [app_size] at hown'
  have hsz : b < w1.heap.size := Nat.lt_of_lt_of_le h1 hg.size
  have HO : Hid (w1.ownsRow (b + 1) 5 1 v' (l.length + s.size) (bs (l ++ s.data.toList))) := hown'
  have HB : Hid (Below b w w1) := hbl
  obtain ⟨a', c', rfl⟩ := own_shape hown'
  clear hown hown' hbl hg
  go_wp2
  go_end0
  refine ⟨rfl, ⟨by rw [setCell_size]; exact hsz, by rw [World.frozen?_setCell]; exact e2, _, World.cell?_setCell_same _ _ _ e1, by rw [app_size]; exact ownsRow_setCell_below HO.out (Nat.lt_succ_self b) _⟩, HB.out.setCell (p := ⟨b, 0, none⟩) (Nat.le_refl b) _⟩
set_option maxRecDepth 100000 in
set_option maxHeartbeats 400000 in
theorem wnumber_any (b : Nat) (l : List UInt8) (n : Nat) (w : World) (h : Wr w b l) (hn : n < 9223372036854775808) (hz : l.length + 9 ≤ 70368744177664) :
    Calls Tryz.prog 85 #[.pointer (some ⟨b, 0, none⟩), .int .i64 n] w fun e w' => e = .returned (.tuple #[]) ∧ Wr w' b (l ++ vb n) ∧ Below b w w' := by
  have h9 := vb_length9 n hn
  go_enter Tryz.func85, Tryz.ntmps85
  go_wp2_with fail
  refine (varint_any n _ hn).mono ?_
  rintro e w1 ⟨rfl, hb1⟩
  have h1 := h.kept hb1
  have HB : Hid (Below b w w1) := hb1.mono (Nat.le_of_lt h.lt)
  clear hb1
  go_wp2_with fail
  refine (wtext_any b l (str (vb n)) _ h1 (by rw [str_size]; omega)).mono ?_
  rintro e w2 ⟨rfl, h2, hb2⟩
  rw [data_str] at h2
  go_wp2
  go_end0
  exact ⟨rfl, h2, HB.out.trans hb2⟩
theorem wnumber_at (b : Nat) (l : List UInt8) (z : Int) (w : World) (h : Wr w b l) (h0 : 0 ≤ z) (h1 : z < 9223372036854775808) (hz : l.length + 9 ≤ 70368744177664) :
    Calls Tryz.prog 85 #[.pointer (some ⟨b, 0, none⟩), .int .i64 z] w fun e w' => e = .returned (.tuple #[]) ∧ Wr w' b (l ++ vb z.toNat) ∧ Below b w w' := by
  obtain ⟨m, rfl⟩ := Int.eq_ofNat_of_zero_le h0
  exact wnumber_any b l m w h (by omega) hz
set_option maxRecDepth 100000 in
set_option maxHeartbeats 400000 in
theorem wcounted_any (b : Nat) (l : List UInt8) (s : ByteArray) (w : World) (h : Wr w b l) (hz : l.length + 9 + s.size ≤ 70368744177664) :
    Calls Tryz.prog 84 #[.pointer (some ⟨b, 0, none⟩), .string s] w fun e w' => e = .returned (.tuple #[]) ∧ Wr w' b (l ++ (vb s.size ++ s.data.toList)) ∧ Below b w w' := by
  have h9 := vb_length9 s.size (by omega)
  go_enter Tryz.func84, Tryz.ntmps84
  go_wp2_with fail
  refine (wnumber_any b l s.size _ h (by omega) (by omega)).mono ?_
  rintro e w1 ⟨rfl, h1, hb1⟩
  have HB : Hid (Below b w w1) := hb1
  clear hb1
  go_wp2_with fail
  refine (wtext_any b _ s _ h1 (by rw [List.length_append]; omega)).mono ?_
  rintro e w2 ⟨rfl, h2, hb2⟩
  rw [List.append_assoc] at h2
  go_wp2
  go_end0
  exact ⟨rfl, h2, HB.out.trans hb2⟩
set_option maxRecDepth 100000 in
set_option maxHeartbeats 400000 in
theorem written_any (b : Nat) (l : List UInt8) (w : World) (h : Wr w b l) :
    Calls Tryz.prog 59 #[.pointer (some ⟨b, 0, none⟩)] w fun e w' => e = .returned (.string (str l)) ∧ w = w' := by
  obtain ⟨h1, h2, v, h3, h4⟩ := h
  have hcv := own_string h4
  go_enter Tryz.func59, Tryz.ntmps59
  go_wp2
  go_ret
  exact ⟨rfl, rfl⟩
end Go.Proofs.YtkaminplfnejhaaGreatDoor

namespace Go.Proofs.YtkaminplfnejhaaGreatDoor
open Go.ChangeShapes Go.WideShapes Go.ChangeAt Go.RowKit
set_option linter.unusedVariables false
/-- what the reader answers, as the document's function gives it -/
def two (at_ : Nat) : Option (Nat × Nat) → Value
  | none => .tuple #[.int .i64 0, .int .i64 (-1)]
  | some (n, k) => .tuple #[.int .i64 n, .int .i64 (at_ + k : Nat)]
theorem mul_in (P c : Nat) (hp : P ≤ 72057594037927936) : 0 ≤ (P : Int) * ((c : Int) % 128) ∧ (P : Int) * ((c : Int) % 128) ≤ 9151314442816847872 := by
  have e : (P : Int) * ((c : Int) % 128) = ((P * (c % 128) : Nat) : Int) := by push_cast; rfl
  have b : P * (c % 128) ≤ P * 127 := Nat.mul_le_mul_left _ (by omega)
  rw [e]; omega
theorem acc_cast (acc P c : Nat) : (acc : Int) + (P : Int) * ((c : Int) % 128) = ((acc + P * (c % 128) : Nat) : Int) := by push_cast; rfl
theorem acc_lt (acc P c : Nat) (h : acc < P) : acc + P * (c % 128) < P * 128 := by
  have b : P * (c % 128) ≤ P * 127 := Nat.mul_le_mul_left _ (by omega)
  omega
theorem p128 (P k : Nat) (h : P = pw k) (hk : k + 1 ≤ 8) : Value.int .i64 (wrap64 ((P : Int) * 128)) = .int .i64 ((P * 128 : Nat) : Int) := by
  have b : P * 128 ≤ 72057594037927936 := by rw [h, ← pw_succ]; exact pw_le _ hk
  rw [show wrap64 ((P : Int) * 128) = ((P * 128 : Nat) : Int) from by unfold wrap64; omega]
theorem ret_two {a : Nat} {r : Option (Nat × Nat)} {v1 v2 : Int} (n k : Nat) (h : r = some (n, k)) (h1 : v1 = n) (h2 : v2 = (a + k : Nat)) :
    Ending.returned (.tuple #[.int .i64 v1, .int .i64 v2]) = .returned (two a r) := by
  rw [h, h1, h2]; rfl
theorem ret_none {a : Nat} {r : Option (Nat × Nat)} (h : r = none) : Ending.returned (.tuple #[.int .i64 0, .int .i64 (-1)]) = .returned (two a r) := by
  rw [h]; rfl
set_option maxRecDepth 100000 in
set_option maxHeartbeats 400000 in
theorem runvarint_any (s : ByteArray) (a : Nat) (w : World) (hs : s.size ≤ 140737488355328) (ha : a ≤ s.size) :
    Calls Tryz.prog 29 #[.string s, .int .i64 a] w fun e w' => e = .returned (two a (uv 0 0 (from_ s a))) ∧ w' = w := by
  go_enter Tryz.func29, Tryz.ntmps29
  go_wp2
  go_loop [6, 7, 8] (fun n b i => ∃ j acc P : Nat, a ≤ j ∧ j ≤ a + 9 ∧ j ≤ s.size ∧ i = .int .i64 j ∧ n = .int .i64 acc ∧ b = .int .i64 P ∧ Hid (P = pw (min (j - a) 8)) ∧ Hid (acc < pw (j - a)) ∧ Hid (uv 0 0 (from_ s a) = uv (j - a) acc (from_ s j))) (fun _ _ i => s.size - (intOf i).toNat)
  case atStart => exact ⟨a, 0, 1, by omega, by omega, ha, rfl, rfl, rfl, by rw [Nat.sub_self]; rfl, by rw [Nat.sub_self]; show 0 < pw 0; decide, by rw [Nat.sub_self]; rfl⟩
  case round =>
    obtain ⟨j, acc, P, hj1, hj2, hj3, rfl, rfl, rfl, HP, HA, HU⟩ := hrel
    by_cases hlt : j < s.size
    · by_cases hk9 : j < a + 9
      · have hp : P ≤ 72057594037927936 := by rw [HP.out]; exact pw_le _ (by omega)
        have hacc : acc < P := by rw [HP.out, show min (j - a) 8 = j - a from by omega]; exact HA.out
        have hc : (s[j].toNat : Int) ≤ 255 := by have := s[j].toNat_lt; omega
        obtain ⟨hm1, hm2⟩ := mul_in P s[j].toNat hp
        have hd : min (j - a) 8 = j - a := by omega
        have HP2 : Hid (P = pw (j - a)) := by rw [hd] at HP; exact HP
        clear hd
        go_wp2
        · have c0 : s[j].toNat = 0 := by assumption
          have c1 : a < j := by assumption
          go_ret2
          exact ⟨ret_none (by rw [HU.out, from_cons s _ hlt, uv_needless _ acc _ _ (by omega) c0 (by omega)]), rfl⟩
        · have c0 : s[j].toNat = 0 := by assumption
          have c1 : ¬ a < j := by assumption
          go_ret2
          exact ⟨ret_two _ _ (by rw [HU.out, from_cons s _ hlt, uv_last _ acc _ _ (by omega) (by omega) (by omega)]) (by rw [c0]; simp) (by omega), rfl⟩
        · have c0 : ¬ s[j].toNat = 0 := by assumption
          have c1 : (s[j].toNat : Int) < 128 := by assumption
          go_ret2
          exact ⟨ret_two _ _ (by rw [HU.out, from_cons s _ hlt, uv_last _ acc _ _ (by omega) (by omega) (by omega)]) (by rw [acc_cast, ← HP2.out]) (by omega), rfl⟩
        all_goals
          have c1 : 128 ≤ (s[j].toNat : Int) := by assumption
          have ea : acc + P * (s[j].toNat % 128) < pw (j + 1 - a) := by rw [show j + 1 - a = j - a + 1 from by omega, pw_succ, ← HP2.out]; exact acc_lt acc P _ hacc
          have eu : uv 0 0 (from_ s a) = uv (j + 1 - a) (acc + P * (s[j].toNat % 128)) (from_ s (j + 1)) := by
            rw [HU.out, from_cons s _ hlt, uv_more _ acc _ _ (by omega) (by omega), show j + 1 - a = j - a + 1 from by omega, ← HP2.out]
          go_round
        case rel =>
          exact ⟨j + 1, acc + P * (s[j].toNat % 128), P * 128, by omega, by omega, by omega, by go_num, by rw [acc_cast], p128 P (j - a) HP2.out (by omega), by show _ = _; rw [show min (j + 1 - a) 8 = j - a + 1 from by omega, pw_succ, ← HP2.out], ea, eu⟩
        case measure => simp [intOf]; omega
        case rel =>
          exact ⟨j + 1, acc + P * (s[j].toNat % 128), P, by omega, by omega, by omega, by go_num, by rw [acc_cast], by go_num, by show _ = _; rw [show min (j + 1 - a) 8 = j - a from by omega, ← HP2.out], ea, eu⟩
        case measure => simp [intOf]; omega
      · have e9 : j - a = 9 := by omega
        rw [e9] at HU
        go_wp2
        go_ret2
        exact ⟨ret_none (by rw [HU.out, uv_nine]), rfl⟩
    · go_wp2
      go_ret2
      exact ⟨ret_none (by rw [HU.out, from_end s _ (by omega), uv_nil]), rfl⟩
end Go.Proofs.YtkaminplfnejhaaGreatDoor

/-
  The program's Unvarint, walked.
-/
namespace Go.Proofs.YtkaminplfnejhaaGreatDoor.wireVarints
open Go.ChangeShapes Go.WideShapes Go.ChangeAt Go.RowKit
set_option linter.unusedVariables false
theorem group (k acc : Nat) (c : UInt8) (hk : k ≤ 8) (h : acc < pw k) :
    bits .or .i64 (acc : Int) (wrap64 (wrap64 (bits .and .u8 (c.toNat : Int) 127) * 2 ^ (7 * k))) = ((acc + pw k * (c.toNat % 128) : Nat) : Int) := by
  have hc := c.toNat_lt
  have hp := pw_le k hk
  have b : pw k * (c.toNat % 128) ≤ pw k * 127 := Nat.mul_le_mul_left _ (by omega)
  have e1 : bits .and .u8 (c.toNat : Int) 127 = ((c.toNat % 128 : Nat) : Int) := by
    rw [u8_and _ _ (by omega) (by omega) (by decide) (by decide)]
    show ((c.toNat &&& 127 : Nat) : Int) = _
    rw [nat_mask7]
  have e2 : wrap64 ((c.toNat % 128 : Nat) : Int) = ((c.toNat % 128 : Nat) : Int) := by unfold wrap64; omega
  have e3 : ((c.toNat % 128 : Nat) : Int) * 2 ^ (7 * k) = ((pw k * (c.toNat % 128) : Nat) : Int) := by
    rw [pw_two]; push_cast; rw [Int.mul_comm]
  have e4 : wrap64 (((c.toNat % 128 : Nat) : Int) * 2 ^ (7 * k)) = ((c.toNat % 128 : Nat) : Int) * 2 ^ (7 * k) := by
    rw [e3]; unfold wrap64; omega
  rw [e1, e2, e4, or_group k acc c hk h]
theorem group0 (k acc : Nat) (hk : k ≤ 8) (h : acc < pw k) :
    bits .or .i64 (acc : Int) (wrap64 (wrap64 (bits .and .u8 0 127) * 2 ^ (7 * k))) = (acc : Int) := by
  have := group k acc 0 hk h
  simpa using this
theorem acc_next (acc k : Nat) (c : UInt8) (h : acc < pw k) : acc + pw k * (c.toNat % 128) < pw (k + 1) := by
  rw [pw_succ]; exact acc_lt acc _ _ h
/-- what Unvarint answers, at a place within the bytes -/
def three (a : Nat) : Option (Nat × Nat) → Value
  | none => .tuple #[.int .i64 0, .int .i64 0, .int .i64 4]
  | some (n, k) => .tuple #[.int .i64 n, .int .i64 ((a + k : Nat) : Int), .int .i64 0]
theorem ret3_none {a : Nat} {r : Option (Nat × Nat)} (h : r = none) : Ending.returned (.tuple #[.int .i64 0, .int .i64 0, .int .i64 4]) = .returned (three a r) := by rw [h]; rfl
theorem ret3_some {a : Nat} {r : Option (Nat × Nat)} {v1 v2 : Int} (n k : Nat) (h : r = some (n, k)) (h1 : v1 = n) (h2 : v2 = ((a + k : Nat) : Int)) :
    Ending.returned (.tuple #[.int .i64 v1, .int .i64 v2, .int .i64 0]) = .returned (three a r) := by rw [h, h1, h2]; rfl
set_option maxRecDepth 100000 in
set_option maxHeartbeats 1000000 in
theorem unvarint_same (s : ByteArray) (a : Nat) (w : World) (ha : a ≤ s.size) (hs : s.size ≤ 140737488355328) :
    Calls Tryz.prog 67 #[.string s, .int .i64 a] w fun e w' => e = .returned (three a (uv 0 0 (from_ s a))) ∧ w' = w := by
  have d0 : decide ((a : Int) < 0) = false := by simp
  have d1 : decide (s.size < a) = false := by simp; omega
  have d2 : decide ((s.size : Int) < (a : Int)) = false := by simp; omega
  go_enter Tryz.func67, Tryz.ntmps67
  go_wp2
  go_loopw [7, 8, 9] (fun n sh i wr => ∃ k acc : Nat, wr = w ∧ k ≤ 9 ∧ a + k ≤ s.size ∧ i = .int .i64 ((a + k : Nat) : Int) ∧ sh = .int .i64 (7 * (k : Int)) ∧ n = .int .i64 acc ∧ Hid (acc < pw k) ∧ Hid (uv 0 0 (from_ s a) = uv k acc (from_ s (a + k)))) (fun _ _ i _ => s.size - (intOf i).toNat)
  case atStart => exact ⟨0, 0, rfl, by omega, ha, rfl, rfl, rfl, (by show 0 < pw 0; decide), rfl⟩
  case round =>
    obtain ⟨k, acc, rfl, hk, hak, rfl, rfl, rfl, HA, HU⟩ := hrel
    by_cases hlt : a + k < s.size
    · by_cases hk9 : k < 9
      · have hc : (s[a + k].toNat : Int) ≤ 255 := by have := s[a + k].toNat_lt; omega
        go_wp2
        · have c0 : s[a + k].toNat = 0 := by assumption
          have k0 : 0 < k := by omega
          go_ret3
          exact ⟨ret3_none (by rw [HU.out, from_cons s _ hlt, uv_needless _ acc _ _ (by omega) c0 (by omega)]), rfl⟩
        · have c0 : s[a + k].toNat = 0 := by assumption
          go_ret3
          exact ⟨ret3_some _ _ (by rw [HU.out, from_cons s _ hlt, uv_last _ acc _ _ (by omega) (by omega) (by omega)]) (by rw [group0 k acc (by omega) HA.out, c0]; simp) (by omega), rfl⟩
        · have c0 : ¬ s[a + k].toNat = 0 := by assumption
          have c1 : (s[a + k].toNat : Int) < 128 := by assumption
          go_ret3
          exact ⟨ret3_some _ _ (by rw [HU.out, from_cons s _ hlt, uv_last _ acc _ _ (by omega) (by omega) (by omega)]) (by rw [group k acc _ (by omega) HA.out]) (by omega), rfl⟩
        · have c1 : 128 ≤ (s[a + k].toNat : Int) := by assumption
          have eu : uv 0 0 (from_ s a) = uv (k + 1) (acc + pw k * (s[a + k].toNat % 128)) (from_ s (a + (k + 1))) := by
            rw [HU.out, from_cons s _ hlt, uv_more _ acc _ _ (by omega) (by omega)]; rfl
          go_roundw
          case rel => exact ⟨k + 1, acc + pw k * (s[a + k].toNat % 128), trivial, by omega, by omega, by go_num, by go_num, by rw [group k acc _ (by omega) HA.out], acc_next acc k _ HA.out, eu⟩
          case measure => simp [intOf]; omega
      · obtain rfl : k = 9 := by omega
        have HUN : Hid (uv 0 0 (from_ s a) = none) := by show _ = _; rw [HU.out, uv_nine]
        go_wp2
        go_ret3
        exact ⟨ret3_none HUN.out, rfl⟩
    · have HUN : Hid (uv 0 0 (from_ s a) = none) := by show _ = _; rw [HU.out, from_end s _ (by omega), uv_nil]
      go_wp2
      go_ret3
      exact ⟨ret3_none HUN.out, rfl⟩
theorem unvarint_in (s : ByteArray) (a : Nat) (w : World) (ha : a ≤ s.size) (hs : s.size ≤ 140737488355328) :
    Calls Tryz.prog 67 #[.string s, .int .i64 a] w fun e w' => e = .returned (three a (uv 0 0 (from_ s a))) ∧ Below w.heap.size w w' :=
  (unvarint_same s a w ha hs).mono fun e w' h => ⟨h.1, by rw [h.2]; exact Below.refl _ _⟩
set_option maxRecDepth 100000 in
set_option maxHeartbeats 400000 in
theorem unvarint_out (s : ByteArray) (a : Int) (w : World) (ha : a < 0 ∨ s.size < a) (hs : s.size ≤ 140737488355328) :
    Calls Tryz.prog 67 #[.string s, .int .i64 a] w fun e w' => e = .returned (.tuple #[.int .i64 0, .int .i64 0, .int .i64 3]) ∧ Below w.heap.size w w' := by
  rcases ha with ha | ha
  all_goals
    go_enter Tryz.func67, Tryz.ntmps67
    go_wp2
    go_ret3
    exact ⟨rfl, Below.refl _ _⟩
end Go.Proofs.YtkaminplfnejhaaGreatDoor.wireVarints
