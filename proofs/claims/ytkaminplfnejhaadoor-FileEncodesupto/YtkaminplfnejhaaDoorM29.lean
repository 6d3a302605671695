import Derived.Test.YtkaminplfnejhaaDoorM23
import Derived.Test.YtkaminplfnejhaaDoorM25
namespace Go.Proofs.YtkaminplfnejhaaDoor.wireVarints
open Go.ChangeShapes Go.WideShapes Go.ChangeAt Go.RowKit
set_option linter.unusedVariables false
theorem or128 (x : Int) (h0 : 0 ≤ x) (h1 : x < 256) : bits .or .u8 x 128 = x % 128 + 128 := by
  have key : ∀ y : Fin 256, (y.val ||| 128) = y.val % 128 + 128 := by decide +kernel
  rw [u8_or x 128 h0 h1 (by decide) (by decide)]
  have := key ⟨x.toNat, by omega⟩
  simp only at this
  show ((x.toNat ||| 128 : Nat) : Int) = _
  rw [this]; omega
theorem ret_strint {a b : ByteArray} {n : Int} (h : a = b) : Ending.returned (.tuple #[.string a, .int .i64 n]) = .returned (.tuple #[.string b, .int .i64 n]) := by rw [h]
theorem str_congr {a b : List UInt8} (h : a = b) : str a = str b := by rw [h]
set_option maxRecDepth 100000 in
set_option maxHeartbeats 400000 in
theorem varint_neg (n : Int) (w : World) (hn : n < 0) :
    Calls Tryd.prog 70 #[.int .i64 n] w fun e w' => e = .returned (.tuple #[.string (str []), .int .i64 3]) ∧ w' = w := by
  go_enter Tryd.func70, Tryd.ntmps70
  go_wp2
  go_ret2
  exact ⟨rfl, rfl⟩
set_option maxRecDepth 100000 in
set_option maxHeartbeats 400000 in
theorem varint_any (n : Nat) (w : World) (hn : n < 9223372036854775808) :
    Calls Tryd.prog 70 #[.int .i64 n] w fun e w' => e = .returned (.tuple #[.string (str (vb n)), .int .i64 0]) ∧ Below w.heap.size w w' := by
  obtain ⟨i0, hi, hz0, hz1, hz2⟩ := info_parts info5
  go_enter Tryd.func70, Tryd.ntmps70
  go_wp2
  go_loopw [0, 4] (fun v o wr => ∃ (m : Nat) (l : List UInt8), m < 9223372036854775808 ∧ v = .int .i64 m ∧ Hid (l ++ vb m = vb n) ∧ wr.ownsRow w.heap.size 5 1 o l.length (bs l) ∧ Below w.heap.size w wr) (fun v _ _ => (intOf v).toNat)
  case atStart => exact ⟨n, [], hn, rfl, rfl, World.ownsRow_nil _ _ _ _, Below.refl _ _⟩
  case round =>
    obtain ⟨m, l, hm, rfl, HL, hown, hb⟩ := hrel
    have hzl : l.length ≤ 9 := by
      have h9 := vb_length9 n hn
      rw [← HL.out] at h9
      simp at h9
      omega
    by_cases hlt : m < 128
    · go_wp2_with (at_builtin; refine wpList_append_own _ rfl _ _ 42 rfl w.heap.size 5 i0 (.int .u8 0) 1 1 Tryd.underlying42 hi hz0 hz1 hz2 rfl (by decide) _ _ _ rfl (hown.alloc _) ⟨wr.heap.size, 0, none⟩ 1 1 [.int .u8 (m : Int)] rfl rfl ?c1 ?c2 ?c3 ?c4 ?c5 ?_)
      case c1 =>
        intro j u hj
        match j, hj with
        | 0, hj => simp at hj; subst hj; simp [Addr.add]
      case c2 => intro u hu; simp at hu; subst hu; rfl
      case c3 => unfold maxLen; omega
      case c4 => omega
      case c5 => have := hb.size; simp; omega
      intro v' w1 hown' hg _
      have hb1 : Below w.heap.size w w1 := grown_own hb hown hg
      have hown2 : w1.ownsRow w.heap.size 5 1 v' (l.length + 1) (bs (l ++ [UInt8.ofNat m])) := by
        rw [← bs_snoc, ofNat_toNat _ (by omega)]; exact hown'
      have hcv := own_string hown2
      clear hown' hg hown2 hown
      go_wp2
      go_ret2
      exact ⟨ret_strint (by rw [← HL.out, vb_small m hlt]), hb1⟩
    · have hl : l ++ [UInt8.ofNat (m % 128 + 128)] ++ vb (m / 128) = vb n := by rw [← HL.out, vb_great m (by omega)]; simp
      have HL2 : Hid (l ++ [UInt8.ofNat (m % 128 + 128)] ++ vb (m / 128) = vb n) := hl
      clear hl
      go_wp2_with (at_builtin; refine wpList_append_own _ rfl _ _ 42 rfl w.heap.size 5 i0 (.int .u8 0) 1 1 Tryd.underlying42 hi hz0 hz1 hz2 rfl (by decide) _ _ _ rfl (hown.alloc _) ⟨wr.heap.size, 0, none⟩ 1 1 [.int .u8 (bits .or .u8 ((m : Int) % 256) 128)] rfl rfl ?c1 ?c2 ?c3 ?c4 ?c5 ?_)
      case c1 =>
        intro j u hj
        match j, hj with
        | 0, hj => simp at hj; subst hj; simp [Addr.add]
      case c2 => intro u hu; simp at hu; subst hu; rfl
      case c3 => unfold maxLen; omega
      case c4 => omega
      case c5 => have := hb.size; simp; omega
      intro v' w1 hown' hg _
      have hb1 : Below w.heap.size w w1 := grown_own hb hown hg
      have hown2 : w1.ownsRow w.heap.size 5 1 v' (l ++ [UInt8.ofNat (m % 128 + 128)]).length (bs (l ++ [UInt8.ofNat (m % 128 + 128)])) := by
        rw [← bs_snoc, ofNat_toNat _ (by omega), List.length_append]
        rw [or128 _ (by omega) (by omega), show (m : Int) % 256 % 128 + 128 = ((m % 128 + 128 : Nat) : Int) from by omega] at hown'
        exact hown'
      clear hown' hg hown
      go_wp2
      go_roundw
      case rel => exact ⟨m / 128, _, by omega, by go_num, HL2, hown2, hb1⟩
      case measure => simp [intOf]; omega
end Go.Proofs.YtkaminplfnejhaaDoor.wireVarints

/-
  The program's stream.Writer, walked.
-/
namespace Go.Proofs.YtkaminplfnejhaaDoor
open Go.ChangeShapes Go.WideShapes Go.ChangeAt Go.RowKit
open wireVarints (varint_any)
set_option linter.unusedVariables false
theorem own_shape {w : World} {base : Nat} {e : TypeId} {size : Nat} {v : Value} {n : Nat} {xs : List Value} (h : w.ownsRow base e size v n xs) : ∃ a c, v = .slice a n c := by
  rcases h.2 with ⟨rfl, h0⟩ | ⟨g, cap, cur, rfl, _⟩
  · exact ⟨none, 0, by rw [h0]⟩
  · exact ⟨_, cap, rfl⟩
/-- a writer at block b, that has these bytes -/
structure Wr (w : World) (b : Nat) (l : List UInt8) : Prop where
  lt : b < w.heap.size
  fz : w.frozen? ⟨b, 0, none⟩ = false
  row : ∃ v, w.cell? ⟨b, 0, none⟩ = some v ∧ w.ownsRow (b + 1) 5 1 v l.length (bs l)
theorem Wr.new (w : World) (b : Nat) (hb : b = w.heap.size) : Wr (w.alloc (.cells #[.slice none 0 0] 62)) b [] := by
  subst hb
  exact ⟨by simp, World.frozen?_alloc_at _ _ _ _ rfl, _, by simp, World.ownsRow_nil _ _ _ _⟩
theorem Wr.kept {w w' : World} {b : Nat} {l : List UInt8} (h : Wr w b l) (hb : Below w.heap.size w w') : Wr w' b l := by
  obtain ⟨h1, h2, v, h3, h4⟩ := h
  exact ⟨Nat.lt_of_lt_of_le h1 hb.size, by rw [hb.frozen (p := ⟨b, 0, none⟩) h1]; exact h2, v, by rw [hb.cell (p := ⟨b, 0, none⟩) h1]; exact h3, own_kept h4 hb⟩
theorem app_size (l : List UInt8) (s : ByteArray) : (l ++ s.data.toList).length = l.length + s.size := by simp
theorem setCell_size (w : World) (a : Addr) (u : Value) : (w.setCell a u).heap.size = w.heap.size := by simp [World.setCell]
set_option maxRecDepth 100000 in
set_option maxHeartbeats 1000000 in
theorem wtext_any (b : Nat) (l : List UInt8) (s : ByteArray) (w : World) (h : Wr w b l) (hz : l.length + s.size ≤ 70368744177664) :
    Calls Tryd.prog 30 #[.pointer (some ⟨b, 0, none⟩), .string s] w fun e w' => e = .returned (.tuple #[]) ∧ Wr w' b (l ++ s.data.toList) ∧ Below b w w' := by
  obtain ⟨i0, hi, hz0, hz1, hz2⟩ := info_parts info5
  obtain ⟨h1, h2, v, h3, h4⟩ := h
  go_enter Tryd.func30, Tryd.ntmps30
  go_wp2_with (at_builtin; refine Lib.wpList_append_own_string _ rfl _ _ 42 9 rfl (b + 1) 5 i0 Tryd.underlying42 Tryd.underlying9 hi hz0 hz1 hz2 _ _ _ rfl h4 s rfl ?c3 ?c4 ?c5 ?_)
  case c3 => unfold maxLen; omega
  case c4 => omega
  case c5 => exact h1
  intro v' w1 hown hg _
  have hne : some b ≠ v.ownBlock := fun e => by have := (h4.lt b e.symm).1; omega
  have e1 : w1.cell? ⟨b, 0, none⟩ = some v := by rw [World.cell?_of_block (w := w) (hg.block b h1 hne)]; exact h3
  have e2 : w1.frozen? ⟨b, 0, none⟩ = false := by rw [World.frozen?_of_block (w := w) (hg.block b h1 hne)]; exact h2
  have hbl : Below b w w1 := (Below.refl b w).grown hg (Nat.le_of_lt h1) (fun k hk => by have := (h4.lt k hk).1; omega)
  have hown' := own_app hown (str_data s).symm
  rw [app_size] at hown'
  have hsz : b < w1.heap.size := Nat.lt_of_lt_of_le h1 hg.size
  have HO : Hid (w1.ownsRow (b + 1) 5 1 v' (l.length + s.size) (bs (l ++ s.data.toList))) := hown'
  have HB : Hid (Below b w w1) := hbl
  obtain ⟨a', c', rfl⟩ := own_shape hown'
  clear hown hown' hbl hg
  go_wp2
  go_end0
  refine ⟨rfl, ⟨by rw [setCell_size]; exact hsz, by rw [World.frozen?_setCell]; exact e2, _, World.cell?_setCell_same _ _ _ e1, by rw [app_size]; exact ownsRow_setCell_below HO.out (Nat.lt_succ_self b) _⟩, HB.out.setCell (p := ⟨b, 0, none⟩) (Nat.le_refl b) _⟩
set_option maxRecDepth 100000 in
set_option maxHeartbeats 400000 in
theorem wnumber_any (b : Nat) (l : List UInt8) (n : Nat) (w : World) (h : Wr w b l) (hn : n < 9223372036854775808) (hz : l.length + 9 ≤ 70368744177664) :
    Calls Tryd.prog 55 #[.pointer (some ⟨b, 0, none⟩), .int .i64 n] w fun e w' => e = .returned (.tuple #[]) ∧ Wr w' b (l ++ vb n) ∧ Below b w w' := by
  have h9 := vb_length9 n hn
  go_enter Tryd.func55, Tryd.ntmps55
  go_wp2_with fail
  refine (varint_any n _ hn).mono ?_
  rintro e w1 ⟨rfl, hb1⟩
  have h1 := h.kept hb1
  have HB : Hid (Below b w w1) := hb1.mono (Nat.le_of_lt h.lt)
  clear hb1
  go_wp2_with fail
  refine (wtext_any b l (str (vb n)) _ h1 (by rw [str_size]; omega)).mono ?_
  rintro e w2 ⟨rfl, h2, hb2⟩
  rw [data_str] at h2
  go_wp2
  go_end0
  exact ⟨rfl, h2, HB.out.trans hb2⟩
theorem wnumber_at (b : Nat) (l : List UInt8) (z : Int) (w : World) (h : Wr w b l) (h0 : 0 ≤ z) (h1 : z < 9223372036854775808) (hz : l.length + 9 ≤ 70368744177664) :
    Calls Tryd.prog 55 #[.pointer (some ⟨b, 0, none⟩), .int .i64 z] w fun e w' => e = .returned (.tuple #[]) ∧ Wr w' b (l ++ vb z.toNat) ∧ Below b w w' := by
  obtain ⟨m, rfl⟩ := Int.eq_ofNat_of_zero_le h0
  exact wnumber_any b l m w h (by omega) hz
set_option maxRecDepth 100000 in
set_option maxHeartbeats 400000 in
theorem wcounted_any (b : Nat) (l : List UInt8) (s : ByteArray) (w : World) (h : Wr w b l) (hz : l.length + 9 + s.size ≤ 70368744177664) :
    Calls Tryd.prog 54 #[.pointer (some ⟨b, 0, none⟩), .string s] w fun e w' => e = .returned (.tuple #[]) ∧ Wr w' b (l ++ (vb s.size ++ s.data.toList)) ∧ Below b w w' := by
  have h9 := vb_length9 s.size (by omega)
  go_enter Tryd.func54, Tryd.ntmps54
  go_wp2_with fail
  refine (wnumber_any b l s.size _ h (by omega) (by omega)).mono ?_
  rintro e w1 ⟨rfl, h1, hb1⟩
  have HB : Hid (Below b w w1) := hb1
  clear hb1
  go_wp2_with fail
  refine (wtext_any b _ s _ h1 (by rw [List.length_append]; omega)).mono ?_
  rintro e w2 ⟨rfl, h2, hb2⟩
  rw [List.append_assoc] at h2
  go_wp2
  go_end0
  exact ⟨rfl, h2, HB.out.trans hb2⟩
set_option maxRecDepth 100000 in
set_option maxHeartbeats 400000 in
theorem written_any (b : Nat) (l : List UInt8) (w : World) (h : Wr w b l) :
    Calls Tryd.prog 34 #[.pointer (some ⟨b, 0, none⟩)] w fun e w' => e = .returned (.string (str l)) ∧ w = w' := by
  obtain ⟨h1, h2, v, h3, h4⟩ := h
  have hcv := own_string h4
  go_enter Tryd.func34, Tryd.ntmps34
  go_wp2
  go_ret
  exact ⟨rfl, rfl⟩
end Go.Proofs.YtkaminplfnejhaaDoor
