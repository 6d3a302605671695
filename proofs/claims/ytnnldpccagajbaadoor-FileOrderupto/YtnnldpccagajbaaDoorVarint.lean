import Derived.Test.YtnnldpccagajbaaDoorRefVar
namespace Go.Proofs.YtnnldpccagajbaaDoor.wireVarints
open Go.ChangeShapes Go.WideShapes Go.ChangeAt Go.RowKit
set_option linter.unusedVariables false
theorem or128 (x : Int) (h0 : 0 ≤ x) (h1 : x < 256) : bits .or .u8 x 128 = x % 128 + 128 := by
  have key : ∀ y : Fin 256, (y.val ||| 128) = y.val % 128 + 128 := by decide +kernel
  rw [u8_or x 128 h0 h1 (by decide) (by decide)]
  have := key ⟨x.toNat, by omega⟩
  simp only at this
  show ((x.toNat ||| 128 : Nat) : Int) = _
  rw [this]; omega
theorem ret_strint {a b : ByteArray} {n : Int} (h : a = b) : Ending.returned (.tuple #[.string a, .int .i64 n]) = .returned (.tuple #[.string b, .int .i64 n]) := by rw [h]
theorem str_congr {a b : List UInt8} (h : a = b) : str a = str b := by rw [h]
set_option maxRecDepth 100000 in
set_option maxHeartbeats 400000 in
theorem varint_neg (n : Int) (w : World) (hn : n < 0) :
    Calls Tryd.prog 67 #[.int .i64 n] w fun e w' => e = .returned (.tuple #[.string (str []), .int .i64 3]) ∧ w' = w := by
  go_enter Tryd.func67, Tryd.ntmps67
  go_wp2
  go_ret2
  exact ⟨rfl, rfl⟩
set_option maxRecDepth 100000 in
set_option maxHeartbeats 400000 in
theorem varint_any (n : Nat) (w : World) (hn : n < 9223372036854775808) :
    Calls Tryd.prog 67 #[.int .i64 n] w fun e w' => e = .returned (.tuple #[.string (str (vb n)), .int .i64 0]) ∧ Below w.heap.size w w' := by
  obtain ⟨i0, hi, hz0, hz1, hz2⟩ := info_parts info5
  go_enter Tryd.func67, Tryd.ntmps67
  go_wp2
  go_loopw [0, 4] (fun v o wr => ∃ (m : Nat) (l : List UInt8), m < 9223372036854775808 ∧ v = .int .i64 m ∧ Hid (l ++ vb m = vb n) ∧ wr.ownsRow w.heap.size 5 1 o l.length (bs l) ∧ Below w.heap.size w wr) (fun v _ _ => (intOf v).toNat)
  case atStart => exact ⟨n, [], hn, rfl, rfl, World.ownsRow_nil _ _ _ _, Below.refl _ _⟩
  case round =>
    obtain ⟨m, l, hm, rfl, HL, hown, hb⟩ := hrel
    have hzl : l.length ≤ 9 := by
      have h9 := vb_length9 n hn
      rw [← HL.out] at h9
      simp at h9
      omega
    by_cases hlt : m < 128
    · go_wp2_with (at_builtin; refine wpList_append_own _ rfl _ _ 54 rfl w.heap.size 5 i0 (.int .u8 0) 1 1 Tryd.underlying54 hi hz0 hz1 hz2 rfl (by decide) _ _ _ rfl (hown.alloc _) ⟨wr.heap.size, 0, none⟩ 1 1 [.int .u8 (m : Int)] rfl rfl ?c1 ?c2 ?c3 ?c4 ?c5 ?_)
      case c1 =>
        intro j u hj
        match j, hj with
        | 0, hj => simp at hj; subst hj; simp [Addr.add]
      case c2 => intro u hu; simp at hu; subst hu; rfl
      case c3 => unfold maxLen; omega
      case c4 => omega
      case c5 => have := hb.size; simp; omega
      intro v' w1 hown' hg _
      have hb1 : Below w.heap.size w w1 := grown_own hb hown hg
      have hown2 : w1.ownsRow w.heap.size 5 1 v' (l.length + 1) (bs (l ++ [UInt8.ofNat m])) := by
        rw [← bs_snoc, ofNat_toNat _ (by omega)]; exact hown'
      have hcv := own_string hown2
      clear hown' hg hown2 hown
      go_wp2
      go_ret2
      exact ⟨ret_strint (by rw [← HL.out, vb_small m hlt]), hb1⟩
    · have hl : l ++ [UInt8.ofNat (m % 128 + 128)] ++ vb (m / 128) = vb n := by rw [← HL.out, vb_great m (by omega)]; simp
      have HL2 : Hid (l ++ [UInt8.ofNat (m % 128 + 128)] ++ vb (m / 128) = vb n) := hl
      clear hl
      go_wp2_with (at_builtin; refine wpList_append_own _ rfl _ _ 54 rfl w.heap.size 5 i0 (.int .u8 0) 1 1 Tryd.underlying54 hi hz0 hz1 hz2 rfl (by decide) _ _ _ rfl (hown.alloc _) ⟨wr.heap.size, 0, none⟩ 1 1 [.int .u8 (bits .or .u8 ((m : Int) % 256) 128)] rfl rfl ?c1 ?c2 ?c3 ?c4 ?c5 ?_)
      case c1 =>
        intro j u hj
        match j, hj with
        | 0, hj => simp at hj; subst hj; simp [Addr.add]
      case c2 => intro u hu; simp at hu; subst hu; rfl
      case c3 => unfold maxLen; omega
      case c4 => omega
      case c5 => have := hb.size; simp; omega
      intro v' w1 hown' hg _
      have hb1 : Below w.heap.size w w1 := grown_own hb hown hg
      have hown2 : w1.ownsRow w.heap.size 5 1 v' (l ++ [UInt8.ofNat (m % 128 + 128)]).length (bs (l ++ [UInt8.ofNat (m % 128 + 128)])) := by
        rw [← bs_snoc, ofNat_toNat _ (by omega), List.length_append]
        rw [or128 _ (by omega) (by omega), show (m : Int) % 256 % 128 + 128 = ((m % 128 + 128 : Nat) : Int) from by omega] at hown'
        exact hown'
      clear hown' hg hown
      go_wp2
      go_roundw
      case rel => exact ⟨m / 128, _, by omega, by go_num, HL2, hown2, hb1⟩
      case measure => simp [intOf]; omega
end Go.Proofs.YtnnldpccagajbaaDoor.wireVarints
