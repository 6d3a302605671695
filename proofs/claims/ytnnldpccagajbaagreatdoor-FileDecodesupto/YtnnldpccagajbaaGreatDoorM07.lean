import Derived.Test.YtnnldpccagajbaaGreatDoorM01
import Derived.Test.YtnnldpccagajbaaGreatDoorM06
/-
  The document's sum, walked.
-/
namespace Go.Proofs.YtnnldpccagajbaaGreatDoor
open Go.ChangeShapes Go.WideShapes Go.ChangeAt Go.RowKit
set_option linter.unusedVariables false
theorem xor_turn (y : Nat) (hy : y < 4294967296) : bits .xor .i64 ((y : Int) / 2) 3988292384 = ((y / 2 ^^^ 3988292384 : Nat) : Int) := by
  rw [show (y : Int) / 2 = ((y / 2 : Nat) : Int) from by omega, show (3988292384 : Int) = ((3988292384 : Nat) : Int) from rfl, Crc.xor64 _ _ (by omega) (by omega)]
theorem xor_all (y : Nat) (hy : y < 4294967296) : bits .xor .i64 (y : Int) 4294967295 = ((y ^^^ 4294967295 : Nat) : Int) := by
  rw [show (4294967295 : Int) = ((4294967295 : Nat) : Int) from rfl, Crc.xor64 _ _ (by omega) (by omega)]
theorem take_snoc (s : ByteArray) (k : Nat) (h : k < s.size) : s.data.toList.take (k + 1) = s.data.toList.take k ++ [s[k]] := by
  rw [List.take_succ_eq_append_getElem (by simpa using h)]; rfl
theorem ofNat_mod (n : Nat) : UInt8.ofNat (n % 256) = UInt8.ofNat n := by apply UInt8.toNat_inj.1; simp
theorem four_mod (n : Nat) : [UInt8.ofNat (n % 256), UInt8.ofNat (n / 256 % 256), UInt8.ofNat (n / 65536 % 256), UInt8.ofNat (n / 16777216)] = Crc.four n := by
  unfold Crc.four; rw [ofNat_mod, ofNat_mod, ofNat_mod]
theorem four_lit (W : World) (a b c d : Int) : Sem.run Tryz.prog (convert 65 9 (.slice (some ⟨W.heap.size, 0, none⟩) 4 4)) (W.alloc (.cells #[.int .u8 a, .int .u8 b, .int .u8 c, .int .u8 d] 5)) = .ok (.string (str [UInt8.ofNat a.toNat, UInt8.ofNat b.toNat, UInt8.ofNat c.toNat, UInt8.ofNat d.toNat])) (W.alloc (.cells #[.int .u8 a, .int .u8 b, .int .u8 c, .int .u8 d] 5)) :=
  lit_string W [a, b, c, d]
set_option maxRecDepth 100000 in
set_option maxHeartbeats 1000000 in
theorem rsum_any (s : ByteArray) (w : World) (hs : s.size ≤ 140737488355328) :
    Calls Tryz.prog 20 #[.string s] w fun e w' => e = .returned (.string (str (Crc.sum s.data.toList))) ∧ Below w.heap.size w w' := by
  go_enter Tryz.func20, Tryz.ntmps20
  go_wp2
  go_loop [3, 4] (fun x i => ∃ j y : Nat, j ≤ s.size ∧ i = .int .i64 j ∧ x = .int .i64 y ∧ y < 4294967296 ∧ Hid (y = Crc.crc Crc.start ((s.data.toList.take j).map UInt8.toNat))) (fun _ i => s.size - (intOf i).toNat)
  case atStart => exact ⟨0, 4294967295, by omega, rfl, rfl, by omega, rfl⟩
  case round =>
    obtain ⟨j, y, hj, rfl, rfl, hy, HY⟩ := hrel
    by_cases hlt : j < s.size
    · have hc := byte_le s[j]
      have hx : y ^^^ s[j].toNat < 4294967296 := Nat.xor_lt_two_pow (n := 32) hy (by have := s[j].toNat_lt; omega)
      have HN : Hid (Crc.halves 8 (y ^^^ s[j].toNat) = Crc.crc Crc.start ((s.data.toList.take (j + 1)).map UInt8.toNat)) := by
        show _ = _
        rw [take_snoc s j hlt, List.map_append, List.map_cons, List.map_nil, Crc.crc_snoc, ← HY.out]
      go_wp2
      go_loop [3, 5] (fun x k => ∃ m z : Nat, m ≤ 8 ∧ k = .int .i64 m ∧ x = .int .i64 z ∧ z < 4294967296 ∧ Hid (z = Crc.halves m (y ^^^ s[j].toNat))) (fun _ k => 8 - (intOf k).toNat)
      case atStart => exact ⟨0, y ^^^ s[j].toNat, by omega, rfl, by rw [Crc.xor64 _ _ (by omega) (by have := s[j].toNat_lt; omega)], hx, rfl⟩
      case round =>
        obtain ⟨m, z, hm, rfl, rfl, hz, HZ⟩ := hrel
        by_cases hm8 : m < 8
        · go_wp2
          · have hodd : ((z : Int) % 2 == 1) = true := by assumption
            have hz1 : z % 2 = 1 := by simp at hodd; omega
            have hh : Crc.halve z = z / 2 ^^^ 3988292384 := by unfold Crc.halve; rw [if_pos hz1]
            go_round
            case rel => exact ⟨m + 1, Crc.halve z, by omega, by go_num, by rw [xor_turn z hz, hh], Crc.halve_lt z hz, by show _ = _; rw [Crc.halves_succ, ← HZ.out]⟩
            case measure => simp [intOf]; omega
          · have hev : ((z : Int) % 2 == 1) = false := by assumption
            have hz1 : ¬ z % 2 = 1 := by simp at hev; omega
            have hh : Crc.halve z = z / 2 := by unfold Crc.halve; rw [if_neg hz1, Nat.xor_zero]
            go_round
            case rel => exact ⟨m + 1, Crc.halve z, by omega, by go_num, by rw [hh]; go_num, Crc.halve_lt z hz, by show _ = _; rw [Crc.halves_succ, ← HZ.out]⟩
            case measure => simp [intOf]; omega
        · obtain rfl : m = 8 := by omega
          go_wp2
          go_round
          case rel => exact ⟨j + 1, z, by omega, by go_num, rfl, hz, by show _ = _; rw [HZ.out, HN.out]⟩
          case measure => simp [intOf]; omega
    · have hje : j = s.size := by omega
      have hsum : Crc.num s.data.toList = y ^^^ 4294967295 := by
        unfold Crc.num
        rw [HY.out, hje, List.take_of_length_le (by simp)]; rfl
      have HS : Hid (Crc.num s.data.toList = y ^^^ 4294967295) := hsum
      clear hsum
      have hn := xor_all y hy
      have hl : y ^^^ 4294967295 < 4294967296 := Nat.xor_lt_two_pow (n := 32) hy (by omega)
      have kb := four_lit
      go_wp2
      go_ret
      refine ⟨ret_str ?_, (Below.refl _ _).alloc (Nat.le_refl _) _⟩
      rw [Crc.sum, HS.out, four_mod]
end Go.Proofs.YtnnldpccagajbaaGreatDoor

/-
  'turned': a text of which some of 32 bits side by side are turned.
-/
namespace Go.Proofs.YtnnldpccagajbaaGreatDoor
open Go.ChangeShapes Go.WideShapes Go.ChangeAt Go.RowKit
set_option linter.unusedVariables false
set_option maxRecDepth 100000 in
set_option maxHeartbeats 1000000 in
theorem turned_far (s : ByteArray) (f mask : Int) (w : World) (hs : s.size ≤ 140737488351232) (hf1 : -9223372036854775808 ≤ f) (hf2 : f ≤ 9223372036854775807) (hf : f < 0 ∨ 8 * (s.size : Int) < f) :
    Calls Tryz.prog 16 #[.string s, .int .i64 f, .int .i64 mask] w fun e w' => e = .returned (.string s) ∧ Below w.heap.size w w' := by
  obtain ⟨cap, w1, hrun, hrow, hb, hcap⟩ := bytes_of w s
  have hback := row_string hrow cap
  rw [str_data] at hback
  have hlen : s.data.toList.length = s.size := by simp
  rw [hlen] at hback
  clear hrow hlen
  rcases hf with hf | hf
  all_goals
    go_enter Tryz.func16, Tryz.ntmps16
    go_wp2
    go_loop [8] (fun i => ∃ m : Nat, m ≤ 32 ∧ i = .int .i64 m) (fun i => 32 - (intOf i).toNat)
    case atStart => exact ⟨0, by omega, rfl⟩
    case round =>
      obtain ⟨m, hm, rfl⟩ := hrel
      by_cases hlt : m < 32
      · go_wp2
        go_round
        case rel => exact ⟨m + 1, by omega, by go_num⟩
        case measure => simp [intOf]; omega
      · go_wp2
        go_ret
        exact ⟨rfl, hb⟩
/-- what turning bits from a place on leaves -/
def Near (s l : List UInt8) (f m : Nat) : Prop := l.length = s.length ∧ ∃ M : Nat, M < 2 ^ m ∧ Crc.leN (s.map UInt8.toNat) ^^^ Crc.leN (l.map UInt8.toNat) = M * 2 ^ f
theorem Near.keep {s l : List UInt8} {f m : Nat} (h : Near s l f m) : Near s l f (m + 1) := by
  obtain ⟨h1, M, h2, h3⟩ := h
  exact ⟨h1, M, Nat.lt_of_lt_of_le h2 (Nat.pow_le_pow_right (by decide) (Nat.le_succ m)), h3⟩
theorem pow8 (r : Nat) (h : r < 8) : 2 ^ r < 256 := by
  have : 2 ^ r ≤ 2 ^ 7 := Nat.pow_le_pow_right (by decide) (by omega)
  omega
theorem flip_lt (c : UInt8) (r : Nat) (h : r < 8) : c.toNat ^^^ 2 ^ r < 256 := Nat.xor_lt_two_pow (n := 8) c.toNat_lt (pow8 r h)
/-- a byte with a bit turned -/
def flip (c : UInt8) (r : Nat) : UInt8 := UInt8.ofNat (c.toNat ^^^ 2 ^ r)
theorem flip_toNat (c : UInt8) (r : Nat) (h : r < 8) : (flip c r).toNat = c.toNat ^^^ 2 ^ r := by
  have := flip_lt c r h
  unfold flip; rw [UInt8.toNat_ofNat', Nat.mod_eq_of_lt this]
theorem flip_val (c : UInt8) (r : Nat) (h : r < 8) : bits .xor .i64 (c.toNat : Int) (wrap64 (2 ^ r)) % 256 = ((flip c r).toNat : Int) := by
  have hp := pow8 r h
  have hc := c.toNat_lt
  have hl := flip_lt c r h
  have e : (2 : Int) ^ r = ((2 ^ r : Nat) : Int) := by push_cast; rfl
  rw [flip_toNat c r h, e]
  generalize 2 ^ r = q at *
  rw [show wrap64 (q : Int) = (q : Int) from by unfold wrap64; omega, Crc.xor64 _ _ (by omega) (by omega)]
  omega
theorem Near.turn {s l : List UInt8} {f m : Nat} {c : UInt8} (h : Near s l f m) (hc : l[(f + m) / 8]? = some c) : Near s (l.set ((f + m) / 8) (flip c ((f + m) % 8))) f (m + 1) := by
  obtain ⟨h1, M, h2, h3⟩ := h
  refine ⟨by simpa using h1, M ^^^ 2 ^ m, Nat.xor_lt_two_pow (Nat.lt_of_lt_of_le h2 (Nat.pow_le_pow_right (by decide) (Nat.le_succ m))) (Nat.pow_lt_pow_right (by decide) (Nat.lt_succ_self m)), ?_⟩
  rw [List.map_set, flip_toNat c _ (Nat.mod_lt _ (by decide)), Crc.leN_set _ _ _ c.toNat (by simp [hc]), ← Nat.xor_assoc, h3, Nat.div_add_mod, Crc.xor_mul_pow, ← Nat.pow_add, Nat.add_comm m f]
theorem Row8.set {w : World} {g : Nat} {l : List UInt8} (h : Row8 w g l) (j : Nat) (d : UInt8) {v : Value} (hv : v = .int .u8 (d.toNat : Int)) (hj : j < l.length) : Row8 (w.setCell ⟨g, j, none⟩ v) g (l.set j d) := by
  subst hv
  intro i c hc
  have hjc := (h j l[j] (by simp [hj])).1
  by_cases e : i = j
  · subst e
    rw [List.getElem?_set_self hj] at hc
    cases hc
    exact ⟨World.cell?_setCell_same _ _ _ hjc, by rw [World.frozen?_setCell]; exact (h i l[i] (by simp [hj])).2⟩
  · rw [List.getElem?_set_ne (fun x => e x.symm)] at hc
    exact ⟨by rw [World.cell?_setCell_other _ _ _ _ (by simp only [ne_eq, Addr.mk.injEq, true_and, and_true]; exact fun x => e x.symm)]; exact (h i c hc).1, by rw [World.frozen?_setCell]; exact (h i c hc).2⟩
theorem Row8.drew {w : World} {g : Nat} {l : List UInt8} (h : Row8 w g l) : Row8 w.drew g l := fun i c hc => h i c hc
set_option maxRecDepth 100000 in
set_option maxHeartbeats 1000000 in
theorem turned_near (s : ByteArray) (f : Nat) (mask : Int) (w : World) (hs : s.size ≤ 140737488351232) (hf : f ≤ 8 * s.size) (hm1 : -9223372036854775808 ≤ mask) (hm2 : mask ≤ 9223372036854775807) :
    Calls Tryz.prog 16 #[.string s, .int .i64 f, .int .i64 mask] w fun e w' => (∃ l, e = .returned (.string (str l)) ∧ Near s.data.toList l f 32) ∧ Below w.heap.size w w' := by
  obtain ⟨cap, w1, hrun, hrow, hb, hcap⟩ := bytes_of w s
  have HR : Hid (Row8 w1 w.heap.size s.data.toList) := hrow
  clear hrow
  go_enter Tryz.func16, Tryz.ntmps16
  go_wp2
  go_loopw [8] (fun i wr => ∃ (m : Nat) (l : List UInt8), m ≤ 32 ∧ i = .int .i64 m ∧ Hid (Row8 wr w.heap.size l) ∧ Below w.heap.size w wr ∧ Hid (Near s.data.toList l f m)) (fun i _ => 32 - (intOf i).toNat)
  case atStart => exact ⟨0, s.data.toList, by omega, rfl, HR, hb, ⟨rfl, 0, by decide, by simp⟩⟩
  case round =>
    obtain ⟨m, l, hm, rfl, HRl, hbl, HN⟩ := hrel
    by_cases hlt : m < 32
    · by_cases hk : f + m < 8 * s.size
      · have hidx : (f + m) / 8 < s.size := by omega
        have hlen : l.length = s.size := by have := HN.out.1; simpa using this
        have hli : (f + m) / 8 < l.length := by omega
        obtain ⟨hcell, hfr⟩ := HRl.out ((f + m) / 8) l[(f + m) / 8] (by simp [hli])
        generalize hc0 : l[(f + m) / 8] = c at hcell
        have HC0 : Hid (l[(f + m) / 8]? = some c) := by show _ = _; rw [← hc0]; simp [hli]
        clear hc0
        have hc := byte_le c
        clear hlen
        go_wp2
        · go_region
          all_goals go_wp2
          all_goals go_roundw
          case rel => exact ⟨m + 1, l.set ((f + m) / 8) (flip c ((f + m) % 8)), by omega, by go_num, (HRl.out.set _ _ (by rw [flip_val c _ (Nat.mod_lt _ (by decide))]) hli).drew, (hbl.setCell (p := ⟨w.heap.size, (f + m) / 8, none⟩) (Nat.le_refl _) _).drew, HN.out.turn HC0.out⟩
          case measure => simp [intOf]; omega
        · go_roundw
          case rel => exact ⟨m + 1, l, by omega, by go_num, HRl, hbl, HN.out.keep⟩
          case measure => simp [intOf]; omega
      · go_wp2
        go_roundw
        case rel => exact ⟨m + 1, l, by omega, by go_num, HRl, hbl, HN.out.keep⟩
        case measure => simp [intOf]; omega
    · obtain rfl : m = 32 := by omega
      have hlen : l.length = s.size := by have := HN.out.1; simpa using this
      have hback := row_string HRl.out cap
      rw [hlen] at hback
      clear hlen
      go_wp2
      go_ret
      exact ⟨⟨l, rfl, HN.out⟩, hbl⟩
end Go.Proofs.YtnnldpccagajbaaGreatDoor
