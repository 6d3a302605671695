import Derived.Test.YtkaminplfnejhaaDoorM01
import Derived.Test.YtkaminplfnejhaaDoorM15
import Derived.Test.YtkaminplfnejhaaDoorM22
/-
  'turned': a text of which some of 32 bits side by side are turned.
-/
namespace Go.Proofs.YtkaminplfnejhaaDoor
open Go.ChangeShapes Go.WideShapes Go.ChangeAt Go.RowKit
set_option linter.unusedVariables false
set_option maxRecDepth 100000 in
set_option maxHeartbeats 1000000 in
theorem turned_far (s : ByteArray) (f mask : Int) (w : World) (hs : s.size ≤ 140737488351232) (hf1 : -9223372036854775808 ≤ f) (hf2 : f ≤ 9223372036854775807) (hf : f < 0 ∨ 8 * (s.size : Int) < f) :
    Calls Tryd.prog 8 #[.string s, .int .i64 f, .int .i64 mask] w fun e w' => e = .returned (.string s) ∧ Below w.heap.size w w' := by
  obtain ⟨cap, w1, hrun, hrow, hb, hcap⟩ := bytes_of w s
  have hback := row_string hrow cap
  rw [str_data] at hback
  have hlen : s.data.toList.length = s.size := by simp
  rw [hlen] at hback
  clear hrow hlen
  rcases hf with hf | hf
  all_goals
    go_enter Tryd.func8, Tryd.ntmps8
    go_wp2
    go_loop [8] (fun i => ∃ m : Nat, m ≤ 32 ∧ i = .int .i64 m) (fun i => 32 - (intOf i).toNat)
    case atStart => exact ⟨0, by omega, rfl⟩
    case round =>
      obtain ⟨m, hm, rfl⟩ := hrel
      by_cases hlt : m < 32
      · go_wp2
        go_round
        case rel => exact ⟨m + 1, by omega, by go_num⟩
        case measure => simp [intOf]; omega
      · go_wp2
        go_ret
        exact ⟨rfl, hb⟩
/-- what turning bits from a place on leaves -/
def Near (s l : List UInt8) (f m : Nat) : Prop := l.length = s.length ∧ ∃ M : Nat, M < 2 ^ m ∧ Crc.leN (s.map UInt8.toNat) ^^^ Crc.leN (l.map UInt8.toNat) = M * 2 ^ f
theorem Near.keep {s l : List UInt8} {f m : Nat} (h : Near s l f m) : Near s l f (m + 1) := by
  obtain ⟨h1, M, h2, h3⟩ := h
  exact ⟨h1, M, Nat.lt_of_lt_of_le h2 (Nat.pow_le_pow_right (by decide) (Nat.le_succ m)), h3⟩
theorem pow8 (r : Nat) (h : r < 8) : 2 ^ r < 256 := by
  have : 2 ^ r ≤ 2 ^ 7 := Nat.pow_le_pow_right (by decide) (by omega)
  omega
theorem flip_lt (c : UInt8) (r : Nat) (h : r < 8) : c.toNat ^^^ 2 ^ r < 256 := Nat.xor_lt_two_pow (n := 8) c.toNat_lt (pow8 r h)
/-- a byte with a bit turned -/
def flip (c : UInt8) (r : Nat) : UInt8 := UInt8.ofNat (c.toNat ^^^ 2 ^ r)
theorem flip_toNat (c : UInt8) (r : Nat) (h : r < 8) : (flip c r).toNat = c.toNat ^^^ 2 ^ r := by
  have := flip_lt c r h
  unfold flip; rw [UInt8.toNat_ofNat', Nat.mod_eq_of_lt this]
theorem flip_val (c : UInt8) (r : Nat) (h : r < 8) : bits .xor .i64 (c.toNat : Int) (wrap64 (2 ^ r)) % 256 = ((flip c r).toNat : Int) := by
  have hp := pow8 r h
  have hc := c.toNat_lt
  have hl := flip_lt c r h
  have e : (2 : Int) ^ r = ((2 ^ r : Nat) : Int) := by push_cast; rfl
  rw [flip_toNat c r h, e]
  generalize 2 ^ r = q at *
  rw [show wrap64 (q : Int) = (q : Int) from by unfold wrap64; omega, Crc.xor64 _ _ (by omega) (by omega)]
  omega
theorem Near.turn {s l : List UInt8} {f m : Nat} {c : UInt8} (h : Near s l f m) (hc : l[(f + m) / 8]? = some c) : Near s (l.set ((f + m) / 8) (flip c ((f + m) % 8))) f (m + 1) := by
  obtain ⟨h1, M, h2, h3⟩ := h
  refine ⟨by simpa using h1, M ^^^ 2 ^ m, Nat.xor_lt_two_pow (Nat.lt_of_lt_of_le h2 (Nat.pow_le_pow_right (by decide) (Nat.le_succ m))) (Nat.pow_lt_pow_right (by decide) (Nat.lt_succ_self m)), ?_⟩
  rw [List.map_set, flip_toNat c _ (Nat.mod_lt _ (by decide)), Crc.leN_set _ _ _ c.toNat (by simp [hc]), ← Nat.xor_assoc, h3, Nat.div_add_mod, Crc.xor_mul_pow, ← Nat.pow_add, Nat.add_comm m f]
theorem Row8.set {w : World} {g : Nat} {l : List UInt8} (h : Row8 w g l) (j : Nat) (d : UInt8) {v : Value} (hv : v = .int .u8 (d.toNat : Int)) (hj : j < l.length) : Row8 (w.setCell ⟨g, j, none⟩ v) g (l.set j d) := by
  subst hv
  intro i c hc
  have hjc := (h j l[j] (by simp [hj])).1
  by_cases e : i = j
  · subst e
    rw [List.getElem?_set_self hj] at hc
    cases hc
    exact ⟨World.cell?_setCell_same _ _ _ hjc, by rw [World.frozen?_setCell]; exact (h i l[i] (by simp [hj])).2⟩
  · rw [List.getElem?_set_ne (fun x => e x.symm)] at hc
    exact ⟨by rw [World.cell?_setCell_other _ _ _ _ (by simp only [ne_eq, Addr.mk.injEq, true_and, and_true]; exact fun x => e x.symm)]; exact (h i c hc).1, by rw [World.frozen?_setCell]; exact (h i c hc).2⟩
theorem Row8.drew {w : World} {g : Nat} {l : List UInt8} (h : Row8 w g l) : Row8 w.drew g l := fun i c hc => h i c hc
set_option maxRecDepth 100000 in
set_option maxHeartbeats 1000000 in
theorem turned_near (s : ByteArray) (f : Nat) (mask : Int) (w : World) (hs : s.size ≤ 140737488351232) (hf : f ≤ 8 * s.size) (hm1 : -9223372036854775808 ≤ mask) (hm2 : mask ≤ 9223372036854775807) :
    Calls Tryd.prog 8 #[.string s, .int .i64 f, .int .i64 mask] w fun e w' => (∃ l, e = .returned (.string (str l)) ∧ Near s.data.toList l f 32) ∧ Below w.heap.size w w' := by
  obtain ⟨cap, w1, hrun, hrow, hb, hcap⟩ := bytes_of w s
  have HR : Hid (Row8 w1 w.heap.size s.data.toList) := hrow
  clear hrow
  go_enter Tryd.func8, Tryd.ntmps8
  go_wp2
  go_loopw [8] (fun i wr => ∃ (m : Nat) (l : List UInt8), m ≤ 32 ∧ i = .int .i64 m ∧ Hid (Row8 wr w.heap.size l) ∧ Below w.heap.size w wr ∧ Hid (Near s.data.toList l f m)) (fun i _ => 32 - (intOf i).toNat)
  case atStart => exact ⟨0, s.data.toList, by omega, rfl, HR, hb, ⟨rfl, 0, by decide, by simp⟩⟩
  case round =>
    obtain ⟨m, l, hm, rfl, HRl, hbl, HN⟩ := hrel
    by_cases hlt : m < 32
    · by_cases hk : f + m < 8 * s.size
      · have hidx : (f + m) / 8 < s.size := by omega
        have hlen : l.length = s.size := by have := HN.out.1; simpa using this
        have hli : (f + m) / 8 < l.length := by omega
        obtain ⟨hcell, hfr⟩ := HRl.out ((f + m) / 8) l[(f + m) / 8] (by simp [hli])
        generalize hc0 : l[(f + m) / 8] = c at hcell
        have HC0 : Hid (l[(f + m) / 8]? = some c) := by show _ = _; rw [← hc0]; simp [hli]
        clear hc0
        have hc := byte_le c
        clear hlen
        go_wp2
        · go_region
          all_goals go_wp2
          all_goals go_roundw
          case rel => exact ⟨m + 1, l.set ((f + m) / 8) (flip c ((f + m) % 8)), by omega, by go_num, (HRl.out.set _ _ (by rw [flip_val c _ (Nat.mod_lt _ (by decide))]) hli).drew, (hbl.setCell (p := ⟨w.heap.size, (f + m) / 8, none⟩) (Nat.le_refl _) _).drew, HN.out.turn HC0.out⟩
          case measure => simp [intOf]; omega
        · go_roundw
          case rel => exact ⟨m + 1, l, by omega, by go_num, HRl, hbl, HN.out.keep⟩
          case measure => simp [intOf]; omega
      · go_wp2
        go_roundw
        case rel => exact ⟨m + 1, l, by omega, by go_num, HRl, hbl, HN.out.keep⟩
        case measure => simp [intOf]; omega
    · obtain rfl : m = 32 := by omega
      have hlen : l.length = s.size := by have := HN.out.1; simpa using this
      have hback := row_string HRl.out cap
      rw [hlen] at hback
      clear hlen
      go_wp2
      go_ret
      exact ⟨⟨l, rfl, HN.out⟩, hbl⟩
end Go.Proofs.YtkaminplfnejhaaDoor

/-
  A3's two laws, out of a contract for the program's Sum. T: what of the world the contract leans on (a table at package level, if there is one).
-/
namespace Go.Proofs.YtkaminplfnejhaaDoor
open Go.ChangeShapes Go.WideShapes Go.ChangeAt Go.RowKit
set_option linter.unusedVariables false
/-- the program's Sum answers the document's; what it leans on stays where old memory stays -/
structure SumSaid (T : World → Prop) : Prop where
  kept : ∀ w w' : World, T w → Below w.heap.size w w' → T w'
  call : ∀ (s : ByteArray) (w : World), s.size ≤ 140737488355328 → T w → Calls Tryd.prog 6 #[.string s] w fun e w' => e = .returned (.string (str (Crc.sum s.data.toList))) ∧ Below w.heap.size w w'
set_option maxRecDepth 100000 in
set_option maxHeartbeats 1000000 in
theorem sums_walk {T : World → Prop} (hS : SumSaid T) (s : ByteArray) (w : World) (hs : s.size ≤ 140737488351232) (hT : T w) :
    Calls Tryd.prog 3 #[.string s] w fun e w' => e = .returned (.bool true) ∧ Below w.heap.size w w' := by
  go_enter Tryd.func3, Tryd.ntmps3
  go_wp2_with fail
  refine (hS.call s _ (by omega) hT).mono ?_
  rintro e w1 ⟨rfl, hb1⟩
  go_wp2_with fail
  refine (rsum_any s _ (by omega)).mono ?_
  rintro e w2 ⟨rfl, hb2⟩
  go_wp2
  go_ret
  exact ⟨rfl, hb1.trans (hb2.mono hb1.size)⟩
set_option maxRecDepth 100000 in
set_option maxHeartbeats 1000000 in
theorem turned_walk_far {T : World → Prop} (hS : SumSaid T) (s : ByteArray) (f mask : Int) (w : World) (hs : s.size ≤ 140737488351232) (hf1 : -9223372036854775808 ≤ f) (hf2 : f ≤ 9223372036854775807) (hf : f < 0 ∨ 8 * (s.size : Int) < f) (hT : T w) :
    Calls Tryd.prog 4 #[.string s, .int .i64 f, .int .i64 mask] w fun e w' => e = .returned (.bool true) ∧ Below w.heap.size w w' := by
  have hz : ∀ l, (str (Crc.sum l)).size = 4 := fun _ => rfl
  go_enter Tryd.func4, Tryd.ntmps4
  go_wp2_with fail
  refine (turned_far s f mask _ hs hf1 hf2 hf).mono ?_
  rintro e w1 ⟨rfl, hb1⟩
  have hT1 := hS.kept _ _ hT hb1
  go_wp2_with fail
  refine (hS.call s _ (by omega) hT1).mono ?_
  rintro e w2 ⟨rfl, hb2⟩
  have hT2 := hS.kept _ _ hT1 hb2
  go_wp2_with fail
  refine (hS.call s _ (by omega) hT2).mono ?_
  rintro e w3 ⟨rfl, hb3⟩
  have HB : Hid (Below w.heap.size w w3) := (hb1.trans (hb2.mono hb1.size)).trans (hb3.mono (Nat.le_trans hb1.size hb2.size))
  clear hb1 hb2 hb3 hT1 hT2
  go_wp2
  go_ret
  exact ⟨rfl, HB.out⟩
theorem turned_bool (s : ByteArray) (l : List UInt8) (f : Nat) (h : Near s.data.toList l f 32) (hf : f ≤ 8 * s.size) :
    (((str (Crc.sum s.data.toList)).toList == (str (Crc.sum (str l).data.toList)).toList) == ((str l).toList == s.toList)) = true := by
  rw [toList_str, toList_str, toList_str, toList_of, data_str]
  obtain ⟨h1, M, h2, h3⟩ := h
  by_cases e : l = s.data.toList
  · subst e; simp
  · have hne : ¬ Crc.sum s.data.toList = Crc.sum l := fun h => e (Crc.sum_turned _ _ M f h1.symm h2 (by simpa using hf) h3 h).symm
    have a1 : (Crc.sum s.data.toList == Crc.sum l) = false := by simp [hne]
    have a2 : (l == s.data.toList) = false := by simp [e]
    rw [a1, a2]; rfl
set_option maxRecDepth 100000 in
set_option maxHeartbeats 1000000 in
theorem turned_walk_near {T : World → Prop} (hS : SumSaid T) (s : ByteArray) (f : Nat) (mask : Int) (w : World) (hs : s.size ≤ 140737488351232) (hf : f ≤ 8 * s.size) (hm1 : -9223372036854775808 ≤ mask) (hm2 : mask ≤ 9223372036854775807) (hT : T w) :
    Calls Tryd.prog 4 #[.string s, .int .i64 f, .int .i64 mask] w fun e w' => e = .returned (.bool true) ∧ Below w.heap.size w w' := by
  have hz : ∀ l, (str (Crc.sum l)).size = 4 := fun _ => rfl
  go_enter Tryd.func4, Tryd.ntmps4
  go_wp2_with fail
  refine (turned_near s f mask _ hs hf hm1 hm2).mono ?_
  rintro e w1 ⟨⟨l, rfl, hN⟩, hb1⟩
  have HN : Hid (Near s.data.toList l f 32) := hN
  have hls : (str l).size ≤ 140737488355328 := by rw [str_size, hN.1]; simp; omega
  clear hN
  have hT1 := hS.kept _ _ hT hb1
  go_wp2_with fail
  refine (hS.call s _ (by omega) hT1).mono ?_
  rintro e w2 ⟨rfl, hb2⟩
  have hT2 := hS.kept _ _ hT1 hb2
  go_wp2_with fail
  refine (hS.call (str l) _ hls hT2).mono ?_
  rintro e w3 ⟨rfl, hb3⟩
  have HB : Hid (Below w.heap.size w w3) := (hb1.trans (hb2.mono hb1.size)).trans (hb3.mono (Nat.le_trans hb1.size hb2.size))
  clear hb1 hb2 hb3 hT1 hT2
  go_wp2
  go_ret
  exact ⟨ret_bool (turned_bool s l f HN.out hf), HB.out⟩
theorem turned_walk {T : World → Prop} (hS : SumSaid T) (s : ByteArray) (f mask : Int) (w : World) (hs : s.size ≤ 140737488351232) (hf1 : -9223372036854775808 ≤ f) (hf2 : f ≤ 9223372036854775807) (hm1 : -9223372036854775808 ≤ mask) (hm2 : mask ≤ 9223372036854775807) (hT : T w) :
    Calls Tryd.prog 4 #[.string s, .int .i64 f, .int .i64 mask] w fun e w' => e = .returned (.bool true) ∧ Below w.heap.size w w' := by
  by_cases hf : f < 0 ∨ 8 * (s.size : Int) < f
  · exact turned_walk_far hS s f mask w hs hf1 hf2 hf hT
  · obtain ⟨k, rfl⟩ := Int.eq_ofNat_of_zero_le (by omega : 0 ≤ f)
    exact turned_walk_near hS s k mask w hs (by omega) hm1 hm2 hT
end Go.Proofs.YtkaminplfnejhaaDoor
