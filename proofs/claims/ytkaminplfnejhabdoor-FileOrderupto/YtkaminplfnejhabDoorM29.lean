import Derived.Test.YtkaminplfnejhabDoorM24
import Derived.Test.YtkaminplfnejhabDoorM28
import Derived.Test.YtkaminplfnejhabDoorM01
import Derived.Test.YtkaminplfnejhabDoorM15
import Derived.Test.YtkaminplfnejhabDoorM21
/-
  The program's stream.Writer, walked.
-/
namespace Go.Proofs.YtkaminplfnejhabDoor
open Go.ChangeShapes Go.WideShapes Go.ChangeAt Go.RowKit
open wireVarints (varint_any)
set_option linter.unusedVariables false
theorem own_shape {w : World} {base : Nat} {e : TypeId} {size : Nat} {v : Value} {n : Nat} {xs : List Value} (h : w.ownsRow base e size v n xs) : ∃ a c, v = .slice a n c := by
  rcases h.2 with ⟨rfl, h0⟩ | ⟨g, cap, cur, rfl, _⟩
  · exact ⟨none, 0, by rw [h0]⟩
  · exact ⟨_, cap, rfl⟩
/-- a writer at block b, that has these bytes -/
structure Wr (w : World) (b : Nat) (l : List UInt8) : Prop where
  lt : b < w.heap.size
  fz : w.frozen? ⟨b, 0, none⟩ = false
  row : ∃ v, w.cell? ⟨b, 0, none⟩ = some v ∧ w.ownsRow (b + 1) 5 1 v l.length (bs l)
theorem Wr.new (w : World) (b : Nat) (hb : b = w.heap.size) : Wr (w.alloc (.cells #[.slice none 0 0] 109)) b [] := by
  subst hb
  exact ⟨by simp, World.frozen?_alloc_at _ _ _ _ rfl, _, by simp, World.ownsRow_nil _ _ _ _⟩
theorem Wr.kept {w w' : World} {b : Nat} {l : List UInt8} (h : Wr w b l) (hb : Below w.heap.size w w') : Wr w' b l := by
  obtain ⟨h1, h2, v, h3, h4⟩ := h
  exact ⟨Nat.lt_of_lt_of_le h1 hb.size, by rw [hb.frozen (p := ⟨b, 0, none⟩) h1]; exact h2, v, by rw [hb.cell (p := ⟨b, 0, none⟩) h1]; exact h3, own_kept h4 hb⟩
theorem app_size (l : List UInt8) (s : ByteArray) : (l ++ s.data.toList).length = l.length + s.size := by simp
theorem setCell_size (w : World) (a : Addr) (u : Value) : (w.setCell a u).heap.size = w.heap.size := by simp [World.setCell]
set_option maxRecDepth 100000 in
set_option maxHeartbeats 1000000 in
theorem wtext_any (b : Nat) (l : List UInt8) (s : ByteArray) (w : World) (h : Wr w b l) (hz : l.length + s.size ≤ 70368744177664) :
    Calls Tryd.prog 45 #[.pointer (some ⟨b, 0, none⟩), .string s] w fun e w' => e = .returned (.tuple #[]) ∧ Wr w' b (l ++ s.data.toList) ∧ Below b w w' := by
  obtain ⟨i0, hi, hz0, hz1, hz2⟩ := info_parts info5
  obtain ⟨h1, h2, v, h3, h4⟩ := h
  go_enter Tryd.func45, Tryd.ntmps45
  go_wp2_with (at_builtin; refine Lib.wpList_append_own_string _ rfl _ _ 107 9 rfl (b + 1) 5 i0 Tryd.underlying107 Tryd.underlying9 hi hz0 hz1 hz2 _ _ _ rfl h4 s rfl ?c3 ?c4 ?c5 ?_)
  case c3 => unfold maxLen; omega
  case c4 => omega
  case c5 => exact h1
  intro v' w1 hown hg _
  have hne : some b ≠ v.ownBlock := fun e => by have := (h4.lt b e.symm).1; omega
  have e1 : w1.cell? ⟨b, 0, none⟩ = some v := by rw [World.cell?_of_block (w := w) (hg.block b h1 hne)]; exact h3
  have e2 : w1.frozen? ⟨b, 0, none⟩ = false := by rw [World.frozen?_of_block (w := w) (hg.block b h1 hne)]; exact h2
  have hbl : Below b w w1 := (Below.refl b w).grown hg (Nat.le_of_lt h1) (fun k hk => by have := (h4.lt k hk).1; omega)
  have hown' := own_app hown (str_data s).symm
  rw [app_size] at hown'
  have hsz : b < w1.heap.size := Nat.lt_of_lt_of_le h1 hg.size
  have HO : Hid (w1.ownsRow (b + 1) 5 1 v' (l.length + s.size) (bs (l ++ s.data.toList))) := hown'
  have HB : Hid (Below b w w1) := hbl
  obtain ⟨a', c', rfl⟩ := own_shape hown'
  clear hown hown' hbl hg
  go_wp2
  go_end0
  refine ⟨rfl, ⟨by rw [setCell_size]; exact hsz, by rw [World.frozen?_setCell]; exact e2, _, World.cell?_setCell_same _ _ _ e1, by rw [app_size]; exact ownsRow_setCell_below HO.out (Nat.lt_succ_self b) _⟩, HB.out.setCell (p := ⟨b, 0, none⟩) (Nat.le_refl b) _⟩
set_option maxRecDepth 100000 in
set_option maxHeartbeats 400000 in
theorem wnumber_any (b : Nat) (l : List UInt8) (n : Nat) (w : World) (h : Wr w b l) (hn : n < 9223372036854775808) (hz : l.length + 9 ≤ 70368744177664) :
    Calls Tryd.prog 88 #[.pointer (some ⟨b, 0, none⟩), .int .i64 n] w fun e w' => e = .returned (.tuple #[]) ∧ Wr w' b (l ++ vb n) ∧ Below b w w' := by
  have h9 := vb_length9 n hn
  go_enter Tryd.func88, Tryd.ntmps88
  go_wp2_with fail
  refine (varint_any n _ hn).mono ?_
  rintro e w1 ⟨rfl, hb1⟩
  have h1 := h.kept hb1
  have HB : Hid (Below b w w1) := hb1.mono (Nat.le_of_lt h.lt)
  clear hb1
  go_wp2_with fail
  refine (wtext_any b l (str (vb n)) _ h1 (by rw [str_size]; omega)).mono ?_
  rintro e w2 ⟨rfl, h2, hb2⟩
  rw [data_str] at h2
  go_wp2
  go_end0
  exact ⟨rfl, h2, HB.out.trans hb2⟩
theorem wnumber_at (b : Nat) (l : List UInt8) (z : Int) (w : World) (h : Wr w b l) (h0 : 0 ≤ z) (h1 : z < 9223372036854775808) (hz : l.length + 9 ≤ 70368744177664) :
    Calls Tryd.prog 88 #[.pointer (some ⟨b, 0, none⟩), .int .i64 z] w fun e w' => e = .returned (.tuple #[]) ∧ Wr w' b (l ++ vb z.toNat) ∧ Below b w w' := by
  obtain ⟨m, rfl⟩ := Int.eq_ofNat_of_zero_le h0
  exact wnumber_any b l m w h (by omega) hz
set_option maxRecDepth 100000 in
set_option maxHeartbeats 400000 in
theorem wcounted_any (b : Nat) (l : List UInt8) (s : ByteArray) (w : World) (h : Wr w b l) (hz : l.length + 9 + s.size ≤ 70368744177664) :
    Calls Tryd.prog 87 #[.pointer (some ⟨b, 0, none⟩), .string s] w fun e w' => e = .returned (.tuple #[]) ∧ Wr w' b (l ++ (vb s.size ++ s.data.toList)) ∧ Below b w w' := by
  have h9 := vb_length9 s.size (by omega)
  go_enter Tryd.func87, Tryd.ntmps87
  go_wp2_with fail
  refine (wnumber_any b l s.size _ h (by omega) (by omega)).mono ?_
  rintro e w1 ⟨rfl, h1, hb1⟩
  have HB : Hid (Below b w w1) := hb1
  clear hb1
  go_wp2_with fail
  refine (wtext_any b _ s _ h1 (by rw [List.length_append]; omega)).mono ?_
  rintro e w2 ⟨rfl, h2, hb2⟩
  rw [List.append_assoc] at h2
  go_wp2
  go_end0
  exact ⟨rfl, h2, HB.out.trans hb2⟩
set_option maxRecDepth 100000 in
set_option maxHeartbeats 400000 in
theorem written_any (b : Nat) (l : List UInt8) (w : World) (h : Wr w b l) :
    Calls Tryd.prog 50 #[.pointer (some ⟨b, 0, none⟩)] w fun e w' => e = .returned (.string (str l)) ∧ w = w' := by
  obtain ⟨h1, h2, v, h3, h4⟩ := h
  have hcv := own_string h4
  go_enter Tryd.func50, Tryd.ntmps50
  go_wp2
  go_ret
  exact ⟨rfl, rfl⟩
end Go.Proofs.YtkaminplfnejhabDoor

/-
  'turned': a text of which some of 32 bits side by side are turned.
-/
namespace Go.Proofs.YtkaminplfnejhabDoor
open Go.ChangeShapes Go.WideShapes Go.ChangeAt Go.RowKit
set_option linter.unusedVariables false
/-- what turning bits from a place on leaves -/
def Near (s l : List UInt8) (f m : Nat) : Prop := l.length = s.length ∧ ∃ M : Nat, M < 2 ^ m ∧ Crc.leN (s.map UInt8.toNat) ^^^ Crc.leN (l.map UInt8.toNat) = M * 2 ^ f
theorem Near.keep {s l : List UInt8} {f m : Nat} (h : Near s l f m) : Near s l f (m + 1) := by
  obtain ⟨h1, M, h2, h3⟩ := h
  exact ⟨h1, M, Nat.lt_of_lt_of_le h2 (Nat.pow_le_pow_right (by decide) (Nat.le_succ m)), h3⟩
theorem pow8 (r : Nat) (h : r < 8) : 2 ^ r < 256 := by
  have : 2 ^ r ≤ 2 ^ 7 := Nat.pow_le_pow_right (by decide) (by omega)
  omega
theorem flip_lt (c : UInt8) (r : Nat) (h : r < 8) : c.toNat ^^^ 2 ^ r < 256 := Nat.xor_lt_two_pow (n := 8) c.toNat_lt (pow8 r h)
/-- a byte with a bit turned -/
def flip (c : UInt8) (r : Nat) : UInt8 := UInt8.ofNat (c.toNat ^^^ 2 ^ r)
theorem flip_toNat (c : UInt8) (r : Nat) (h : r < 8) : (flip c r).toNat = c.toNat ^^^ 2 ^ r := by
  have := flip_lt c r h
  unfold flip; rw [UInt8.toNat_ofNat', Nat.mod_eq_of_lt this]
theorem flip_val (c : UInt8) (r : Nat) (h : r < 8) : bits .xor .i64 (c.toNat : Int) (wrap64 (2 ^ r)) % 256 = ((flip c r).toNat : Int) := by
  have hp := pow8 r h
  have hc := c.toNat_lt
  have hl := flip_lt c r h
  have e : (2 : Int) ^ r = ((2 ^ r : Nat) : Int) := by push_cast; rfl
  rw [flip_toNat c r h, e]
  generalize 2 ^ r = q at *
  rw [show wrap64 (q : Int) = (q : Int) from by unfold wrap64; omega, Crc.xor64 _ _ (by omega) (by omega)]
  omega
theorem Near.turn {s l : List UInt8} {f m : Nat} {c : UInt8} (h : Near s l f m) (hc : l[(f + m) / 8]? = some c) : Near s (l.set ((f + m) / 8) (flip c ((f + m) % 8))) f (m + 1) := by
  obtain ⟨h1, M, h2, h3⟩ := h
  refine ⟨by simpa using h1, M ^^^ 2 ^ m, Nat.xor_lt_two_pow (Nat.lt_of_lt_of_le h2 (Nat.pow_le_pow_right (by decide) (Nat.le_succ m))) (Nat.pow_lt_pow_right (by decide) (Nat.lt_succ_self m)), ?_⟩
  rw [List.map_set, flip_toNat c _ (Nat.mod_lt _ (by decide)), Crc.leN_set _ _ _ c.toNat (by simp [hc]), ← Nat.xor_assoc, h3, Nat.div_add_mod, Crc.xor_mul_pow, ← Nat.pow_add, Nat.add_comm m f]
theorem Row8.set {w : World} {g : Nat} {l : List UInt8} (h : Row8 w g l) (j : Nat) (d : UInt8) {v : Value} (hv : v = .int .u8 (d.toNat : Int)) (hj : j < l.length) : Row8 (w.setCell ⟨g, j, none⟩ v) g (l.set j d) := by
  subst hv
  intro i c hc
  have hjc := (h j l[j] (by simp [hj])).1
  by_cases e : i = j
  · subst e
    rw [List.getElem?_set_self hj] at hc
    cases hc
    exact ⟨World.cell?_setCell_same _ _ _ hjc, by rw [World.frozen?_setCell]; exact (h i l[i] (by simp [hj])).2⟩
  · rw [List.getElem?_set_ne (fun x => e x.symm)] at hc
    exact ⟨by rw [World.cell?_setCell_other _ _ _ _ (by simp only [ne_eq, Addr.mk.injEq, true_and, and_true]; exact fun x => e x.symm)]; exact (h i c hc).1, by rw [World.frozen?_setCell]; exact (h i c hc).2⟩
theorem Row8.drew {w : World} {g : Nat} {l : List UInt8} (h : Row8 w g l) : Row8 w.drew g l := fun i c hc => h i c hc
end Go.Proofs.YtkaminplfnejhabDoor

/-
  A3's two laws, out of a contract for the program's Sum. T: what of the world the contract leans on (a table at package level, if there is one).
-/
namespace Go.Proofs.YtkaminplfnejhabDoor
open Go.ChangeShapes Go.WideShapes Go.ChangeAt Go.RowKit
set_option linter.unusedVariables false
/-- the program's Sum answers the document's; what it leans on stays where old memory stays -/
structure SumSaid (T : World → Prop) : Prop where
  kept : ∀ w w' : World, T w → Below w.heap.size w w' → T w'
  call : ∀ (s : ByteArray) (w : World), s.size ≤ 140737488355328 → T w → Calls Tryd.prog 49 #[.string s] w fun e w' => e = .returned (.string (str (Crc.sum s.data.toList))) ∧ Below w.heap.size w w'
theorem turned_bool (s : ByteArray) (l : List UInt8) (f : Nat) (h : Near s.data.toList l f 32) (hf : f ≤ 8 * s.size) :
    (((str (Crc.sum s.data.toList)).toList == (str (Crc.sum (str l).data.toList)).toList) == ((str l).toList == s.toList)) = true := by
  rw [toList_str, toList_str, toList_str, toList_of, data_str]
  obtain ⟨h1, M, h2, h3⟩ := h
  by_cases e : l = s.data.toList
  · subst e; simp
  · have hne : ¬ Crc.sum s.data.toList = Crc.sum l := fun h => e (Crc.sum_turned _ _ M f h1.symm h2 (by simpa using hf) h3 h).symm
    have a1 : (Crc.sum s.data.toList == Crc.sum l) = false := by simp [hne]
    have a2 : (l == s.data.toList) = false := by simp [e]
    rw [a1, a2]; rfl
end Go.Proofs.YtkaminplfnejhabDoor
