/-
  The program's stream.Writer, walked.
-/
import Derived.Test.YtnnldpccagajbaaDoorRefBuild
import Derived.Test.YtnnldpccagajbaaDoorVarint
namespace Go.Proofs.YtnnldpccagajbaaDoor
open Go.ChangeShapes Go.WideShapes Go.ChangeAt Go.RowKit
open wireVarints (varint_any)
set_option linter.unusedVariables false
theorem own_shape {w : World} {base : Nat} {e : TypeId} {size : Nat} {v : Value} {n : Nat} {xs : List Value} (h : w.ownsRow base e size v n xs) : ∃ a c, v = .slice a n c := by
  rcases h.2 with ⟨rfl, h0⟩ | ⟨g, cap, cur, rfl, _⟩
  · exact ⟨none, 0, by rw [h0]⟩
  · exact ⟨_, cap, rfl⟩
/-- a writer at block b, that has these bytes -/
structure Wr (w : World) (b : Nat) (l : List UInt8) : Prop where
  lt : b < w.heap.size
  fz : w.frozen? ⟨b, 0, none⟩ = false
  row : ∃ v, w.cell? ⟨b, 0, none⟩ = some v ∧ w.ownsRow (b + 1) 5 1 v l.length (bs l)
theorem Wr.new (w : World) (b : Nat) (hb : b = w.heap.size) : Wr (w.alloc (.cells #[.slice none 0 0] 56)) b [] := by
  subst hb
  exact ⟨by simp, World.frozen?_alloc_at _ _ _ _ rfl, _, by simp, World.ownsRow_nil _ _ _ _⟩
theorem Wr.kept {w w' : World} {b : Nat} {l : List UInt8} (h : Wr w b l) (hb : Below w.heap.size w w') : Wr w' b l := by
  obtain ⟨h1, h2, v, h3, h4⟩ := h
  exact ⟨Nat.lt_of_lt_of_le h1 hb.size, by rw [hb.frozen (p := ⟨b, 0, none⟩) h1]; exact h2, v, by rw [hb.cell (p := ⟨b, 0, none⟩) h1]; exact h3, own_kept h4 hb⟩
theorem app_size (l : List UInt8) (s : ByteArray) : (l ++ s.data.toList).length = l.length + s.size := by simp
theorem setCell_size (w : World) (a : Addr) (u : Value) : (w.setCell a u).heap.size = w.heap.size := by simp [World.setCell]
set_option maxRecDepth 100000 in
set_option maxHeartbeats 1000000 in
theorem wtext_any (b : Nat) (l : List UInt8) (s : ByteArray) (w : World) (h : Wr w b l) (hz : l.length + s.size ≤ 70368744177664) :
    Calls Tryd.prog 27 #[.pointer (some ⟨b, 0, none⟩), .string s] w fun e w' => e = .returned (.tuple #[]) ∧ Wr w' b (l ++ s.data.toList) ∧ Below b w w' := by
  obtain ⟨i0, hi, hz0, hz1, hz2⟩ := info_parts info5
  obtain ⟨h1, h2, v, h3, h4⟩ := h
  go_enter Tryd.func27, Tryd.ntmps27
  go_wp2_with (at_builtin; refine Lib.wpList_append_own_string _ rfl _ _ 54 9 rfl (b + 1) 5 i0 Tryd.underlying54 Tryd.underlying9 hi hz0 hz1 hz2 _ _ _ rfl h4 s rfl ?c3 ?c4 ?c5 ?_)
  case c3 => unfold maxLen; omega
  case c4 => omega
  case c5 => exact h1
  intro v' w1 hown hg _
  have hne : some b ≠ v.ownBlock := fun e => by have := (h4.lt b e.symm).1; omega
  have e1 : w1.cell? ⟨b, 0, none⟩ = some v := by rw [World.cell?_of_block (w := w) (hg.block b h1 hne)]; exact h3
  have e2 : w1.frozen? ⟨b, 0, none⟩ = false := by rw [World.frozen?_of_block (w := w) (hg.block b h1 hne)]; exact h2
  have hbl : Below b w w1 := (Below.refl b w).grown hg (Nat.le_of_lt h1) (fun k hk => by have := (h4.lt k hk).1; omega)
  have hown' := own_app hown (str_data s).symm
  rw [app_size] at hown'
  have hsz : b < w1.heap.size := Nat.lt_of_lt_of_le h1 hg.size
  have HO : Hid (w1.ownsRow (b + 1) 5 1 v' (l.length + s.size) (bs (l ++ s.data.toList))) := hown'
  have HB : Hid (Below b w w1) := hbl
  obtain ⟨a', c', rfl⟩ := own_shape hown'
  clear hown hown' hbl hg
  go_wp2
  go_end0
  refine ⟨rfl, ⟨by rw [setCell_size]; exact hsz, by rw [World.frozen?_setCell]; exact e2, _, World.cell?_setCell_same _ _ _ e1, by rw [app_size]; exact ownsRow_setCell_below HO.out (Nat.lt_succ_self b) _⟩, HB.out.setCell (p := ⟨b, 0, none⟩) (Nat.le_refl b) _⟩
set_option maxRecDepth 100000 in
set_option maxHeartbeats 400000 in
theorem wnumber_any (b : Nat) (l : List UInt8) (n : Nat) (w : World) (h : Wr w b l) (hn : n < 9223372036854775808) (hz : l.length + 9 ≤ 70368744177664) :
    Calls Tryd.prog 50 #[.pointer (some ⟨b, 0, none⟩), .int .i64 n] w fun e w' => e = .returned (.tuple #[]) ∧ Wr w' b (l ++ vb n) ∧ Below b w w' := by
  have h9 := vb_length9 n hn
  go_enter Tryd.func50, Tryd.ntmps50
  go_wp2_with fail
  refine (varint_any n _ hn).mono ?_
  rintro e w1 ⟨rfl, hb1⟩
  have h1 := h.kept hb1
  have HB : Hid (Below b w w1) := hb1.mono (Nat.le_of_lt h.lt)
  clear hb1
  go_wp2_with fail
  refine (wtext_any b l (str (vb n)) _ h1 (by rw [str_size]; omega)).mono ?_
  rintro e w2 ⟨rfl, h2, hb2⟩
  rw [data_str] at h2
  go_wp2
  go_end0
  exact ⟨rfl, h2, HB.out.trans hb2⟩
theorem wnumber_at (b : Nat) (l : List UInt8) (z : Int) (w : World) (h : Wr w b l) (h0 : 0 ≤ z) (h1 : z < 9223372036854775808) (hz : l.length + 9 ≤ 70368744177664) :
    Calls Tryd.prog 50 #[.pointer (some ⟨b, 0, none⟩), .int .i64 z] w fun e w' => e = .returned (.tuple #[]) ∧ Wr w' b (l ++ vb z.toNat) ∧ Below b w w' := by
  obtain ⟨m, rfl⟩ := Int.eq_ofNat_of_zero_le h0
  exact wnumber_any b l m w h (by omega) hz
set_option maxRecDepth 100000 in
set_option maxHeartbeats 400000 in
theorem wcounted_any (b : Nat) (l : List UInt8) (s : ByteArray) (w : World) (h : Wr w b l) (hz : l.length + 9 + s.size ≤ 70368744177664) :
    Calls Tryd.prog 49 #[.pointer (some ⟨b, 0, none⟩), .string s] w fun e w' => e = .returned (.tuple #[]) ∧ Wr w' b (l ++ (vb s.size ++ s.data.toList)) ∧ Below b w w' := by
  have h9 := vb_length9 s.size (by omega)
  go_enter Tryd.func49, Tryd.ntmps49
  go_wp2_with fail
  refine (wnumber_any b l s.size _ h (by omega) (by omega)).mono ?_
  rintro e w1 ⟨rfl, h1, hb1⟩
  have HB : Hid (Below b w w1) := hb1
  clear hb1
  go_wp2_with fail
  refine (wtext_any b _ s _ h1 (by rw [List.length_append]; omega)).mono ?_
  rintro e w2 ⟨rfl, h2, hb2⟩
  rw [List.append_assoc] at h2
  go_wp2
  go_end0
  exact ⟨rfl, h2, HB.out.trans hb2⟩
set_option maxRecDepth 100000 in
set_option maxHeartbeats 400000 in
theorem written_any (b : Nat) (l : List UInt8) (w : World) (h : Wr w b l) :
    Calls Tryd.prog 32 #[.pointer (some ⟨b, 0, none⟩)] w fun e w' => e = .returned (.string (str l)) ∧ w = w' := by
  obtain ⟨h1, h2, v, h3, h4⟩ := h
  have hcv := own_string h4
  go_enter Tryd.func32, Tryd.ntmps32
  go_wp2
  go_ret
  exact ⟨rfl, rfl⟩
end Go.Proofs.YtnnldpccagajbaaDoor
