/-
  'turned': a text of which some of 32 bits side by side are turned.
-/
import Derived.Test.YtnnldpccagajbaaDoorBase
import Derived.Test.YtnnldpccagajbaaDoorCrc
namespace Go.Proofs.YtnnldpccagajbaaDoor
open Go.ChangeShapes Go.WideShapes Go.ChangeAt Go.RowKit
set_option linter.unusedVariables false
/-- what turning bits from a place on leaves -/
def Near (s l : List UInt8) (f m : Nat) : Prop := l.length = s.length ∧ ∃ M : Nat, M < 2 ^ m ∧ Crc.leN (s.map UInt8.toNat) ^^^ Crc.leN (l.map UInt8.toNat) = M * 2 ^ f
theorem Near.keep {s l : List UInt8} {f m : Nat} (h : Near s l f m) : Near s l f (m + 1) := by
  obtain ⟨h1, M, h2, h3⟩ := h
  exact ⟨h1, M, Nat.lt_of_lt_of_le h2 (Nat.pow_le_pow_right (by decide) (Nat.le_succ m)), h3⟩
theorem pow8 (r : Nat) (h : r < 8) : 2 ^ r < 256 := by
  have : 2 ^ r ≤ 2 ^ 7 := Nat.pow_le_pow_right (by decide) (by omega)
  omega
theorem flip_lt (c : UInt8) (r : Nat) (h : r < 8) : c.toNat ^^^ 2 ^ r < 256 := Nat.xor_lt_two_pow (n := 8) c.toNat_lt (pow8 r h)
/-- a byte with a bit turned -/
def flip (c : UInt8) (r : Nat) : UInt8 := UInt8.ofNat (c.toNat ^^^ 2 ^ r)
theorem flip_toNat (c : UInt8) (r : Nat) (h : r < 8) : (flip c r).toNat = c.toNat ^^^ 2 ^ r := by
  have := flip_lt c r h
  unfold flip; rw [UInt8.toNat_ofNat', Nat.mod_eq_of_lt this]
theorem flip_val (c : UInt8) (r : Nat) (h : r < 8) : bits .xor .i64 (c.toNat : Int) (wrap64 (2 ^ r)) % 256 = ((flip c r).toNat : Int) := by
  have hp := pow8 r h
  have hc := c.toNat_lt
  have hl := flip_lt c r h
  have e : (2 : Int) ^ r = ((2 ^ r : Nat) : Int) := by push_cast; rfl
  rw [flip_toNat c r h, e]
  generalize 2 ^ r = q at *
  rw [show wrap64 (q : Int) = (q : Int) from by unfold wrap64; omega, Crc.xor64 _ _ (by omega) (by omega)]
  omega
theorem Near.turn {s l : List UInt8} {f m : Nat} {c : UInt8} (h : Near s l f m) (hc : l[(f + m) / 8]? = some c) : Near s (l.set ((f + m) / 8) (flip c ((f + m) % 8))) f (m + 1) := by
  obtain ⟨h1, M, h2, h3⟩ := h
  refine ⟨by simpa using h1, M ^^^ 2 ^ m, Nat.xor_lt_two_pow (Nat.lt_of_lt_of_le h2 (Nat.pow_le_pow_right (by decide) (Nat.le_succ m))) (Nat.pow_lt_pow_right (by decide) (Nat.lt_succ_self m)), ?_⟩
  rw [List.map_set, flip_toNat c _ (Nat.mod_lt _ (by decide)), Crc.leN_set _ _ _ c.toNat (by simp [hc]), ← Nat.xor_assoc, h3, Nat.div_add_mod, Crc.xor_mul_pow, ← Nat.pow_add, Nat.add_comm m f]
theorem Row8.set {w : World} {g : Nat} {l : List UInt8} (h : Row8 w g l) (j : Nat) (d : UInt8) {v : Value} (hv : v = .int .u8 (d.toNat : Int)) (hj : j < l.length) : Row8 (w.setCell ⟨g, j, none⟩ v) g (l.set j d) := by
  subst hv
  intro i c hc
  have hjc := (h j l[j] (by simp [hj])).1
  by_cases e : i = j
  · subst e
    rw [List.getElem?_set_self hj] at hc
    cases hc
    exact ⟨World.cell?_setCell_same _ _ _ hjc, by rw [World.frozen?_setCell]; exact (h i l[i] (by simp [hj])).2⟩
  · rw [List.getElem?_set_ne (fun x => e x.symm)] at hc
    exact ⟨by rw [World.cell?_setCell_other _ _ _ _ (by simp only [ne_eq, Addr.mk.injEq, true_and, and_true]; exact fun x => e x.symm)]; exact (h i c hc).1, by rw [World.frozen?_setCell]; exact (h i c hc).2⟩
theorem Row8.drew {w : World} {g : Nat} {l : List UInt8} (h : Row8 w g l) : Row8 w.drew g l := fun i c hc => h i c hc
end Go.Proofs.YtnnldpccagajbaaDoor
