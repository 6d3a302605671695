/-
  Arguments that are lists of numbers and of pairs, opened; what they weigh.
-/
import Derived.Test.YtaeloanlllaphaaDoorArgs
import Derived.Test.YtaeloanlllaphaaDoorTake
import Derived.Deep.Slices
import Derived.ChangeSlices
namespace Go.Proofs.YtaeloanlllaphaaDoor
open Go.ChangeShapes Go.WideShapes Go.ChangeAt Go.RowKit
set_option linter.unusedVariables false
set_option maxRecDepth 100000
theorem cells_int : Tryd.prog.cellsOf 3 = 1 := by kernel_rfl
theorem cells_pair : Tryd.prog.cellsOf 68 = 2 := by kernel_rfl
theorem plain_of {w : World} {a : Addr} {v : Value} (h : w.cell? (a.add 0) = some v) : a = ⟨a.block, a.off, none⟩ := by
  have e : a.add 0 = a := by unfold Addr.add; simp
  rw [e] at h
  exact addr_plain h
theorem arg_ints {H : Type} {enc : TypeId × Value → H} {W : World} {base : Nat} {v : Value} {d : DataW H} {p : List MemPlace}
    (hv : Value.okWide Tryd.prog W .any base 28 v) (h : DataW.Trod enc Tryd.prog W 0 (fun _ => true) true 28 v d p) :
    ∃ l : List Int, Ints W v l ∧ l.length ≤ Rows.uptoBulk d ∧ True := by
  obtain ⟨a0, len0, cap0, rfl⟩ := okWide_slice Tryd.underlying28 hv
  obtain ⟨fuel, hf⟩ := h
  rcases open_ints Tryd.underlying28 Tryd.underlying3 cells_int hf with ⟨hcs, hx⟩ | ⟨a, len, cap, zs, hcs, _, hl, hm, hz, hx, hcell, hws⟩
  · simp [Value.cells] at hcs
    obtain ⟨rfl, rfl, rfl⟩ := hcs
    exact ⟨[], ⟨none, 0, rfl, by simp, fun k hk => absurd hk (by simp)⟩, by simp, trivial⟩
  · simp [Value.cells] at hcs
    obtain ⟨rfl, rfl, rfl⟩ := hcs
    simp only [Prod.mk.injEq] at hx
    obtain ⟨rfl, rfl⟩ := hx
    simp only [if_true] at hz
    have hlen : (zs.take len0).length = len0 := by rw [List.length_take]; omega
    refine ⟨zs.take len0, ⟨some a, cap0, by rw [hlen], fun z hz2 => bounds_i64 (hws z (List.mem_of_mem_take hz2)), fun k hk => ?_⟩, ?_, trivial⟩
    · have hkz : k < zs.length := by omega
      have c := hcell k hkz
      have ha := plain_of (hcell 0 (by omega))
      have hadd : a.add k = ⟨a.block, a.off + k, none⟩ := by
        conv => lhs; rw [ha]
        exact add_plain _ _ _
      rw [hadd] at c
      refine ⟨a.block, a.off, by rw [← ha], ?_, World.block_lt_of_cell? W ⟨a.block, a.off + k, none⟩ c⟩
      rw [c]
      simp [List.getD, List.getElem?_eq_getElem hkz]
    · rw [hlen]
      have := bulk_len (lits (H := H) .i64 (zs.take len0))
      have e : (lits (H := H) .i64 (zs.take len0)).length = len0 := by unfold lits; rw [List.length_map, hlen]
      simp only [Rows.uptoBulk]; omega
theorem arg_pairs {H : Type} {enc : TypeId × Value → H} {W : World} {base : Nat} {v : Value} {d : DataW H} {p : List MemPlace}
    (hv : Value.okWide Tryd.prog W .any base 27 v) (h : DataW.Trod enc Tryd.prog W 0 (fun _ => true) true 27 v d p) :
    ∃ l : List (Int × Int), Prs W v l ∧ l.length ≤ Rows.uptoBulk d ∧ True := by
  obtain ⟨a0, len0, cap0, rfl⟩ := okWide_slice Tryd.underlying27 hv
  obtain ⟨fuel, hf⟩ := h
  rcases Go.Deep.open_slice Tryd.underlying27 hf with ⟨hcs, hx⟩ | ⟨a, len, cap, m, n, D, Pl, hcs, _, hl, hm, hmm, hx, hcell⟩
  · simp [Value.cells] at hcs
    obtain ⟨rfl, rfl, rfl⟩ := hcs
    exact ⟨[], ⟨none, 0, rfl, by simp, fun k hk => absurd hk (by simp)⟩, by simp, trivial⟩
  · simp [Value.cells] at hcs
    obtain ⟨rfl, rfl, rfl⟩ := hcs
    simp only [Prod.mk.injEq] at hx
    obtain ⟨rfl, rfl⟩ := hx
    simp only [if_true] at hmm
    rw [cells_pair] at hcell
    have each : ∀ i, i < len0 → ∃ z : Int × Int, W.cell? (a.add (i * 2)) = some (.int .i64 z.1) ∧ W.cell? ((a.add (i * 2)).add 1) = some (.int .i64 z.2) ∧ (-9223372036854775808 ≤ z.1 ∧ z.1 ≤ 9223372036854775807) ∧ -9223372036854775808 ≤ z.2 ∧ z.2 ≤ 9223372036854775807 := by
      intro i hi
      obtain ⟨cs', h1, h2⟩ := hcell i (by omega)
      obtain ⟨_, hlen, hc⟩ := World.cells?_some h1
      match cs', hlen with
      | [c0, c1], _ =>
        have q0 := hc 0 (by omega)
        have q1 := hc 1 (by omega)
        obtain ⟨xs, m', _, _, _, hxl, hxe⟩ := DataW.trod_array Tryd.underlying68 h2
        have e0 := hxe 0 (by omega)
        have e1 := hxe 1 (by omega)
        rw [cells_int] at e0 e1
        simp only [Nat.zero_mul, List.drop_zero, List.take_succ_cons, List.take_zero, Nat.one_mul, List.drop_succ_cons] at e0 e1
        rw [List.getElem?_eq_getElem (by omega)] at e0 e1
        obtain ⟨z0, hz0, _, w0⟩ := DataW.trod_int Tryd.underlying3 e0
        obtain ⟨z1, hz1, _, w1⟩ := DataW.trod_int Tryd.underlying3 e1
        cases hz0
        cases hz1
        have e2 : (a.add (i * 2)).add 0 = a.add (i * 2) := by unfold Addr.add; simp
        rw [e2] at q0
        exact ⟨(z0, z1), by simpa using q0, by simpa using q1, bounds_i64 w0, bounds_i64 w1⟩
    obtain ⟨f, hfz⟩ := Go.Deep.choose_lt each
    refine ⟨(List.range len0).map f, ⟨some a, cap0, by simp, fun z hz => ?_, fun k hk => ?_⟩, ?_, trivial⟩
    · obtain ⟨i, hi, rfl⟩ := List.mem_map.1 hz
      exact (hfz i (List.mem_range.1 hi)).2.2
    · have hk2 : k < len0 := by simpa using hk
      obtain ⟨c0, c1, _⟩ := hfz k hk2
      have ha := plain_of (by have := (hfz 0 (by omega)).1; simpa using this)
      have hadd : a.add (k * 2) = ⟨a.block, a.off + k * 2, none⟩ := by
        conv => lhs; rw [ha]
        exact add_plain _ _ _
      rw [hadd] at c0 c1
      rw [add_plain] at c1
      refine ⟨a.block, a.off, by rw [← ha], ?_, ?_, World.block_lt_of_cell? W ⟨a.block, a.off + k * 2, none⟩ c0⟩
      · rw [c0]; simp
      · rw [c1]; simp
    · have := bulk_len ((List.range len0).map D)
      simp only [List.length_map, List.length_range] at this ⊢
      simp only [Rows.uptoBulk]; omega
end Go.Proofs.YtaeloanlllaphaaDoor
