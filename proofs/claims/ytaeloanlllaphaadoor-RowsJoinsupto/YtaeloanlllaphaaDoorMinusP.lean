/-
  The program's Minus: the closure that asks the map of keys.
-/
import Derived.Test.YtaeloanlllaphaaDoorKey
import Derived.Maps.OwnSet
import Derived.Deep.RegionHeld3
namespace Go.Proofs.YtaeloanlllaphaaDoor
open Go.ChangeShapes Go.WideShapes Go.ChangeAt Go.RowKit Go.WideMaps Go.Maps
set_option linter.unusedVariables false
theorem strKeyed : Keyed Tryd.prog 9 := string_keyed Tryd.underlying9
theorem zeroUnit (w : World) : (zeroValue 39).run Tryd.prog w = .ok (.agg #[]) w := by kernel_rfl
/-- the keys of rows, as the map that holds them reads -/
def keyLits (rows : List (List (List UInt8))) : List Lit := rows.map fun r => Lit.string (keyL r)
abbrev keyD (rows : List (List (List UInt8))) : DataW Unit := setOf (.agg []) (keyLits rows)
theorem keyD_has (rows : List (List (List UInt8))) (r : List (List UInt8)) : Maps.has (keyD rows) (.string (keyL r)) = decide (r ∈ rows) := by
  have hk : ∀ x ∈ keyLits rows, WideAt.IsKeyLit x := by
    intro x hx
    obtain ⟨q, _, rfl⟩ := List.mem_map.1 hx
    simp [WideAt.IsKeyLit]
  rw [keyD, has_setOf _ _ _ hk, keyLits, List.any_map, Bool.eq_iff_iff, List.any_eq_true, decide_eq_true_iff]
  constructor
  · rintro ⟨q, hq, h⟩
    by_cases e : (Lit.string (keyL q)) = Lit.string (keyL r)
    · injection e with e; rw [← keyL_inj _ _ e]; exact hq
    · simp only [Function.comp_apply] at h
      rw [sameKey_ne e] at h; cases h
  · intro h
    exact ⟨r, h, by simp only [Function.comp_apply]; exact WideAt.sameKey_self (by simp [WideAt.IsKeyLit])⟩
/-- block b lies in W as it lay in w -/
structure Keeps (b : Nat) (w W : World) : Prop where
  lt : b < w.heap.size
  le : w.heap.size ≤ W.heap.size
  same : W.heap[b]? = w.heap[b]?
theorem Keeps.alloc {b : Nat} {w W : World} (h : Keeps b w W) (o : Obj) : Keeps b w (W.alloc o) :=
  ⟨h.lt, Nat.le_trans h.le (by simp), (Below.heap_alloc _ _ _ (Nat.lt_of_lt_of_le h.lt h.le)).trans h.same⟩
theorem Keeps.below {b : Nat} {w W W' : World} (h : Keeps b w W) (hb : Below W.heap.size W W') : Keeps b w W' :=
  ⟨h.lt, Nat.le_trans h.le hb.size, (hb.block b (Nat.lt_of_lt_of_le h.lt h.le)).trans h.same⟩
theorem ownsMap_at {P : Program} {k : TypeId} {R : Value → Option (DataW Unit × List MemPlace)} {b n : Nat} {D : DataW Unit} {w W : World} (h : w.ownsMap P k R b n D) (hk : W.heap[b]? = w.heap[b]?) : W.ownsMap P k R b n D := by
  obtain ⟨es, clock, hb, r⟩ := h
  exact ⟨es, clock, hk.trans hb, r⟩
theorem ownsMap_lt {P : Program} {k : TypeId} {R : Value → Option (DataW Unit × List MemPlace)} {b n : Nat} {D : DataW Unit} {w : World} (h : w.ownsMap P k R b n D) : b < w.heap.size := by
  obtain ⟨es, clock, hb, r⟩ := h
  rcases Nat.lt_or_ge b w.heap.size with h' | h'
  · exact h'
  · rw [Array.getElem?_eq_none h'] at hb; cases hb
set_option maxRecDepth 100000 in
set_option maxHeartbeats 1000000 in
theorem minus1_any (v : Value) (r : List (List UInt8)) (rows : List (List (List UInt8))) (p b : Nat) (w : World) (h : Strs w v r) (ht : Tab w) (hl : r.length ≤ 1048576) (hs : ∀ t ∈ r, t.length ≤ 1048576)
    (hp : w.cell? ⟨p, 0, none⟩ = some (.map (some b))) (hm : ∃ n, w.ownsMap Tryd.prog 9 unitElem b n (keyD rows)) :
    Calls Tryd.prog 23 #[v, .pointer (some ⟨p, 0, none⟩)] w fun e w' => e = .returned (.bool (decide (r ∈ rows))) ∧ Below w.heap.size w w' := by
  obtain ⟨n, hm⟩ := hm
  have HKW : Hid (Keeps b w w) := ⟨ownsMap_lt hm, Nat.le_refl _, rfl⟩
  have HS : Hid (Strs w v r) := h
  have HT : Hid (Tab w) := ht
  have HPL : Hid (p < w.heap.size) := World.block_lt_of_cell? w ⟨p, 0, none⟩ hp
  have hkl : (keyL r).length ≤ 1099536796000 := by
    have := keyL_len r hs
    have h2 : r.length * 1048600 ≤ 1048576 * 1048600 := Nat.mul_le_mul_right _ hl
    omega
  have hkey : keyOf Tryd.prog 9 (.string (str (keyL r))) = some (.string (keyL r)) := by
    have := keyOf_string_mk Tryd.underlying9 (s := str (keyL r)) (by rw [str_size]; unfold maxLen; omega)
    rw [data_str] at this; exact this
  obtain ⟨sk, HSK⟩ : ∃ sk, Hid (sk = str (keyL r)) := ⟨_, rfl⟩
  have HL : Hid (∀ W, Keeps b w W → (Instr.lookup 36 (.map (some b)) (.string sk) true).run Tryd.prog W = .ok (.tuple #[.agg #[], .bool (decide (r ∈ rows))]) W) := by
    intro W hW
    obtain ⟨v, ps, hrun, hv⟩ := (ownsMap_at hm hW.same).look_ok strKeyed Tryd.underlying36 (zeroUnit W) unitElem_mk hkey
    obtain ⟨rfl, _⟩ := unitElem_inv hv
    rw [keyD_has] at hrun
    rw [HSK.out]; exact hrun
  clear hm hkey
  obtain ⟨a, cap, hv, -⟩ := h
  subst hv
  go_enter Tryd.func23, Tryd.ntmps23
  go_wp2
  have hL := HL.out
  have hKA : ∀ (W : World) (o : Obj), Keeps b w W → Keeps b w (W.alloc o) := fun W o h => h.alloc o
  have hBA : ∀ (W : World) (o : Obj), Below w.heap.size w W → Below w.heap.size w (W.alloc o) := fun W o h => h.alloc h.size o
  have hKD : ∀ (W : World) (n : Nat), Keeps b w W → Keeps b w (W.drewN n) := fun _ _ h => ⟨h.lt, h.le, h.same⟩
  have hBD : ∀ (W : World) (n : Nat), Below w.heap.size w W → Below w.heap.size w (W.drewN n) := fun W n h => below_drewN h n
  have hKE : ∀ (W : World), Keeps b w W → Keeps b w W.drew := fun _ h => ⟨h.lt, h.le, h.same⟩
  have hBE : ∀ (W : World), Below w.heap.size w W → Below w.heap.size w W.drew := fun W h => h.drew
  have hk0 := HKW.out
  have hb0 : Below w.heap.size w w := Below.refl _ _
  have HKY : Hid (∀ W, (W.cell? ⟨p, 0, none⟩ = some (.map (some b)) ∧ Keeps b w W ∧ Below w.heap.size w W) → Calls Tryd.prog 24 #[.slice a r.length cap] W fun e w' => e = .returned (.string sk) ∧ w'.cell? ⟨p, 0, none⟩ = some (.map (some b)) ∧ Keeps b w w' ∧ Below w.heap.size w w') := by
    rintro W ⟨h1, h2, h3⟩
    refine (key_any _ r W (HS.out.kept h3) (HT.out.kept h3) hl hs).mono ?_
    rintro e w' ⟨rfl, hb⟩
    refine ⟨by rw [HSK.out], ?_, h2.below hb, h3.trans (hb.mono h3.size)⟩
    rw [hb.cell (p := ⟨p, 0, none⟩) (World.block_lt_of_cell? W ⟨p, 0, none⟩ h1)]; exact h1
  go_region_held3 (fun w' => w'.cell? ⟨p, 0, none⟩ = some (.map (some b)) ∧ Keeps b w w' ∧ Below w.heap.size w w') (simp [*, World.cell?_alloc_some]) (first | (go_at_call 24; refine (HKY.out _ (by assumption)).mono ?_; rintro e w1 ⟨rfl, hc1, hk1, hb1⟩))
  all_goals
    go_wp2
    go_ret
    refine ⟨rfl, ?_⟩
    first | assumption | exact hBA _ _ (by assumption) | exact hBA _ _ (hBA _ _ (by assumption))
end Go.Proofs.YtaeloanlllaphaaDoor
