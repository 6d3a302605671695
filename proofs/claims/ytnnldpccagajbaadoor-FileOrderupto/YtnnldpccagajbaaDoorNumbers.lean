/-
  The program's file.numbers, walked: a map that the call makes.
-/
import Derived.Test.YtnnldpccagajbaaDoorTextsCode
import Derived.Test.YtnnldpccagajbaaDoorRefColumn
import Derived.Maps.OwnOps
import Derived.Maps.Views
namespace Go.Proofs.YtnnldpccagajbaaDoor
open Go.ChangeShapes Go.WideShapes Go.ChangeAt Go.RowKit Go.WideMaps Go.Maps
set_option linter.unusedVariables false
/-- the map of the first k texts' numbers, as read -/
def numD (l : List (List UInt8)) : Nat → DataW Unit
  | 0 => .map []
  | k + 1 => (numD l k).put (.string (l.getD k [])) (.lit (.int .i64 (k : Nat)))
theorem numD_isMap (l : List (List UInt8)) : ∀ k, IsMap (numD l k)
  | 0 => isMap_empty
  | k + 1 => (numD_isMap l k).put _ _
theorem numD_step (l : List (List UInt8)) (k : Nat) (x : List UInt8) (h : l[k]? = some x) : numD l (k + 1) = (numD l k).put (.string x) (.lit (.int .i64 (k : Nat))) := by
  rw [numD]; simp [List.getD, h]
theorem numD_at (l : List (List UInt8)) (i : Nat) (t : List UInt8) (hi : l[i]? = some t) (z : DataW Unit) : ∀ k, i < k → k ≤ l.length → (∀ j, i < j → j < k → l[j]? ≠ some t) → (numD l k).atKey (.string t) z = .lit (.int .i64 (i : Nat))
  | 0, h, _, _ => by omega
  | k + 1, h, hk, hne => by
    have hx : l[k]? = some l[k] := List.getElem?_eq_getElem (by omega)
    rw [numD_step l k _ hx]
    by_cases e : i = k
    · subst e
      rw [hi] at hx
      cases hx
      exact atKey_put_same (numD_isMap l i) (by simp [WideAt.IsKeyLit]) _ _
    · have hn := hne k (by omega) (by omega)
      rw [atKey_put_other (by intro e2; injection e2 with e3; exact hn (by rw [hx, ← e3]))]
      exact numD_at l i t hi z k (by omega) (by omega) (fun j h1 h2 => hne j h1 (by omega))
theorem strKeyed : Keyed Tryd.prog 9 := string_keyed Tryd.underlying9
theorem zeroInt (w : World) : (zeroValue 3).run Tryd.prog w = .ok (.int .i64 0) w := by kernel_rfl
set_option maxRecDepth 100000 in
set_option maxHeartbeats 1000000 in
theorem numbers_any (v : Value) (l : List (List UInt8)) (w : World) (h : Strs w v l) (hl : l.length ≤ 1073741824) (hs : ∀ t ∈ l, t.length ≤ 1000) :
    Calls Tryd.prog 26 #[v] w fun e w' => e = .returned (.map (some w.heap.size)) ∧ w'.ownsMap Tryd.prog 9 (plainElem Tryd.prog 3) w.heap.size l.length (numD l l.length) ∧ Below w.heap.size w w' := by
  have hmm := @run_makeMap Tryd.prog
  obtain ⟨a, cap, rfl, h⟩ := h
  rcases h with ⟨rfl, _⟩ | ⟨b, off, rfl, hc⟩
  · go_enter Tryd.func26, Tryd.ntmps26
    go_wp2
    refine wp_loop_rounds 1 ?_
    rw [rounds_succ]
    go_wp2
    go_ret
    exact ⟨rfl, World.ownsMap_made _ _ _ _, (Below.refl _ _).alloc (Nat.le_refl _) _⟩
  · have HC : Hid (∀ (i : Nat) (x : List UInt8), l[i]? = some x → w.cell? ⟨b, off + i, none⟩ = some (.string (str x))) := hc
    have HS : Hid (∀ t ∈ l, t.length ≤ 1000) := hs
    clear hc hs
    go_enter Tryd.func26, Tryd.ntmps26
    go_wp2
    go_loopw [9] (fun i wr => ∃ k : Nat, k ≤ l.length ∧ i = .int .i64 k ∧ wr.ownsMap Tryd.prog 9 (plainElem Tryd.prog 3) w.heap.size k (numD l k) ∧ Below w.heap.size w wr) (fun i _ => l.length - (intOf i).toNat)
    case atStart => exact ⟨0, Nat.zero_le _, rfl, World.ownsMap_made _ _ _ _, (Below.refl _ _).alloc (Nat.le_refl _) _⟩
    case round =>
      obtain ⟨k, hk, rfl, hown, hnx⟩ := hrel
      by_cases hlt : k < l.length
      · have c0 := HC.out k l[k] (get_at hlt)
        have c1 := (hnx.cell (p := ⟨b, off + k, none⟩) (World.block_lt_of_cell? w ⟨b, off + k, none⟩ c0)).trans c0
        have HX : Hid (l[k]? = some l[k]) := get_at hlt
        have hxs : l[k].length ≤ 1000 := HS.out _ (List.getElem_mem hlt)
        obtain ⟨x, HXE⟩ : ∃ x, Hid (x = l[k]) := ⟨l[k], rfl⟩
        rw [← HXE.out] at c1 HX hxs
        have hkey : keyOf Tryd.prog 9 (.string (str x)) = some (.string x) := by
          have := keyOf_string_mk Tryd.underlying9 (s := str x) (by rw [str_size]; unfold maxLen; omega)
          rw [data_str] at this; exact this
        obtain ⟨sx, HSX⟩ : ∃ sx, Hid (sx = str x) := ⟨_, (rfl : str x = _)⟩
        rw [← HSX.out] at c1 hkey
        clear c0 hxs
        go_wp2_with (first
          | (at_mapUpdate; refine wpList_mapUpdate_own _ rfl _ _ _ 52 rfl 9 3 strKeyed Tryd.underlying52 _ w.heap.size k _ rfl hown (by unfold maxLen; omega) _ _ _ rfl rfl hkey _ [] (plainElem_int Tryd.underlying3 (WalkArith.wf_i64 (by omega))) ?_)
          | go_in)
        intro w1 hown1 hgrow1
        have R1 := (numD_step l k x HX.out).symm ▸ hown1
        have R2 := hnx.grown hgrow1 hnx.size (fun j hj => by cases hj; exact Nat.le_refl _)
        clear hown1 hgrow1 hown c1
        go_wp2
        go_roundw
        case rel => exact ⟨k + 1, by omega, by go_num, R1, R2⟩
        case measure => simp [intOf]; omega
      · have hkl : k = l.length := by omega
        have HO : Hid (wr.ownsMap Tryd.prog 9 (plainElem Tryd.prog 3) w.heap.size l.length (numD l l.length)) := by show _; rw [← hkl]; exact hown
        clear hown
        go_wp2
        go_ret
        exact ⟨rfl, HO.out, hnx⟩
end Go.Proofs.YtnnldpccagajbaaDoor
