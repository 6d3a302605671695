/-
  slices.Clone at rows and at texts, walked.
-/
import Derived.Test.YtnnldpccagajbaaDoorRowsWalk
import Derived.Lib.SliceRun
namespace Go.Proofs.YtnnldpccagajbaaDoor
open Go.ChangeShapes Go.WideShapes Go.ChangeAt Go.RowKit
set_option linter.unusedVariables false
theorem add_at (b off j : Nat) : (⟨b, off, none⟩ : Addr).add j = ⟨b, off + j, none⟩ := by unfold Addr.add; split <;> simp_all
set_option maxRecDepth 100000 in
set_option maxHeartbeats 1000000 in
theorem cloneVals_any (v : Value) (vs : List Value) (w : World) (h : Vals w v vs) (hl : vs.length ≤ 1073741824) (h1 : ∀ x ∈ vs, x.oneCell' = true) :
    Calls Tryd.prog 42 #[v] w fun e w' => (∃ v', e = .returned v' ∧ w'.ownsRow w.heap.size 35 1 v' vs.length vs) ∧ Below w.heap.size w w' := by
  have q22 : ∀ (w : World) (a : Option Addr) (n c n' c' : Nat), (binOp .eql 22 (.slice a n c) (.slice none n' c')).run Tryd.prog w = .ok (.bool a.isNone) w := fun w a n c n' c' => Lib.run_eql_slice_nil w _ _ a n c n' c' Tryd.underlying22
  obtain ⟨i0, hi, hz0, hz1, hz2⟩ := info_parts infoRow
  obtain ⟨a, cap, rfl, h⟩ := h
  have H1 : Hid (∀ x ∈ vs, x.oneCell' = true) := h1
  clear h1
  have hown : (w.alloc (.cells #[] 35)).ownsRow w.heap.size 35 1 (.slice (some ⟨w.heap.size, 0, none⟩) 0 0) 0 [] := World.ownsRow_made w #[] 0 (Nat.le_refl _) (by decide) rfl
  have go : ∀ ad : Addr, (∀ (j : Nat) (u : Value), vs[j]? = some u → w.cell? (ad.add j) = some u) →
      Calls Tryd.prog 42 #[.slice (some ad) vs.length cap] w fun e w' => (∃ v', e = .returned v' ∧ w'.ownsRow w.heap.size 35 1 v' vs.length vs) ∧ Below w.heap.size w w' := by
    intro ad had
    have HAD : Hid (∀ (j : Nat) (u : Value), vs[j]? = some u → (w.alloc (.cells #[] 35)).cell? (ad.add j) = some u) := by
      intro j u hu
      have := had j u hu
      rw [World.cell?_alloc_lt _ _ _ (World.block_lt_of_cell? w _ this)]; exact this
    clear had h
    go_enter Tryd.func42, Tryd.ntmps42
    go_wp2_with (at_builtin; refine wpList_append_own _ rfl _ _ 22 rfl w.heap.size 35 i0 (.slice none 0 0) 1 24 Tryd.underlying22 hi hz0 hz1 hz2 rfl (by decide) _ _ _ rfl hown ad vs.length cap vs rfl ?c0 ?c1 ?c2 ?c3 ?c4 ?c5 ?_)
    case c0 => rw [Nat.mul_one]
    case c1 => exact HAD.out
    case c2 => exact H1.out
    case c3 => unfold maxLen; omega
    case c4 => omega
    case c5 => simp
    intro v' w1 hown' hg _
    have HO : Hid (w1.ownsRow w.heap.size 35 1 v' vs.length vs) := by simpa [Hid] using hown'
    have HB : Hid (Below w.heap.size w w1) := ((Below.refl _ _).alloc (Nat.le_refl _) _).grown hg (by simp) (fun k hk => by cases hk; exact Nat.le_refl _)
    clear hown' hg
    go_wp2
    go_ret
    exact ⟨⟨_, rfl, HO.out⟩, HB.out⟩
  rcases h with ⟨rfl, hn⟩ | ⟨b, off, rfl, hc⟩
  · cases a with
    | none =>
      obtain rfl := hn rfl
      clear go hown
      go_enter Tryd.func42, Tryd.ntmps42
      go_wp2
      go_ret
      exact ⟨⟨_, rfl, World.ownsRow_nil _ _ _ _⟩, Below.refl _ _⟩
    | some ad => exact go ad (fun j u hu => by simp at hu)
  · refine go ⟨b, off, none⟩ (fun j u hu => ?_)
    rw [add_at]; exact hc j u hu
set_option maxRecDepth 100000 in
set_option maxHeartbeats 1000000 in
theorem cloneStrs_any (v : Value) (l : List (List UInt8)) (w : World) (h : Strs w v l) (hl : l.length ≤ 1099511627776) :
    Calls Tryd.prog 43 #[v] w fun e w' => (∃ v', e = .returned v' ∧ w'.ownsRow w.heap.size 9 1 v' l.length (ts l)) ∧ Below w.heap.size w w' := by
  have q22 : ∀ (w : World) (a : Option Addr) (n c n' c' : Nat), (binOp .eql 35 (.slice a n c) (.slice none n' c')).run Tryd.prog w = .ok (.bool a.isNone) w := fun w a n c n' c' => Lib.run_eql_slice_nil w _ _ a n c n' c' Tryd.underlying35
  obtain ⟨i0, hi, hz0, hz1, hz2⟩ := info_parts info9
  obtain ⟨a, cap, rfl, h⟩ := h
  have hown : (w.alloc (.cells #[] 9)).ownsRow w.heap.size 9 1 (.slice (some ⟨w.heap.size, 0, none⟩) 0 0) 0 [] := World.ownsRow_made w #[] 0 (Nat.le_refl _) (by decide) rfl
  have go : ∀ ad : Addr, (∀ (j : Nat) (u : Value), (ts l)[j]? = some u → w.cell? (ad.add j) = some u) →
      Calls Tryd.prog 43 #[.slice (some ad) l.length cap] w fun e w' => (∃ v', e = .returned v' ∧ w'.ownsRow w.heap.size 9 1 v' l.length (ts l)) ∧ Below w.heap.size w w' := by
    intro ad had
    have HAD : Hid (∀ (j : Nat) (u : Value), (ts l)[j]? = some u → (w.alloc (.cells #[] 9)).cell? (ad.add j) = some u) := by
      intro j u hu
      have := had j u hu
      rw [World.cell?_alloc_lt _ _ _ (World.block_lt_of_cell? w _ this)]; exact this
    clear had h
    go_enter Tryd.func43, Tryd.ntmps43
    go_wp2_with (at_builtin; refine wpList_append_own _ rfl _ _ 35 rfl w.heap.size 9 i0 (.string { data := #[] }) 1 16 Tryd.underlying35 hi hz0 hz1 hz2 rfl (by decide) _ _ _ rfl hown ad l.length cap (ts l) rfl ?c0 ?c1 ?c2 ?c3 ?c4 ?c5 ?_)
    case c0 => rw [ts_length, Nat.mul_one]
    case c1 => exact HAD.out
    case c2 =>
      intro u hu
      obtain ⟨x, _, rfl⟩ := List.mem_map.1 hu
      rfl
    case c3 => unfold maxLen; omega
    case c4 => omega
    case c5 => simp
    intro v' w1 hown' hg _
    have HO : Hid (w1.ownsRow w.heap.size 9 1 v' l.length (ts l)) := by simpa [Hid] using hown'
    have HB : Hid (Below w.heap.size w w1) := ((Below.refl _ _).alloc (Nat.le_refl _) _).grown hg (by simp) (fun k hk => by cases hk; exact Nat.le_refl _)
    clear hown' hg
    go_wp2
    go_ret
    exact ⟨⟨_, rfl, HO.out⟩, HB.out⟩
  rcases h with ⟨rfl, hn⟩ | ⟨b, off, rfl, hc⟩
  · cases a with
    | none =>
      obtain rfl := hn rfl
      clear go hown
      go_enter Tryd.func43, Tryd.ntmps43
      go_wp2
      go_ret
      exact ⟨⟨_, rfl, World.ownsRow_nil _ _ _ _⟩, Below.refl _ _⟩
    | some ad => exact go ad (fun j u hu => by simp [ts] at hu)
  · refine go ⟨b, off, none⟩ (fun j u hu => ?_)
    have hj : j < l.length := by
      rcases Nat.lt_or_ge j l.length with h | h
      · exact h
      · rw [List.getElem?_eq_none (by rw [ts_length]; exact h)] at hu; cases hu
    rw [ts_at (get_at hj)] at hu
    cases hu
    rw [add_at]
    exact hc j _ (get_at hj)
end Go.Proofs.YtnnldpccagajbaaDoor
