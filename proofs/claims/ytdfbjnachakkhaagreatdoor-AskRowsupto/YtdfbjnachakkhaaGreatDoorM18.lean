import Derived.Test.YtdfbjnachakkhaaGreatDoorM11
import Derived.Lib.SliceRun
import Derived.Test.YtdfbjnachakkhaaGreatDoorM17
namespace Go.Proofs.YtdfbjnachakkhaaGreatDoor
open Go.ChangeShapes Go.WideShapes Go.ChangeAt Go.RowKit
set_option linter.unusedVariables false
theorem add_at (b off j : Nat) : (⟨b, off, none⟩ : Addr).add j = ⟨b, off + j, none⟩ := by unfold Addr.add; split <;> simp_all
set_option maxRecDepth 100000 in
set_option maxHeartbeats 1000000 in
theorem cloneVals_any (v : Value) (vs : List Value) (w : World) (h : Vals w v vs) (hl : vs.length ≤ 1073741824) (h1 : ∀ x ∈ vs, x.oneCell' = true) :
    Calls Tryz.prog 94 #[v] w fun e w' => (∃ v', e = .returned v' ∧ w'.ownsRow w.heap.size 28 1 v' vs.length vs) ∧ Below w.heap.size w w' := by
  have q22 : ∀ (w : World) (a : Option Addr) (n c n' c' : Nat), (binOp .eql 22 (.slice a n c) (.slice none n' c')).run Tryz.prog w = .ok (.bool a.isNone) w := fun w a n c n' c' => Lib.run_eql_slice_nil w _ _ a n c n' c' Tryz.underlying22
  obtain ⟨i0, hi, hz0, hz1, hz2⟩ := info_parts infoRow
  obtain ⟨a, cap, rfl, h⟩ := h
  have H1 : Hid (∀ x ∈ vs, x.oneCell' = true) := h1
  clear h1
  have hown : (w.alloc (.cells #[] 28)).ownsRow w.heap.size 28 1 (.slice (some ⟨w.heap.size, 0, none⟩) 0 0) 0 [] := World.ownsRow_made w #[] 0 (Nat.le_refl _) (by decide) rfl
  have go : ∀ ad : Addr, (∀ (j : Nat) (u : Value), vs[j]? = some u → w.cell? (ad.add j) = some u) →
      Calls Tryz.prog 94 #[.slice (some ad) vs.length cap] w fun e w' => (∃ v', e = .returned v' ∧ w'.ownsRow w.heap.size 28 1 v' vs.length vs) ∧ Below w.heap.size w w' := by
    intro ad had
    have HAD : Hid (∀ (j : Nat) (u : Value), vs[j]? = some u → (w.alloc (.cells #[] 28)).cell? (ad.add j) = some u) := by
      intro j u hu
      have := had j u hu
      rw [World.cell?_alloc_lt _ _ _ (World.block_lt_of_cell? w _ this)]; exact this
    clear had h
    go_enter Tryz.func94, Tryz.ntmps94
    go_wp2_with (at_builtin; refine wpList_append_own _ rfl _ _ 22 rfl w.heap.size 28 i0 (.slice none 0 0) 1 24 Tryz.underlying22 hi hz0 hz1 hz2 rfl (by decide) _ _ _ rfl hown ad vs.length cap vs rfl ?c0 ?c1 ?c2 ?c3 ?c4 ?c5 ?_)
    case c0 => rw [Nat.mul_one]
    case c1 => exact HAD.out
    case c2 => exact H1.out
    case c3 => unfold maxLen; omega
    case c4 => omega
    case c5 => simp
    intro v' w1 hown' hg _
    have HO : Hid (w1.ownsRow w.heap.size 28 1 v' vs.length vs) := by simpa [Hid] using hown'
    have HB : Hid (Below w.heap.size w w1) := ((Below.refl _ _).alloc (Nat.le_refl _) _).grown hg (by simp) (fun k hk => by cases hk; exact Nat.le_refl _)
    clear hown' hg
    go_wp2
    go_ret
    exact ⟨⟨_, rfl, HO.out⟩, HB.out⟩
  rcases h with ⟨rfl, hn⟩ | ⟨b, off, rfl, hc⟩
  · cases a with
    | none =>
      obtain rfl := hn rfl
      clear go hown
      go_enter Tryz.func94, Tryz.ntmps94
      go_wp2
      go_ret
      exact ⟨⟨_, rfl, World.ownsRow_nil _ _ _ _⟩, Below.refl _ _⟩
    | some ad => exact go ad (fun j u hu => by simp at hu)
  · refine go ⟨b, off, none⟩ (fun j u hu => ?_)
    rw [add_at]; exact hc j u hu
set_option maxRecDepth 100000 in
set_option maxHeartbeats 1000000 in
theorem cloneStrs_any (v : Value) (l : List (List UInt8)) (w : World) (h : Strs w v l) (hl : l.length ≤ 1099511627776) :
    Calls Tryz.prog 95 #[v] w fun e w' => (∃ v', e = .returned v' ∧ w'.ownsRow w.heap.size 9 1 v' l.length (ts l)) ∧ Below w.heap.size w w' := by
  have q22 : ∀ (w : World) (a : Option Addr) (n c n' c' : Nat), (binOp .eql 28 (.slice a n c) (.slice none n' c')).run Tryz.prog w = .ok (.bool a.isNone) w := fun w a n c n' c' => Lib.run_eql_slice_nil w _ _ a n c n' c' Tryz.underlying28
  obtain ⟨i0, hi, hz0, hz1, hz2⟩ := info_parts info9
  obtain ⟨a, cap, rfl, h⟩ := h
  have hown : (w.alloc (.cells #[] 9)).ownsRow w.heap.size 9 1 (.slice (some ⟨w.heap.size, 0, none⟩) 0 0) 0 [] := World.ownsRow_made w #[] 0 (Nat.le_refl _) (by decide) rfl
  have go : ∀ ad : Addr, (∀ (j : Nat) (u : Value), (ts l)[j]? = some u → w.cell? (ad.add j) = some u) →
      Calls Tryz.prog 95 #[.slice (some ad) l.length cap] w fun e w' => (∃ v', e = .returned v' ∧ w'.ownsRow w.heap.size 9 1 v' l.length (ts l)) ∧ Below w.heap.size w w' := by
    intro ad had
    have HAD : Hid (∀ (j : Nat) (u : Value), (ts l)[j]? = some u → (w.alloc (.cells #[] 9)).cell? (ad.add j) = some u) := by
      intro j u hu
      have := had j u hu
      rw [World.cell?_alloc_lt _ _ _ (World.block_lt_of_cell? w _ this)]; exact this
    clear had h
    go_enter Tryz.func95, Tryz.ntmps95
    go_wp2_with (at_builtin; refine wpList_append_own _ rfl _ _ 28 rfl w.heap.size 9 i0 (.string { data := #[] }) 1 16 Tryz.underlying28 hi hz0 hz1 hz2 rfl (by decide) _ _ _ rfl hown ad l.length cap (ts l) rfl ?c0 ?c1 ?c2 ?c3 ?c4 ?c5 ?_)
    case c0 => rw [ts_length, Nat.mul_one]
    case c1 => exact HAD.out
    case c2 =>
      intro u hu
      obtain ⟨x, _, rfl⟩ := List.mem_map.1 hu
      rfl
    case c3 => unfold maxLen; omega
    case c4 => omega
    case c5 => simp
    intro v' w1 hown' hg _
    have HO : Hid (w1.ownsRow w.heap.size 9 1 v' l.length (ts l)) := by simpa [Hid] using hown'
    have HB : Hid (Below w.heap.size w w1) := ((Below.refl _ _).alloc (Nat.le_refl _) _).grown hg (by simp) (fun k hk => by cases hk; exact Nat.le_refl _)
    clear hown' hg
    go_wp2
    go_ret
    exact ⟨⟨_, rfl, HO.out⟩, HB.out⟩
  rcases h with ⟨rfl, hn⟩ | ⟨b, off, rfl, hc⟩
  · cases a with
    | none =>
      obtain rfl := hn rfl
      clear go hown
      go_enter Tryz.func95, Tryz.ntmps95
      go_wp2
      go_ret
      exact ⟨⟨_, rfl, World.ownsRow_nil _ _ _ _⟩, Below.refl _ _⟩
    | some ad => exact go ad (fun j u hu => by simp [ts] at hu)
  · refine go ⟨b, off, none⟩ (fun j u hu => ?_)
    have hj : j < l.length := by
      rcases Nat.lt_or_ge j l.length with h | h
      · exact h
      · rw [List.getElem?_eq_none (by rw [ts_length]; exact h)] at hu; cases hu
    rw [ts_at (get_at hj)] at hu
    cases hu
    rw [add_at]
    exact hc j _ (get_at hj)
end Go.Proofs.YtdfbjnachakkhaaGreatDoor

namespace Go.Proofs.YtdfbjnachakkhaaGreatDoor
open Go.ChangeShapes Go.WideShapes Go.ChangeAt Go.RowKit Go.Hands Go.WideMaps Go.Maps
set_option linter.unusedVariables false
set_option maxRecDepth 100000
theorem infoBoolA : (Tryz.prog.info? 4).map (fun i => (i.zero, i.size, i.bytes)) = some (some (.bool false), 1, 1) := by kernel_rfl
set_option maxHeartbeats 1000000 in
theorem cloneParts (B n : Nat) (v : Value) (xs : List Value) (w : World) (h : w.ownsRow B 202 4 v n xs) (h1 : ∀ x ∈ xs, x.oneCell' = true) (hl : n ≤ 1000) :
    Calls Tryz.prog 132 #[v] w fun e w' => (∃ v', e = .returned v' ∧ w'.ownsRow w.heap.size 202 4 v' n xs) ∧ w.grownBy w' none := by
  have qn : ∀ (w : World) (a : Option Addr) (n c n' c' : Nat), (binOp .eql 141 (.slice a n c) (.slice none n' c')).run Tryz.prog w = .ok (.bool a.isNone) w := fun w a n c n' c' => Lib.run_eql_slice_nil w _ _ a n c n' c' Tryz.underlying141
  obtain ⟨i0, hi, hz0, hz1, hz2⟩ := info_parts infoPartW
  have hown : (w.alloc (.cells #[] 202)).ownsRow w.heap.size 202 4 (.slice (some ⟨w.heap.size, 0, none⟩) 0 0) 0 [] := World.ownsRow_made w #[] 0 (Nat.le_refl _) (by decide) rfl
  have H1 := hide h1
  have HX := hide h.1
  rcases h.2 with ⟨hv, h0⟩ | ⟨g, cap, cur, hv, _⟩
  · have hx : xs = [] := List.eq_nil_of_length_eq_zero (by have := h.1; rw [h0, Nat.zero_mul] at this; exact this)
    subst hx h0
    rw [hv]
    clear h h1 hown
    go_enter Tryz.func132, Tryz.ntmps132
    go_wp2
    go_ret
    exact ⟨⟨_, rfl, World.ownsRow_nil _ _ _ _⟩, fr_refl _ _⟩
  · have HAD : Hid (∀ (j : Nat) (u : Value), xs[j]? = some u → (w.alloc (.cells #[] 202)).cell? ((⟨g, 0, none⟩ : Addr).add j) = some u) := by
      intro j u hu
      have hc := own_cell h (g := g) (by rw [hv]; rfl) j u hu
      rw [add_at, Nat.zero_add, World.cell?_alloc_lt _ _ _ (World.block_lt_of_cell? w _ hc)]; exact hc
    rw [hv]
    clear h h1 hv
    go_enter Tryz.func132, Tryz.ntmps132
    go_wp2_with (at_builtin; refine wpList_append_own _ rfl _ _ 141 rfl w.heap.size 202 i0 (.agg #[.int .i64 0, .int .i64 0, .pointer none, .slice none 0 0]) 4 48 Tryz.underlying141 hi hz0 hz1 hz2 rfl (by decide) _ _ _ rfl hown ⟨g, 0, none⟩ n cap xs rfl ?c0 ?c1 ?c2 ?c3 ?c4 ?c5 ?_)
    case c0 => exact HX.out
    case c1 => exact HAD.out
    case c2 => exact H1.out
    case c3 => unfold maxLen; omega
    case c4 => omega
    case c5 => simp
    intro v' w1 hown' hg _
    have HO : Hid (w1.ownsRow w.heap.size 202 4 v' n xs) := by simpa [Hid] using hown'
    have HB : Hid (w.grownBy w1 none) := fr_far (fr_alloc w (.cells #[] 202) none) (FrS.of (S := fun k => k = w.heap.size) hg (fun k e => .inl (Option.some.inj e).symm)) (fun i hi e => by have : i = w.heap.size := e; omega)
    clear hown' hg
    go_wp2
    go_ret
    exact ⟨⟨_, rfl, HO.out⟩, HB.out⟩
set_option maxHeartbeats 1000000 in
theorem cloneBools (B n : Nat) (v : Value) (xs : List Value) (w : World) (h : w.ownsRow B 4 1 v n xs) (h1 : ∀ x ∈ xs, x.oneCell' = true) (hl : n ≤ 1000) :
    Calls Tryz.prog 133 #[v] w fun e w' => (∃ v', e = .returned v' ∧ w'.ownsRow w.heap.size 4 1 v' n xs) ∧ w.grownBy w' none := by
  have qn : ∀ (w : World) (a : Option Addr) (n c n' c' : Nat), (binOp .eql 146 (.slice a n c) (.slice none n' c')).run Tryz.prog w = .ok (.bool a.isNone) w := fun w a n c n' c' => Lib.run_eql_slice_nil w _ _ a n c n' c' Tryz.underlying146
  obtain ⟨i0, hi, hz0, hz1, hz2⟩ := info_parts infoBoolA
  have hown : (w.alloc (.cells #[] 4)).ownsRow w.heap.size 4 1 (.slice (some ⟨w.heap.size, 0, none⟩) 0 0) 0 [] := World.ownsRow_made w #[] 0 (Nat.le_refl _) (by decide) rfl
  have H1 := hide h1
  have HX := hide h.1
  rcases h.2 with ⟨hv, h0⟩ | ⟨g, cap, cur, hv, _⟩
  · have hx : xs = [] := List.eq_nil_of_length_eq_zero (by have := h.1; rw [h0, Nat.zero_mul] at this; exact this)
    subst hx h0
    rw [hv]
    clear h h1 hown
    go_enter Tryz.func133, Tryz.ntmps133
    go_wp2
    go_ret
    exact ⟨⟨_, rfl, World.ownsRow_nil _ _ _ _⟩, fr_refl _ _⟩
  · have HAD : Hid (∀ (j : Nat) (u : Value), xs[j]? = some u → (w.alloc (.cells #[] 4)).cell? ((⟨g, 0, none⟩ : Addr).add j) = some u) := by
      intro j u hu
      have hc := own_cell h (g := g) (by rw [hv]; rfl) j u hu
      rw [add_at, Nat.zero_add, World.cell?_alloc_lt _ _ _ (World.block_lt_of_cell? w _ hc)]; exact hc
    rw [hv]
    clear h h1 hv
    go_enter Tryz.func133, Tryz.ntmps133
    go_wp2_with (at_builtin; refine wpList_append_own _ rfl _ _ 146 rfl w.heap.size 4 i0 (.bool false) 1 1 Tryz.underlying146 hi hz0 hz1 hz2 rfl (by decide) _ _ _ rfl hown ⟨g, 0, none⟩ n cap xs rfl ?c0 ?c1 ?c2 ?c3 ?c4 ?c5 ?_)
    case c0 => exact HX.out
    case c1 => exact HAD.out
    case c2 => exact H1.out
    case c3 => unfold maxLen; omega
    case c4 => omega
    case c5 => simp
    intro v' w1 hown' hg _
    have HO : Hid (w1.ownsRow w.heap.size 4 1 v' n xs) := by simpa [Hid] using hown'
    have HB : Hid (w.grownBy w1 none) := fr_far (fr_alloc w (.cells #[] 4) none) (FrS.of (S := fun k => k = w.heap.size) hg (fun k e => .inl (Option.some.inj e).symm)) (fun i hi e => by have : i = w.heap.size := e; omega)
    clear hown' hg
    go_wp2
    go_ret
    exact ⟨⟨_, rfl, HO.out⟩, HB.out⟩
set_option maxHeartbeats 1000000 in
theorem cloneWay (B n : Nat) (v : Value) (xs : List Value) (w : World) (h : w.ownsRow B 3 1 v n xs) (h1 : ∀ x ∈ xs, x.oneCell' = true) (hl : n ≤ 1000) :
    Calls Tryz.prog 106 #[v] w fun e w' => (∃ v', e = .returned v' ∧ w'.ownsRow w.heap.size 3 1 v' n xs) ∧ w.grownBy w' none := by
  have qn : ∀ (w : World) (a : Option Addr) (n c n' c' : Nat), (binOp .eql 151 (.slice a n c) (.slice none n' c')).run Tryz.prog w = .ok (.bool a.isNone) w := fun w a n c n' c' => Lib.run_eql_slice_nil w _ _ a n c n' c' Tryz.underlying151
  obtain ⟨i0, hi, hz0, hz1, hz2⟩ := info_parts infoIntA
  have hown : (w.alloc (.cells #[] 3)).ownsRow w.heap.size 3 1 (.slice (some ⟨w.heap.size, 0, none⟩) 0 0) 0 [] := World.ownsRow_made w #[] 0 (Nat.le_refl _) (by decide) rfl
  have H1 := hide h1
  have HX := hide h.1
  rcases h.2 with ⟨hv, h0⟩ | ⟨g, cap, cur, hv, _⟩
  · have hx : xs = [] := List.eq_nil_of_length_eq_zero (by have := h.1; rw [h0, Nat.zero_mul] at this; exact this)
    subst hx h0
    rw [hv]
    clear h h1 hown
    go_enter Tryz.func106, Tryz.ntmps106
    go_wp2
    go_ret
    exact ⟨⟨_, rfl, World.ownsRow_nil _ _ _ _⟩, fr_refl _ _⟩
  · have HAD : Hid (∀ (j : Nat) (u : Value), xs[j]? = some u → (w.alloc (.cells #[] 3)).cell? ((⟨g, 0, none⟩ : Addr).add j) = some u) := by
      intro j u hu
      have hc := own_cell h (g := g) (by rw [hv]; rfl) j u hu
      rw [add_at, Nat.zero_add, World.cell?_alloc_lt _ _ _ (World.block_lt_of_cell? w _ hc)]; exact hc
    rw [hv]
    clear h h1 hv
    go_enter Tryz.func106, Tryz.ntmps106
    go_wp2_with (at_builtin; refine wpList_append_own _ rfl _ _ 151 rfl w.heap.size 3 i0 (.int .i64 0) 1 8 Tryz.underlying151 hi hz0 hz1 hz2 rfl (by decide) _ _ _ rfl hown ⟨g, 0, none⟩ n cap xs rfl ?c0 ?c1 ?c2 ?c3 ?c4 ?c5 ?_)
    case c0 => exact HX.out
    case c1 => exact HAD.out
    case c2 => exact H1.out
    case c3 => unfold maxLen; omega
    case c4 => omega
    case c5 => simp
    intro v' w1 hown' hg _
    have HO : Hid (w1.ownsRow w.heap.size 3 1 v' n xs) := by simpa [Hid] using hown'
    have HB : Hid (w.grownBy w1 none) := fr_far (fr_alloc w (.cells #[] 3) none) (FrS.of (S := fun k => k = w.heap.size) hg (fun k e => .inl (Option.some.inj e).symm)) (fun i hi e => by have : i = w.heap.size := e; omega)
    clear hown' hg
    go_wp2
    go_ret
    exact ⟨⟨_, rfl, HO.out⟩, HB.out⟩
end Go.Proofs.YtdfbjnachakkhaaGreatDoor

namespace Go.Proofs.YtdfbjnachakkhaaGreatDoor
open Go.ChangeShapes Go.WideShapes Go.ChangeAt Go.RowKit Go.Hands Go.WideMaps Go.Maps
set_option linter.unusedVariables false
set_option maxRecDepth 100000
theorem enterA1 : ∀ args w, (callFunc 135 args).run Tryz.prog w = .ok (.enter 135 args) w := enters_of Tryz.func135 (by kernel_rfl) rfl
set_option maxHeartbeats 1000000 in
theorem arranged1_any (fb R : Nat) (va : Option Addr) (n vc : Nat) (w : World) (h : w.cell? ⟨fb, 0, none⟩ = some (.int .i64 (-1))) :
    Calls Tryz.prog 135 #[.agg #[.int .i64 0, .int .i64 0, .pointer (some ⟨R, 0, none⟩), .slice va n vc], .pointer (some ⟨fb, 0, none⟩)] w fun e w' => e = .returned (.bool false) ∧ w.grownBy w' none := by
  obtain ⟨wA, HWA⟩ : ∃ wA, Hid (wA = w.alloc (.cells #[.int .i64 0, .int .i64 0, .pointer (some ⟨R, 0, none⟩), .slice va n vc] 202)) := ⟨_, rfl⟩
  have hwA := HWA.out.symm
  have HGA : Hid (w.grownBy wA none) := by rw [HWA.out]; exact fr_alloc _ _ _
  have p0 : wA.heap[w.heap.size]? = some (.cells #[.int .i64 0, .int .i64 0, .pointer (some ⟨R, 0, none⟩), .slice va n vc] 202) := by rw [HWA.out]; exact heap_alloc_new _ _
  have c1 : wA.cell? ⟨w.heap.size, 1, none⟩ = some (.int .i64 0) := cell_of p0 1 _ rfl
  have c2 := (FrS.none (S := fun _ => False) HGA.out).cell h (fun h => h)
  have hd := fun k => FrS.none (S := fun _ => False) (fr_draws wA k none)
  have d1 := fun k => (hd k).cell c1 (fun h => h)
  have d2 := fun k => (hd k).cell c2 (fun h => h)
  clear hd p0 h
  go_enter Tryz.func135, Tryz.ntmps135
  go_wp2
  go_ret
  exact ⟨rfl, HGA.out⟩
set_option maxHeartbeats 1000000 in
theorem indexPart_none (Bp fb R g c n vc : Nat) (va : Option Addr) (w : World) (hp : w.ownsRow Bp 202 4 (.slice (some ⟨g, 0, none⟩) 1 c) 1 [.int .i64 0, .int .i64 0, .pointer (some ⟨R, 0, none⟩), .slice va n vc]) (h : w.cell? ⟨fb, 0, none⟩ = some (.int .i64 (-1))) :
    Calls Tryz.prog 134 #[.slice (some ⟨g, 0, none⟩) 1 c, .func (.func 135) #[] #[.pointer (some ⟨fb, 0, none⟩)]] w fun e w' => e = .returned (.int .i64 (-1)) ∧ w.grownBy w' none := by
  have EG := enterA1
  have HF := hide (arranged1_any fb R va n vc w h)
  have q0 := own_cell hp (g := g) rfl 0 _ rfl
  have q1 := own_cell hp (g := g) rfl 1 _ rfl
  have q2 := own_cell hp (g := g) rfl 2 _ rfl
  have q3 := own_cell hp (g := g) rfl 3 _ rfl
  clear hp h
  go_enter Tryz.func134, Tryz.ntmps134
  go_wp2
  refine wp_loop_rounds 2 ?_
  rw [rounds_succ]
  go_wp2_with fail
  refine HF.out.mono ?_
  rintro _ w2 ⟨rfl, hg2⟩
  have HG2 := hide hg2
  clear hg2
  go_wp2
  rw [rounds_succ]
  go_wp2
  go_ret
  exact ⟨rfl, HG2.out⟩
theorem grown_sets {g : Nat} : ∀ (zs : List Value) (o : Nat) (w : World), w.grownBy (w.setCells g o zs) (some g)
  | [], _, w => fr_refl _ _
  | z :: zs, o, w => fr_trans (fr_set w g o z) (grown_sets zs (o + 1) _) (fun q hq => Or.inl rfl)
theorem clear_part (ty : TypeId) (g c : Nat) (w : World) (hc : ∀ j, j < 4 → (w.cell? ⟨g, 0 + j, none⟩).isSome = true) (hf : ∀ j, j < 4 → w.frozen? ⟨g, 0 + j, none⟩ = false) :
    (Builtin.clear_ #[141] ty #[.slice (some ⟨g, 0, none⟩) 1 c]).run Tryz.prog w = .ok (.tuple #[]) (w.setCells g 0 [.int .i64 0, .int .i64 0, .pointer none, .slice none 0 0]) := by
  have hzc : (Builtin.zeroCells (Value.agg #[.int .i64 0, .int .i64 0, .pointer none, .slice none 0 0]).cells 1).toList = [.int .i64 0, .int .i64 0, .pointer none, .slice none 0 0] := by kernel_rfl
  have hst := run_storeCells_cells (P := Tryz.prog) g 0 [.int .i64 0, .int .i64 0, .pointer none, .slice none 0 0] 0 w (by simpa using hc) (by simpa using hf) (by intro v hv'; simp at hv'; rcases hv' with rfl | rfl | rfl | rfl <;> rfl)
  simp only [Nat.add_zero] at hst
  simp [Builtin.clear_, run_underlying Tryz.underlying141, hzc, hst]
set_option maxHeartbeats 1000000 in
theorem deletePart (Bp R g c n vc : Nat) (va : Option Addr) (w : World) (hp : w.ownsRow Bp 202 4 (.slice (some ⟨g, 0, none⟩) 1 c) 1 [.int .i64 0, .int .i64 0, .pointer (some ⟨R, 0, none⟩), .slice va n vc]) :
    Calls Tryz.prog 138 #[.slice (some ⟨g, 0, none⟩) 1 c, .int .i64 0, .int .i64 1] w fun e w' => (∃ c', e = .returned (.slice (some ⟨g, 0, none⟩) 0 c')) ∧ w.grownBy w' (some g) := by
  have hcap : 1 ≤ c := by
    rcases hp.2 with ⟨e, _⟩ | ⟨g', cap', cur, hv, _, _, hn, _⟩
    · cases e
    · cases hv; exact hn
  have q0 := own_cell hp (g := g) rfl 0 _ rfl
  have q1 := own_cell hp (g := g) rfl 1 _ rfl
  have q2 := own_cell hp (g := g) rfl 2 _ rfl
  have q3 := own_cell hp (g := g) rfl 3 _ rfl
  have HP := hide hp
  clear hp
  have hcell : ∀ j, j < 4 → (w.drew.cell? ⟨g, 0 + j, none⟩).isSome = true := by
    intro j hj
    have hf := FrS.none (S := fun _ => False) (fr_draws w 1 none)
    match j, hj with
    | 0, _ => exact Option.isSome_iff_exists.2 ⟨_, hf.cell q0 (fun h => h)⟩
    | 1, _ => exact Option.isSome_iff_exists.2 ⟨_, hf.cell q1 (fun h => h)⟩
    | 2, _ => exact Option.isSome_iff_exists.2 ⟨_, hf.cell q2 (fun h => h)⟩
    | 3, _ => exact Option.isSome_iff_exists.2 ⟨_, hf.cell q3 (fun h => h)⟩
  have hfz : ∀ j, j < 4 → w.drew.frozen? ⟨g, 0 + j, none⟩ = false := by
    intro j hj
    obtain ⟨cur, hc⟩ := own_type HP.out (g := g) rfl
    exact thaw_of (w := w.drew) hc (0 + j)
  have hcl := fun ty c => clear_part ty g c w.drew hcell hfz
  clear hcell hfz
  by_cases hc1 : c = 1
  · subst hc1
    go_enter Tryz.func138, Tryz.ntmps138
    go_wp2_with fail
    go_region_held3 (fun w' => w'.cell? ⟨g, 0, none⟩ = some (.int .i64 0)) (go_keep) (fail)
    go_wp2
    go_ret
    exact ⟨⟨_, rfl⟩, fr_trans (fr_weak (fr_draws w 1 none) _) (grown_sets _ _ _) (fun q hq => Or.inl rfl)⟩
  · obtain ⟨d, rfl⟩ : ∃ d, c = d + 2 := ⟨c - 2, by omega⟩
    have i0 : (0 : Int) ≤ (d : Int) + 2 := by omega
    have i1 : (1 : Int) ≤ (d : Int) + 2 := by omega
    have i2 : (0 : Int) ≤ ((d + 2 : Nat) : Int) := by omega
    have i3 : (1 : Int) ≤ ((d + 2 : Nat) : Int) := by omega
    go_enter Tryz.func138, Tryz.ntmps138
    go_wp2_with fail
    go_region_held3 (fun w' => w'.cell? ⟨g, 0, none⟩ = some (.int .i64 0)) (go_keep) (fail)
    go_wp2
    go_ret
    exact ⟨⟨_, rfl⟩, fr_trans (fr_weak (fr_draws w 1 none) _) (grown_sets _ _ _) (fun q hq => Or.inl rfl)⟩
end Go.Proofs.YtdfbjnachakkhaaGreatDoor

namespace Go.Proofs.YtdfbjnachakkhaaGreatDoor
open Go.ChangeShapes Go.WideShapes Go.ChangeAt Go.RowKit Go.Hands Go.WideMaps Go.Maps
set_option linter.unusedVariables false
set_option maxRecDepth 100000
set_option maxHeartbeats 1000000 in
theorem arranged_any (B Bp Bb n R g c : Nat) (vt bv : Value) (w : World) (hp : w.ownsRow Bp 202 4 (.slice (some ⟨g, 0, none⟩) 1 c) 1 [.int .i64 0, .int .i64 0, .pointer (some ⟨R, 0, none⟩), vt]) (h : w.ownsRow B 204 2 vt n (tvV n)) (hb : w.ownsRow Bb 4 1 bv n (offV n)) (hn : n ≤ 8) :
    Calls Tryz.prog 103 #[.slice (some ⟨g, 0, none⟩) 1 c, .int .i64 (-1), bv] w fun e w' => (∃ v', e = .returned v' ∧ w'.ownsRow w.heap.size 202 4 v' 1 [.int .i64 0, .int .i64 0, .pointer (some ⟨R, 0, none⟩), vt]) ∧ w.grownBy w' none := by
  obtain ⟨i0, hi, hz0, hz1, hz2⟩ := info_parts infoPartW
  have HP := hide hp
  have HT := hide h
  have HB := hide hb
  obtain ⟨va, vc, hve⟩ := own_form h
  obtain ⟨ba, bc, hbe⟩ := own_form hb
  rw [hbe]
  clear hp h hb
  obtain ⟨wA, HWA⟩ : ∃ wA, Hid (wA = w.alloc (.cells #[.int .i64 (-1)] 3)) := ⟨_, rfl⟩
  have hwA := HWA.out.symm
  have HGA : Hid (w.grownBy wA none) := by rw [HWA.out]; exact fr_alloc _ _ _
  have HC0 : Hid (wA.cell? ⟨w.heap.size, 0, none⟩ = some (.int .i64 (-1))) := by rw [HWA.out]; exact cell_of (heap_alloc_new _ _) 0 _ rfl
  have HCP := hide (cloneParts Bp 1 _ _ wA (own_far HP.out HGA.out (by simp)) (by intro x hx; rw [hve] at hx; simp at hx; rcases hx with rfl | rfl | rfl <;> rfl) (by omega))
  go_enter Tryz.func103, Tryz.ntmps103
  go_wp2_with fail
  refine HCP.out.mono ?_
  rintro _ w1 ⟨⟨vl, rfl, hl1⟩, hg1⟩
  have HL1 := hide hl1
  have HG1 : Hid (w.grownBy w1 none) := fr_both HGA.out hg1
  have HC1 := hide ((FrS.none (S := fun _ => False) hg1).cell HC0.out (fun h => h))
  obtain ⟨gl, cl, hvl, _, _⟩ := hl1.form (by omega)
  subst hvl
  have HCB := hide (cloneBools Bb n bv (offV n) w1 (HB.out.kept HG1.out (by cases bv.ownBlock <;> simp)) (by intro x hx; rw [(List.mem_replicate.1 hx).2]; rfl) (by omega))
  rw [hbe] at HCB
  clear hl1 hg1
  go_wp2_with fail
  refine HCB.out.mono ?_
  rintro _ w2 ⟨⟨vb, rfl, hb2⟩, hg2⟩
  have HB2 := hide hb2
  obtain ⟨b2a, b2c, hvb⟩ := own_form hb2
  subst hvb
  have HG2 : Hid (w.grownBy w2 none) := fr_both HG1.out hg2
  have c2 := (FrS.none (S := fun _ => False) hg2).cell HC1.out (fun h => h)
  have HL2 : Hid (w2.ownsRow wA.heap.size 202 4 (.slice (some ⟨gl, 0, none⟩) 1 cl) 1 [.int .i64 0, .int .i64 0, .pointer (some ⟨R, 0, none⟩), vt]) := own_far HL1.out hg2 (by simp)
  have HT2 : Hid (w2.ownsRow B 204 2 vt n (tvV n)) := HT.out.kept HG2.out (by cases vt.ownBlock <;> simp)
  clear hb2 hg2
  go_wp2_with fail
  have HIX := hide (indexPart_none wA.heap.size w.heap.size R gl cl n vc va w2 (by rw [← hve]; exact HL2.out) c2)
  refine wp_loop_rounds 2 ?_
  rw [rounds_succ]
  go_wp2_with fail
  refine HIX.out.mono ?_
  rintro _ w3 ⟨rfl, hg3⟩
  have HNE := hide (nearest_any B wA.heap.size w1.heap.size n R gl cl vt _ w3 (own_far HL2.out hg3 (by simp)) (HT2.out.kept hg3 (by cases vt.ownBlock <;> simp)) (HB2.out.kept hg3 (by cases (Value.slice b2a n b2c).ownBlock <;> simp)) hn)
  have HG23 := hide hg3
  clear hg3
  go_wp2_with fail
  refine HNE.out.mono ?_
  rintro _ w4 ⟨rfl, hg4⟩
  have HG24 : Hid (w2.grownBy w4 none) := fr_both HG23.out hg4
  have HL4 : Hid (w4.ownsRow wA.heap.size 202 4 (.slice (some ⟨gl, 0, none⟩) 1 cl) 1 [.int .i64 0, .int .i64 0, .pointer (some ⟨R, 0, none⟩), vt]) := own_far HL2.out HG24.out (by simp)
  have l3 := own_cell HL4.out (g := gl) rfl 3 _ rfl
  have HVO := hide (variablesOf_any B n vt w4 (HT2.out.kept HG24.out (by cases vt.ownBlock <;> simp)) hn)
  have HB4 : Hid (w4.ownsRow w1.heap.size 4 1 (.slice b2a n b2c) n (offV n)) := HB2.out.kept HG24.out (by cases (Value.slice b2a n b2c).ownBlock <;> simp)
  rw [hve] at l3 HVO
  clear hg4 c2
  go_wp2_with fail
  refine HVO.out.mono ?_
  rintro _ w5 ⟨⟨vv, rfl, hvv⟩, hg5⟩
  have HVV := hide hvv
  obtain ⟨vva, vvc, hvve⟩ := own_form hvv
  subst hvve
  have HG45 := hide hg5
  have HL5 : Hid (w5.ownsRow wA.heap.size 202 4 (.slice (some ⟨gl, 0, none⟩) 1 cl) 1 [.int .i64 0, .int .i64 0, .pointer (some ⟨R, 0, none⟩), vt]) := own_far HL4.out hg5 (by simp)
  have HB5 : Hid (w5.ownsRow w1.heap.size 4 1 (.slice b2a n b2c) n (offV n)) := HB4.out.kept hg5 (by cases (Value.slice b2a n b2c).ownBlock <;> simp)
  clear hvv hg5 l3
  go_wp2_with fail
  go_loopw [34] (fun iv wr => ∃ i : Nat, i ≤ n ∧ iv = .int .i64 i ∧ Hid (∃ xs, wr.ownsRow w1.heap.size 4 1 (.slice b2a n b2c) n xs) ∧ Hid (FrS (fun j => (Value.slice b2a n b2c).ownBlock = some j) w5 wr)) (fun iv _ => n - (intOf iv).toNat)
  case atStart => exact ⟨0, Nat.zero_le _, rfl, ⟨_, HB5.out⟩, FrS.refl _ _⟩
  case round =>
    obtain ⟨i, hin, rfl, HXS, HF⟩ := hrel
    obtain ⟨xs, hxs⟩ := HXS.out
    by_cases hlt : i < n
    · obtain ⟨gv, hgv⟩ : ∃ g, vva = some ⟨g, 0, none⟩ := by
        rcases HVV.out.2 with ⟨e, e0⟩ | ⟨g, cap, cur, e, _⟩
        · omega
        · injection e with e1 e2 e3; exact ⟨g, e1⟩
      obtain ⟨gb, hgb⟩ : ∃ g, b2a = some ⟨g, 0, none⟩ := by
        rcases HB5.out.2 with ⟨e, e0⟩ | ⟨g, cap, cur, e, _⟩
        · omega
        · injection e with e1 e2 e3; exact ⟨g, e1⟩
      subst hgv hgb
      have c0 := own_cell HVV.out (g := gv) rfl i _ (upV_at hlt)
      have hngv : ¬ (Value.slice (some ⟨gb, 0, none⟩) n b2c).ownBlock = some gv := by
        intro e
        obtain ⟨cur, h1⟩ := own_type HVV.out (g := gv) rfl
        obtain ⟨cur2, h2⟩ := own_type HB5.out e
        rw [h1] at h2; injection h2 with h2; injection h2 with _ h3; cases h3
      have c1 := HF.out.cell c0 hngv
      have hxl : xs.length = n := by have := hxs.1; rw [Nat.mul_one] at this; exact this
      obtain ⟨u0, hu0⟩ : ∃ u, xs[i]? = some u := ⟨_, List.getElem?_eq_getElem (by omega)⟩
      have c2 := own_cell hxs (g := gb) rfl i u0 hu0
      have c3 := own_thaw hxs i
      have HX2 : Hid (∃ ys, (wr.setCell ⟨gb, i, none⟩ (.bool true)).ownsRow w1.heap.size 4 1 (.slice (some ⟨gb, 0, none⟩) n b2c) n ys) := ⟨_, own_set hxs i (.bool true)⟩
      have HF2 : Hid (FrS (fun j => (Value.slice (some ⟨gb, 0, none⟩) n b2c).ownBlock = some j) w5 (wr.setCell ⟨gb, i, none⟩ (.bool true))) := FrS.trans (S' := fun j => j = gb) HF.out (FrS.of (fr_set wr gb i _) (fun g e => .inl (Option.some.inj e).symm)) (fun j _ e => by rw [show j = gb from e]; rfl)
      clear c0 hngv hxl hu0 hxs
      go_wp2
      go_roundw
      case rel => exact ⟨i + 1, by omega, by go_num, HX2, HF2⟩
      case measure => simp [intOf]; omega
    · have hnl : ¬ (Value.slice b2a n b2c).ownBlock = some gl := by
        intro e
        obtain ⟨cur, h1⟩ := own_type HL5.out (g := gl) rfl
        obtain ⟨cur2, h2⟩ := own_type HB5.out e
        rw [h1] at h2; injection h2 with h2; injection h2 with _ h3; cases h3
      have HLR : Hid (wr.ownsRow wA.heap.size 202 4 (.slice (some ⟨gl, 0, none⟩) 1 cl) 1 [.int .i64 0, .int .i64 0, .pointer (some ⟨R, 0, none⟩), .slice va n vc]) := by
        have := HF.out.row HL5.out (fun gq cur fz hq _ _ e => by
          have e1 : gl = gq := Option.some.inj hq
          exact hnl (by rw [e1]; exact e))
        rw [hve] at this; exact this
      have m0 := own_cell HLR.out (g := gl) rfl 0 _ rfl
      have m1 := own_cell HLR.out (g := gl) rfl 1 _ rfl
      have m2 := own_cell HLR.out (g := gl) rfl 2 _ rfl
      have m3 := own_cell HLR.out (g := gl) rfl 3 _ rfl
      have HGR : Hid (w.grownBy wr none) := by
        refine fr_far (fr_both (fr_both HG2.out HG24.out) HG45.out) HF.out (fun j hj e => ?_)
        have := (own_blk HB5.out e).1
        have := HG1.out.size
        omega
      have hbs : w.heap.size ≤ wr.heap.size := HGR.out.size
      have hbl : wA.heap.size ≤ wr.heap.size := by have := (own_blk HLR.out (g := gl) rfl); omega
      clear hnl hxs
      go_wp2_with (at_builtin; refine wpList_append_own_at _ rfl _ _ 141 rfl w.heap.size 202 i0 (.agg #[.int .i64 0, .int .i64 0, .pointer none, .slice none 0 0]) 4 48 Tryz.underlying141 hi hz0 hz1 hz2 rfl (by omega) (.slice none 0 0) 0 [] rfl (World.ownsRow_nil _ _ _ _) ⟨wr.heap.size, 0, none⟩ 1 1 [.int .i64 0, .int .i64 0, .pointer (some ⟨R, 0, none⟩), .slice va n vc] rfl rfl (fun j q hj => cell_new8 wr _ _ _ j q hj) (by simp [Value.oneCell']) (by unfold maxLen; omega) (by omega) (by simp; omega) ?_)
      intro v2 w6 hown6 hg6 hnil6 hat6
      have HG6 : Hid (wr.grownBy w6 none) := fr_both (fr_alloc wr _ none) hg6
      have HO6 := hide hown6
      obtain ⟨xa, xc, hv2⟩ := own_form hown6
      have HDL := hide (deletePart wA.heap.size R gl cl n vc va w6 (own_far HLR.out HG6.out (by simp)))
      have hgl6 : gl < wr.heap.size := (own_blk HLR.out (g := gl) rfl).2
      have hv6 : ∀ q, v2.ownBlock = some q → q ≠ gl := by
        intro q hq
        rcases hat6 with e | e
        · rw [hq] at e; cases e
        · rw [hq] at e
          have := Option.some.inj e
          omega
      clear hown6 hg6 hnil6 hat6 m0 m1 m2 m3
      subst hv2
      go_wp2_with fail
      refine HDL.out.mono ?_
      rintro _ w7 ⟨⟨c7, rfl⟩, hg7⟩
      have HO7 : Hid (w7.ownsRow w.heap.size 202 4 (.slice xa (0 + 1) xc) (0 + 1) [.int .i64 0, .int .i64 0, .pointer (some ⟨R, 0, none⟩), .slice va n vc]) := own_far HO6.out hg7 (fun q hq e => hv6 q hq (Option.some.inj e).symm)
      have HG7 : Hid (w.grownBy w7 none) := by
        refine fr_far (fr_both HGR.out HG6.out) (FrS.of (S := fun j => j = gl) hg7 (fun q e => .inl (Option.some.inj e).symm)) (fun j hj e => ?_)
        have h1 := (own_blk HLR.out (g := gl) rfl).1
        have h2 := HGA.out.size
        have e' : j = gl := e
        omega
      clear hg7
      go_wp2
      rw [rounds_succ]
      go_wp2
      go_ret
      refine ⟨⟨_, rfl, ?_⟩, HG7.out⟩
      rw [hve]; exact HO7.out
end Go.Proofs.YtdfbjnachakkhaaGreatDoor
