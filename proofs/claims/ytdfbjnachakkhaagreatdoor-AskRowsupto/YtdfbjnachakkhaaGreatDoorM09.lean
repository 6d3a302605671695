import Derived.Test.YtdfbjnachakkhaaGreatDoorM04
import Derived.Test.YtdfbjnachakkhaaGreatDoorM08
import Derived.Laws.BitsAllLaws
import Derived.Laws.Bits128
import Derived.Test.YtdfbjnachakkhaaGreatDoorM01
import Derived.Lib.AppendStr
import Derived.Laws.AppendOwnNone
namespace Go.Proofs.YtdfbjnachakkhaaGreatDoor
open Go.ChangeShapes Go.WideShapes Go.ChangeAt Go.RowKit Go.Hands Go.WideMaps Go.Maps
set_option linter.unusedVariables false
set_option maxRecDepth 100000
set_option maxHeartbeats 1000000 in
theorem fits_any (base : Nat) (name : ByteArray) (u row : Value) (pl : Nat) (ts : List PTerm) (w : World) (ra : Option Addr) (rn rc : Nat) (h : w.ownsRow base 65 3 u ts.length (termsV ts)) (hv : ∀ t ∈ ts, t.isVar = true) (hl : ts.length ≤ 1000000) :
    Calls Tryz.prog 61 #[.agg #[.string name, u, .int .i64 (pl : Nat)], .slice ra rn rc] w fun e w' => e = .returned (.bool true) ∧ w.grownBy w' none := by
  have HO := hide h
  have HV := hide hv
  obtain ⟨ua, uc, hue⟩ := own_form h
  have HT := hide (own_terms h)
  clear h hv
  obtain ⟨n, HN⟩ : ∃ n, Hid (n = ts.length) := ⟨_, rfl⟩
  rw [← HN.out] at hue hl
  rw [hue]
  go_enter Tryz.func61, Tryz.ntmps61
  go_wp2_with fail
  go_loopw [10] (fun iv wr => ∃ i : Nat, i ≤ n ∧ iv = .int .i64 i ∧ Hid (w.grownBy wr none)) (fun iv _ => n - (intOf iv).toNat)
  case atStart => exact ⟨0, Nat.zero_le _, rfl, fr_alloc _ _ _⟩
  case round =>
    obtain ⟨i, hi, rfl, HG⟩ := hrel
    by_cases hlt : i < n
    · have hlt' : i < ts.length := by rw [← HN.out]; exact hlt
      obtain ⟨g, hg, hc⟩ : ∃ g, ua = some ⟨g, 0, none⟩ ∧ w.cell? ⟨g, i * 3, none⟩ = some (.bool true) ∧ (∃ x, w.cell? ⟨g, i * 3 + 1, none⟩ = some (.string x)) ∧ (∃ y : Nat, w.cell? ⟨g, i * 3 + 2, none⟩ = some (.int .i64 (y : Nat))) := by
        rcases HT.out with ⟨_, h0⟩ | ⟨g, cap, hug, _, hgl, hcc⟩
        · rw [h0] at hlt'; simp at hlt'
        · obtain ⟨z0, z1, z2⟩ := hcc i hlt'
          rw [HV.out _ (List.getElem_mem hlt')] at z0
          rw [hue] at hug
          injection hug with e1 _ _
          exact ⟨g, e1, z0, ⟨_, z1⟩, ⟨_, z2⟩⟩
      obtain ⟨z0, ⟨x, z1⟩, ⟨y, z2⟩⟩ := hc
      have hf := FrS.none (S := fun _ => False) HG.out
      replace z0 := hf.cell z0 (fun h => h)
      replace z1 := hf.cell z1 (fun h => h)
      replace z2 := hf.cell z2 (fun h => h)
      rw [hg]
      obtain ⟨wb, HWB⟩ : ∃ wb, Hid (wb = wr.alloc (.cells #[.bool true, .string x, .int .i64 (y : Nat)] 65)) := ⟨_, rfl⟩
      have hwb := HWB.out.symm
      have HGB : Hid (w.grownBy wb none) := by rw [HWB.out]; exact fr_both HG.out (fr_alloc _ _ _)
      have hbl : wb.heap[wr.heap.size]? = some (.cells #[.bool true, .string x, .int .i64 (y : Nat)] 65) := by rw [HWB.out]; exact heap_alloc_new _ _
      have d0 := fun k => (FrS.none (S := fun _ => False) (fr_draws wb k none)).cell (cell_of hbl 0 (.bool true) rfl) (fun h => h)
      have d00 : wb.cell? ⟨wr.heap.size, 0, none⟩ = some (.bool true) := cell_of hbl 0 (.bool true) rfl
      clear hbl hf
      go_wp2_with fail
      go_quiet (fail)
      go_wp2
      go_roundw
      case rel => exact ⟨i + 1, by omega, by go_num, fr_both HGB.out (fr_draws _ _ _)⟩
      case measure => simp [intOf]; omega
    · have him : i = n := by omega
      subst him
      go_wp2
      go_ret
      exact ⟨rfl, HG.out⟩
end Go.Proofs.YtdfbjnachakkhaaGreatDoor

namespace Go.Proofs.YtdfbjnachakkhaaGreatDoor
theorem less_or (a b : List UInt8) : (Op.bytesLess a b || a == b) = !(Op.bytesLess b a) := by
  induction a generalizing b with
  | nil => cases b <;> simp [Op.bytesLess]
  | cons x a ih =>
    cases b with
    | nil => simp [Op.bytesLess]
    | cons y b =>
      have h := ih b
      simp only [Op.bytesLess]
      rcases Nat.lt_trichotomy x.toNat y.toNat with c | c | c
      · have c1 : x < y := UInt8.lt_iff_toNat_lt.2 c
        have c2 : ¬ y < x := fun k => by have := UInt8.lt_iff_toNat_lt.1 k; omega
        have c3 : ¬ y = x := fun k => by subst k; omega
        simp [c1, c2, c3]
      · have c1 : x = y := UInt8.toNat_inj.1 c
        subst c1
        have c2 : ¬ x < x := fun k => by have := UInt8.lt_iff_toNat_lt.1 k; omega
        simpa [c2] using h
      · have c1 : y < x := UInt8.lt_iff_toNat_lt.2 c
        have c2 : ¬ x < y := fun k => by have := UInt8.lt_iff_toNat_lt.1 k; omega
        have c3 : ¬ x = y := fun k => by subst k; omega
        simp [c1, c2, c3]
theorem drop_row (l : List (List UInt8)) (k : Nat) (h : k < l.length) : l.drop k = l[k] :: l.drop (k + 1) := List.drop_eq_getElem_cons h
theorem less_irrefl (a : List UInt8) : Op.bytesLess a a = false := by
  induction a with
  | nil => rfl
  | cons x a ih =>
    have c : ¬ x < x := fun k => by have := UInt8.lt_iff_toNat_lt.1 k; omega
    simp [Op.bytesLess, c, ih]
theorem less_trans (a b c : List UInt8) (h1 : Op.bytesLess a b = true) (h2 : Op.bytesLess b c = true) : Op.bytesLess a c = true := by
  induction a generalizing b c with
  | nil =>
    cases c with
    | nil => cases b <;> simp [Op.bytesLess] at h2
    | cons z c => rfl
  | cons x a ih =>
    cases b with
    | nil => simp [Op.bytesLess] at h1
    | cons y b =>
      cases c with
      | nil => simp [Op.bytesLess] at h2
      | cons z c =>
        simp only [Op.bytesLess, Bool.or_eq_true, decide_eq_true_eq, Bool.and_eq_true, beq_iff_eq] at h1 h2 ⊢
        rcases h1 with h1 | ⟨rfl, h1⟩
        · rcases h2 with h2 | ⟨rfl, h2⟩
          · left
            have a1 := UInt8.lt_iff_toNat_lt.1 h1
            have a2 := UInt8.lt_iff_toNat_lt.1 h2
            exact UInt8.lt_iff_toNat_lt.2 (by omega)
          · exact Or.inl h1
        · rcases h2 with h2 | ⟨rfl, h2⟩
          · exact Or.inl h2
          · exact Or.inr ⟨rfl, ih b c h1 h2⟩
end Go.Proofs.YtdfbjnachakkhaaGreatDoor

namespace Go.Proofs.YtdfbjnachakkhaaGreatDoor
open Go.ChangeShapes Go.WideShapes Go.ChangeAt Go.RowKit
set_option linter.unusedVariables false
/-- a slice that reads as a list of texts -/
def Strs (w : World) (v : Value) (l : List (List UInt8)) : Prop :=
  ∃ (a : Option Addr) (cap : Nat), v = .slice a l.length cap ∧ ((l = [] ∧ (a = none → cap = 0)) ∨ ∃ b off, a = some ⟨b, off, none⟩ ∧ ∀ (i : Nat) (x : List UInt8), l[i]? = some x → w.cell? ⟨b, off + i, none⟩ = some (.string (str x)))
theorem Strs.kept {w w' : World} {v : Value} {l : List (List UInt8)} (h : Strs w v l) (hb : Below w.heap.size w w') : Strs w' v l := by
  obtain ⟨a, cap, hv, hl⟩ := h
  refine ⟨a, cap, hv, ?_⟩
  rcases hl with hl | ⟨b, off, ha, hc⟩
  · exact Or.inl hl
  · refine Or.inr ⟨b, off, ha, fun i x hx => ?_⟩
    rw [hb.cell (p := ⟨b, off + i, none⟩) (World.block_lt_of_cell? w ⟨b, off + i, none⟩ (hc i x hx))]; exact hc i x hx
theorem Strs.drewN {w : World} {v : Value} {l : List (List UInt8)} (h : Strs w v l) (n : Nat) : Strs (w.drewN n) v l := h.kept (below_drewN (Below.refl _ _) n)
theorem two_draws (w : World) (n m : Nat) : ∃ k, (w.drewN n).drewN m = w.drewN k := ⟨n + m, by simp⟩
theorem get_at {l : List (List UInt8)} {k : Nat} (h : k < l.length) : l[k]? = some l[k] := List.getElem?_eq_getElem h
theorem take_next (l : List (List UInt8)) (k : Nat) (h : k < l.length) : l.take (k + 1) = l.take k ++ [l[k]] := List.take_succ_eq_append_getElem h
set_option maxRecDepth 100000 in
set_option maxHeartbeats 1000000 in
theorem texts_any (va vb : Value) (la lb : List (List UInt8)) (w : World) (ha : Strs w va la) (hb : Strs w vb lb) (hl : la.length ≤ 140737488355328) (hl2 : lb.length ≤ 140737488355328) :
    Calls Tryz.prog 18 #[va, vb] w fun e w' => e = .returned (.bool (la == lb)) ∧ ∃ n, w' = w.drewN n := by
  obtain ⟨a, cap, rfl, ha⟩ := ha
  obtain ⟨b, cap2, rfl, hb⟩ := hb
  by_cases hlen : la.length = lb.length
  · rcases ha with ha | ⟨ba, oa, rfl, ha⟩
    · obtain ⟨ha, _⟩ := ha
      subst ha
      have hb0 : lb = [] := List.eq_nil_of_length_eq_zero (by simpa using hlen.symm)
      subst hb0
      go_enter Tryz.func18, Tryz.ntmps18
      go_wp2
      refine wp_loop_rounds 1 ?_
      rw [rounds_succ]
      go_wp2
      go_ret
      exact ⟨rfl, 0, rfl⟩
    · rcases hb with hb | ⟨bb, ob, rfl, hb⟩
      · obtain ⟨hb, _⟩ := hb
        subst hb
        have ha0 : la = [] := List.eq_nil_of_length_eq_zero (by simpa using hlen)
        subst ha0
        go_enter Tryz.func18, Tryz.ntmps18
        go_wp2
        refine wp_loop_rounds 1 ?_
        rw [rounds_succ]
        go_wp2
        go_ret
        exact ⟨rfl, 0, rfl⟩
      · rw [← hlen]
        have HL : Hid (la.length = lb.length) := hlen
        have HA : Hid (∀ (i : Nat) (x : List UInt8), la[i]? = some x → w.cell? ⟨ba, oa + i, none⟩ = some (.string (str x))) := ha
        have HB : Hid (∀ (i : Nat) (x : List UInt8), lb[i]? = some x → w.cell? ⟨bb, ob + i, none⟩ = some (.string (str x))) := hb
        clear ha hb hlen hl2
        go_enter Tryz.func18, Tryz.ntmps18
        go_wp2
        go_loopw [5] (fun i wr => ∃ k n : Nat, k ≤ la.length ∧ i = .int .i64 k ∧ wr = w.drewN n ∧ Hid (la.take k = lb.take k)) (fun i _ => la.length - (intOf i).toNat)
        case atStart => exact ⟨0, 0, by omega, rfl, rfl, rfl⟩
        case round =>
          obtain ⟨k, n, hk, rfl, rfl, HT⟩ := hrel
          by_cases hlt : k < la.length
          · have hlt2 : k < lb.length := by have := HL.out; omega
            have c1 := HA.out k la[k] (get_at hlt)
            have c2 := HB.out k lb[k] (get_at hlt2)
            by_cases he : la[k] = lb[k]
            · have hs : ((str la[k]).toList == (str lb[k]).toList) = true := by rw [he]; simp
              have HE : Hid (la.take (k + 1) = lb.take (k + 1)) := by show _ = _; rw [take_next la k hlt, take_next lb k hlt2, HT.out, he]
              generalize str la[k] = sa at *
              generalize str lb[k] = sb at *
              clear he
              go_wp2
              go_quiet (fail)
              go_wp2
              go_roundw
              case rel => exact ⟨k + 1, _, by omega, by go_num, rfl, HE⟩
              case measure => simp [intOf]; omega
            · have hs : ((str la[k]).toList == (str lb[k]).toList) = false := by rw [toList_str, toList_str]; simp [he]
              have HE : Hid ((la == lb) = false) := by
                show _ = _
                rw [beq_eq_false_iff_ne]
                intro h; subst h; exact he rfl
              generalize str la[k] = sa at *
              generalize str lb[k] = sb at *
              clear he
              go_wp2
              go_quiet (fail)
              go_wp2
              go_ret
              refine ⟨ret_bool HE.out.symm, ?_⟩
              first | exact ⟨_, rfl⟩ | exact two_draws _ _ _
          · have HE : Hid ((la == lb) = true) := by
              show _ = _
              rw [beq_iff_eq]
              have := HT.out
              rw [List.take_of_length_le (by omega), List.take_of_length_le (by have := HL.out; omega)] at this
              exact this
            go_wp2
            go_ret
            refine ⟨ret_bool HE.out.symm, ?_⟩
            first | exact ⟨_, rfl⟩ | exact two_draws _ _ _
  · have hne : ((la.length : Int) != (lb.length : Int)) = true := by simp; omega
    have HE : Hid ((la == lb) = false) := by
      show _ = _
      rw [beq_eq_false_iff_ne]
      intro h; subst h; exact hlen rfl
    clear ha hb hlen
    go_enter Tryz.func18, Tryz.ntmps18
    go_wp2
    go_ret
    exact ⟨ret_bool HE.out.symm, 0, rfl⟩
theorem info9 : (Tryz.prog.info? 9).map (fun i => (i.zero, i.size, i.bytes)) = some (some (.string { data := #[] }), 1, 16) := by kernel_rfl
/-- texts as cells -/
def ts (l : List (List UInt8)) : List Value := l.map fun x => Value.string (str x)
theorem ts_length (l : List (List UInt8)) : (ts l).length = l.length := by simp [ts]
theorem ts_snoc (l : List (List UInt8)) (x : List UInt8) : ts l ++ [Value.string (str x)] = ts (l ++ [x]) := by simp [ts]
theorem ts_at {l : List (List UInt8)} {i : Nat} {x : List UInt8} (h : l[i]? = some x) : (ts l)[i]? = some (.string (str x)) := by simp [ts, h]
/-- a row of one's own reads as its texts -/
theorem own_strs {w : World} {base : Nat} {v : Value} {l : List (List UInt8)} {n : Nat} (h : w.ownsRow base 9 1 v n (ts l)) : Strs w v l := by
  have h1 := h.1
  rw [ts_length, Nat.mul_one] at h1
  subst h1
  rcases h.2 with ⟨rfl, h0⟩ | ⟨g, cap, cur, rfl, hb, hg, hn, hc, hs, ht⟩
  · exact ⟨none, 0, by rw [h0], Or.inl ⟨List.eq_nil_of_length_eq_zero h0, fun _ => rfl⟩⟩
  · refine ⟨some ⟨g, 0, none⟩, cap, rfl, Or.inr ⟨g, 0, rfl, fun i x hx => ?_⟩⟩
    have := h.cells (g := g) rfl i _ (ts_at hx)
    rw [show (⟨g, 0, none⟩ : Addr).add i = ⟨g, i, none⟩ from by unfold Addr.add; split <;> simp_all] at this
    rw [Nat.zero_add]; exact this
set_option maxRecDepth 100000 in
set_option maxHeartbeats 1000000 in
theorem copied_any (v : Value) (l : List (List UInt8)) (w : World) (h : Strs w v l) (hl : l.length * 16 ≤ 140737488355328) :
    Calls Tryz.prog 38 #[v] w fun e w' => (∃ v', e = .returned v' ∧ w'.ownsRow w.heap.size 9 1 v' l.length (ts l)) ∧ Below w.heap.size w w' := by
  obtain ⟨i0, hi, hz0, hz1, hz2⟩ := info_parts info9
  obtain ⟨a, cap, rfl, h⟩ := h
  have hown : w.ownsRow w.heap.size 9 1 (.slice none 0 0) 0 [] := World.ownsRow_nil _ _ _ _
  have go : ∀ ad : Addr, (∀ (j : Nat) (u : Value), (ts l)[j]? = some u → w.cell? (ad.add j) = some u) →
      Calls Tryz.prog 38 #[.slice (some ad) l.length cap] w fun e w' => (∃ v', e = .returned v' ∧ w'.ownsRow w.heap.size 9 1 v' l.length (ts l)) ∧ Below w.heap.size w w' := by
    intro ad had
    have HAD : Hid (∀ (j : Nat) (u : Value), (ts l)[j]? = some u → w.cell? (ad.add j) = some u) := had
    clear had h
    go_enter Tryz.func38, Tryz.ntmps38
    go_wp2_with (at_builtin; refine wpList_append_own _ rfl _ _ 28 rfl w.heap.size 9 i0 (.string { data := #[] }) 1 16 Tryz.underlying28 hi hz0 hz1 hz2 rfl (by decide) _ _ _ rfl hown ad l.length cap (ts l) rfl ?c0 ?c1 ?c2 ?c3 ?c4 ?c5 ?_)
    case c0 => rw [ts_length, Nat.mul_one]
    case c1 => exact HAD.out
    case c2 =>
      intro u hu
      obtain ⟨x, _, rfl⟩ := List.mem_map.1 hu
      rfl
    case c3 => unfold maxLen; omega
    case c4 => omega
    case c5 => exact Nat.le_refl _
    intro v' w1 hown' hg _
    have HO : Hid (w1.ownsRow w.heap.size 9 1 v' l.length (ts l)) := hown'
    have HB : Hid (Below w.heap.size w w1) := (Below.refl _ _).grown hg (Nat.le_refl _) (fun k hk => by cases hk)
    clear hown' hg
    go_wp2
    go_ret
    exact ⟨⟨_, rfl, HO.out⟩, HB.out⟩
  rcases h with ⟨rfl, hn⟩ | ⟨b, off, rfl, hc⟩
  · cases a with
    | none =>
      obtain rfl := hn rfl
      clear go
      go_enter Tryz.func38, Tryz.ntmps38
      go_wp2_with (at_builtin; refine wpList_append_own_none rfl _ _ 28 rfl w.heap.size 9 i0 1 Tryz.underlying28 hi _ _ _ rfl hown rfl ?_)
      go_wp2
      go_ret
      exact ⟨⟨_, rfl, hown⟩, Below.refl _ _⟩
    | some ad => exact go ad (fun j u hu => by simp [ts] at hu)
  · refine go ⟨b, off, none⟩ (fun j u hu => ?_)
    have hj : j < l.length := by
      rcases Nat.lt_or_ge j l.length with h | h
      · exact h
      · rw [List.getElem?_eq_none (by rw [ts_length]; exact h)] at hu; cases hu
    rw [ts_at (get_at hj)] at hu
    cases hu
    rw [show (⟨b, off, none⟩ : Addr).add j = ⟨b, off + j, none⟩ from by unfold Addr.add; split <;> simp_all]
    exact hc j _ (get_at hj)
end Go.Proofs.YtdfbjnachakkhaaGreatDoor
