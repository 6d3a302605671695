/-
  Rows of one's own; 'rowsOf', 'sameRows', 'spoil', walked.
-/
import Derived.Test.YtnnldpccagajbaaDoorPut
import Derived.Lib.OwnKind
namespace Go.Proofs.YtnnldpccagajbaaDoor
open Go.ChangeShapes Go.WideShapes Go.ChangeAt Go.RowKit
set_option linter.unusedVariables false
/-- rows in memory of one's own, the inner lists too -/
def Deep (base : Nat) (w : World) (v : Value) (vs : List Value) (L : List (List (List UInt8))) : Prop :=
  w.ownsRow base 35 1 v vs.length vs ∧ vs.length = L.length ∧ ∀ (i : Nat) (x : Value) (r : List (List UInt8)), vs[i]? = some x → L[i]? = some r → w.ownsRow base 9 1 x r.length (ts r)
theorem own_below {w w' : World} {base : Nat} {e : TypeId} {size : Nat} {v : Value} {n : Nat} {xs : List Value} (h : w.ownsRow base e size v n xs) (hb : Below w.heap.size w w') : w'.ownsRow base e size v n xs := by
  refine h.kept (row := none) ⟨hb.os, hb.tape, hb.output, hb.size, fun k hk _ => hb.block k hk⟩ ?_
  cases v.ownBlock with
  | none => exact Or.inl rfl
  | some g => exact Or.inr (by simp)
theorem own_mono {w : World} {b b' : Nat} {e : TypeId} {size : Nat} {v : Value} {n : Nat} {xs : List Value} (h : w.ownsRow b e size v n xs) (hb : b' ≤ b) : w.ownsRow b' e size v n xs := by
  obtain ⟨hl, h0 | ⟨g, cap, cur, hv, hg, r⟩⟩ := h
  · exact ⟨hl, Or.inl h0⟩
  · exact ⟨hl, Or.inr ⟨g, cap, cur, hv, Nat.le_trans hb hg, r⟩⟩
theorem kind_ne {w : World} {b1 b2 n1 n2 : Nat} {e1 e2 : TypeId} {v1 v2 : Value} {xs ys : List Value} (h1 : w.ownsRow b1 e1 1 v1 n1 xs) (h2 : w.ownsRow b2 e2 1 v2 n2 ys) (he : e1 ≠ e2) : v1.ownBlock = none ∨ v1.ownBlock ≠ v2.ownBlock := by
  cases h : v1.ownBlock with
  | none => exact Or.inl rfl
  | some g =>
    right
    intro h3
    obtain ⟨c1, f1, k1⟩ := Lib.ownsRow_kind h1 g h
    obtain ⟨c2, f2, k2⟩ := Lib.ownsRow_kind h2 g h3.symm
    rw [k1] at k2
    cases k2
    exact he rfl
theorem Deep.rows {base : Nat} {w : World} {v : Value} {vs : List Value} {L : List (List (List UInt8))} (h : Deep base w v vs L) : Rows2 w v vs L :=
  ⟨own_vals h.1, h.2.1, fun i x r hx hr => own_strs (h.2.2 i x r hx hr)⟩
theorem Deep.kept {base : Nat} {w w' : World} {v : Value} {vs : List Value} {L : List (List (List UInt8))} (h : Deep base w v vs L) (hb : Below w.heap.size w w') : Deep base w' v vs L :=
  ⟨own_below h.1 hb, h.2.1, fun i x r hx hr => own_below (h.2.2 i x r hx hr) hb⟩
theorem Rows2.kept {w w' : World} {v : Value} {vs : List Value} {L : List (List (List UInt8))} (h : Rows2 w v vs L) (hb : Below w.heap.size w w') : Rows2 w' v vs L := by
  obtain ⟨⟨a, cap, hv, hc⟩, hl, hi⟩ := h
  refine ⟨⟨a, cap, hv, ?_⟩, hl, fun i x r hx hr => (hi i x r hx hr).kept hb⟩
  rcases hc with hc | ⟨b, off, ha, hc⟩
  · exact Or.inl hc
  · refine Or.inr ⟨b, off, ha, fun i x hx => ?_⟩
    rw [hb.cell (p := ⟨b, off + i, none⟩) (World.block_lt_of_cell? w ⟨b, off + i, none⟩ (hc i x hx))]; exact hc i x hx
set_option maxRecDepth 100000 in
set_option maxHeartbeats 1000000 in
theorem rowsOf_any (v : Value) (vs : List Value) (L : List (List (List UInt8))) (w : World) (h : Rows2 w v vs L) (hl : L.length ≤ 1073741824) (hr : ∀ r ∈ L, r.length ≤ 1099511627776) :
    Calls Tryd.prog 11 #[v] w fun e w' => (∃ v' us, e = .returned v' ∧ Deep w.heap.size w' v' us L) ∧ Below w.heap.size w w' := by
  obtain ⟨i0, hi, hz0, hz1, hz2⟩ := info_parts infoRow
  have HH : Hid (Rows2 w v vs L) := h
  have HRR : Hid (∀ r ∈ L, r.length ≤ 1099511627776) := hr
  obtain ⟨⟨a, cap, rfl, hv⟩, hlen, -⟩ := h
  clear hr
  rcases hv with ⟨rfl, _⟩ | ⟨b, off, rfl, hc⟩
  · have hL0 : L = [] := List.eq_nil_of_length_eq_zero (by simpa using hlen.symm)
    subst hL0
    clear hlen
    go_enter Tryd.func11, Tryd.ntmps11
    go_wp2
    refine wp_loop_rounds 1 ?_
    rw [rounds_succ]
    go_wp2
    go_ret
    exact ⟨⟨_, [], rfl, World.ownsRow_nil _ _ _ _, rfl, fun i x r hx => by simp at hx⟩, Below.refl _ _⟩
  · have HC : Hid (∀ (i : Nat) (x : Value), vs[i]? = some x → w.cell? ⟨b, off + i, none⟩ = some x) := hc
    have HLE : Hid (vs.length = L.length) := hlen
    have hvl : vs.length ≤ 1073741824 := by omega
    clear hc hlen
    go_enter Tryd.func11, Tryd.ntmps11
    go_wp2
    go_loopw [3, 4] (fun lv iv wr => ∃ (k : Nat) (us : List Value), k ≤ vs.length ∧ iv = .int .i64 k ∧ Hid (us.length = k) ∧ Hid (Deep w.heap.size wr lv us (L.take k)) ∧ Hid (Below w.heap.size w wr)) (fun _ iv _ => vs.length - (intOf iv).toNat)
    case atStart => exact ⟨0, [], by omega, rfl, rfl, ⟨World.ownsRow_nil _ _ _ _, rfl, fun i x r hx => by simp at hx⟩, Below.refl _ _⟩
    case round =>
      obtain ⟨k, us, hk, rfl, HUL, HD, HB⟩ := hrel
      by_cases hlt : k < vs.length
      · have hltL : k < L.length := by have := HLE.out; omega
        have cx0 := HC.out k vs[k] (val_at hlt)
        have hst := HH.out.2.2 k _ _ (val_at hlt) (row_at hltL)
        have hbw : b < w.heap.size := World.block_lt_of_cell? w ⟨b, off + k, none⟩ cx0
        have cx := (HB.out.cell (p := ⟨b, off + k, none⟩) hbw).trans cx0
        have hrowl : L[k].length ≤ 1099511627776 := HRR.out _ (List.getElem_mem hltL)
        clear cx0
        obtain ⟨row, HRW⟩ : ∃ row, Hid (row = L[k]) := ⟨L[k], rfl⟩
        rw [← HRW.out] at hst hrowl
        have HST : Hid (Strs w vs[k] row) := hst
        obtain ⟨ax, capx, hxe, -⟩ := hst
        rw [hxe] at cx HST
        clear hxe
        go_wp2_with fail
        refine (copied_any _ row _ (HST.out.kept HB.out) (by omega)).mono ?_
        rintro e w1 ⟨⟨v1, rfl, hown1⟩, hb1⟩
        have HO1 : Hid (w1.ownsRow wr.heap.size 9 1 v1 row.length (ts row)) := hown1
        have HD1 : Hid (Deep w.heap.size w1 u3 us (L.take k)) := HD.out.kept hb1
        have HB1 : Hid (Below w.heap.size w w1) := HB.out.trans (hb1.mono HB.out.size)
        have hul : us.length ≤ 1073741824 := by have := HUL.out; omega
        clear hown1 hb1
        have hown3 := HD1.out.1
        obtain ⟨a1, cp1, hv1⟩ : ∃ a1 cp1, v1 = .slice a1 row.length cp1 := by
          rcases HO1.out.2 with ⟨h, h0⟩ | ⟨g, cp, cu, h, _⟩
          · exact ⟨none, 0, by rw [h, h0]⟩
          · exact ⟨_, _, h⟩
        subst hv1
        obtain ⟨a3, n3, cp3, hv3⟩ : ∃ a3 n3 cp3, u3 = .slice a3 n3 cp3 := by
          rcases hown3.2 with ⟨h, h0⟩ | ⟨g, cp, cu, h, _⟩
          · exact ⟨_, _, _, h⟩
          · exact ⟨_, _, _, h⟩
        subst hv3
        go_wp2_with (at_builtin; refine wpList_append_own _ rfl _ _ 22 rfl w.heap.size 35 i0 (.slice none 0 0) 1 24 Tryd.underlying22 hi hz0 hz1 hz2 rfl (by decide) _ _ _ rfl (hown3.alloc _) ⟨w1.heap.size, 0, none⟩ 1 1 [.slice a1 row.length cp1] rfl rfl ?c1 ?c2 ?c3 ?c4 ?c5 ?_)
        case c1 =>
          intro j' u hj'
          match j', hj' with
          | 0, hj' => simp at hj'; subst hj'; exact World.cell?_alloc_at _ _ _ _ rfl
        case c2 => intro u hu; simp at hu; subst hu; rfl
        case c3 => unfold maxLen; omega
        case c4 => omega
        case c5 => have := HB1.out.size; simp; omega
        intro v2 w2 hown2 hg2 _
        have HBW : Hid (Below w.heap.size w w2) := (HB1.out.alloc HB1.out.size _).grown hg2 (by have := HB1.out.size; simp; omega) (fun g hg => (hown3.lt g hg).1)
        have hka := own_below HO1.out ((Below.refl w1.heap.size w1).alloc (Nat.le_refl _) (Obj.cells #[.slice a1 row.length cp1] 35))
        have HDN : Hid (Deep w.heap.size w2 v2 (us ++ [.slice a1 row.length cp1]) (L.take (k + 1))) := by
          have hul2 := HUL.out
          have hte : L.take (k + 1) = L.take k ++ [row] := by rw [HRW.out]; exact (List.take_append_getElem hltL).symm
          rw [hte]
          refine ⟨by rw [List.length_append]; exact hown2, by simp [hul2]; omega, fun i x r hx hr => ?_⟩
          have hbA : Below w1.heap.size w1 (w1.alloc (Obj.cells #[.slice a1 row.length cp1] 35)) := (Below.refl w1.heap.size w1).alloc (Nat.le_refl _) _
          by_cases hik : i < k
          · rw [List.getElem?_append_left (by omega)] at hx
            rw [List.getElem?_append_left (by simp; omega)] at hr
            have h0 := own_below (HD1.out.2.2 i x r hx hr) hbA
            exact h0.kept hg2 (kind_ne h0 (hown3.alloc _) (by decide))
          · have hik2 : i = k := by
              have := (List.getElem?_eq_some_iff.1 hx).1
              simp at this; omega
            subst hik2
            rw [List.getElem?_append_right (by omega)] at hx
            rw [List.getElem?_append_right (by simp; omega)] at hr
            have e1 : i - us.length = 0 := by omega
            have e2 : i - (L.take i).length = 0 := by simp; omega
            rw [e1] at hx
            rw [e2] at hr
            simp at hx hr
            subst hx
            subst hr
            exact (own_mono hka HB.out.size).kept hg2 (kind_ne hka (hown3.alloc _) (by decide))
        clear hown2 hg2 hka hown3
        go_wp2
        exact ⟨⟨k + 1, _, by omega, rfl, by show _ = _; rw [List.length_append, HUL.out]; rfl, HDN, HBW⟩, by simp [intOf]; omega⟩
      · have HE : Hid (L.take k = L) := List.take_of_length_le (by have := HLE.out; omega)
        go_wp2
        go_ret
        exact ⟨⟨_, us, rfl, by rw [HE.out] at HD; exact HD.out⟩, HB.out⟩
end Go.Proofs.YtnnldpccagajbaaDoor
