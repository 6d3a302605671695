import Derived.Test.YtnnldpccagajbaaGreatDoorM10
import Derived.Test.YtnnldpccagajbaaGreatDoorM11
import Derived.Test.YtnnldpccagajbaaGreatDoorM09
import Derived.Lib.OwnKind
import Derived.Test.YtnnldpccagajbaaGreatDoorM07
import Derived.Test.YtnnldpccagajbaaGreatDoorM03
/-
  What is known of tidy rows. Nothing of the program.
-/
namespace Go.Proofs.YtnnldpccagajbaaGreatDoor
theorem bad_none (m : Nat) (i : Nat) (rows : List (List (List UInt8))) (h : bad m i rows = none) : ∀ r ∈ rows, r.length = m ∧ ∀ t ∈ r, t.length ≤ 200 := by
  induction rows generalizing i with
  | nil => simp
  | cons r rest ih =>
    rw [bad] at h
    by_cases h1 : r.length = m
    · rw [if_pos h1] at h
      by_cases h2 : r.all (fun t => decide (t.length ≤ 200)) = true
      · rw [if_pos h2] at h
        intro x hx
        rcases List.mem_cons.1 hx with rfl | hx
        · exact ⟨h1, fun t ht => by simpa using List.all_eq_true.1 h2 t ht⟩
        · exact ih (i + 1) h x hx
      · rw [if_neg h2] at h; cases h
    · rw [if_neg h1] at h; cases h
structure Tidy (name : List UInt8) (ar : Int) (L : List (List (List UInt8))) : Prop where
  isn : isName name = true
  a0 : 0 ≤ ar
  a8 : ar ≤ 8
  few : L.length ≤ 2000
  rows : ∀ r ∈ L, r.length = ar.toNat ∧ ∀ t ∈ r, t.length ≤ 200
  rise : Rises ar.toNat L
theorem tidy_facts (name : List UInt8) (ar : Int) (rows : List (List (List UInt8))) (ti : Nat) (L : List (List (List UInt8))) (h : tidy name ar rows = (0, ti, L)) : ti = 0 ∧ L = sortU rows ∧ Tidy name ar L := by
  unfold tidy at h
  split at h
  · simp at h
  · rename_i h1
    split at h
    · simp at h
    · rename_i h2
      split at h
      · rename_i e i he
        exfalso
        have key : ∀ (m i : Nat) (rows : List (List (List UInt8))) (e j : Nat), bad m i rows = some (e, j) → e ≠ 0 := by
          intro m i rows
          induction rows generalizing i with
          | nil => intro e j hh; simp [bad] at hh
          | cons r rest ih =>
            intro e j hh
            rw [bad] at hh
            split at hh
            · split at hh
              · exact ih (i + 1) e j hh
              · cases hh; decide
            · cases hh; decide
        have := key _ _ _ _ _ he
        cases h
        exact this rfl
      · rename_i he
        have hb := bad_none _ _ _ he
        split at h
        · simp at h
        · rename_i h3
          cases h
          refine ⟨rfl, rfl, ?_⟩
          have hm : ∀ r ∈ rows, r.length = ar.toNat := fun r hr => (hb r hr).1
          exact ⟨by simpa using h1, by omega, by omega, by omega, fun r hr => hb r ((mem_sortU ar.toNat rows hm r).1 hr), sortU_rises ar.toNat rows hm⟩
theorem flat_len (m : Nat) (L : List (List (List UInt8))) (h : ∀ r ∈ L, r.length = m) : L.flatten.length = m * L.length := by
  induction L with
  | nil => simp
  | cons r rest ih =>
    rw [List.flatten_cons, List.length_append, h r (by simp), ih (fun x hx => h x (by simp [hx])), List.length_cons, Nat.mul_add]; omega
theorem allT_len (rows : List (List (List UInt8))) : (allT rows).length ≤ rows.flatten.length := by
  unfold allT
  rw [List.length_map]
  have := sortU_len (rows.flatten.map fun t => [t])
  rw [List.length_map] at this
  exact this
theorem page_len (s : List UInt8) (h : s.length < 9223372036854775808) : (page s).length ≤ s.length + 13 := by
  have := vb_length9 s.length h
  unfold page
  simp only [List.length_append]
  have : (Crc.sum s).length = 4 := rfl
  omega
theorem colF_len (all : List (List UInt8)) (c : Nat) (last : Int) (rows : List (List (List UInt8))) : (colF all c last rows).length ≤ 9 * rows.length := by
  induction rows generalizing last with
  | nil => simp [colF]
  | cons r rest ih =>
    rw [colF, List.length_append, List.length_cons]
    have h1 := ih (find all (r.getD c []))
    have h2 := fold_bd (find all (r.getD c []) - last)
    have h3 := vb_length9 (fold (find all (r.getD c []) - last)).toNat (by omega)
    omega
theorem colsF_len (all : List (List UInt8)) (rows : List (List (List UInt8))) (n : Nat) (h : rows.length ≤ 67108864) : (colsF all rows n).length ≤ n * (9 * rows.length + 13) := by
  induction n with
  | zero => simp [colsF]
  | succ n ih =>
    rw [colsF_succ, List.length_append]
    have h1 := colF_len all n 0 rows
    have h2 := page_len (colF all n 0 rows) (by omega)
    rw [Nat.add_mul]; omega
end Go.Proofs.YtnnldpccagajbaaGreatDoor

/-
  Rows of one's own; 'rowsOf', 'sameRows', 'spoil', walked.
-/
namespace Go.Proofs.YtnnldpccagajbaaGreatDoor
open Go.ChangeShapes Go.WideShapes Go.ChangeAt Go.RowKit
set_option linter.unusedVariables false
/-- rows in memory of one's own, the inner lists too -/
def Deep (base : Nat) (w : World) (v : Value) (vs : List Value) (L : List (List (List UInt8))) : Prop :=
  w.ownsRow base 45 1 v vs.length vs ∧ vs.length = L.length ∧ ∀ (i : Nat) (x : Value) (r : List (List UInt8)), vs[i]? = some x → L[i]? = some r → w.ownsRow base 9 1 x r.length (ts r)
theorem own_below {w w' : World} {base : Nat} {e : TypeId} {size : Nat} {v : Value} {n : Nat} {xs : List Value} (h : w.ownsRow base e size v n xs) (hb : Below w.heap.size w w') : w'.ownsRow base e size v n xs := by
  refine h.kept (row := none) ⟨hb.os, hb.tape, hb.output, hb.size, fun k hk _ => hb.block k hk⟩ ?_
  cases v.ownBlock with
  | none => exact Or.inl rfl
  | some g => exact Or.inr (by simp)
theorem own_mono {w : World} {b b' : Nat} {e : TypeId} {size : Nat} {v : Value} {n : Nat} {xs : List Value} (h : w.ownsRow b e size v n xs) (hb : b' ≤ b) : w.ownsRow b' e size v n xs := by
  obtain ⟨hl, h0 | ⟨g, cap, cur, hv, hg, r⟩⟩ := h
  · exact ⟨hl, Or.inl h0⟩
  · exact ⟨hl, Or.inr ⟨g, cap, cur, hv, Nat.le_trans hb hg, r⟩⟩
theorem kind_ne {w : World} {b1 b2 n1 n2 : Nat} {e1 e2 : TypeId} {v1 v2 : Value} {xs ys : List Value} (h1 : w.ownsRow b1 e1 1 v1 n1 xs) (h2 : w.ownsRow b2 e2 1 v2 n2 ys) (he : e1 ≠ e2) : v1.ownBlock = none ∨ v1.ownBlock ≠ v2.ownBlock := by
  cases h : v1.ownBlock with
  | none => exact Or.inl rfl
  | some g =>
    right
    intro h3
    obtain ⟨c1, f1, k1⟩ := Lib.ownsRow_kind h1 g h
    obtain ⟨c2, f2, k2⟩ := Lib.ownsRow_kind h2 g h3.symm
    rw [k1] at k2
    cases k2
    exact he rfl
theorem Deep.rows {base : Nat} {w : World} {v : Value} {vs : List Value} {L : List (List (List UInt8))} (h : Deep base w v vs L) : Rows2 w v vs L :=
  ⟨own_vals h.1, h.2.1, fun i x r hx hr => own_strs (h.2.2 i x r hx hr)⟩
theorem Deep.kept {base : Nat} {w w' : World} {v : Value} {vs : List Value} {L : List (List (List UInt8))} (h : Deep base w v vs L) (hb : Below w.heap.size w w') : Deep base w' v vs L :=
  ⟨own_below h.1 hb, h.2.1, fun i x r hx hr => own_below (h.2.2 i x r hx hr) hb⟩
theorem Rows2.kept {w w' : World} {v : Value} {vs : List Value} {L : List (List (List UInt8))} (h : Rows2 w v vs L) (hb : Below w.heap.size w w') : Rows2 w' v vs L := by
  obtain ⟨⟨a, cap, hv, hc⟩, hl, hi⟩ := h
  refine ⟨⟨a, cap, hv, ?_⟩, hl, fun i x r hx hr => (hi i x r hx hr).kept hb⟩
  rcases hc with hc | ⟨b, off, ha, hc⟩
  · exact Or.inl hc
  · refine Or.inr ⟨b, off, ha, fun i x hx => ?_⟩
    rw [hb.cell (p := ⟨b, off + i, none⟩) (World.block_lt_of_cell? w ⟨b, off + i, none⟩ (hc i x hx))]; exact hc i x hx
set_option maxRecDepth 100000 in
set_option maxHeartbeats 1000000 in
theorem rowsOf_any (v : Value) (vs : List Value) (L : List (List (List UInt8))) (w : World) (h : Rows2 w v vs L) (hl : L.length ≤ 1073741824) (hr : ∀ r ∈ L, r.length ≤ 1099511627776) :
    Calls Tryz.prog 27 #[v] w fun e w' => (∃ v' us, e = .returned v' ∧ Deep w.heap.size w' v' us L) ∧ Below w.heap.size w w' := by
  obtain ⟨i0, hi, hz0, hz1, hz2⟩ := info_parts infoRow
  have HH : Hid (Rows2 w v vs L) := h
  have HRR : Hid (∀ r ∈ L, r.length ≤ 1099511627776) := hr
  obtain ⟨⟨a, cap, rfl, hv⟩, hlen, -⟩ := h
  clear hr
  rcases hv with ⟨rfl, _⟩ | ⟨b, off, rfl, hc⟩
  · have hL0 : L = [] := List.eq_nil_of_length_eq_zero (by simpa using hlen.symm)
    subst hL0
    clear hlen
    go_enter Tryz.func27, Tryz.ntmps27
    go_wp2
    refine wp_loop_rounds 1 ?_
    rw [rounds_succ]
    go_wp2
    go_ret
    exact ⟨⟨_, [], rfl, World.ownsRow_nil _ _ _ _, rfl, fun i x r hx => by simp at hx⟩, Below.refl _ _⟩
  · have HC : Hid (∀ (i : Nat) (x : Value), vs[i]? = some x → w.cell? ⟨b, off + i, none⟩ = some x) := hc
    have HLE : Hid (vs.length = L.length) := hlen
    have hvl : vs.length ≤ 1073741824 := by omega
    clear hc hlen
    go_enter Tryz.func27, Tryz.ntmps27
    go_wp2
    go_loopw [3, 4] (fun lv iv wr => ∃ (k : Nat) (us : List Value), k ≤ vs.length ∧ iv = .int .i64 k ∧ Hid (us.length = k) ∧ Hid (Deep w.heap.size wr lv us (L.take k)) ∧ Hid (Below w.heap.size w wr)) (fun _ iv _ => vs.length - (intOf iv).toNat)
    case atStart => exact ⟨0, [], by omega, rfl, rfl, ⟨World.ownsRow_nil _ _ _ _, rfl, fun i x r hx => by simp at hx⟩, Below.refl _ _⟩
    case round =>
      obtain ⟨k, us, hk, rfl, HUL, HD, HB⟩ := hrel
      by_cases hlt : k < vs.length
      · have hltL : k < L.length := by have := HLE.out; omega
        have cx0 := HC.out k vs[k] (val_at hlt)
        have hst := HH.out.2.2 k _ _ (val_at hlt) (row_at hltL)
        have hbw : b < w.heap.size := World.block_lt_of_cell? w ⟨b, off + k, none⟩ cx0
        have cx := (HB.out.cell (p := ⟨b, off + k, none⟩) hbw).trans cx0
        have hrowl : L[k].length ≤ 1099511627776 := HRR.out _ (List.getElem_mem hltL)
        clear cx0
        obtain ⟨row, HRW⟩ : ∃ row, Hid (row = L[k]) := ⟨L[k], rfl⟩
        rw [← HRW.out] at hst hrowl
        have HST : Hid (Strs w vs[k] row) := hst
        obtain ⟨ax, capx, hxe, -⟩ := hst
        rw [hxe] at cx HST
        clear hxe
        go_wp2_with fail
        refine (copied_any _ row _ (HST.out.kept HB.out) (by omega)).mono ?_
        rintro e w1 ⟨⟨v1, rfl, hown1⟩, hb1⟩
        have HO1 : Hid (w1.ownsRow wr.heap.size 9 1 v1 row.length (ts row)) := hown1
        have HD1 : Hid (Deep w.heap.size w1 u3 us (L.take k)) := HD.out.kept hb1
        have HB1 : Hid (Below w.heap.size w w1) := HB.out.trans (hb1.mono HB.out.size)
        have hul : us.length ≤ 1073741824 := by have := HUL.out; omega
        clear hown1 hb1
        have hown3 := HD1.out.1
        obtain ⟨a1, cp1, hv1⟩ : ∃ a1 cp1, v1 = .slice a1 row.length cp1 := by
          rcases HO1.out.2 with ⟨h, h0⟩ | ⟨g, cp, cu, h, _⟩
          · exact ⟨none, 0, by rw [h, h0]⟩
          · exact ⟨_, _, h⟩
        subst hv1
        obtain ⟨a3, n3, cp3, hv3⟩ : ∃ a3 n3 cp3, u3 = .slice a3 n3 cp3 := by
          rcases hown3.2 with ⟨h, h0⟩ | ⟨g, cp, cu, h, _⟩
          · exact ⟨_, _, _, h⟩
          · exact ⟨_, _, _, h⟩
        subst hv3
        go_wp2_with (at_builtin; refine wpList_append_own _ rfl _ _ 22 rfl w.heap.size 45 i0 (.slice none 0 0) 1 24 Tryz.underlying22 hi hz0 hz1 hz2 rfl (by decide) _ _ _ rfl (hown3.alloc _) ⟨w1.heap.size, 0, none⟩ 1 1 [.slice a1 row.length cp1] rfl rfl ?c1 ?c2 ?c3 ?c4 ?c5 ?_)
        case c1 =>
          intro j' u hj'
          match j', hj' with
          | 0, hj' => simp at hj'; subst hj'; exact World.cell?_alloc_at _ _ _ _ rfl
        case c2 => intro u hu; simp at hu; subst hu; rfl
        case c3 => unfold maxLen; omega
        case c4 => omega
        case c5 => have := HB1.out.size; simp; omega
        intro v2 w2 hown2 hg2 _
        have HBW : Hid (Below w.heap.size w w2) := (HB1.out.alloc HB1.out.size _).grown hg2 (by have := HB1.out.size; simp; omega) (fun g hg => (hown3.lt g hg).1)
        have hka := own_below HO1.out ((Below.refl w1.heap.size w1).alloc (Nat.le_refl _) (Obj.cells #[.slice a1 row.length cp1] 45))
        have HDN : Hid (Deep w.heap.size w2 v2 (us ++ [.slice a1 row.length cp1]) (L.take (k + 1))) := by
          have hul2 := HUL.out
          have hte : L.take (k + 1) = L.take k ++ [row] := by rw [HRW.out]; exact (List.take_append_getElem hltL).symm
          rw [hte]
          refine ⟨by rw [List.length_append]; exact hown2, by simp [hul2]; omega, fun i x r hx hr => ?_⟩
          have hbA : Below w1.heap.size w1 (w1.alloc (Obj.cells #[.slice a1 row.length cp1] 45)) := (Below.refl w1.heap.size w1).alloc (Nat.le_refl _) _
          by_cases hik : i < k
          · rw [List.getElem?_append_left (by omega)] at hx
            rw [List.getElem?_append_left (by simp; omega)] at hr
            have h0 := own_below (HD1.out.2.2 i x r hx hr) hbA
            exact h0.kept hg2 (kind_ne h0 (hown3.alloc _) (by decide))
          · have hik2 : i = k := by
              have := (List.getElem?_eq_some_iff.1 hx).1
              simp at this; omega
            subst hik2
            rw [List.getElem?_append_right (by omega)] at hx
            rw [List.getElem?_append_right (by simp; omega)] at hr
            have e1 : i - us.length = 0 := by omega
            have e2 : i - (L.take i).length = 0 := by simp; omega
            rw [e1] at hx
            rw [e2] at hr
            simp at hx hr
            subst hx
            subst hr
            exact (own_mono hka HB.out.size).kept hg2 (kind_ne hka (hown3.alloc _) (by decide))
        clear hown2 hg2 hka hown3
        go_wp2
        exact ⟨⟨k + 1, _, by omega, rfl, by show _ = _; rw [List.length_append, HUL.out]; rfl, HDN, HBW⟩, by simp [intOf]; omega⟩
      · have HE : Hid (L.take k = L) := List.take_of_length_le (by have := HLE.out; omega)
        go_wp2
        go_ret
        exact ⟨⟨_, us, rfl, by rw [HE.out] at HD; exact HD.out⟩, HB.out⟩
end Go.Proofs.YtnnldpccagajbaaGreatDoor

/-
  The document's page and texts, walked.
-/
namespace Go.Proofs.YtnnldpccagajbaaGreatDoor
open Go.ChangeShapes Go.WideShapes Go.ChangeAt Go.RowKit
set_option linter.unusedVariables false
theorem sum_len (l : List UInt8) : (Crc.sum l).length = 4 := rfl
set_option maxRecDepth 100000 in
set_option maxHeartbeats 1000000 in
theorem rpage_any (s : ByteArray) (w : World) (hs : s.size ≤ 1099511627776) :
    Calls Tryz.prog 31 #[.string s] w fun e w' => e = .returned (.string (str (page s.data.toList))) ∧ Below w.heap.size w w' := by
  have h9 := vb_length9 s.size (by omega)
  have hz1 : (str (vb s.size)).size ≤ 9 := by rw [str_size]; exact h9
  have hz2 : (str (Crc.sum s.data.toList)).size = 4 := rfl
  have HPG : Hid (str (vb s.size) ++ s ++ str (Crc.sum s.data.toList) = str (page s.data.toList)) := by
    show _ = _
    conv => lhs; rw [← str_data s]
    rw [str_app, str_app, data_str]
    unfold page
    simp [List.append_assoc, str_size]
  go_enter Tryz.func31, Tryz.ntmps31
  go_wp2_with fail
  refine (rvarint_any s.size _ (by omega)).mono ?_
  rintro e w1 ⟨rfl, hb1⟩
  generalize str (vb s.size) = sv at *
  go_wp2_with fail
  refine (rsum_any s _ (by omega)).mono ?_
  rintro e w2 ⟨rfl, hb2⟩
  generalize str (Crc.sum s.data.toList) = sc at *
  have HB : Hid (Below w.heap.size w w2) := hb1.trans (hb2.mono hb1.size)
  clear hb1 hb2
  have hzz : (sv ++ s).size ≤ 1099511627776 + 9 := by rw [ByteArray.size_append]; omega
  go_wp2
  go_ret
  exact ⟨ret_str HPG.out, HB.out⟩
theorem insV_all {us : List Value} {K : List (List (List UInt8))} {r : List (List UInt8)} {x : Value} (Φ : Value → List (List UInt8) → Prop) (h : us.length = K.length ∧ ∀ (i : Nat) (y : Value) (q : List (List UInt8)), us[i]? = some y → K[i]? = some q → Φ y q) (hx : Φ x r) :
    (insV us K r x).length = (ins K r).length ∧ ∀ (i : Nat) (y : Value) (q : List (List UInt8)), (insV us K r x)[i]? = some y → (ins K r)[i]? = some q → Φ y q := by
  unfold insV ins
  by_cases hm : r ∈ K
  · rw [if_pos hm, if_pos hm]; exact h
  · rw [if_neg hm, if_neg hm]
    have ha := ahead_le K r
    generalize ahead K r = a at *
    have l1 : (us.take a).length = a := by simp; omega
    have l2 : (K.take a).length = a := by simp; omega
    refine ⟨by simp; omega, fun i y q hy hq => ?_⟩
    rcases Nat.lt_trichotomy i a with c | c | c
    · rw [List.getElem?_append_left (by omega), List.getElem?_take_of_lt c] at hy hq
      exact h.2 i y q hy hq
    · subst c
      rw [List.getElem?_append_right (by omega)] at hy hq
      rw [l1, Nat.sub_self] at hy
      rw [l2, Nat.sub_self] at hq
      simp at hy hq
      subst hy hq
      exact hx
    · rw [List.getElem?_append_right (by omega)] at hy hq
      rw [l1] at hy
      rw [l2] at hq
      obtain ⟨d, hd⟩ : ∃ d, i - a = d + 1 := ⟨i - a - 1, by omega⟩
      rw [hd, List.getElem?_cons_succ, List.getElem?_drop] at hy hq
      exact h.2 (a + d) y q hy hq
theorem ownShape {w : World} {base : Nat} {e : TypeId} {size : Nat} {v : Value} {n : Nat} {xs : List Value} (h : w.ownsRow base e size v n xs) : ∃ a c, v = .slice a n c := by
  rcases h.2 with ⟨rfl, h0⟩ | ⟨g, cap, cur, rfl, _⟩
  · exact ⟨none, 0, by rw [h0]⟩
  · exact ⟨_, cap, rfl⟩
/-- the rows of one text each that stand in l -/
def kOf (ts : List (List UInt8)) : List (List (List UInt8)) := (ts.map fun t => [t]).foldl ins []
theorem kOf_snoc (l : List (List UInt8)) (t : List UInt8) : kOf (l ++ [t]) = ins (kOf l) [t] := by unfold kOf; simp [List.foldl_append]
theorem kOf_rises (l : List (List UInt8)) : Rises 1 (kOf l) := sortU_rises 1 _ (fun r hr => by obtain ⟨t, _, rfl⟩ := List.mem_map.1 hr; rfl)
theorem kOf_len (l : List (List UInt8)) : (kOf l).length ≤ l.length := by
  have := sortU_len (l.map fun t => [t])
  simpa [kOf, sortU] using this
theorem kOf_one (l : List (List UInt8)) (i : Nat) (r : List (List UInt8)) (h : (kOf l)[i]? = some r) : ∃ t, r = [t] := by
  have := (kOf_rises l).1 r (List.mem_of_getElem? h)
  match r, this with
  | [t], _ => exact ⟨t, rfl⟩
theorem heads_next (K : List (List (List UInt8))) (k : Nat) (t : List UInt8) (h : K[k]? = some [t]) : ((K.take (k + 1)).map fun r => r.headD []) = ((K.take k).map fun r => r.headD []) ++ [t] := by
  have hk : k < K.length := (List.getElem?_eq_some_iff.1 h).1
  rw [List.take_succ_eq_append_getElem hk, List.map_append]
  have : K[k] = [t] := by rw [List.getElem?_eq_getElem hk] at h; exact Option.some.inj h
  simp [this]
set_option maxRecDepth 100000 in
set_option maxHeartbeats 2000000 in
theorem rtexts_any (v : Value) (vs : List Value) (rows : List (List (List UInt8))) (w : World) (h : Rows2 w v vs rows) (hl : rows.length ≤ 1073741824) (hr : ∀ r ∈ rows, r.length ≤ 1099511627776) (hf : rows.flatten.length ≤ 1073741824) :
    Calls Tryz.prog 29 #[v] w fun e w' => (∃ v', e = .returned v' ∧ w'.ownsRow w.heap.size 9 1 v' (allT rows).length (ts (allT rows))) ∧ Below w.heap.size w w' := by
  obtain ⟨i0, hi, hz0, hz1, hz2⟩ := info_parts info9
  have HH : Hid (Rows2 w v vs rows) := h
  have HRR : Hid (∀ r ∈ rows, r.length ≤ 1099511627776) := hr
  have hvl : vs.length ≤ 1073741824 := by have := h.2.1; omega
  clear hr
  obtain ⟨⟨a, cap, rfl, hv⟩, hlen, hin⟩ := h
  have HLE : Hid (vs.length = rows.length) := hlen
  have HIN : Hid (∀ (i : Nat) (x : Value) (r : List (List UInt8)), vs[i]? = some x → rows[i]? = some r → Strs w x r) := hin
  have HV : Hid (∀ k, k < vs.length → ∃ b off, a = some ⟨b, off, none⟩ ∧ ∀ (i : Nat) (x : Value), vs[i]? = some x → w.cell? ⟨b, off + i, none⟩ = some x) := by
    intro k hk
    rcases hv with ⟨rfl, _⟩ | ⟨b, off, rfl, hc⟩
    · simp at hk
    · exact ⟨b, off, rfl, hc⟩
  clear hv hlen hin
  go_enter Tryz.func29, Tryz.ntmps29
  go_wp2
  go_loopw [3, 4] (fun lv iv wr => ∃ (i : Nat) (us : List Value), i ≤ vs.length ∧ iv = .int .i64 i ∧ Hid (Deep w.heap.size wr lv us (kOf (rows.take i).flatten)) ∧ Hid (Below w.heap.size w wr)) (fun _ iv _ => vs.length - (intOf iv).toNat)
  case atStart => exact ⟨0, [], by omega, rfl, ⟨World.ownsRow_nil _ _ _ _, rfl, fun i x r hx => by simp at hx⟩, Below.refl _ _⟩
  case round =>
    obtain ⟨i, us, hi2, rfl, HD, HB⟩ := hrel
    by_cases hlt : i < vs.length
    · have hir : i < rows.length := by have := HLE.out; omega
      obtain ⟨b, off, rfl, hc⟩ := HV.out i hlt
      have cx0 := hc i vs[i] (val_at hlt)
      have hbw : b < w.heap.size := World.block_lt_of_cell? w ⟨b, off + i, none⟩ cx0
      have HST : Hid (Strs w vs[i] rows[i]) := HIN.out i _ _ (val_at hlt) (row_at hir)
      obtain ⟨row, HRW⟩ : ∃ row, Hid (row = rows[i]) := ⟨rows[i], (rfl : rows[i] = rows[i])⟩
      have hrowl : row.length ≤ 1099511627776 := by rw [HRW.out]; exact HRR.out _ (List.getElem_mem hir)
      rw [← HRW.out] at HST
      obtain ⟨xa, xc, hxe, hxs⟩ := HST.out
      have HXS : Hid (∀ k, k < row.length → ∃ bx ox, xa = some ⟨bx, ox, none⟩ ∧ ∀ (j : Nat) (t : List UInt8), row[j]? = some t → w.cell? ⟨bx, ox + j, none⟩ = some (.string (str t))) := by
        intro k hk
        rcases hxs with ⟨rfl, _⟩ | ⟨bx, ox, rfl, hcx⟩
        · simp at hk
        · exact ⟨bx, ox, rfl, hcx⟩
      rw [hxe] at cx0
      have HCX : Hid (w.cell? ⟨b, off + i, none⟩ = some (.slice xa row.length xc)) := cx0
      have HTK : Hid ((rows.take (i + 1)).flatten = (rows.take i).flatten ++ row) := by
        show _ = _
        rw [List.take_succ_eq_append_getElem hir, List.flatten_append, HRW.out]; simp
      have HFL : Hid ((rows.take i).flatten.length + row.length ≤ 1073741824) := by
        have h1 : (rows.take (i + 1)).flatten.length ≤ rows.flatten.length := by
          conv => rhs; rw [← List.take_append_drop (i + 1) rows, List.flatten_append, List.length_append]
          omega
        rw [HTK.out, List.length_append] at h1
        show _ ≤ _; omega
      clear hc cx0 hxs hxe
      have cx := (HB.out.cell (p := ⟨b, off + i, none⟩) hbw).trans HCX.out
      go_wp2
      go_loopw [3, 5] (fun lv kv wr => ∃ (k : Nat) (us : List Value), k ≤ row.length ∧ kv = .int .i64 k ∧ Hid (Deep w.heap.size wr lv us (kOf ((rows.take i).flatten ++ row.take k))) ∧ Hid (Below w.heap.size w wr)) (fun _ kv _ => row.length - (intOf kv).toNat)
      case atStart => exact ⟨0, us, by omega, rfl, by simpa using HD, HB⟩
      case round =>
        obtain ⟨k, us, hk, rfl, HD, HB⟩ := hrel
        have cx := (HB.out.cell (p := ⟨b, off + i, none⟩) hbw).trans HCX.out
        by_cases hkl : k < row.length
        · obtain ⟨bx, ox, rfl, hcx⟩ := HXS.out k hkl
          have ct0 := hcx k row[k] (get_at hkl)
          have ct := (HB.out.cell (p := ⟨bx, ox + k, none⟩) (World.block_lt_of_cell? w ⟨bx, ox + k, none⟩ ct0)).trans ct0
          clear ct0 hcx
          obtain ⟨t, HT⟩ : ∃ t, Hid (t = row[k]) := ⟨row[k], (rfl : row[k] = row[k])⟩
          rw [← HT.out] at ct
          obtain ⟨la, lc, hle⟩ := ownShape HD.out.1
          subst hle
          have hbl : Below wr.heap.size wr (wr.alloc (.cells #[.string (str t)] 9)) := (Below.refl _ _).alloc (Nat.le_refl _) _
          have hlit : (wr.alloc (.cells #[.string (str t)] 9)).ownsRow w.heap.size 9 1 (.slice (some ⟨wr.heap.size, 0, none⟩) 1 1) [t].length (ts [t]) := World.ownsRow_lit wr #[.string (str t)] 1 HB.out.size (by decide) rfl
          have HLIT : Hid ((wr.alloc (.cells #[.string (str t)] 9)).ownsRow w.heap.size 9 1 (.slice (some ⟨wr.heap.size, 0, none⟩) 1 1) [t].length (ts [t])) := hlit
          have HD2 : Hid (Deep w.heap.size (wr.alloc (.cells #[.string (str t)] 9)) (.slice la us.length lc) us (kOf ((rows.take i).flatten ++ row.take k))) := HD.out.kept hbl
          have HB2 : Hid (Below w.heap.size w (wr.alloc (.cells #[.string (str t)] 9))) := HB.out.trans (hbl.mono HB.out.size)
          have HKL : Hid ((kOf ((rows.take i).flatten ++ row.take k)).length ≤ 1073741824) := by
            have h1 := kOf_len ((rows.take i).flatten ++ row.take k)
            have h2 := HFL.out
            rw [List.length_append, List.length_take] at h1
            show _ ≤ _; omega
          have HKN : Hid (kOf ((rows.take i).flatten ++ row.take (k + 1)) = ins (kOf ((rows.take i).flatten ++ row.take k)) [t]) := by
            show _ = _
            rw [take_next row k hkl, ← List.append_assoc, kOf_snoc, HT.out]
          clear hbl hlit
          go_wp2_with fail
          refine (put_grown w.heap.size _ _ us _ [t] 1 _ HD2.out.1 HB2.out.size ⟨HD2.out.2.1, fun j y q hy hq => own_strs (HD2.out.2.2 j y q hy hq)⟩ (own_strs HLIT.out) (kOf_rises _) rfl HKL.out (by decide)).mono ?_
          rintro e w3 ⟨v', rfl, ho, hg⟩
          have HDN : Hid (Deep w.heap.size w3 v' (insV us (kOf ((rows.take i).flatten ++ row.take k)) [t] (.slice (some ⟨wr.heap.size, 0, none⟩) 1 1)) (kOf ((rows.take i).flatten ++ row.take (k + 1)))) := by
            have hall := insV_all (us := us) (K := kOf ((rows.take i).flatten ++ row.take k)) (r := [t]) (x := .slice (some ⟨wr.heap.size, 0, none⟩) 1 1) (fun y q => w3.ownsRow w.heap.size 9 1 y q.length (ts q))
              ⟨HD2.out.2.1, fun j y q hy hq => (HD2.out.2.2 j y q hy hq).kept hg (kind_ne (HD2.out.2.2 j y q hy hq) HD2.out.1 (by decide))⟩ (HLIT.out.kept hg (kind_ne HLIT.out HD2.out.1 (by decide)))
            rw [HKN.out]
            exact ⟨ho, hall.1, hall.2⟩
          have HBN : Hid (Below w.heap.size w w3) := HB2.out.grown hg HB2.out.size (fun q hq => (HD2.out.1.lt q hq).1)
          clear ho hg
          go_wp2
          go_roundw
          case rel => exact ⟨k + 1, _, by omega, by go_num, HDN, HBN⟩
          case measure => simp [intOf]; omega
        · have hke : k = row.length := by omega
          have HDE : Hid (Deep w.heap.size wr u3 us (kOf (rows.take (i + 1)).flatten)) := by
            have := HD.out
            rw [hke, List.take_length, ← HTK.out] at this
            exact this
          obtain ⟨la, lc, hle⟩ := ownShape HD.out.1
          subst hle
          clear hke
          go_wp2
          go_roundw
          case rel => exact ⟨i + 1, us, by omega, by go_num, HDE, HB⟩
          case measure => simp [intOf]; omega
    · have hie : i = rows.length := by have := HLE.out; omega
      have HDE : Hid (Deep w.heap.size wr u3 us (kOf rows.flatten)) := by
        have := HD.out
        rw [hie, List.take_length] at this
        exact this
      have HKL : Hid ((kOf rows.flatten).length ≤ 1073741824) := by have := kOf_len rows.flatten; show _ ≤ _; omega
      have hul : us.length ≤ 1073741824 := by have := HDE.out.2.1; have := HKL.out; omega
      obtain ⟨la, lc, hle⟩ := ownShape HDE.out.1
      subst hle
      clear hie HD
      obtain ⟨K, HK⟩ : ∃ K, Hid (K = kOf rows.flatten) := ⟨_, (rfl : kOf rows.flatten = kOf rows.flatten)⟩
      rw [← HK.out] at HDE
      have HONE : Hid (∀ (j : Nat) (r : List (List UInt8)), K[j]? = some r → ∃ t, r = [t]) := fun j r hr => kOf_one rows.flatten j r (by rw [← HK.out]; exact hr)
      obtain ⟨Wl, hWl⟩ : ∃ Wl, Wl = wr := ⟨wr, rfl⟩
      subst hWl
      go_wp2
      go_loopw [6, 7] (fun ov jv w2 => ∃ j : Nat, j ≤ us.length ∧ jv = .int .i64 j ∧ Hid (w2.ownsRow Wl.heap.size 9 1 ov ((K.take j).map fun r => r.headD []).length (ts ((K.take j).map fun r => r.headD []))) ∧ Hid (Below Wl.heap.size Wl w2)) (fun _ jv _ => us.length - (intOf jv).toNat)
      case atStart => exact ⟨0, by omega, rfl, World.ownsRow_nil _ _ _ _, Below.refl _ _⟩
      case round =>
        obtain ⟨j, hj, rfl, HO, HB2⟩ := hrel
        obtain ⟨hs, HHS⟩ : ∃ hs : List (List UInt8), Hid (hs = (K.take j).map fun r => r.headD []) := ⟨_, (rfl : ((K.take j).map fun r => r.headD []) = _)⟩
        have hlj : hs.length ≤ 1073741824 := by rw [HHS.out, List.length_map, List.length_take]; omega
        rw [← HHS.out] at HO
        obtain ⟨oa, oc, hoe⟩ := ownShape HO.out
        subst hoe
        by_cases hjl : j < us.length
        · have hjk : j < K.length := by have := HDE.out.2.1; omega
          obtain ⟨t, ht⟩ := HONE.out j K[j] (row_at hjk)
          have hin := HDE.out.2.2 j us[j] K[j] (val_at hjl) (row_at hjk)
          rw [ht] at hin
          obtain ⟨g, hgl, hcl⟩ : ∃ g, la = some ⟨g, 0, none⟩ ∧ Wl.cell? ⟨g, j, none⟩ = some us[j] := by
            have h1 := HDE.out.1
            rcases h1.2 with ⟨_, e0⟩ | ⟨g, c', cur, e, _⟩
            · omega
            · cases e
              have := h1.cells (g := g) rfl j _ (val_at hjl)
              rw [show (⟨g, 0, none⟩ : Addr).add j = ⟨g, j, none⟩ from by unfold Addr.add; split <;> simp_all] at this
              exact ⟨g, rfl, this⟩
          obtain ⟨gj, cj, hue, hcj⟩ : ∃ gj cj, us[j] = .slice (some ⟨gj, 0, none⟩) 1 cj ∧ Wl.cell? ⟨gj, 0, none⟩ = some (.string (str t)) := by
            rcases hin.2 with ⟨_, e0⟩ | ⟨gj, cj, cur, e, _⟩
            · simp at e0
            · have := hin.cells (g := gj) (by rw [e]; rfl) 0 _ (show (ts [t])[0]? = some (.string (str t)) from rfl)
              exact ⟨gj, cj, e, by simpa [Addr.add] using this⟩
          subst hgl
          rw [hue] at hcl
          have c1 := (HB2.out.cell (p := ⟨g, j, none⟩) (World.block_lt_of_cell? Wl ⟨g, j, none⟩ hcl)).trans hcl
          have c2 := (HB2.out.cell (p := ⟨gj, 0, none⟩) (World.block_lt_of_cell? Wl ⟨gj, 0, none⟩ hcj)).trans hcj
          have HKJ : Hid (K[j]? = some [t]) := by show _ = _; rw [row_at hjk, ht]
          have HUL : Hid (((K.take (j + 1)).map fun r => r.headD []) = hs ++ [t]) := by rw [HHS.out]; exact heads_next K j t HKJ.out
          clear hin hcl hcj hue ht hjk
          go_wp2_with (at_builtin; refine wpList_append_own _ rfl _ _ 45 rfl Wl.heap.size 9 i0 (.string { data := #[] }) 1 16 Tryz.underlying45 hi hz0 hz1 hz2 rfl (by decide) _ _ _ rfl (HO.out.alloc _) ⟨wr.heap.size, 0, none⟩ 1 1 [.string (str t)] rfl rfl ?c1 ?c2 ?c3 ?c4 ?c5 ?_)
          case c1 =>
            intro j' u hj'
            match j', hj' with
            | 0, hj' => simp at hj'; subst hj'; exact World.cell?_alloc_at _ _ _ _ rfl
          case c2 => intro u hu; simp at hu; subst hu; rfl
          case c3 => unfold maxLen; omega
          case c4 => omega
          case c5 => have := HB2.out.size; simp; omega
          intro v4 w4 hown4 hg4 _
          have HB4 : Hid (Below Wl.heap.size Wl w4) := grown_own HB2.out HO.out hg4
          have HO4 : Hid (w4.ownsRow Wl.heap.size 9 1 v4 ((K.take (j + 1)).map fun r => r.headD []).length (ts ((K.take (j + 1)).map fun r => r.headD []))) := by
            rw [HUL.out]
            rw [ts_snoc] at hown4
            rw [List.length_append]; exact hown4
          clear hown4 hg4
          go_wp2
          go_roundw
          case rel => exact ⟨j + 1, by omega, by go_num, HO4, HB4⟩
          case measure => simp [intOf]; omega
        · have HE : Hid (hs = allT rows) := by
            show _ = _
            rw [HHS.out, List.take_of_length_le (by have := HDE.out.2.1; omega), HK.out]
            rfl
          go_wp2
          go_ret
          have ho := HO.out
          rw [HE.out] at ho
          have hb : Below w.heap.size w Wl := HB.out
          exact ⟨⟨_, rfl, by rw [HE.out]; exact own_mono ho hb.size⟩, hb.trans (HB2.out.mono hb.size)⟩
end Go.Proofs.YtnnldpccagajbaaGreatDoor
