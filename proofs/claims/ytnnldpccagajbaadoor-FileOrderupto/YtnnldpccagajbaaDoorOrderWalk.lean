import Derived.Test.YtnnldpccagajbaaDoorTidyFacts
import Derived.Test.YtnnldpccagajbaaDoorRefEncode
import Derived.Test.YtnnldpccagajbaaDoorRowsWalk
import Derived.Test.YtnnldpccagajbaaDoorEncCode
import Derived.Test.YtnnldpccagajbaaDoorLawRel
import Derived.Deep.AppendLies
import Derived.Deep.RegionLaw
/-
  C1, C2: rows in another order and more than once: the same answer. Nothing of the program.
-/
namespace Go.Proofs.YtnnldpccagajbaaDoor
theorem bad_good (m : Nat) (i : Nat) (rows : List (List (List UInt8))) (h : ∀ r ∈ rows, r.length = m ∧ ∀ t ∈ r, t.length ≤ 200) : bad m i rows = none := by
  induction rows generalizing i with
  | nil => rfl
  | cons r rest ih =>
    have h1 := h r (by simp)
    rw [bad, if_pos h1.1, if_pos (by simpa using h1.2)]
    exact ih (i + 1) (fun x hx => h x (by simp [hx]))
theorem bad_not0 (m i : Nat) (rows : List (List (List UInt8))) (e j : Nat) (h : bad m i rows = some (e, j)) : e ≠ 0 := by
  induction rows generalizing i with
  | nil => simp [bad] at h
  | cons r rest ih =>
    rw [bad] at h
    split at h
    · split at h
      · exact ih (i + 1) h
      · cases h; decide
    · cases h; decide
/-- rows turned round, and then as they were -/
def twice (rows : List (List (List UInt8))) : List (List (List UInt8)) := rows.reverse ++ rows
theorem mem_twice (rows : List (List (List UInt8))) (r : List (List UInt8)) : r ∈ twice rows ↔ r ∈ rows := by simp [twice]
theorem sortU_twice (m : Nat) (rows : List (List (List UInt8))) (h : ∀ r ∈ rows, r.length = m) : sortU (twice rows) = sortU rows := by
  have h2 : ∀ r ∈ twice rows, r.length = m := fun r hr => h r ((mem_twice rows r).1 hr)
  exact rises_unique m _ _ (sortU_rises m _ h2) (sortU_rises m _ h) (fun x => by rw [mem_sortU m _ h2, mem_sortU m _ h, mem_twice])
theorem tidy_twice (name : List UInt8) (ar : Int) (rows : List (List (List UInt8))) : tidy name ar (twice rows) = tidy name ar rows ∨ ((tidy name ar rows).1 ≠ 0 ∧ (tidy name ar (twice rows)).1 ≠ 0) := by
  unfold tidy
  by_cases h1 : isName name = false
  · simp only [h1, if_true, true_or]
  · rw [if_neg h1, if_neg h1]
    by_cases h2 : ar < 0 ∨ 8 < ar
    · rw [if_pos h2, if_pos h2]; exact Or.inl rfl
    · rw [if_neg h2, if_neg h2]
      cases hb : bad ar.toNat 0 rows with
      | none =>
        have hg := bad_none _ _ _ hb
        rw [bad_good ar.toNat 0 (twice rows) (fun r hr => hg r ((mem_twice rows r).1 hr)), sortU_twice ar.toNat rows (fun r hr => (hg r hr).1)]
        exact Or.inl rfl
      | some p =>
        obtain ⟨e, i⟩ := p
        cases hb2 : bad ar.toNat 0 (twice rows) with
        | none =>
          have hg := bad_none _ _ _ hb2
          rw [bad_good ar.toNat 0 rows (fun r hr => hg r ((mem_twice rows r).2 hr))] at hb
          cases hb
        | some p2 =>
          obtain ⟨e2, i2⟩ := p2
          exact Or.inr ⟨bad_not0 _ _ _ _ _ hb, bad_not0 _ _ _ _ _ hb2⟩
theorem encode_err (name : List UInt8) (ar : Int) (rows : List (List (List UInt8))) (h : (tidy name ar rows).1 ≠ 0) : (encode name ar rows).2.1 ≠ 0 := by
  rw [encode_bad name ar rows _ _ _ rfl h]; exact h
theorem encode_twice (name : List UInt8) (ar : Int) (rows : List (List (List UInt8))) : encode name ar (twice rows) = encode name ar rows ∨ ((encode name ar rows).2.1 ≠ 0 ∧ (encode name ar (twice rows)).2.1 ≠ 0) := by
  rcases tidy_twice name ar rows with h | ⟨h1, h2⟩
  · left; unfold encode; rw [h]
  · exact Or.inr ⟨encode_err _ _ _ h1, encode_err _ _ _ h2⟩
end Go.Proofs.YtnnldpccagajbaaDoor

/-
  A row put behind rows that the call owns.
-/
namespace Go.Proofs.YtnnldpccagajbaaDoor
open Go.ChangeShapes Go.WideShapes Go.ChangeAt Go.RowKit
set_option linter.unusedVariables false
theorem Deep.push {base b1 : Nat} {w1 wa w2 : World} {v v1 v2 : Value} {us : List Value} {L : List (List (List UInt8))} {row : List (List UInt8)} (hd : Deep base w1 v us L) (ho : w1.ownsRow b1 9 1 v1 row.length (ts row)) (hb : base ≤ b1) (ha : Below w1.heap.size w1 wa) (hg : wa.grownBy w2 v.ownBlock) (hown2 : w2.ownsRow base 35 1 v2 (us.length + 1) (us ++ [v1])) : Deep base w2 v2 (us ++ [v1]) (L ++ [row]) := by
  have hlen := hd.2.1
  have hv := own_below hd.1 ha
  refine ⟨by rw [List.length_append]; exact hown2, by simp [hlen], fun i x r hx hr => ?_⟩
  by_cases hik : i < us.length
  · rw [List.getElem?_append_left hik] at hx
    rw [List.getElem?_append_left (by omega)] at hr
    have h0 := own_below (hd.2.2 i x r hx hr) ha
    exact h0.kept hg (kind_ne h0 hv (by decide))
  · have hie : i = us.length := by
      have := (List.getElem?_eq_some_iff.1 hx).1
      simp at this; omega
    subst hie
    rw [List.getElem?_append_right (Nat.le_refl _), Nat.sub_self] at hx
    rw [List.getElem?_append_right (by omega), hlen, Nat.sub_self] at hr
    simp at hx hr
    subst hx
    subst hr
    have hka := own_below ho ha
    exact (own_mono hka hb).kept hg (kind_ne hka hv (by decide))
end Go.Proofs.YtnnldpccagajbaaDoor

/-
  FileOrder's walk.
-/
namespace Go.Proofs.YtnnldpccagajbaaDoor
open Go.ChangeShapes Go.WideShapes Go.ChangeAt Go.RowKit
set_option linter.unusedVariables false
set_option maxRecDepth 100000 in
set_option maxHeartbeats 400000 in
theorem numO_at (n : Int) (w : World) : Calls Tryd.prog 9 #[.int .i64 n] w fun e w' => e = .returned (.int .i64 n) ∧ w = w' := by
  go_enter Tryd.func9, Tryd.ntmps9
  go_wp2
  go_ret
  exact ⟨rfl, rfl⟩
/-- a struct of the call's own at block yb, whose third field has these rows -/
structure YB (yb : Nat) (w : World) (name : ByteArray) (ar : Int) (v : Value) (us : List Value) (L : List (List (List UInt8))) : Prop where
  lt : yb < w.heap.size
  c0 : w.cell? ⟨yb, 0, none⟩ = some (.string name)
  c1 : w.cell? ⟨yb, 1, none⟩ = some (.int .i64 ar)
  c2 : w.cell? ⟨yb, 2, none⟩ = some v
  fz : w.frozen? ⟨yb, 2, none⟩ = false
  deep : Deep (yb + 1) w v us L
theorem YB.kept {yb : Nat} {w w' : World} {name : ByteArray} {ar : Int} {v : Value} {us : List Value} {L : List (List (List UInt8))} (h : YB yb w name ar v us L) (hb : Below w.heap.size w w') : YB yb w' name ar v us L :=
  ⟨Nat.lt_of_lt_of_le h.lt hb.size, (hb.cell (p := ⟨yb, 0, none⟩) h.lt).trans h.c0, (hb.cell (p := ⟨yb, 1, none⟩) h.lt).trans h.c1, (hb.cell (p := ⟨yb, 2, none⟩) h.lt).trans h.c2, (hb.frozen (p := ⟨yb, 2, none⟩) h.lt).trans h.fz, h.deep.kept hb⟩
theorem YB.far {yb : Nat} {w w' : World} {name : ByteArray} {ar : Int} {v : Value} {us : List Value} {L : List (List (List UInt8))} (h : YB yb w name ar v us L) {o : Obj} (hg : (w.alloc o).grownBy w' v.ownBlock) (x : Addr) (hx : x.block ≤ yb) : w'.cell? x = w.cell? x ∧ w'.frozen? x = w.frozen? x := by
  have hlt := h.lt
  have hne : some x.block ≠ v.ownBlock := fun e => by have := (h.deep.1.lt x.block e.symm).1; omega
  have hb : Below w.heap.size w (w.alloc o) := (Below.refl _ _).alloc (Nat.le_refl _) o
  have h1 : x.block < (w.alloc o).heap.size := by simp; omega
  exact ⟨(hg.cell_far x h1 hne).trans (hb.cell (p := x) (by omega)), (hg.frozen_far x h1 hne).trans (hb.frozen (p := x) (by omega))⟩
theorem YB.pushed {yb b1 : Nat} {w w' : World} {name : ByteArray} {ar : Int} {v v1 v2 : Value} {us : List Value} {L : List (List (List UInt8))} {row : List (List UInt8)} (h : YB yb w name ar v us L) {o : Obj} (hg : (w.alloc o).grownBy w' v.ownBlock) (ho : w.ownsRow b1 9 1 v1 row.length (ts row)) (hb : yb + 1 ≤ b1) (hown : w'.ownsRow (yb + 1) 35 1 v2 (us.length + 1) (us ++ [v1])) :
    YB yb (w'.setCell ⟨yb, 2, none⟩ v2) name ar v2 (us ++ [v1]) (L ++ [row]) := by
  have f0 := h.far hg ⟨yb, 0, none⟩ (Nat.le_refl _)
  have f1 := h.far hg ⟨yb, 1, none⟩ (Nat.le_refl _)
  have f2 := h.far hg ⟨yb, 2, none⟩ (Nat.le_refl _)
  have hd := h.deep.push ho hb ((Below.refl _ _).alloc (Nat.le_refl _) o) hg hown
  have hlt : yb < w'.heap.size := Nat.lt_of_lt_of_le h.lt (Nat.le_trans (by simp) hg.size)
  refine ⟨by rw [setCell_size]; exact hlt, ?_, ?_, World.cell?_setCell_same _ _ _ (f2.1.trans h.c2), by rw [World.frozen?_setCell]; exact f2.2.trans h.fz, hd.setBelow (a := ⟨yb, 2, none⟩) (Nat.lt_succ_self _) _⟩
  · rw [World.cell?_setCell_other _ _ _ _ (by simp)]; exact f0.1.trans h.c0
  · rw [World.cell?_setCell_other _ _ _ _ (by simp)]; exact f1.1.trans h.c1
set_option maxRecDepth 100000 in
set_option maxHeartbeats 2000000 in
theorem order_walk (name : ByteArray) (ar : Int) (rv : Value) (vs : List Value) (rows : List (List (List UInt8))) (w : World) (h : Rows2 w rv vs rows) (hT : Tab w) (hn : name.size ≤ 1099511627776) (hrl : rows.length ≤ 1048576) (hrr : ∀ r ∈ rows, r.length ≤ 1099511627776) :
    Calls Tryd.prog 4 #[.agg #[.string name, .int .i64 ar, rv]] w fun e w' => e = .returned (.bool true) ∧ Below w.heap.size w w' := by
  have HH : Hid (Rows2 w rv vs rows) := h
  have HTB : Hid (Tab w) := hT
  have HRR : Hid (∀ r ∈ rows, r.length ≤ 1099511627776) := hrr
  clear hrr hT
  obtain ⟨⟨a, cap, rfl, -⟩, -, -⟩ := h
  obtain ⟨W0, HW0⟩ : ∃ W0, Hid (W0 = w.alloc (.cells #[.string name, .int .i64 ar, .slice a vs.length cap] 24)) := ⟨_, rfl⟩
  have HB0 : Hid (Below w.heap.size w W0) := by rw [HW0.out]; exact (Below.refl _ _).alloc (Nat.le_refl _) _
  have HZ0 : Hid (W0.heap.size = w.heap.size + 1) := by show _ = _; rw [HW0.out]; simp
  have HQ0 : Hid (W0.cell? ⟨w.heap.size, 0, none⟩ = some (.string name) ∧ W0.cell? ⟨w.heap.size, 1, none⟩ = some (.int .i64 ar) ∧ W0.cell? ⟨w.heap.size, 2, none⟩ = some (.slice a vs.length cap)) := by
    rw [HW0.out]; exact ⟨by simp, by simp, by simp⟩
  have hb0 : w.heap.size < W0.heap.size := by have := HZ0.out; omega
  have HR0 : Hid (Rows2 W0 (.slice a vs.length cap) vs rows) := HH.out.kept HB0.out
  go_enter Tryd.func4, Tryd.ntmps4
  go_wp2_with fail
  rw [← HW0.out]
  clear HW0
  refine (relation_any name ar _ vs rows _ HR0.out (by omega) HRR.out).mono ?_
  rintro e w1 ⟨⟨vx, ux, rfl, hdx⟩, hb1⟩
  obtain ⟨ax, cx, rfl⟩ := own_shape' hdx.1
  have hs1 : w.heap.size < w1.heap.size := by have := hb1.size; omega
  have HB01 : Hid (Below W0.heap.size W0 w1) := hb1
  have HX1 : Hid (Rows2 w1 (.slice ax ux.length cx) ux rows) := hdx.rows
  clear hb1 hdx
  obtain ⟨WT, HWT⟩ : ∃ WT, Hid (WT = w1.alloc (.cells #[.string name, .int .i64 ar, .slice ax ux.length cx] 25)) := ⟨_, rfl⟩
  have HBX : Hid (Below w1.heap.size w1 WT) := by rw [HWT.out]; exact (Below.refl _ _).alloc (Nat.le_refl _) _
  have HZT : Hid (WT.heap.size = w1.heap.size + 1) := by show _ = _; rw [HWT.out]; simp
  have HQX : Hid (WT.cell? ⟨w1.heap.size, 0, none⟩ = some (.string name) ∧ WT.cell? ⟨w1.heap.size, 1, none⟩ = some (.int .i64 ar) ∧ WT.cell? ⟨w1.heap.size, 2, none⟩ = some (.slice ax ux.length cx)) := by
    rw [HWT.out]; exact ⟨by simp, by simp, by simp⟩
  have HB0T : Hid (Below W0.heap.size W0 WT) := HB01.out.trans (HBX.out.mono HB01.out.size)
  have HQR : Hid (WT.cell? ⟨w.heap.size, 0, none⟩ = some (.string name) ∧ WT.cell? ⟨w.heap.size, 1, none⟩ = some (.int .i64 ar) ∧ WT.cell? ⟨w.heap.size, 2, none⟩ = some (.slice a vs.length cap)) :=
    ⟨(HB0T.out.cell (p := ⟨w.heap.size, 0, none⟩) hb0).trans HQ0.out.1, (HB0T.out.cell (p := ⟨w.heap.size, 1, none⟩) hb0).trans HQ0.out.2.1, (HB0T.out.cell (p := ⟨w.heap.size, 2, none⟩) hb0).trans HQ0.out.2.2⟩
  have HXT : Hid (Rows2 WT (.slice ax ux.length cx) ux rows) := HX1.out.kept HBX.out
  have HBT : Hid (Below w.heap.size w WT) := HB0.out.trans (HB0T.out.mono (by omega))
  have HRT : Hid (Rows2 WT (.slice a vs.length cap) vs rows) := HH.out.kept HBT.out
  have HTT : Hid (Tab WT) := HTB.out.below HBT.out HTB.out.pos
  have hbx : w1.heap.size < WT.heap.size := by have := HZT.out; omega
  have hbr : w.heap.size < WT.heap.size := by omega
  have q0 := (HB01.out.cell (p := ⟨w.heap.size, 0, none⟩) hb0).trans HQ0.out.1
  have q1 := (HB01.out.cell (p := ⟨w.heap.size, 1, none⟩) hb0).trans HQ0.out.2.1
  have q2 := (HB01.out.cell (p := ⟨w.heap.size, 2, none⟩) hb0).trans HQ0.out.2.2
  obtain ⟨i0, hi0, hz0, hz1, hz2⟩ := info_parts infoRow
  have HV : Hid (∀ k, k < vs.length → ∃ b off, a = some ⟨b, off, none⟩ ∧ ∀ (i : Nat) (x : Value), vs[i]? = some x → WT.cell? ⟨b, off + i, none⟩ = some x) := by
    intro k hk
    obtain ⟨⟨a', cap', he, hv⟩, _, _⟩ := HRT.out
    cases he
    rcases hv with ⟨hn, _⟩ | ⟨b, off, rfl, hc⟩
    · rw [hn] at hk; simp at hk
    · exact ⟨b, off, rfl, hc⟩
  have hvs : vs.length ≤ 1048576 := by have := HH.out.2.1; omega
  have HLE : Hid (vs.length = rows.length) := HH.out.2.1
  obtain ⟨WY, HWY⟩ : ∃ WY, Hid (WY = WT.alloc (.cells #[.string name, .int .i64 ar, .slice none 0 0] 25)) := ⟨_, rfl⟩
  have HY0 : Hid (YB WT.heap.size WY name ar (.slice none 0 0) [] []) := by
    rw [HWY.out]
    exact ⟨by simp, by simp, by simp, by simp, World.frozen?_alloc_at _ _ _ _ rfl, World.ownsRow_nil _ _ _ _, rfl, fun i x r hx => by simp at hx⟩
  have HBY0 : Hid (Below WT.heap.size WT WY) := by rw [HWY.out]; exact (Below.refl _ _).alloc (Nat.le_refl _) _
  go_wp2_with fail
  rw [← HWT.out, ← HWY.out]
  have HYE : Hid (w1.heap.size + 1 = WT.heap.size) := HZT.out.symm
  rw [HYE.out]
  clear HWT HX1 HBX HQ0 HR0 HB0T HB01 HWY q0 q1 q2
  obtain ⟨yb, HYB⟩ : ∃ yb, Hid (yb = WT.heap.size) := ⟨_, (rfl : WT.heap.size = _)⟩
  rw [← HYB.out] at HY0 HBY0 hbr hbx ⊢
  go_loopw [5] (fun iv wr => ∃ (k : Nat) (yv : Value) (us : List Value), k ≤ vs.length ∧ iv = .int .i64 ((vs.length : Int) - 1 - k) ∧ Hid (YB yb wr name ar yv us (rows.reverse.take k)) ∧ Hid (Below yb WT wr)) (fun iv _ => (intOf iv + 1).toNat)
  case atStart => exact ⟨0, _, [], by omega, by go_num, HY0, HBY0⟩
  case round =>
    obtain ⟨k, yv, us, hk, rfl, HY, HB⟩ := hrel
    by_cases hlt : k < vs.length
    · obtain ⟨i, hi⟩ : ∃ i : Nat, i + k + 1 = vs.length := ⟨vs.length - 1 - k, by omega⟩
      have hie : (vs.length : Int) - 1 - k = (i : Nat) := by omega
      rw [hie]
      have hiv : i < vs.length := by omega
      have hir : i < rows.length := by have := HLE.out; omega
      obtain ⟨b, off, hab, hcc⟩ := HV.out i hiv
      subst hab
      have cx0 := hcc i vs[i] (val_at hiv)
      have hbW : b < yb := by rw [HYB.out]; exact World.block_lt_of_cell? WT ⟨b, off + i, none⟩ cx0
      have cx := (HB.out.cell (p := ⟨b, off + i, none⟩) hbW).trans cx0
      have hst := HRT.out.2.2 i _ _ (val_at hiv) (row_at hir)
      have hrowl : rows[i].length ≤ 1099511627776 := HRR.out _ (List.getElem_mem hir)
      obtain ⟨row, HRW⟩ : ∃ row, Hid (row = rows[i]) := ⟨rows[i], rfl⟩
      rw [← HRW.out] at hst hrowl
      have HST : Hid (Strs WT vs[i] row) := hst
      obtain ⟨ar_, capx, hxe, -⟩ := hst
      rw [hxe] at cx HST
      have t2 := (HB.out.cell (p := ⟨w.heap.size, 2, none⟩) hbr).trans HQR.out.2.2
      have HNX : Hid (rows.reverse.take (k + 1) = rows.reverse.take k ++ [row]) := by
        show _ = _
        have hkr : k < rows.reverse.length := by rw [List.length_reverse]; have := HLE.out; omega
        rw [← List.take_append_getElem hkr, List.getElem_reverse, HRW.out]
        congr 3
        have := HLE.out
        omega
      obtain ⟨a3, c3, rfl⟩ := own_shape' HY.out.deep.1
      have hul : us.length ≤ 1048576 := by
        have := HY.out.deep.2.1
        rw [this, List.length_take]; omega
      have y2 := HY.out.c2
      have HC : Hid (∀ wx : World, (∃ n, wx = wr.drewN n) → Calls Tryd.prog 10 #[.slice ar_ row.length capx] wx fun e w' => ∃ (a1 : Option Addr) (cp1 : Nat), e = .returned (.slice a1 row.length cp1) ∧ Hid (w'.ownsRow wr.heap.size 9 1 (.slice a1 row.length cp1) row.length (ts row)) ∧ Hid (YB yb w' name ar (.slice a3 us.length c3) us (rows.reverse.take k)) ∧ Hid (Below yb WT w') ∧ yb < w'.heap.size ∧ w'.cell? ⟨yb, 2, none⟩ = some (.slice a3 us.length c3) ∧ w'.cell? ⟨w.heap.size, 2, none⟩ = some (.slice (some ⟨b, off, none⟩) vs.length cap) ∧ w'.cell? ⟨b, off + i, none⟩ = some (.slice ar_ row.length capx) ∧ w'.frozen? ⟨yb, 2, none⟩ = false) := by
        rintro wx ⟨n, rfl⟩
        have hd : Below wr.heap.size wr (wr.drewN n) := below_drewN (Below.refl _ _) n
        have hbw : Below yb WT (wr.drewN n) := below_drewN HB.out n
        refine (copied_any _ row _ (HST.out.kept (by rw [← HYB.out]; exact hbw)) (by omega)).mono ?_
        rintro e w2 ⟨⟨v2, rfl, ho2⟩, hb2⟩
        obtain ⟨a1, cp1, rfl⟩ := own_shape' ho2
        have hY2 := (HY.out.kept hd).kept hb2
        have hB2 : Below yb WT w2 := hbw.trans (hb2.mono (Nat.le_of_lt (HY.out.kept hd).lt))
        exact ⟨a1, cp1, rfl, ho2, hY2, hB2, hY2.lt, hY2.c2, (hB2.cell (p := ⟨w.heap.size, 2, none⟩) hbr).trans HQR.out.2.2, (hB2.cell (p := ⟨b, off + i, none⟩) hbW).trans (by rw [← hxe]; exact cx0), hY2.fz⟩
      clear cx0 hxe HST
      go_wp2_with fail
      go_region_law
        (first
          | (go_simp; go_at_call 10; refine (HC.out _ ⟨1, rfl⟩).mono ?_; rintro e w2 ⟨a1, cp1, rfl, HO2, HY2, HB2, z2, k0, k1, k2, f2⟩)
          | (refine step_append_lies _ rfl _ _ 22 rfl (yb + 1) 35 i0 (.slice none 0 0) 1 24 Tryd.underlying22 hi0 hz0 hz1 hz2 rfl (by decide) _ _ us rfl (HY2.out.deep.1.alloc _) ⟨w2.heap.size, 0, none⟩ 1 1 [.slice a1 row.length cp1] rfl rfl (fun j' u hj' => by match j', hj' with | 0, hj' => simp at hj'; subst hj'; exact World.cell?_alloc_at _ _ _ _ rfl) (fun u hu => by simp at hu; subst hu; rfl) (by decide) (by unfold maxLen; omega) (by omega) (by simp; omega) _ rfl ?_; intro g cp w4 hown4 hg4 hat4 hlt4; have m0 := ((HY2.out.far hg4 ⟨yb, 2, none⟩ (Nat.le_refl _)).1).trans k0; have m1 := ((HY2.out.far hg4 ⟨w.heap.size, 2, none⟩ (Nat.le_of_lt hbr)).1).trans k1; have m2 := ((HY2.out.far hg4 ⟨b, off + i, none⟩ (Nat.le_of_lt hbW)).1).trans k2; have m3 := ((HY2.out.far hg4 ⟨yb, 2, none⟩ (Nat.le_refl _)).2).trans f2))
      all_goals
        have HYN : Hid (YB yb (w4.setCell ⟨yb, 2, none⟩ (.slice (some ⟨g, 0, none⟩) (us.length + 1) cp)) name ar (.slice (some ⟨g, 0, none⟩) (us.length + 1) cp) (us ++ [.slice a1 row.length cp1]) (rows.reverse.take (k + 1))) := by
          rw [HNX.out]; exact HY2.out.pushed hg4 HO2.out HY.out.lt hown4
        have HBN : Hid (Below yb WT (w4.setCell ⟨yb, 2, none⟩ (.slice (some ⟨g, 0, none⟩) (us.length + 1) cp))) :=
          ((HB2.out.alloc (Nat.le_of_lt z2) _).grown hg4 (by simp; omega) (fun q hq => by have := (HY2.out.deep.1.lt q hq).1; omega)).setCell (p := ⟨yb, 2, none⟩) (Nat.le_refl _) _
        clear hown4 hg4 hat4 hlt4 m0 m1 m2 m3 k0 k1 k2 f2 HO2 HY2 HB2 HC HY HB y2 t2 cx hcc
        go_wp2
        go_roundw
        case rel => exact ⟨k + 1, _, _, by omega, by go_num, HYN, HBN⟩
        case measure => first | (simp [intOf]; done) | (simp [intOf]; omega)
    · have hke : k = vs.length := by omega
      subst hke
      have hie : (vs.length : Int) - 1 - (vs.length : Nat) = -1 := by omega
      rw [hie]
      have t2 := (HB.out.cell (p := ⟨w.heap.size, 2, none⟩) hbr).trans HQR.out.2.2
      have HY1 : Hid (YB yb wr name ar yv us (rows.reverse ++ rows.take 0)) := by
        have e : rows.reverse.take vs.length = rows.reverse ++ rows.take 0 := by
          rw [List.take_of_length_le (by rw [List.length_reverse]; have := HLE.out; omega)]; simp
        rw [← e]; exact HY.out
      clear hlt hk
      go_wp2
      clear t2 HY
      go_loopw [6] (fun iv wr => ∃ (k : Nat) (yv : Value) (us : List Value), k ≤ vs.length ∧ iv = .int .i64 k ∧ Hid (YB yb wr name ar yv us (rows.reverse ++ rows.take k)) ∧ Hid (Below yb WT wr)) (fun iv _ => vs.length - (intOf iv).toNat)
      case atStart => exact ⟨0, _, us, by omega, rfl, HY1, HB⟩
      case round =>
        clear HY1 HB
        obtain ⟨i, yv, us, hk, rfl, HY, HB⟩ := hrel
        by_cases hlt : i < vs.length
        · have hiv : i < vs.length := hlt
          have hir : i < rows.length := by have := HLE.out; omega
          obtain ⟨b, off, hab, hcc⟩ := HV.out i hiv
          subst hab
          have cx0 := hcc i vs[i] (val_at hiv)
          have hbW : b < yb := by rw [HYB.out]; exact World.block_lt_of_cell? WT ⟨b, off + i, none⟩ cx0
          have cx := (HB.out.cell (p := ⟨b, off + i, none⟩) hbW).trans cx0
          have hst := HRT.out.2.2 i _ _ (val_at hiv) (row_at hir)
          have hrowl : rows[i].length ≤ 1099511627776 := HRR.out _ (List.getElem_mem hir)
          obtain ⟨row, HRW⟩ : ∃ row, Hid (row = rows[i]) := ⟨rows[i], rfl⟩
          rw [← HRW.out] at hst hrowl
          have HST : Hid (Strs WT vs[i] row) := hst
          obtain ⟨ar_, capx, hxe, -⟩ := hst
          rw [hxe] at cx HST
          have t2 := (HB.out.cell (p := ⟨w.heap.size, 2, none⟩) hbr).trans HQR.out.2.2
          have HNX : Hid (rows.reverse ++ rows.take (i + 1) = rows.reverse ++ rows.take i ++ [row]) := by
            show _ = _
            rw [← List.take_append_getElem hir, HRW.out, List.append_assoc]
          obtain ⟨a3, c3, rfl⟩ := own_shape' HY.out.deep.1
          have hul : us.length ≤ 2097152 := by
            have := HY.out.deep.2.1
            rw [this, List.length_append, List.length_reverse, List.length_take]; omega
          have y2 := HY.out.c2
          have HC : Hid (∀ wx : World, (∃ n, wx = wr.drewN n) → Calls Tryd.prog 10 #[.slice ar_ row.length capx] wx fun e w' => ∃ (a1 : Option Addr) (cp1 : Nat), e = .returned (.slice a1 row.length cp1) ∧ Hid (w'.ownsRow wr.heap.size 9 1 (.slice a1 row.length cp1) row.length (ts row)) ∧ Hid (YB yb w' name ar (.slice a3 us.length c3) us (rows.reverse ++ rows.take i)) ∧ Hid (Below yb WT w') ∧ yb < w'.heap.size ∧ w'.cell? ⟨yb, 2, none⟩ = some (.slice a3 us.length c3) ∧ w'.cell? ⟨w.heap.size, 2, none⟩ = some (.slice (some ⟨b, off, none⟩) vs.length cap) ∧ w'.cell? ⟨b, off + i, none⟩ = some (.slice ar_ row.length capx) ∧ w'.frozen? ⟨yb, 2, none⟩ = false) := by
            rintro wx ⟨n, rfl⟩
            have hd : Below wr.heap.size wr (wr.drewN n) := below_drewN (Below.refl _ _) n
            have hbw : Below yb WT (wr.drewN n) := below_drewN HB.out n
            refine (copied_any _ row _ (HST.out.kept (by rw [← HYB.out]; exact hbw)) (by omega)).mono ?_
            rintro e w2 ⟨⟨v2, rfl, ho2⟩, hb2⟩
            obtain ⟨a1, cp1, rfl⟩ := own_shape' ho2
            have hY2 := (HY.out.kept hd).kept hb2
            have hB2 : Below yb WT w2 := hbw.trans (hb2.mono (Nat.le_of_lt (HY.out.kept hd).lt))
            exact ⟨a1, cp1, rfl, ho2, hY2, hB2, hY2.lt, hY2.c2, (hB2.cell (p := ⟨w.heap.size, 2, none⟩) hbr).trans HQR.out.2.2, (hB2.cell (p := ⟨b, off + i, none⟩) hbW).trans (by rw [← hxe]; exact cx0), hY2.fz⟩
          clear cx0 hxe HST
          go_wp2_with fail
          go_region_law
            (first
              | (go_simp; go_at_call 10; refine (HC.out _ ⟨1, rfl⟩).mono ?_; rintro e w2 ⟨a1, cp1, rfl, HO2, HY2, HB2, z2, k0, k1, k2, f2⟩)
              | (refine step_append_lies _ rfl _ _ 22 rfl (yb + 1) 35 i0 (.slice none 0 0) 1 24 Tryd.underlying22 hi0 hz0 hz1 hz2 rfl (by decide) _ _ us rfl (HY2.out.deep.1.alloc _) ⟨w2.heap.size, 0, none⟩ 1 1 [.slice a1 row.length cp1] rfl rfl (fun j' u hj' => by match j', hj' with | 0, hj' => simp at hj'; subst hj'; exact World.cell?_alloc_at _ _ _ _ rfl) (fun u hu => by simp at hu; subst hu; rfl) (by decide) (by unfold maxLen; omega) (by omega) (by simp; omega) _ rfl ?_; intro g cp w4 hown4 hg4 hat4 hlt4; have m0 := ((HY2.out.far hg4 ⟨yb, 2, none⟩ (Nat.le_refl _)).1).trans k0; have m1 := ((HY2.out.far hg4 ⟨w.heap.size, 2, none⟩ (Nat.le_of_lt hbr)).1).trans k1; have m2 := ((HY2.out.far hg4 ⟨b, off + i, none⟩ (Nat.le_of_lt hbW)).1).trans k2; have m3 := ((HY2.out.far hg4 ⟨yb, 2, none⟩ (Nat.le_refl _)).2).trans f2))
          all_goals
            have HYN : Hid (YB yb (w4.setCell ⟨yb, 2, none⟩ (.slice (some ⟨g, 0, none⟩) (us.length + 1) cp)) name ar (.slice (some ⟨g, 0, none⟩) (us.length + 1) cp) (us ++ [.slice a1 row.length cp1]) (rows.reverse ++ rows.take (i + 1))) := by
              rw [HNX.out]; exact HY2.out.pushed hg4 HO2.out HY.out.lt hown4
            have HBN : Hid (Below yb WT (w4.setCell ⟨yb, 2, none⟩ (.slice (some ⟨g, 0, none⟩) (us.length + 1) cp))) :=
              ((HB2.out.alloc (Nat.le_of_lt z2) _).grown hg4 (by simp; omega) (fun q hq => by have := (HY2.out.deep.1.lt q hq).1; omega)).setCell (p := ⟨yb, 2, none⟩) (Nat.le_refl _) _
            clear hown4 hg4 hat4 hlt4 m0 m1 m2 m3 k0 k1 k2 f2 HO2 HY2 HB2 HC HY HB y2 t2 cx hcc
            go_wp2
            go_roundw
            case rel => exact ⟨i + 1, _, _, by omega, by go_num, HYN, HBN⟩
            case measure => first | (simp [intOf]; done) | (simp [intOf]; omega)
        · have hke : i = vs.length := by omega
          subst hke
          have HYT : Hid (YB yb wr name ar yv us (twice rows)) := by
            have e : rows.take vs.length = rows := List.take_of_length_le (by have := HLE.out; omega)
            unfold twice
            rw [← e]
            rw [e]
            have := HY.out
            rw [e] at this
            exact this
          clear HY hlt hk
          obtain ⟨a3, c3, rfl⟩ := own_shape' HYT.out.deep.1
          have HPB : Hid (0 < yb) := by rw [HYB.out]; exact HTT.out.pos
          have HTL : Hid ((twice rows).length ≤ 1073741824 ∧ ∀ r ∈ twice rows, r.length ≤ 1099511627776) :=
            ⟨by unfold twice; rw [List.length_append, List.length_reverse]; omega, fun r hr => HRR.out r ((mem_twice rows r).1 hr)⟩
          have t2 := (HB.out.cell (p := ⟨w.heap.size, 2, none⟩) hbr).trans HQR.out.2.2
          have x0 := (HB.out.cell (p := ⟨w1.heap.size, 0, none⟩) hbx).trans HQX.out.1
          have x1 := (HB.out.cell (p := ⟨w1.heap.size, 1, none⟩) hbx).trans HQX.out.2.1
          have x2 := (HB.out.cell (p := ⟨w1.heap.size, 2, none⟩) hbx).trans HQX.out.2.2
          obtain ⟨et, ee, ei, HEN⟩ : ∃ et ee ei, Hid (encode name.data.toList ar rows = (et, ee, ei)) := ⟨_, _, _, rfl⟩
          have HEV : Hid (encd (encode name.data.toList ar rows) = .tuple #[.string (str et), .int .i64 (ee : Nat), .int .i64 (ei : Nat)]) := by show _ = _; rw [HEN.out]; rfl
          obtain ⟨ft, fe, fi, HFN⟩ : ∃ ft fe fi, Hid (encode name.data.toList ar (twice rows) = (ft, fe, fi)) := ⟨_, _, _, rfl⟩
          have HFV : Hid (encd (encode name.data.toList ar (twice rows)) = .tuple #[.string (str ft), .int .i64 (fe : Nat), .int .i64 (fi : Nat)]) := by show _ = _; rw [HFN.out]; rfl
          have HTW : Hid ((ee = 0 → ft = et ∧ fe = 0) ∧ (ee ≠ 0 → fe ≠ 0)) := by
            have h := encode_twice name.data.toList ar rows
            rw [HEN.out, HFN.out] at h
            rcases h with h | ⟨h1, h2⟩
            · cases h; exact ⟨fun h => ⟨rfl, h⟩, fun h => h⟩
            · exact ⟨fun h => absurd h h1, fun _ => h2⟩
          obtain ⟨se, HSE⟩ : ∃ se, Hid (se = str et) := ⟨_, (rfl : str et = _)⟩
          obtain ⟨sf, HSF⟩ : ∃ sf, Hid (sf = str ft) := ⟨_, (rfl : str ft = _)⟩
          rw [← HSE.out] at HEV
          rw [← HSF.out] at HFV
          go_wp2_with fail
          refine (pencode_any name ar _ ux rows _ (HXT.out.kept (by rw [← HYB.out]; exact HB.out)) (HTT.out.below HB.out HPB.out) hn (by omega) HRR.out).mono ?_
          rintro e w6 ⟨rfl, hb6⟩
          rw [HEV.out]
          have HY6 : Hid (YB yb w6 name ar (.slice a3 us.length c3) us (twice rows)) := HYT.out.kept hb6
          have HB6 : Hid (Below yb WT w6) := HB.out.trans (hb6.mono (Nat.le_of_lt HYT.out.lt))
          have y0 := HY6.out.c0
          have y1 := HY6.out.c1
          have y2 := HY6.out.c2
          clear hb6 t2 x0 x1 x2 HYT HB
          go_wp2_with fail
          refine (pencode_any name ar _ us (twice rows) _ HY6.out.deep.rows (HTT.out.below HB6.out HPB.out) hn HTL.out.1 HTL.out.2).mono ?_
          rintro e w7 ⟨rfl, hb7⟩
          rw [HFV.out]
          have HB7 : Hid (Below yb WT w7) := HB6.out.trans (hb7.mono (Nat.le_of_lt HY6.out.lt))
          have q0 := (HB7.out.cell (p := ⟨w.heap.size, 0, none⟩) hbr).trans HQR.out.1
          have q1 := (HB7.out.cell (p := ⟨w.heap.size, 1, none⟩) hbr).trans HQR.out.2.1
          have q2 := (HB7.out.cell (p := ⟨w.heap.size, 2, none⟩) hbr).trans HQR.out.2.2
          clear hb7 y0 y1 y2 HY6 HB6
          go_wp2_with fail
          refine (rencode_any name ar _ vs rows _ (HRT.out.kept (by rw [← HYB.out]; exact HB7.out)) hn (by omega) HRR.out).mono ?_
          rintro e w8 ⟨rfl, hb8⟩
          rw [HEV.out]
          have HB8 : Hid (Below w.heap.size w w8) := by
            have h7 : Below WT.heap.size WT w7 := by rw [← HYB.out]; exact HB7.out
            exact HBT.out.trans ((h7.trans (hb8.mono h7.size)).mono HBT.out.size)
          clear hb8 q0 q1 q2 HB7
          go_wp2_with fail
          refine (numO_at _ _).mono ?_
          rintro e w9 ⟨rfl, rfl⟩
          by_cases hee : ee = 0
          · obtain ⟨hft, hfe⟩ := HTW.out.1 hee
            have hsf : sf = se := by rw [HSF.out, HSE.out, hft]
            subst hsf
            subst hee
            subst hfe
            clear hft
            go_wp2_with fail
            refine (numO_at _ _).mono ?_
            rintro e w10 ⟨rfl, rfl⟩
            go_wp2
            go_ret
            exact ⟨rfl, HB8.out⟩
          · have hfe := HTW.out.2 hee
            have n1 : ((ee : Int) != 0) = true := by simp [hee]
            have n2 : ((fe : Int) != 0) = true := by simp [hfe]
            clear hfe hee
            go_wp2_with fail
            refine (numO_at _ _).mono ?_
            rintro e w10 ⟨rfl, rfl⟩
            go_wp2
            go_ret
            exact ⟨rfl, HB8.out⟩
end Go.Proofs.YtnnldpccagajbaaDoor
